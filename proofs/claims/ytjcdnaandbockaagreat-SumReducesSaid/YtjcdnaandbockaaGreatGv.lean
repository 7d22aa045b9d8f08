import Derived.Test.YtjcdnaandbockaaGreatGu
import Derived.Test.YtjcdnaandbockaaGreatGj
import Derived.Test.YtjcdnaandbockaaGreatGm
import Derived.BigQuiet
import Derived.Test.YtjcdnaandbockaaGreatGl
import Derived.Test.YtjcdnaandbockaaGreatGk
import Derived.Deep.SlicePairs
namespace Go.Proofs.YtjcdnaandbockaaGreat
open Go.RowKit Go.Shelf
attribute [local go_sem] Oper.semAt_some
set_option maxRecDepth 100000
set_option maxHeartbeats 4000000

/-- the results for the first k beginnings -/
def scL (op kind : Int) (l : List Vl) (k : Nat) : List Vl := (List.range k).map fun i => accV op kind (l.take (i + 1))
@[simp] theorem scL_len (op kind : Int) (l : List Vl) (k : Nat) : (scL op kind l k).length = k := by simp [scL]
theorem scL_succ (op kind : Int) (l : List Vl) (k : Nat) : scL op kind l (k + 1) = scL op kind l k ++ [accV op kind (l.take (k + 1))] := by
  unfold scL
  rw [List.range_succ, List.map_append]
  rfl
theorem scL_all (op kind : Int) (l : List Vl) : scL op kind l l.length = scanV op kind l := by
  unfold scanV outL scL
  refine List.map_congr_left fun i hi => ?_
  rw [if_pos (List.mem_range.1 hi)]
theorem Vls.take {w : World} {a : Option Addr} {l : List Vl} (h : Vls w a l) (k : Nat) : Vls w a (l.take k) := by
  refine ⟨by rw [List.length_take]; have := h.len; omega, fun u hu => h.ok u (List.mem_of_mem_take hu), fun hne => ?_⟩
  have hl : l ≠ [] := by intro e; subst e; simp at hne
  obtain ⟨g, o, ha, hc⟩ := h.at_ hl
  refine ⟨g, o, ha, fun i hi => ?_⟩
  have hi2 : i < l.length := by rw [List.length_take] at hi; omega
  rw [List.getElem_take]
  exact hc i hi2
theorem allows_take {kind : Int} {l : List Vl} (h : allowsL kind l = true) (k : Nat) : allowsL kind (l.take k) = true :=
  List.all_eq_true.2 fun u hu => List.all_eq_true.1 h u (List.mem_of_mem_take hu)
theorem NewVls.keep {B : Nat} {w w' : World} {v : Value} {l : List Vl} (h : NewVls B w v l) (hb : Below w.heap.size w w') : NewVls B w' v l := ⟨own_keepB h.own hb, h.len⟩
theorem slice33 (g o n cap k : Nat) (h : k + 1 ≤ cap) (W : World) :
    (Instr.sliceAt 33 (.slice (some ⟨g, o, none⟩) n cap) none (some (.int .i64 ((k : Int) + 1))) none).run Tryz.prog W = .ok (.slice (some ⟨g, o, none⟩) (k + 1) cap) W := by
  obtain ⟨i0, hi, hz0, hz1, hz2⟩ := info_parts (show (Tryz.prog.info? 24).map (fun i => (i.zero, i.size, i.bytes)) = some (some (.agg #[.int .u64 0, .int .i64 0]), 2, 16) by kernel_rfl)
  have hE : Tryz.prog.elem 33 = 24 := by kernel_rfl
  have hu : Tryz.prog.underlying 33 = some (.slice (Tryz.prog.elem 33)) := by rw [hE]; exact Tryz.underlying33
  rw [run_sliceAt_slice W 33 _ _ _ _ hu, run_slice_h W 33 _ n cap hu .i64 ((k : Int) + 1) (by omega) (by omega), hE]
  have hs : (sizeOf 24).run Tryz.prog W = .ok 2 W := by simp [sizeOf, typeInfo, hi, hz1]
  rw [hs]
  have e : ((k : Int) + 1).toNat = k + 1 := by omega
  have e2 : ¬ cap = 0 := by omega
  simp [Result.andThen, sliced, Addr.add, e, e2]
theorem rScan_any (op kind : Int) {w : World} {a : Option Addr} {l : List Vl} (h : Vls w a l) (h9 : l.length ≤ 1000000) (cap : Nat) (hcap : l.length ≤ cap) :
    Calls Tryz.prog 19 #[.int .i64 op, .int .i64 kind, .slice a l.length cap] w fun e w' => ((scanE op kind l ≠ 0 ∧ e = .returned (.tuple #[.slice none 0 0, .int .i64 (scanE op kind l)])) ∨ (scanE op kind l = 0 ∧ ∃ v, e = .returned (.tuple #[v, .int .i64 0]) ∧ NewVls w.heap.size w' v (scanV op kind l))) ∧ Below w.heap.size w w' := by
  have HC9 := Lib.hid (fun W => rcheck_any op kind W)
  have HAL : Hid (∀ W, Below w.heap.size w W → Calls Tryz.prog 44 #[.int .i64 kind, .slice a l.length cap] W fun e w' => e = .returned (.bool (allowsL kind l)) ∧ Below W.heap.size W w') := fun W hb => rall_any kind (h.keep hb) cap
  have HFO : Hid (allowsL kind l = true → findE op kind = 0 → ∀ k, k < l.length → ∀ W, Below w.heap.size w W → Calls Tryz.prog 45 #[.int .i64 op, .int .i64 kind, .slice a (k + 1) cap] W fun e w' => e = .returned (vA (accV op kind (l.take (k + 1)))) ∧ Below W.heap.size W w') := fun h1 h2 k hk W hb => by
    have hl2 : (l.take (k + 1)).length = k + 1 := by rw [List.length_take]; omega
    have h3 := rfold_any op kind ((h.take (k + 1)).keep hb) cap (by intro e; rw [e] at hl2; simp at hl2) (allows_take h1 _) h2
    rwa [hl2] at h3
  have HE : Hid (scanE op kind l = if findE op kind ≠ 0 then findE op kind else if allowsL kind l = true then 0 else 2) := rfl
  have HSC : Hid (∀ k, scL op kind l (k + 1) = scL op kind l k ++ [accV op kind (l.take (k + 1))]) := fun k => scL_succ op kind l k
  have HSA : Hid (scL op kind l l.length = scanV op kind l) := scL_all op kind l
  have HS0 : Hid (scL op kind l 0 = []) := rfl
  have HSL : Hid (∀ k, (scL op kind l k).length = k) := fun k => scL_len op kind l k
  have HAT : Hid (0 < l.length → ∃ g o, a = some ⟨g, o, none⟩) := fun h0 => by
    obtain ⟨g, o, ha, _⟩ := h.at_ (List.length_pos_iff.1 h0)
    exact ⟨g, o, ha⟩
  obtain ⟨n, hn⟩ : ∃ n, n = l.length := ⟨_, rfl⟩
  rw [← hn] at HAL HFO HSA HAT h9 hcap ⊢
  generalize scanV op kind l = SV at *
  obtain ⟨E, hE⟩ : ∃ E, E = scanE op kind l := ⟨_, rfl⟩
  rw [← hE] at HE ⊢
  have h63 : n ≤ 9223372036854775807 := by omega
  clear hE hn h
  generalize findE op kind = F at *
  generalize allowsL kind l = A at *
  by_cases h0 : F = 0
  case neg =>
    have HE2 : Hid (E = F) := by rw [HE.out, if_pos h0]; rfl
    have hF0 : ((F != 0) : Bool) = true := bne_iff_ne.2 h0
    have HF0 := Lib.hid h0
    clear h0 HE HFO HAL
    go_enter Tryz.func19, Tryz.ntmps19
    go_wp2_with fail
    refine (HC9.out _).mono ?_
    rintro e w1 ⟨rfl, rfl⟩
    clear HC9
    go_wp2_with fail
    go_ret2
    exact ⟨.inl ⟨by rw [HE2.out]; exact HF0.out, by rw [HE2.out]; rfl⟩, Below.refl _ _⟩
  subst h0
  have HE1 : Hid (E = if A = true then 0 else 2) := HE.out
  clear HE
  cases A with
  | false =>
    have HE2 : Hid (E = 2) := HE1.out
    clear HE1 HFO
    go_enter Tryz.func19, Tryz.ntmps19
    go_wp2_with fail
    refine (HC9.out _).mono ?_
    rintro e w1 ⟨rfl, rfl⟩
    clear HC9
    go_wp2_with fail
    refine (HAL.out _ (Below.refl _ _)).mono ?_
    rintro e w2 ⟨rfl, hb⟩
    have HB := Lib.hid hb
    clear HAL hb
    go_wp2_with fail
    go_ret2
    exact ⟨.inl ⟨by rw [HE2.out]; decide, by rw [HE2.out]; rfl⟩, HB.out⟩
  | true =>
    have HE2 : Hid (E = 0) := HE1.out
    have HF2 := Lib.hid (HFO.out rfl rfl)
    clear HE1 HFO
    go_enter Tryz.func19, Tryz.ntmps19
    go_wp2_with fail
    refine (HC9.out _).mono ?_
    rintro e w1 ⟨rfl, rfl⟩
    clear HC9
    go_wp2_with fail
    refine (HAL.out _ (Below.refl _ _)).mono ?_
    rintro e w2 ⟨rfl, hb⟩
    have HB := Lib.hid hb
    clear HAL hb
    go_wp2_with fail
    go_loopw [9, 10] (fun v i wr => ∃ k : Nat, k ≤ n ∧ i = .int .i64 k ∧ Hid (NewVls w.heap.size wr v (scL op kind l k)) ∧ Hid (Below w.heap.size w wr)) (fun _ i _ => n - (intOf i).toNat)
    case atStart => exact ⟨0, Nat.zero_le _, rfl, by show NewVls _ _ _ _; rw [HS0.out]; exact NewVls.nil _ _, HB⟩
    case round =>
      obtain ⟨k, hk, rfl, HN, HBr⟩ := hrel
      clear HB
      by_cases hlt : k < n
      · obtain ⟨g, o, rfl⟩ := HAT.out (by omega)
        have hfo := HF2.out k hlt wr HBr.out
        have hsc := HSC.out k
        generalize accV op kind (l.take (k + 1)) = u at *
        obtain ⟨x, p⟩ := u
        unfold vA at hfo
        have HFO := Lib.hid hfo
        have hsl := slice33 g o n cap k (by omega)
        have hlk := HSL.out k
        have HSCk := Lib.hid hsc
        clear hfo hsc
        go_wp2_with fail
        refine HFO.out.mono ?_
        rintro e w3 ⟨rfl, hb3⟩
        have hx := heap_alloc_new w3 (.cells #[.int .u64 x, .int .i64 p] 24)
        have hbx := (Below.refl w3.heap.size w3).alloc (Nat.le_refl _) (.cells #[.int .u64 x, .int .i64 p] 24)
        have HN3 := (HN.out.keep hb3).keep hbx
        have HB3 := HBr.out.trans (hb3.mono HBr.out.size)
        obtain ⟨v', w4, hr, hn4, hg⟩ := append_val (u := ⟨x, p⟩) HN3 (by rw [hlk]; omega) hx (by have := HB3.size; have := hbx.size; omega)
        have HR := Lib.hid hr
        have hlow := fun k h => (HN3.own.lt k h).1
        have HB4 := Lib.hid ((HB3.trans (hbx.mono HB3.size)).trans (grown_below hg hlow (by have := HB3.size; have := hbx.size; omega)))
        have HN4 : Hid (NewVls w.heap.size w4 v' (scL op kind l (k + 1))) := by
          show NewVls _ _ _ _
          rw [HSCk.out]
          exact hn4
        clear hr hn4 hg hx hbx hb3 HN3 HB3 HN HBr hlow HSCk HFO hsl hlk
        go_wp2_with (at_builtin; refine Lib.wpList_append_run _ rfl (.tmp 27) (.tmp 35) 33 33 rfl _ _ rfl rfl _ _ HR.out ?_)
        go_round
        case rel => exact ⟨k + 1, by omega, by go_num, HN4, HB4⟩
        case measure => simp [intOf]; omega
      · have hkn : k = n := by omega
        subst hkn
        have hN3 := HN.out
        rw [HSA.out] at hN3
        have HN3 := Lib.hid hN3
        clear HN hN3
        go_wp2_with fail
        go_ret2
        exact ⟨.inr ⟨HE2.out, _, rfl, HN3.out⟩, HBr.out⟩
end Go.Proofs.YtjcdnaandbockaaGreat

namespace Go.Proofs.YtjcdnaandbockaaGreat
open Go.RowKit Go.Shelf
attribute [local go_sem] Oper.semAt_some
set_option maxRecDepth 100000
set_option maxHeartbeats 4000000

/-- how long the first row is -/
def wide (rows : List (List Vl)) : Nat := (rows.headD []).length
theorem wide_get (rows : List (List Vl)) (h : 0 < rows.length) : (rows[0]).length = wide rows := by
  cases rows with
  | nil => simp at h
  | cons r t => rfl
def redsE (op kind : Int) (rows : List (List Vl)) : Int := if findE op kind ≠ 0 then findE op kind else if rows = [] then 2 else if ¬ (∀ r ∈ rows, r.length = wide rows) then 26 else if ∀ r ∈ rows, allowsL kind r = true then 0 else 2
theorem Reduces_find (op kind : Int) {w : World} (a : Option Addr) (n cap : Nat) (h0 : findE op kind ≠ 0) : Calls Tryz.prog 13 #[.int .i64 op, .int .i64 kind, .slice a n cap] w fun e w' => e = .returned (.tuple #[.slice none 0 0, .int .i64 (findE op kind)]) ∧ Below w.heap.size w w' := by
  have hf := find_any op kind w
  obtain ⟨F, hF⟩ : ∃ F, F = findE op kind := ⟨_, rfl⟩
  rw [← hF] at hf h0 ⊢
  clear hF
  go_enter Tryz.func13, Tryz.ntmps13
  go_wp2_with fail
  refine hf.mono ?_
  rintro e w1 ⟨⟨h9, rfl⟩ | ⟨h9, _⟩, hb⟩
  · have hst := store_fnv (heap_alloc_new w1 (.cells #[.int .i64 0, .int .i64 0, .nilFunc] 67)) .nilFunc rfl
    have HB := Lib.hid (hb.alloc hb.size (.cells #[.int .i64 0, .int .i64 0, .nilFunc] 67))
    have hF0 : ((F != 0) : Bool) = true := bne_iff_ne.2 h0
    clear hf hb
    go_wp2_with fail
    go_ret2
    exact ⟨rfl, HB.out⟩
  · exact absurd h9 h0
theorem Reduces_none (op kind : Int) {w : World} (a : Option Addr) (cap : Nat) (h0 : findE op kind = 0) : Calls Tryz.prog 13 #[.int .i64 op, .int .i64 kind, .slice a 0 cap] w fun e w' => e = .returned (.tuple #[.slice none 0 0, .int .i64 2]) ∧ Below w.heap.size w w' := by
  have hf := find_any op kind w
  go_enter Tryz.func13, Tryz.ntmps13
  go_wp2_with fail
  refine hf.mono ?_
  rintro e w1 ⟨⟨h9, rfl⟩ | ⟨_, n, cs, rfl, hd⟩, hb⟩
  · exact absurd h0 h9
  · have hst := store_fnv (heap_alloc_new w1 (.cells #[.int .i64 op, .int .i64 kind, .nilFunc] 67)) (.func (.func n) #[] cs) rfl
    have HB := Lib.hid (hb.alloc hb.size (.cells #[.int .i64 op, .int .i64 kind, .func (.func n) #[] cs] 67))
    unfold rA
    clear hf hb hd
    go_wp2_with fail
    go_ret2
    exact ⟨rfl, HB.out⟩
theorem Reduces_bad (op kind : Int) {w : World} {a : Option Addr} {rows : List (List Vl)} (h : Rws w a rows) (h44 : wide rows ≤ 17592186044416) (hne : rows ≠ []) (hbad : ¬ ((∀ r ∈ rows, r.length = wide rows) ∧ ∀ r ∈ rows, allowsL kind r = true)) (h0 : findE op kind = 0) (cap : Nat) :
    Calls Tryz.prog 13 #[.int .i64 op, .int .i64 kind, .slice a rows.length cap] w fun e w' => e = .returned (.tuple #[.slice none 0 0, .int .i64 (redsE op kind rows)]) ∧ Below w.heap.size w w' := by
  have hlen := h.len
  have HLW := Lib.hid h
  have HNE := Lib.hid hne
  have hl0 : ¬ (rows.length : Int) = 0 := by
    intro h9; exact hne (List.length_eq_zero_iff.1 (by omega))
  have hl1 : 0 < rows.length := by omega
  have hw0 := wide_get rows hl1
  have HE26 : Hid (¬ (∀ r ∈ rows, r.length = wide rows) → redsE op kind rows = 26) := fun h1 => by
    unfold redsE; rw [if_neg (by rw [h0]; decide), if_neg hne, if_pos h1]
  have HE2 : Hid ((∀ r ∈ rows, r.length = wide rows) → redsE op kind rows = 2) := fun h1 => by
    unfold redsE; rw [if_neg (by rw [h0]; decide), if_neg hne, if_neg (not_not_intro h1), if_neg (fun h2 => hbad ⟨h1, h2⟩)]
  have HBAD : Hid (¬ ((∀ r ∈ rows, r.length = wide rows) ∧ ∀ r ∈ rows, allowsL kind r = true)) := hbad
  generalize wide rows = N at *
  generalize redsE op kind rows = E at *
  have hf := find_any op kind w
  clear h hne hbad
  go_enter Tryz.func13, Tryz.ntmps13
  go_wp2_with fail
  refine hf.mono ?_
  rintro e w1 ⟨⟨h9, rfl⟩ | ⟨_, n, cs, rfl, hd⟩, hb⟩
  · exact absurd h0 h9
  · have hst := store_fnv (heap_alloc_new w1 (.cells #[.int .i64 op, .int .i64 kind, .nilFunc] 67)) (.func (.func n) #[] cs) rfl
    have hsz := hb.size
    obtain ⟨hb2, h4, h5, hz⟩ := two w1 (.cells #[.int .i64 op, .int .i64 kind, .func (.func n) #[] cs] 67) (.cells (rowV (List.replicate N ⟨0, 0⟩)) 24)
    have hbr := (Below.refl w1.heap.size w1).alloc (Nat.le_refl _) (.cells #[.int .i64 op, .int .i64 kind, .func (.func n) #[] cs] 67)
    obtain ⟨g0, o0, rfl, hrc⟩ := (HLW.out.keep hb).at_ HNE.out
    obtain ⟨ai, ci, hc0, _⟩ := hrc 0 hl1
    rw [hw0] at hc0
    rw [Nat.add_zero] at hc0
    have hc0' := kcell hbr hc0
    have hmk := make_vals N h44 (w1.alloc (.cells #[.int .i64 op, .int .i64 kind, .func (.func n) #[] cs] 67))
    have H4 := Lib.hid h4
    have HB := Lib.hid (hb.trans (hb2.mono hb.size))
    unfold rA
    clear hf hb hd hb2 h4 h5 hbr hrc hc0 hw0
    go_wp2_with fail
    clear hst hmk hc0'
    generalize (w1.alloc (.cells #[.int .i64 op, .int .i64 kind, .func (.func n) #[] cs] 67)).alloc (.cells (rowV (List.replicate N ⟨0, 0⟩)) 24) = Y at *
    go_loop [40] (fun i => ∃ k : Nat, k ≤ rows.length ∧ i = .int .i64 k ∧ Hid (∀ j (hj : j < rows.length), j < k → (rows[j]).length = N)) (fun i => rows.length - (intOf i).toNat)
    case atStart => exact ⟨0, Nat.zero_le _, rfl, fun j _ h => by omega⟩
    case round =>
      obtain ⟨k, hk, rfl, HP⟩ := hrel
      by_cases hlt : k < rows.length
      · obtain ⟨g1, o1, e1, hrc⟩ := (HLW.out.keep HB.out).at_ HNE.out
        obtain ⟨rfl, rfl⟩ : g0 = g1 ∧ o0 = o1 := by injection e1 with e2; injection e2 with e3 e4; exact ⟨e3, e4⟩
        obtain ⟨ak, ck, hc0, _⟩ := hrc k hlt
        clear hrc e1
        by_cases hm : (rows[k]).length = N
        · have HP2 : Hid (∀ j (hj : j < rows.length), j < k + 1 → (rows[j]).length = N) := fun j hj h2 => by
            by_cases h3 : j < k
            · exact HP.out j hj h3
            · obtain rfl : j = k := by omega
              exact hm
          rw [hm] at hc0
          clear hm HP
          go_wp2_with fail
          go_round
          case rel => exact ⟨k + 1, by omega, by go_num, HP2⟩
          case measure => simp [intOf]; omega
        · have HE3 := Lib.hid (HE26.out (fun h9 => hm (h9 _ (List.getElem_mem hlt))))
          generalize (rows[k]).length = m at *
          have hmn : ((m : Int) != (N : Int)) = true := by rw [bne_iff_ne]; omega
          have hmi : ¬ ((m : Int) = (N : Int)) := by omega
          clear hm HP
          go_wp2_with fail
          go_ret2
          exact ⟨by rw [HE3.out]; rfl, HB.out⟩
      · have hkn : k = rows.length := by omega
        subst hkn
        have HALL : Hid (∀ r ∈ rows, r.length = N) := fun r hr => by
          obtain ⟨j, hj, rfl⟩ := List.getElem_of_mem hr
          exact HP.out j hj hj
        have HE3 := Lib.hid (HE2.out HALL.out)
        clear HP HE2 HE26
        go_wp2_with fail
        go_loopw [52] (fun i wr => ∃ k : Nat, k ≤ rows.length ∧ i = .int .i64 k ∧ Hid (∀ j (hj : j < rows.length), j < k → allowsL kind rows[j] = true) ∧ Hid (Below Y.heap.size Y wr)) (fun i _ => rows.length - (intOf i).toNat)
        case atStart => exact ⟨0, Nat.zero_le _, rfl, (fun j _ h => by omega), Below.refl _ _⟩
        case round =>
          obtain ⟨k, hk, rfl, HP, HM⟩ := hrel
          have KB := Lib.hid (HB.out.trans (HM.out.mono HB.out.size))
          by_cases hlt : k < rows.length
          · obtain ⟨g1, o1, e1, hrc⟩ := (HLW.out.keep KB.out).at_ HNE.out
            obtain ⟨rfl, rfl⟩ : g0 = g1 ∧ o0 = o1 := by injection e1 with e2; injection e2 with e3 e4; exact ⟨e3, e4⟩
            obtain ⟨ak, ck, hc0, hv⟩ := hrc k hlt
            have ha := allowsAll_any hv ck op kind n cs
            rw [HALL.out _ (List.getElem_mem hlt)] at hc0 ha
            unfold rA at ha
            have K4 := heapB HM.out H4.out
            have c0 := cellR 0 K4 rfl
            have c1 := cellR 1 K4 rfl
            have c2 := cellR 2 K4 rfl
            have HP2 : Hid (allowsL kind rows[k] = true → ∀ j (hj : j < rows.length), j < k + 1 → allowsL kind rows[j] = true) := fun h j hj h2 => by
              by_cases h3 : j < k
              · exact HP.out j hj h3
              · obtain rfl : j = k := by omega
                exact h
            clear hrc e1 hv K4 HP
            cases hA : allowsL kind rows[k] with
            | true =>
              rw [hA] at ha HP2
              have HP3 := Lib.hid (HP2.out rfl)
              clear hA HP2
              go_wp2_with fail
              refine ha.mono ?_
              rintro e w5 ⟨rfl, hb5⟩
              have HM5 := Lib.hid (HM.out.trans (hb5.mono HM.out.size))
              clear ha hb5 HM KB hc0 c0 c1 c2
              go_wp2_with fail
              go_round
              case rel => exact ⟨k + 1, by omega, by go_num, HP3, HM5⟩
              case measure => simp [intOf]; omega
            | false =>
              rw [hA] at ha
              clear hA HP2
              go_wp2_with fail
              refine ha.mono ?_
              rintro e w5 ⟨rfl, hb5⟩
              have HM5 := Lib.hid (HB.out.trans ((HM.out.trans (hb5.mono HM.out.size)).mono HB.out.size))
              clear ha hb5 HM KB hc0 c0 c1 c2
              go_wp2_with fail
              go_ret2
              exact ⟨by rw [HE3.out]; rfl, HM5.out⟩
          · exact absurd ⟨HALL.out, fun r hr => by
              obtain ⟨j, hj, rfl⟩ := List.getElem_of_mem hr
              exact HP.out j hj (by omega)⟩ HBAD.out
theorem Reduces_any (op kind : Int) {w : World} {a : Option Addr} {rows : List (List Vl)} (h : Rws w a rows) (h44 : wide rows ≤ 17592186044416) (cap : Nat) :
    Calls Tryz.prog 13 #[.int .i64 op, .int .i64 kind, .slice a rows.length cap] w fun e w' => ((redsE op kind rows ≠ 0 ∧ e = .returned (.tuple #[.slice none 0 0, .int .i64 (redsE op kind rows)])) ∨ (redsE op kind rows = 0 ∧ ∃ g, w.heap.size ≤ g ∧ e = .returned (.tuple #[.slice (some ⟨g, 0, none⟩) (wide rows) (wide rows), .int .i64 0]) ∧ VRow w' g (outC op kind rows (wide rows) (wide rows)))) ∧ Below w.heap.size w w' := by
  by_cases h0 : findE op kind = 0
  · by_cases hne : rows = []
    · subst hne
      refine (Reduces_none op kind a cap h0).mono ?_
      rintro e w' ⟨rfl, hb⟩
      have hE : redsE op kind [] = 2 := by unfold redsE; rw [if_neg (by rw [h0]; decide), if_pos rfl]
      exact ⟨.inl ⟨by rw [hE]; decide, by rw [hE]⟩, hb⟩
    · by_cases hg : (∀ r ∈ rows, r.length = wide rows) ∧ ∀ r ∈ rows, allowsL kind r = true
      · refine (Reduces_ok op kind h (wide rows) h44 hne hg.1 hg.2 h0 cap).mono ?_
        rintro e w' ⟨g, h1, h2, h3, hb⟩
        have hE : redsE op kind rows = 0 := by unfold redsE; rw [if_neg (by rw [h0]; decide), if_neg hne, if_neg (not_not_intro hg.1), if_pos hg.2]
        exact ⟨.inr ⟨hE, g, h1, h2, h3⟩, hb⟩
      · refine (Reduces_bad op kind h h44 hne hg h0 cap).mono ?_
        rintro e w' ⟨rfl, hb⟩
        refine ⟨.inl ⟨?_, rfl⟩, hb⟩
        unfold redsE
        rw [if_neg (by rw [h0]; decide), if_neg hne]
        by_cases h1 : ∀ r ∈ rows, r.length = wide rows
        · rw [if_neg (not_not_intro h1), if_neg (fun h2 => hg ⟨h1, h2⟩)]; decide
        · rw [if_pos h1]; decide
  · refine (Reduces_find op kind a rows.length cap h0).mono ?_
    rintro e w' ⟨rfl, hb⟩
    have hE : redsE op kind rows = findE op kind := by unfold redsE; rw [if_pos h0]
    exact ⟨.inl ⟨by rw [hE]; exact h0, by rw [hE]⟩, hb⟩
end Go.Proofs.YtjcdnaandbockaaGreat

namespace Go.Proofs.YtjcdnaandbockaaGreat
open Go.RowKit Go.Shelf
attribute [local go_sem] Oper.semAt_some
set_option maxRecDepth 100000
set_option maxHeartbeats 8000000

/-- the results of the first k columns -/
def rcL (op kind : Int) (rows : List (List Vl)) (k : Nat) : List Vl := (List.range k).map fun j => accV op kind (colL rows j)
@[simp] theorem rcL_len (op kind : Int) (rows : List (List Vl)) (k : Nat) : (rcL op kind rows k).length = k := by simp [rcL]
theorem rcL_succ (op kind : Int) (rows : List (List Vl)) (k : Nat) : rcL op kind rows (k + 1) = rcL op kind rows k ++ [accV op kind (colL rows k)] := by
  unfold rcL
  rw [List.range_succ, List.map_append]
  rfl
theorem rcL_all (op kind : Int) (rows : List (List Vl)) (N : Nat) : rcL op kind rows N = outC op kind rows N N := by
  unfold outC rcL
  refine List.map_congr_left fun i hi => ?_
  rw [if_pos (List.mem_range.1 hi)]
theorem colL_len (rows : List (List Vl)) (k : Nat) : (colL rows k).length = rows.length := by simp [colL]
theorem colL_ok {w : World} {a : Option Addr} {rows : List (List Vl)} (h : Rws w a rows) {N k : Nat} (hN : ∀ r ∈ rows, r.length = N) (hk : k < N) : ∀ v ∈ colL rows k, v.Ok := by
  intro v hv9
  obtain ⟨r, hr, rfl⟩ := List.mem_map.1 hv9
  have hne : rows ≠ [] := List.ne_nil_of_mem hr
  obtain ⟨j, hj, rfl⟩ := List.getElem_of_mem hr
  obtain ⟨_, _, _, hrc⟩ := h.at_ hne
  obtain ⟨_, _, _, hvj⟩ := hrc j hj
  rw [List.getD_eq_getElem?_getD]
  have : k < (rows[j]).length := by rw [hN _ (List.getElem_mem hj)]; exact hk
  simp only [List.getElem?_eq_getElem this, Option.getD_some]
  exact hvj.ok _ (List.getElem_mem this)
theorem colL_allows {kind : Int} {rows : List (List Vl)} {N k : Nat} (hN : ∀ r ∈ rows, r.length = N) (hk : k < N) (hA : ∀ r ∈ rows, allowsL kind r = true) : allowsL kind (colL rows k) = true := by
  refine List.all_eq_true.2 fun v hv => ?_
  obtain ⟨r, hr, rfl⟩ := List.mem_map.1 hv
  have hkr : k < r.length := by rw [hN _ hr]; exact hk
  rw [List.getD_eq_getElem?_getD, List.getElem?_eq_getElem hkr, Option.getD_some]
  exact List.all_eq_true.1 (hA _ hr) _ (List.getElem_mem hkr)
theorem rReduces_find (op kind : Int) {w : World} (a : Option Addr) (n cap : Nat) (h0 : findE op kind ≠ 0) : Calls Tryz.prog 14 #[.int .i64 op, .int .i64 kind, .slice a n cap] w fun e w' => e = .returned (.tuple #[.slice none 0 0, .int .i64 (findE op kind)]) ∧ Below w.heap.size w w' := by
  have HC9 := Lib.hid (fun W => rcheck_any op kind W)
  obtain ⟨F, hF⟩ : ∃ F, F = findE op kind := ⟨_, rfl⟩
  rw [← hF] at HC9 h0 ⊢
  have hF0 : ((F != 0) : Bool) = true := bne_iff_ne.2 h0
  clear hF h0
  go_enter Tryz.func14, Tryz.ntmps14
  go_wp2_with fail
  refine (HC9.out _).mono ?_
  rintro e w1 ⟨rfl, rfl⟩
  clear HC9
  go_wp2_with fail
  go_ret2
  exact ⟨rfl, Below.refl _ _⟩
theorem rReduces_none (op kind : Int) {w : World} (a : Option Addr) (cap : Nat) (h0 : findE op kind = 0) : Calls Tryz.prog 14 #[.int .i64 op, .int .i64 kind, .slice a 0 cap] w fun e w' => e = .returned (.tuple #[.slice none 0 0, .int .i64 2]) ∧ Below w.heap.size w w' := by
  have HC9 := Lib.hid (fun W => rcheck_any op kind W)
  rw [h0] at HC9
  clear h0
  go_enter Tryz.func14, Tryz.ntmps14
  go_wp2_with fail
  refine (HC9.out _).mono ?_
  rintro e w1 ⟨rfl, rfl⟩
  clear HC9
  go_wp2_with fail
  go_ret2
  exact ⟨rfl, Below.refl _ _⟩
theorem rReduces_some (op kind : Int) {w : World} {a : Option Addr} {rows : List (List Vl)} (h : Rws w a rows) (h9 : rows.length ≤ 1000000) (hw9 : wide rows ≤ 1000000) (hne : rows ≠ []) (h0 : findE op kind = 0) (cap : Nat) :
    Calls Tryz.prog 14 #[.int .i64 op, .int .i64 kind, .slice a rows.length cap] w fun e w' => ((redsE op kind rows ≠ 0 ∧ e = .returned (.tuple #[.slice none 0 0, .int .i64 (redsE op kind rows)])) ∨ (redsE op kind rows = 0 ∧ ∃ v, e = .returned (.tuple #[v, .int .i64 0]) ∧ NewVls w.heap.size w' v (outC op kind rows (wide rows) (wide rows)))) ∧ Below w.heap.size w w' := by
  have HC9 := Lib.hid (fun W => rcheck_any op kind W)
  rw [h0] at HC9
  have hl1 : 0 < rows.length := List.length_pos_iff.2 hne
  have hw0 := wide_get rows hl1
  have HE26 : Hid (¬ (∀ r ∈ rows, r.length = wide rows) → redsE op kind rows = 26) := fun h1 => by
    unfold redsE; rw [if_neg (by rw [h0]; decide), if_neg hne, if_pos h1]
  have HE2 : Hid ((∀ r ∈ rows, r.length = wide rows) → ¬ (∀ r ∈ rows, allowsL kind r = true) → redsE op kind rows = 2) := fun h1 h2 => by
    unfold redsE; rw [if_neg (by rw [h0]; decide), if_neg hne, if_neg (not_not_intro h1), if_neg h2]
  have HE0 : Hid ((∀ r ∈ rows, r.length = wide rows) → (∀ r ∈ rows, allowsL kind r = true) → redsE op kind rows = 0) := fun h1 h2 => by
    unfold redsE; rw [if_neg (by rw [h0]; decide), if_neg hne, if_neg (not_not_intro h1), if_pos h2]
  have HRC := Lib.hid (fun k => rcL_succ op kind rows k)
  have HRA := Lib.hid (rcL_all op kind rows (wide rows))
  have HRL := Lib.hid (fun k => rcL_len op kind rows k)
  have HR0 : Hid (rcL op kind rows 0 = []) := rfl
  have HF0 := Lib.hid h0
  generalize outC op kind rows (wide rows) (wide rows) = SV at *
  generalize wide rows = N at *
  generalize redsE op kind rows = E at *
  obtain ⟨n, hn⟩ : ∃ n, n = rows.length := ⟨_, rfl⟩
  have h63 : n ≤ 9223372036854775807 := by omega
  have HN := Lib.hid hn
  have HNE := Lib.hid hne
  have HLW := Lib.hid h
  obtain ⟨g, o, rfl, hrc⟩ := h.at_ hne
  obtain ⟨ai, ci, hc0, _⟩ := hrc 0 hl1
  rw [hw0, Nat.add_zero] at hc0
  have HC0 := Lib.hid hc0
  have hn0 : ((n : Int) == 0) = false := by rw [beq_eq_false_iff_ne]; omega
  have hnp : (0 : Int) < n := by omega
  have hnpn : 0 < n := by omega
  rw [← hn] at h9 ⊢
  clear hn hne h hrc hc0 hw0 h0
  go_enter Tryz.func14, Tryz.ntmps14
  go_wp2_with fail
  refine (HC9.out _).mono ?_
  rintro e w1 ⟨rfl, rfl⟩
  clear HC9
  go_wp2_with fail
  go_loopw [9] (fun i wr => ∃ k : Nat, k ≤ n ∧ i = .int .i64 k ∧ Hid (∀ j (hj : j < rows.length), j < k → (rows[j]).length = N) ∧ Hid (Below w.heap.size w wr)) (fun i _ => n - (intOf i).toNat)
  case atStart => exact ⟨0, Nat.zero_le _, rfl, (fun j _ h => by omega), Below.refl _ _⟩
  case round =>
    obtain ⟨k, hk, rfl, HP, HB⟩ := hrel
    by_cases hlt : k < n
    · have hlt2 : k < rows.length := by have := HN.out; omega
      obtain ⟨g1, o1, e1, hrc⟩ := (HLW.out.keep HB.out).at_ HNE.out
      obtain ⟨rfl, rfl⟩ : g = g1 ∧ o = o1 := by injection e1 with e2; injection e2 with e3 e4; exact ⟨e3, e4⟩
      obtain ⟨ak, ck, hck, hv9⟩ := hrc k hlt2
      have hc0 := kcell HB.out HC0.out
      clear hrc e1 hv9
      by_cases hm : (rows[k]).length = N
      · have HP2 : Hid (∀ j (hj : j < rows.length), j < k + 1 → (rows[j]).length = N) := fun j hj h2 => by
          by_cases h3 : j < k
          · exact HP.out j hj h3
          · obtain rfl : j = k := by omega
            exact hm
        rw [hm] at hck
        have hNN : ((N : Int) != (N : Int)) = false := by simp
        clear hm HP hlt2
        go_wp2_with fail
        go_quiet (fail)
        go_wp2_with fail
        go_round
        case rel => exact ⟨k + 1, by omega, by go_num, HP2, below_drewN HB.out _⟩
        case measure => simp [intOf]; omega
      · have HE3 := Lib.hid (HE26.out (fun h9 => hm (h9 _ (List.getElem_mem hlt2))))
        generalize (rows[k]).length = m at *
        have hmn : ((m : Int) != (N : Int)) = true := by rw [bne_iff_ne]; omega
        clear hm HP hlt2
        go_wp2_with fail
        go_quiet (fail)
        go_wp2_with fail
        go_ret2
        exact ⟨.inl ⟨by rw [HE3.out]; decide, by rw [HE3.out]; rfl⟩, below_drewN HB.out _⟩
    · have hkn : k = n := by omega
      subst hkn
      have HALL : Hid (∀ r ∈ rows, r.length = N) := fun r hr => by
        obtain ⟨j, hj, rfl⟩ := List.getElem_of_mem hr
        exact HP.out j hj (by have := HN.out; omega)
      have HE3 := Lib.hid (HE2.out HALL.out)
      have HE4 := Lib.hid (HE0.out HALL.out)
      clear HP HE2 HE26 HE0
      go_wp2_with fail
      obtain ⟨wo, hwo⟩ : ∃ wo : World, wo = wr := ⟨_, rfl⟩
      rw [← hwo] at HB ⊢
      clear hwo wr
      go_loopw [10] (fun i wr => ∃ q : Nat, q ≤ k ∧ i = .int .i64 q ∧ Hid (∀ j (hj : j < rows.length), j < q → allowsL kind rows[j] = true) ∧ Hid (Below w.heap.size w wr)) (fun i _ => k - (intOf i).toNat)
      case atStart => exact ⟨0, Nat.zero_le _, rfl, (fun j _ h => by omega), HB⟩
      case round =>
        obtain ⟨q, hq, rfl, HP, HM⟩ := hrel
        by_cases hlt : q < k
        · have hlt2 : q < rows.length := by have := HN.out; omega
          obtain ⟨g1, o1, e1, hrc⟩ := (HLW.out.keep HM.out).at_ HNE.out
          obtain ⟨rfl, rfl⟩ : g = g1 ∧ o = o1 := by injection e1 with e2; injection e2 with e3 e4; exact ⟨e3, e4⟩
          obtain ⟨ak, ck, hck, hv⟩ := hrc q hlt2
          have ha := rall_any kind hv ck
          rw [HALL.out _ (List.getElem_mem hlt2)] at hck ha
          have HP2 : Hid (allowsL kind rows[q] = true → ∀ j (hj : j < rows.length), j < q + 1 → allowsL kind rows[j] = true) := fun h j hj h2 => by
            by_cases h3 : j < q
            · exact HP.out j hj h3
            · obtain rfl : j = q := by omega
              exact h
          have HNA : Hid (allowsL kind rows[q] = false → E = 2) := fun h => HE3.out (fun h2 => by
            have := h2 _ (List.getElem_mem hlt2)
            rw [h] at this
            cases this)
          have HA := Lib.hid ha
          clear hrc e1 hv HP ha
          cases hA : allowsL kind rows[q] with
          | true =>
            rw [hA] at HA HP2
            have HP3 := Lib.hid (HP2.out rfl)
            clear hA HP2 HNA hlt2
            go_wp2_with fail
            refine HA.out.mono ?_
            rintro e w5 ⟨rfl, hb5⟩
            have HM5 := Lib.hid (HM.out.trans (hb5.mono HM.out.size))
            clear HA hb5 HM hck
            go_wp2_with fail
            go_round
            case rel => exact ⟨q + 1, by omega, by go_num, HP3, HM5⟩
            case measure => simp [intOf]; omega
          | false =>
            rw [hA] at HA HNA
            have HE5 := Lib.hid (HNA.out rfl)
            clear hA HP2 HNA hlt2
            go_wp2_with fail
            refine HA.out.mono ?_
            rintro e w5 ⟨rfl, hb5⟩
            have HM5 := Lib.hid (HM.out.trans (hb5.mono HM.out.size))
            clear HA hb5 HM hck
            go_wp2_with fail
            go_ret2
            exact ⟨.inl ⟨by rw [HE5.out]; decide, by rw [HE5.out]; rfl⟩, HM5.out⟩
        · have hqk : q = k := by omega
          subst hqk
          have HALLA : Hid (∀ r ∈ rows, allowsL kind r = true) := fun r hr => by
            obtain ⟨j, hj, rfl⟩ := List.getElem_of_mem hr
            exact HP.out j hj (by have := HN.out; omega)
          have HE5 := Lib.hid (HE4.out HALLA.out)
          have HFO : Hid (∀ c, c < N → ∀ (b : Option Addr) (cp : Nat) W, Vls W b (colL rows c) → Calls Tryz.prog 45 #[.int .i64 op, .int .i64 kind, .slice b q cp] W fun e w' => e = .returned (vA (accV op kind (colL rows c))) ∧ Below W.heap.size W w') := fun c hc b cp W hv => by
            have h3 := rfold_any op kind hv cp (by intro e9; have h8 := colL_len rows c; rw [e9, ← HN.out] at h8; simp at h8; omega) (colL_allows HALL.out hc HALLA.out) HF0.out
            rwa [colL_len, ← HN.out] at h3
          clear HP HE3 HE4 HB
          go_wp2_with fail
          obtain ⟨wp, hwp⟩ : ∃ wp : World, wp = wr := ⟨_, rfl⟩
          rw [← hwp] at HM ⊢
          clear hwp wr
          go_loopw [11, 12] (fun v i wr => ∃ c : Nat, c ≤ N ∧ i = .int .i64 c ∧ Hid (NewVls w.heap.size wr v (rcL op kind rows c)) ∧ Hid (Below w.heap.size w wr)) (fun _ i _ => N - (intOf i).toNat)
          case atStart => exact ⟨0, Nat.zero_le _, rfl, by show NewVls _ _ _ _; rw [HR0.out]; exact NewVls.nil _ _, HM⟩
          case round =>
            obtain ⟨c, hc, rfl, HV, HBc⟩ := hrel
            clear HM
            have hc0 := kcell HBc.out HC0.out
            by_cases hlc : c < N
            · have HFc := Lib.hid (HFO.out c hlc)
              have HRCc := Lib.hid (HRC.out c)
              have hlk := HRL.out c
              have HCO := Lib.hid (colL_ok HLW.out HALL.out hlc)
              go_wp2_with fail
              obtain ⟨ws, hws⟩ : ∃ ws : World, ws = wr := ⟨_, rfl⟩
              rw [← hws] at HV HBc hc0 ⊢
              clear hws wr
              go_loopw [13, 14] (fun v2 i wr => ∃ q2 : Nat, q2 ≤ q ∧ i = .int .i64 q2 ∧ Hid (NewVls ws.heap.size wr v2 ((colL rows c).take q2)) ∧ Hid (Below ws.heap.size ws wr)) (fun _ i _ => q - (intOf i).toNat)
              case atStart => exact ⟨0, Nat.zero_le _, rfl, NewVls.nil _ _, Below.refl _ _⟩
              case round =>
                obtain ⟨q2, hq2, rfl, HV2, HB2⟩ := hrel
                have HB3 := Lib.hid (HBc.out.trans (HB2.out.mono HBc.out.size))
                by_cases hl2 : q2 < q
                · have hlt2 : q2 < rows.length := by have := HN.out; omega
                  obtain ⟨g1, o1, e1, hrc⟩ := (HLW.out.keep HB3.out).at_ HNE.out
                  obtain ⟨rfl, rfl⟩ : g = g1 ∧ o = o1 := by injection e1 with e2; injection e2 with e3 e4; exact ⟨e3, e4⟩
                  obtain ⟨ak, ck, hck, hv⟩ := hrc q2 hlt2
                  have hrl := HALL.out _ (List.getElem_mem hlt2)
                  have hkr : c < (rows[q2]).length := by rw [hrl]; exact hlc
                  obtain ⟨ga, oa, rfl, hca⟩ := hv.at_ (ne_nil_of_lt hkr)
                  obtain ⟨u0, u1⟩ := hca c hkr
                  rw [hrl] at hck
                  have hcl : q2 < (colL rows c).length := by rw [colL_len]; exact hlt2
                  have htk : (colL rows c).take (q2 + 1) = (colL rows c).take q2 ++ [(rows[q2])[c]] := by
                    rw [← takeS (colL rows c) q2 hcl]
                    congr 2
                    simp [colL, hkr]
                  have hl9 : ((colL rows c).take q2).length = q2 := by rw [List.length_take]; omega
                  generalize (rows[q2])[c] = u at *
                  obtain ⟨x, p⟩ := u
                  simp only at u0 u1
                  have hx := heap_alloc_new wr (.cells #[.int .u64 x, .int .i64 p] 24)
                  have hbx := (Below.refl wr.heap.size wr).alloc (Nat.le_refl _) (.cells #[.int .u64 x, .int .i64 p] 24)
                  have HN3 := HV2.out.keep hbx
                  obtain ⟨v', w4, hr, hn4, hg⟩ := append_val (u := ⟨x, p⟩) HN3 (by rw [hl9]; omega) hx (by have := HB2.out.size; have := hbx.size; omega)
                  have HR := Lib.hid hr
                  have hlow := fun k h => (HN3.own.lt k h).1
                  have HB4 := Lib.hid ((HB2.out.trans (hbx.mono HB2.out.size)).trans (grown_below hg hlow (by have := HB2.out.size; have := hbx.size; omega)))
                  have HN4 : Hid (NewVls ws.heap.size w4 v' ((colL rows c).take (q2 + 1))) := by
                    show NewVls _ _ _ _
                    rw [htk]
                    exact hn4
                  have hlti : (c : Int) < (N : Int) := by omega
                  clear hr hn4 hg hx hbx hlow HN3 HV2 HB2 hrc e1 hv hca hcl hkr hrl htk hlt2 hl9
                  go_wp2_with (at_builtin; refine Lib.wpList_append_run _ rfl (.tmp 67) (.tmp 75) 33 33 rfl _ _ rfl rfl _ _ HR.out ?_)
                  go_round
                  case rel => exact ⟨q2 + 1, by omega, by go_num, HN4, HB4⟩
                  case measure => simp [intOf]; omega
                · have hqq : q2 = q := by omega
                  subst hqq
                  have hN9 := HV2.out
                  rw [List.take_of_length_le (by rw [colL_len, ← HN.out]; exact Nat.le_refl _)] at hN9
                  obtain ⟨b2, cp2, rfl, hv2⟩ := hN9.vls HCO.out
                  rw [colL_len, ← HN.out]
                  have hfo := HFc.out b2 cp2 wr hv2
                  generalize accV op kind (colL rows c) = u at *
                  obtain ⟨x, p⟩ := u
                  unfold vA at hfo
                  have HFO2 := Lib.hid hfo
                  have HV3 := Lib.hid (HV.out.keep HB2.out)
                  clear hfo hv2 hN9 HV2
                  go_wp2_with fail
                  refine HFO2.out.mono ?_
                  rintro e w3 ⟨rfl, hb3⟩
                  have hx := heap_alloc_new w3 (.cells #[.int .u64 x, .int .i64 p] 24)
                  have hbx := (Below.refl w3.heap.size w3).alloc (Nat.le_refl _) (.cells #[.int .u64 x, .int .i64 p] 24)
                  have HN3 := (HV3.out.keep hb3).keep hbx
                  have HB9 := HB3.out.trans (hb3.mono HB3.out.size)
                  obtain ⟨v', w4, hr, hn4, hg⟩ := append_val (u := ⟨x, p⟩) HN3 (by rw [hlk]; omega) hx (by have := HB9.size; have := hbx.size; omega)
                  have HR := Lib.hid hr
                  have hlow := fun k h => (HN3.own.lt k h).1
                  have HB4 := Lib.hid ((HB9.trans (hbx.mono HB9.size)).trans (grown_below hg hlow (by have := HB9.size; have := hbx.size; omega)))
                  have HN4 : Hid (NewVls w.heap.size w4 v' (rcL op kind rows (c + 1))) := by
                    show NewVls _ _ _ _
                    rw [HRCc.out]
                    exact hn4
                  clear hr hn4 hg hx hbx hb3 HN3 HB9 HV3 hlow HRCc HFO2 hlk HB3
                  go_wp2_with (at_builtin; refine Lib.wpList_append_run _ rfl (.tmp 77) (.tmp 82) 33 33 rfl _ _ rfl rfl _ _ HR.out ?_)
                  go_round
                  case rel => exact ⟨c + 1, by omega, by go_num, HN4, HB4⟩
                  case measure => simp [intOf]; omega
            · have hcn : c = N := by omega
              subst hcn
              have HN3 := HV.out
              rw [HRA.out] at HN3
              have HN5 := Lib.hid HN3
              clear HV HN3
              go_wp2_with fail
              go_ret2
              exact ⟨.inr ⟨HE5.out, _, rfl, HN5.out⟩, HBc.out⟩
theorem rReduces_any (op kind : Int) {w : World} {a : Option Addr} {rows : List (List Vl)} (h : Rws w a rows) (h9 : rows.length ≤ 1000000) (hw9 : wide rows ≤ 1000000) (cap : Nat) :
    Calls Tryz.prog 14 #[.int .i64 op, .int .i64 kind, .slice a rows.length cap] w fun e w' => ((redsE op kind rows ≠ 0 ∧ e = .returned (.tuple #[.slice none 0 0, .int .i64 (redsE op kind rows)])) ∨ (redsE op kind rows = 0 ∧ ∃ v, e = .returned (.tuple #[v, .int .i64 0]) ∧ NewVls w.heap.size w' v (outC op kind rows (wide rows) (wide rows)))) ∧ Below w.heap.size w w' := by
  by_cases h0 : findE op kind = 0
  · by_cases hne : rows = []
    · subst hne
      refine (rReduces_none op kind a cap h0).mono ?_
      rintro e w' ⟨rfl, hb⟩
      have hE : redsE op kind [] = 2 := by unfold redsE; rw [if_neg (by rw [h0]; decide), if_pos rfl]
      exact ⟨.inl ⟨by rw [hE]; decide, by rw [hE]⟩, hb⟩
    · exact rReduces_some op kind h h9 hw9 hne h0 cap
  · refine (rReduces_find op kind a rows.length cap h0).mono ?_
    rintro e w' ⟨rfl, hb⟩
    have hE : redsE op kind rows = findE op kind := by unfold redsE; rw [if_pos h0]
    exact ⟨.inl ⟨by rw [hE]; exact h0, by rw [hE]⟩, hb⟩
end Go.Proofs.YtjcdnaandbockaaGreat

namespace Go.Proofs.YtjcdnaandbockaaGreat
open Go.RowKit Go.Shelf Go.Deep
set_option maxRecDepth 100000

/-- a slice of values that is read as data -/
theorem vals_of_trod0 {H : Type} {enc : TypeId × Value → H} {W : World} {fuel : Nat} {v : Value} {x : DataW H × List MemPlace} (h : DataW.trod enc Tryz.prog W 0 (fun _ => true) true fuel 33 [v] = some x) :
    ∃ (a : Option Addr) (l : List Vl) (cap : Nat), v = .slice a l.length cap ∧ l.length ≤ cap ∧ Vls W a l := by
  rcases open_slice_pairs Tryz.underlying33 Tryz.underlying24 (by kernel_rfl) rfl rfl (by kernel_rfl) (by kernel_rfl) h with ⟨hcs, hx⟩ | ⟨a, len', cap', m, n, V0, V1, D0, D1, P0, P1, hcs, _, hl, hm, hmm, hx, hall⟩
  · have e : v = .slice none 0 0 := by simpa using hcs
    exact ⟨none, [], 0, e, Nat.le_refl _, ⟨by simp, (fun u hu => by cases hu), fun hl => absurd rfl hl⟩⟩
  · have e : v = .slice (some a) len' cap' := by simpa using hcs
    simp only [if_true] at hmm
    have each : ∀ i, i < len' → ∃ u : Vl, u.Ok ∧ W.cell? (a.add (i * 2)) = some (.int .u64 u.x) ∧ W.cell? (a.add (i * 2 + 1)) = some (.int .i64 u.p) := by
      intro i hi
      obtain ⟨c0, c1, t0, t1⟩ := hall i (by omega)
      obtain ⟨y, ey, _, wy⟩ := DataW.trod_int Tryz.underlying22 t0
      obtain ⟨p, ep, _, wp⟩ := DataW.trod_int Tryz.underlying2 t1
      obtain ⟨k, rfl, hk⟩ := u64_nat wy
      have hp := i64_ok wp
      simp at ey ep
      exact ⟨⟨k, p⟩, ⟨hk, hp.1, hp.2⟩, by rw [c0, ey], by rw [c1, ep]⟩
    have hlist : ∀ n, n ≤ len' → ∃ l : List Vl, l.length = n ∧ ∀ i, (hi : i < l.length) → (l[i]).Ok ∧ W.cell? (a.add (i * 2)) = some (.int .u64 (l[i]).x) ∧ W.cell? (a.add (i * 2 + 1)) = some (.int .i64 (l[i]).p) := by
      intro n
      induction n with
      | zero => intro _; exact ⟨[], rfl, fun i hi => by simp at hi⟩
      | succ n ih =>
        intro hn
        obtain ⟨l, hl1, hl2⟩ := ih (by omega)
        obtain ⟨u, hu⟩ := each n (by omega)
        refine ⟨l ++ [u], by simp [hl1], fun i hi => ?_⟩
        by_cases hin : i < l.length
        · rw [List.getElem_append_left hin]
          exact hl2 i hin
        · have hin2 : i = n := by simp at hi; omega
          subst hin2
          rw [List.getElem_append_right (by omega)]
          simpa [hl1] using hu
    obtain ⟨l, hl1, hl2⟩ := hlist len' (Nat.le_refl _)
    refine ⟨some a, l, cap', by rw [hl1]; exact e, by omega, ⟨by rw [hl1]; unfold maxLen at hm; omega, ?_, fun hne => ?_⟩⟩
    · intro u hu
      obtain ⟨i, hi, rfl⟩ := List.getElem_of_mem hu
      exact (hl2 i hi).1
    · have hp : 0 < l.length := by cases l with | nil => exact absurd rfl hne | cons _ _ => simp
      obtain ⟨b, off, q⟩ := a
      have hq : q = none := by simpa [Addr.add] using World.cell?_spot (hl2 0 hp).2.1
      subst hq
      refine ⟨b, off, rfl, fun i hi => ?_⟩
      have := hl2 i hi
      simpa [part_add, Nat.add_assoc] using this.2
/-- the first row's slice -/
def First (w : World) (a : Option Addr) (rows : List (List Vl)) : Prop := 0 < rows.length → ∃ g o a0 c0, a = some ⟨g, o, none⟩ ∧ w.cell? ⟨g, o, none⟩ = some (.slice a0 (wide rows) c0) ∧ wide rows ≤ c0 ∧ Vls w a0 (rows.headD [])
theorem rows_of_trod {H : Type} {enc : TypeId × Value → H} {W : World} {x : Option Addr} {len cap : Nat} {d : DataW H} {ps : List MemPlace} (h : DataW.Trod enc Tryz.prog W 0 (fun _ => true) true 32 (.slice x len cap) d ps) :
    ∃ rows : List (List Vl), rows.length = len ∧ Rws W x rows ∧ First W x rows := by
  obtain ⟨fuel, hf⟩ := h
  rcases open_slice1 Tryz.underlying32 (by kernel_rfl) hf with ⟨hcs, hx⟩ | ⟨a, len', cap', m, n, V, D, Pl, hcs, _, hl, hm, hmm, hx, hall⟩
  · have e : (Value.slice x len cap) = .slice none 0 0 := by simpa [Value.cells] using hcs
    cases e
    exact ⟨[], rfl, ⟨by simp, fun hne => absurd rfl hne⟩, fun h0 => by simp at h0⟩
  · have e : (Value.slice x len cap) = .slice (some a) len' cap' := by simpa [Value.cells] using hcs
    cases e
    simp only [if_true] at hmm
    have each : ∀ i, i < len → ∃ (l : List Vl) (ai : Option Addr) (ci : Nat), W.cell? (a.add i) = some (.slice ai l.length ci) ∧ l.length ≤ ci ∧ Vls W ai l := by
      intro i hi
      obtain ⟨c0, t0⟩ := hall i (by omega)
      obtain ⟨ai, l, ci, e1, e2, e3⟩ := vals_of_trod0 t0
      exact ⟨l, ai, ci, by rw [c0, e1], e2, e3⟩
    have hlist : ∀ n, n ≤ len → ∃ rows : List (List Vl), rows.length = n ∧ ∀ i, (hi : i < rows.length) → ∃ (ai : Option Addr) (ci : Nat), W.cell? (a.add i) = some (.slice ai (rows[i]).length ci) ∧ (rows[i]).length ≤ ci ∧ Vls W ai rows[i] := by
      intro n
      induction n with
      | zero => intro _; exact ⟨[], rfl, fun i hi => by simp at hi⟩
      | succ n ih =>
        intro hn
        obtain ⟨l, hl1, hl2⟩ := ih (by omega)
        obtain ⟨u, hu⟩ := each n (by omega)
        refine ⟨l ++ [u], by simp [hl1], fun i hi => ?_⟩
        by_cases hin : i < l.length
        · rw [List.getElem_append_left hin]
          exact hl2 i hin
        · have hin2 : i = n := by simp at hi; omega
          subst hin2
          rw [List.getElem_append_right (by omega)]
          simpa [hl1] using hu
    obtain ⟨rows, hl1, hl2⟩ := hlist len (Nat.le_refl _)
    have hform : 0 < rows.length → ∃ b off, a = ⟨b, off, none⟩ := fun hp => by
      obtain ⟨ai, ci, h1, _⟩ := hl2 0 hp
      obtain ⟨b, off, q⟩ := a
      have hq : q = none := by simpa [Addr.add] using World.cell?_spot h1
      exact ⟨b, off, by rw [hq]⟩
    refine ⟨rows, hl1, ⟨by rw [hl1]; unfold maxLen at hm; omega, fun hne => ?_⟩, fun hp => ?_⟩
    · obtain ⟨b, off, rfl⟩ := hform (List.length_pos_iff.2 hne)
      refine ⟨b, off, rfl, fun i hi => ?_⟩
      obtain ⟨ai, ci, h1, _, h3⟩ := hl2 i hi
      exact ⟨ai, ci, by simpa [part_add] using h1, h3⟩
    · obtain ⟨b, off, rfl⟩ := hform hp
      obtain ⟨ai, ci, h1, h2, h3⟩ := hl2 0 hp
      cases rows with
      | nil => simp at hp
      | cons r t => exact ⟨b, off, ai, ci, rfl, by show _ = some (Value.slice ai r.length ci); simpa [part_add] using h1, h2, h3⟩
theorem NewVls.vls' {B : Nat} {w : World} {v : Value} {l : List Vl} (h : NewVls B w v l) (ho : ∀ u ∈ l, u.Ok) : ∃ a cap, v = .slice a l.length cap ∧ Vls w a l := h.vls ho
theorem vls_nil (w : World) (a : Option Addr) : Vls w a [] := ⟨by simp, (fun u hu => by cases hu), fun hl => absurd rfl hl⟩
theorem colL_ok2 {rows : List (List Vl)} (h : ∀ r ∈ rows, ∀ u ∈ r, u.Ok) (k : Nat) : ∀ v ∈ colL rows k, v.Ok := by
  intro v hv
  obtain ⟨r, hr, rfl⟩ := List.mem_map.1 hv
  rw [List.getD_eq_getElem?_getD]
  rcases Nat.lt_or_ge k r.length with hk | hk
  · rw [List.getElem?_eq_getElem hk]; exact h r hr _ (List.getElem_mem hk)
  · rw [List.getElem?_eq_none hk]; exact ⟨by decide, by decide, by decide⟩
theorem Rws.ok {w : World} {a : Option Addr} {rows : List (List Vl)} (h : Rws w a rows) : ∀ r ∈ rows, ∀ u ∈ r, u.Ok := by
  intro r hr u hu
  obtain ⟨j, hj, rfl⟩ := List.getElem_of_mem hr
  obtain ⟨_, _, _, hrc⟩ := h.at_ (List.ne_nil_of_mem hr)
  obtain ⟨_, _, _, hv⟩ := hrc j hj
  exact hv.ok u hu
def redsV (op kind : Int) (rows : List (List Vl)) : List Vl := if redsE op kind rows = 0 then outC op kind rows (wide rows) (wide rows) else []
theorem redsV_ok (op kind : Int) {rows : List (List Vl)} (h : ∀ r ∈ rows, ∀ u ∈ r, u.Ok) : ∀ u ∈ redsV op kind rows, u.Ok := by
  intro u hu
  unfold redsV at hu
  split at hu
  · unfold outC at hu
    obtain ⟨j, _, rfl⟩ := List.mem_map.1 hu
    split
    · exact accV_ok op kind (colL_ok2 h _)
    · exact ⟨by decide, by decide, by decide⟩
  · cases hu
def scV (op kind : Int) (l : List Vl) : List Vl := if scanE op kind l = 0 then scanV op kind l else []
theorem scV_ok (op kind : Int) {l : List Vl} (h : ∀ u ∈ l, u.Ok) : ∀ u ∈ scV op kind l, u.Ok := by
  intro u hu
  unfold scV at hu
  split at hu
  · unfold scanV outL at hu
    obtain ⟨j, _, rfl⟩ := List.mem_map.1 hu
    split
    · exact accV_ok op kind (fun v hv => h v (List.mem_of_mem_take hv))
    · exact ⟨by decide, by decide, by decide⟩
  · cases hu
/-- the program's Reduces, one form for all -/
theorem Reduces_uni (op kind : Int) {w : World} {a : Option Addr} {rows : List (List Vl)} (h : Rws w a rows) (h44 : wide rows ≤ 1000000) (cap : Nat) :
    Calls Tryz.prog 13 #[.int .i64 op, .int .i64 kind, .slice a rows.length cap] w fun e w' => ∃ la lc, e = .returned (.tuple #[.slice la (redsV op kind rows).length lc, .int .i64 (redsE op kind rows)]) ∧ Vls w' la (redsV op kind rows) ∧ Below w.heap.size w w' := by
  refine (Reduces_any op kind h (by omega) cap).mono ?_
  rintro e w' ⟨⟨h0, rfl⟩ | ⟨h0, g, _, rfl, hv⟩, hb⟩
  · have e1 : redsV op kind rows = [] := by unfold redsV; rw [if_neg h0]
    exact ⟨none, 0, by rw [e1]; rfl, by rw [e1]; exact vls_nil _ _, hb⟩
  · have e1 : redsV op kind rows = outC op kind rows (wide rows) (wide rows) := by unfold redsV; rw [if_pos h0]
    refine ⟨some ⟨g, 0, none⟩, wide rows, by rw [e1, h0, outC_len], ?_, hb⟩
    rw [e1]
    have := redsV_ok op kind h.ok
    rw [e1] at this
    exact hv.vls (by rw [outC_len]; omega) this
theorem rReduces_uni (op kind : Int) {w : World} {a : Option Addr} {rows : List (List Vl)} (h : Rws w a rows) (h9 : rows.length ≤ 1000000) (h44 : wide rows ≤ 1000000) (cap : Nat) :
    Calls Tryz.prog 14 #[.int .i64 op, .int .i64 kind, .slice a rows.length cap] w fun e w' => ∃ la lc, e = .returned (.tuple #[.slice la (redsV op kind rows).length lc, .int .i64 (redsE op kind rows)]) ∧ Vls w' la (redsV op kind rows) ∧ Below w.heap.size w w' := by
  refine (rReduces_any op kind h h9 h44 cap).mono ?_
  rintro e w' ⟨⟨h0, rfl⟩ | ⟨h0, v, rfl, hv⟩, hb⟩
  · have e1 : redsV op kind rows = [] := by unfold redsV; rw [if_neg h0]
    exact ⟨none, 0, by rw [e1]; rfl, by rw [e1]; exact vls_nil _ _, hb⟩
  · have e1 : redsV op kind rows = outC op kind rows (wide rows) (wide rows) := by unfold redsV; rw [if_pos h0]
    have := redsV_ok op kind h.ok
    rw [e1] at this
    obtain ⟨la, lc, rfl, hv2⟩ := hv.vls this
    exact ⟨la, lc, by rw [e1, h0], by rw [e1]; exact hv2, hb⟩
theorem Scan_uni (op kind : Int) {w : World} {a : Option Addr} {l : List Vl} (h : Vls w a l) (h9 : l.length ≤ 1000000) (cap : Nat) :
    Calls Tryz.prog 18 #[.int .i64 op, .int .i64 kind, .slice a l.length cap] w fun e w' => ∃ la lc, e = .returned (.tuple #[.slice la (scV op kind l).length lc, .int .i64 (scanE op kind l)]) ∧ Vls w' la (scV op kind l) ∧ Below w.heap.size w w' := by
  refine (Scan_any op kind h (by omega) cap).mono ?_
  rintro e w' ⟨⟨h0, rfl⟩ | ⟨h0, g, _, rfl, hv⟩, hb⟩
  · have e1 : scV op kind l = [] := by unfold scV; rw [if_neg h0]
    exact ⟨none, 0, by rw [e1]; rfl, by rw [e1]; exact vls_nil _ _, hb⟩
  · have e1 : scV op kind l = scanV op kind l := by unfold scV; rw [if_pos h0]
    have e2 : (scanV op kind l).length = l.length := by unfold scanV; exact outL_len ..
    refine ⟨some ⟨g, 0, none⟩, l.length, by rw [e1, h0, e2], ?_, hb⟩
    rw [e1]
    have := scV_ok op kind h.ok
    rw [e1] at this
    exact hv.vls (by rw [e2]; omega) this
theorem rScan_uni (op kind : Int) {w : World} {a : Option Addr} {l : List Vl} (h : Vls w a l) (h9 : l.length ≤ 1000000) (cap : Nat) (hc : l.length ≤ cap) :
    Calls Tryz.prog 19 #[.int .i64 op, .int .i64 kind, .slice a l.length cap] w fun e w' => ∃ la lc, e = .returned (.tuple #[.slice la (scV op kind l).length lc, .int .i64 (scanE op kind l)]) ∧ Vls w' la (scV op kind l) ∧ Below w.heap.size w w' := by
  refine (rScan_any op kind h h9 cap hc).mono ?_
  rintro e w' ⟨⟨h0, rfl⟩ | ⟨h0, v, rfl, hv⟩, hb⟩
  · have e1 : scV op kind l = [] := by unfold scV; rw [if_neg h0]
    exact ⟨none, 0, by rw [e1]; rfl, by rw [e1]; exact vls_nil _ _, hb⟩
  · have e1 : scV op kind l = scanV op kind l := by unfold scV; rw [if_pos h0]
    have := scV_ok op kind h.ok
    rw [e1] at this
    obtain ⟨la, lc, rfl, hv2⟩ := hv.vls this
    exact ⟨la, lc, by rw [e1, h0], by rw [e1]; exact hv2, hb⟩
theorem same_self {w : World} {a b : Option Addr} {l : List Vl} (hl : Vls w a l) (hm : Vls w b l) (c d : Nat) : Calls Tryz.prog 15 #[.slice a l.length c, .slice b l.length d] w fun e w' => e = .returned (.bool true) ∧ Below w.heap.size w w' := by
  have h := same_any hl hm c d
  rwa [(sameL_iff l l).2 rfl] at h
end Go.Proofs.YtjcdnaandbockaaGreat

namespace Go.Proofs.YtjcdnaandbockaaGreat
open Go.RowKit Go.Shelf
attribute [local go_sem] Oper.semAt_some
set_option maxRecDepth 100000
set_option maxHeartbeats 8000000

theorem eql_selfV (x : Nat) (p : Int) (w : World) : (binOp .eql 24 (.agg #[.int .u64 x, .int .i64 p]) (.agg #[.int .u64 x, .int .i64 p])).run Tryz.prog w = .ok (.bool true) w := by
  have h := eql_V x x p p w
  rwa [show eqV ⟨x, p⟩ ⟨x, p⟩ = true by simp [eqV]] at h
theorem wide_nil : wide [] = 0 := rfl
theorem SumReduces_walk (op kind : Int) {w : World} {a : Option Addr} {rows : List (List Vl)} (h : Rws w a rows) (hf : First w a rows) (cap : Nat) :
    Calls Tryz.prog 4 #[.int .i64 op, .int .i64 kind, .slice a rows.length cap] w fun e w' => e = .returned (.bool true) ∧ Below w.heap.size w w' := by
  have HW := Lib.hid (fun W => works_any W)
  have hlen := h.len
  obtain ⟨n, hn⟩ : ∃ n, n = rows.length := ⟨_, rfl⟩
  have HN := Lib.hid hn
  have HLW := Lib.hid h
  rw [← hn] at hlen ⊢
  by_cases h10 : 10 < n
  · have hd : (10 : Int) < n := by omega
    clear h hf hn
    go_enter Tryz.func4, Tryz.ntmps4
    go_wp2_with fail
    refine (HW.out _).mono ?_
    rintro e w1 ⟨rfl, hb⟩
    go_wp2_with fail
    go_ret
    exact ⟨rfl, hb⟩
  have hd : ¬ (10 : Int) < n := by omega
  have HRD : Hid (wide rows ≤ 1000000 → ∀ W, Below w.heap.size w W → Calls Tryz.prog 13 #[.int .i64 op, .int .i64 kind, .slice a n cap] W fun e w' => ∃ la lc, e = .returned (.tuple #[.slice la (redsV op kind rows).length lc, .int .i64 (redsE op kind rows)]) ∧ Vls w' la (redsV op kind rows) ∧ Below W.heap.size W w') := fun h1 W hb => by rw [hn]; exact Reduces_uni op kind (h.keep hb) h1 cap
  have HRR : Hid (wide rows ≤ 1000000 → ∀ W, Below w.heap.size w W → Calls Tryz.prog 14 #[.int .i64 op, .int .i64 kind, .slice a n cap] W fun e w' => ∃ la lc, e = .returned (.tuple #[.slice la (redsV op kind rows).length lc, .int .i64 (redsE op kind rows)]) ∧ Vls w' la (redsV op kind rows) ∧ Below W.heap.size W w') := fun h1 W hb => by rw [hn]; exact rReduces_uni op kind (h.keep hb) (by omega) h1 cap
  have HFI : Hid (0 < n → ∃ g o a0 c0, a = some ⟨g, o, none⟩ ∧ w.cell? ⟨g, o, none⟩ = some (.slice a0 (wide rows) c0) ∧ wide rows ≤ c0 ∧ Vls w a0 (rows.headD [])) := fun h0 => hf (by omega)
  have HQ : Hid (∀ (ra : Option Addr) (l : List Vl) (rc : Nat), Vls w ra l → l.length ≤ 1000000 → l.length ≤ rc →
      (∀ W, Below w.heap.size w W → Calls Tryz.prog 16 #[.int .i64 op, .int .i64 kind, .slice ra l.length rc] W fun e w' => e = .returned (.tuple #[vA (redV op kind l), .int .i64 (redE op kind l)]) ∧ Below W.heap.size W w') ∧
      (∀ W, Below w.heap.size w W → Calls Tryz.prog 17 #[.int .i64 op, .int .i64 kind, .slice ra l.length rc] W fun e w' => e = .returned (.tuple #[vA (redV op kind l), .int .i64 (redE op kind l)]) ∧ Below W.heap.size W w') ∧
      (∀ W, Below w.heap.size w W → Calls Tryz.prog 18 #[.int .i64 op, .int .i64 kind, .slice ra l.length rc] W fun e w' => ∃ la lc, e = .returned (.tuple #[.slice la (scV op kind l).length lc, .int .i64 (scanE op kind l)]) ∧ Vls w' la (scV op kind l) ∧ Below W.heap.size W w') ∧
      (∀ W, Below w.heap.size w W → Calls Tryz.prog 19 #[.int .i64 op, .int .i64 kind, .slice ra l.length rc] W fun e w' => ∃ la lc, e = .returned (.tuple #[.slice la (scV op kind l).length lc, .int .i64 (scanE op kind l)]) ∧ Vls w' la (scV op kind l) ∧ Below W.heap.size W w')) := fun ra l rc hv h9 hc =>
    ⟨fun W hb => Reduce_any op kind (hv.keep hb) rc, fun W hb => rReduce_any op kind (hv.keep hb) rc, fun W hb => Scan_uni op kind (hv.keep hb) h9 rc, fun W hb => rScan_uni op kind (hv.keep hb) h9 rc hc⟩
  clear h hf hn
  go_enter Tryz.func4, Tryz.ntmps4
  go_wp2_with fail
  go_loop [7] (fun i => ∃ k : Nat, k ≤ n ∧ i = .int .i64 k ∧ Hid (∀ j (hj : j < rows.length), j < k → (rows[j]).length ≤ 20)) (fun i => n - (intOf i).toNat)
  case atStart => exact ⟨0, Nat.zero_le _, rfl, fun j _ h => by omega⟩
  case round =>
    obtain ⟨k, hk, rfl, HP⟩ := hrel
    by_cases hlt : k < n
    · have hlt2 : k < rows.length := by have := HN.out; omega
      obtain ⟨g1, o1, rfl, hrc⟩ := HLW.out.at_ (ne_nil_of_lt hlt2)
      obtain ⟨ak, ck, hck, hv9⟩ := hrc k hlt2
      clear hrc hv9
      by_cases hm : (rows[k]).length ≤ 20
      · have HP2 : Hid (∀ j (hj : j < rows.length), j < k + 1 → (rows[j]).length ≤ 20) := fun j hj h2 => by
          by_cases h3 : j < k
          · exact HP.out j hj h3
          · obtain rfl : j = k := by omega
            exact hm
        generalize (rows[k]).length = m at *
        have hdm : ¬ (20 : Int) < m := by omega
        clear hm HP hlt2
        go_wp2_with fail
        go_round
        case rel => exact ⟨k + 1, by omega, by go_num, HP2⟩
        case measure => simp [intOf]; omega
      · generalize (rows[k]).length = m at *
        have hdm : (20 : Int) < m := by omega
        clear hm HP hlt2
        go_wp2_with fail
        refine (HW.out _).mono ?_
        rintro e w1 ⟨rfl, hb⟩
        go_wp2_with fail
        go_ret
        exact ⟨rfl, hb⟩
    · have hkn : k = n := by omega
      subst hkn
      have hwide : wide rows ≤ 20 := by
        by_cases h0 : 0 < rows.length
        · rw [← wide_get rows h0]
          exact HP.out 0 h0 (by have := HN.out; omega)
        · have h1 : rows = [] := List.eq_nil_of_length_eq_zero (by omega)
          rw [h1]; exact Nat.zero_le _
      have HD2 := Lib.hid (HRD.out (by omega))
      have HR2 := Lib.hid (HRR.out (by omega))
      have hEE : ((redsE op kind rows != redsE op kind rows) : Bool) = false := by simp
      have HWD := Lib.hid hwide
      clear HRD HRR HP HLW hwide
      generalize redsV op kind rows = L at *
      generalize redsE op kind rows = E at *
      go_wp2_with fail
      refine (HD2.out _ (Below.refl _ _)).mono ?_
      rintro e w1 ⟨la, lc, rfl, hL, hb1⟩
      have HL := Lib.hid hL
      have HB := Lib.hid hb1
      clear hL hb1 HD2
      go_wp2_with fail
      refine (HR2.out _ HB.out).mono ?_
      rintro e w2 ⟨lb, ld, rfl, hM, hb2⟩
      have HM := Lib.hid hM
      have GL := Lib.hid (HL.out.keep hb2)
      have GB := Lib.hid (HB.out.trans (hb2.mono HB.out.size))
      clear hM hb2 HL HB HR2
      go_wp2_with fail
      refine (same_self GL.out HM.out lc ld).mono ?_
      rintro e w3 ⟨rfl, hb3⟩
      have HB := Lib.hid (GB.out.trans (hb3.mono GB.out.size))
      clear GB GL HM hb3 hEE
      by_cases hk0 : k = 0
      · have hq := HQ.out none [] 0 (vls_nil _ _) (Nat.zero_le _) (Nat.zero_le _)
        have Q1 : Hid (∀ W, Below w.heap.size w W → Calls Tryz.prog 16 #[.int .i64 op, .int .i64 kind, .slice none 0 0] W fun e w' => e = .returned (.tuple #[vA (redV op kind []), .int .i64 (redE op kind [])]) ∧ Below W.heap.size W w') := hq.1
        have Q2 : Hid (∀ W, Below w.heap.size w W → Calls Tryz.prog 17 #[.int .i64 op, .int .i64 kind, .slice none 0 0] W fun e w' => e = .returned (.tuple #[vA (redV op kind []), .int .i64 (redE op kind [])]) ∧ Below W.heap.size W w') := hq.2.1
        have Q3 : Hid (∀ W, Below w.heap.size w W → Calls Tryz.prog 18 #[.int .i64 op, .int .i64 kind, .slice none 0 0] W fun e w' => ∃ la lc, e = .returned (.tuple #[.slice la (scV op kind []).length lc, .int .i64 (scanE op kind [])]) ∧ Vls w' la (scV op kind []) ∧ Below W.heap.size W w') := hq.2.2.1
        have Q4 : Hid (∀ W, Below w.heap.size w W → Calls Tryz.prog 19 #[.int .i64 op, .int .i64 kind, .slice none 0 0] W fun e w' => ∃ la lc, e = .returned (.tuple #[.slice la (scV op kind []).length lc, .int .i64 (scanE op kind [])]) ∧ Vls w' la (scV op kind []) ∧ Below W.heap.size W w') := hq.2.2.2
        have hd0 : ¬ (0 : Int) < (k : Int) := by omega
        clear hq HQ HFI
        generalize redE op kind [] = F at *
        generalize redV op kind [] = u at *
        generalize scV op kind [] = M at *
        generalize scanE op kind [] = G at *
        obtain ⟨x, p⟩ := u
        unfold vA at Q1 Q2
        have hq := eql_selfV x p
        have hFF : ((F == F) : Bool) = true := by simp
        have hGG : ((G == G) : Bool) = true := by simp
        go_wp2_with fail
        refine (Q1.out _ HB.out).mono ?_
        rintro e w4 ⟨rfl, hb4⟩
        have H1 := Lib.hid (heap_alloc_new w4 (.cells #[.int .u64 x, .int .i64 p] 24))
        have HB4 := Lib.hid ((HB.out.trans (hb4.mono HB.out.size)).alloc (Nat.le_trans HB.out.size hb4.size) (.cells #[.int .u64 x, .int .i64 p] 24))
        have hz4 : (w4.alloc (.cells #[.int .u64 x, .int .i64 p] 24)).heap.size = w4.heap.size + 1 := by simp
        try clear hcx
        clear HB hb4 Q1
        go_wp2_with fail
        generalize w4.alloc (.cells #[.int .u64 x, .int .i64 p] 24) = X4 at *
        refine (Q2.out _ HB4.out).mono ?_
        rintro e w5 ⟨rfl, hb5⟩
        have hz5 : w4.heap.size + 1 ≤ w5.heap.size := by have := hb5.size; omega
        have H2 := Lib.hid (heap_alloc_keep w5 (.cells #[.int .u64 x, .int .i64 p] 24) _ _ (heapB hb5 H1.out))
        have H3 := Lib.hid (heap_alloc_new w5 (.cells #[.int .u64 x, .int .i64 p] 24))
        have HB5 := Lib.hid ((HB4.out.trans (hb5.mono HB4.out.size)).alloc (Nat.le_trans HB4.out.size hb5.size) (.cells #[.int .u64 x, .int .i64 p] 24))
        clear HB4 hb5 H1 Q2
        go_wp2_with fail
        generalize w5.alloc (.cells #[.int .u64 x, .int .i64 p] 24) = X5 at *
        refine (Q3.out _ HB5.out).mono ?_
        rintro e w6 ⟨lp, lq, rfl, hP, hb6⟩
        have G2 := Lib.hid (heapB hb6 H2.out)
        have G3 := Lib.hid (heapB hb6 H3.out)
        have HP := Lib.hid hP
        have HB6 := Lib.hid (HB5.out.trans (hb6.mono HB5.out.size))
        clear HB5 hb6 H2 H3 Q3 hP
        go_wp2_with fail
        refine (Q4.out _ HB6.out).mono ?_
        rintro e w7 ⟨lr, ls, rfl, hS, hb7⟩
        have H2 := Lib.hid (heapB hb7 G2.out)
        have H3 := Lib.hid (heapB hb7 G3.out)
        have HP7 := Lib.hid (HP.out.keep hb7)
        have HS := Lib.hid hS
        have HB7 := Lib.hid (HB6.out.trans (hb7.mono HB6.out.size))
        clear HB6 hb7 G2 G3 Q4 hS HP
        have x0 := cellR 0 H2.out rfl
        have x1 := cellR 1 H2.out rfl
        have y0 := cellR 0 H3.out rfl
        have y1 := cellR 1 H3.out rfl
        go_wp2_with fail
        refine (same_self HP7.out HS.out lq ls).mono ?_
        rintro e w8 ⟨rfl, hb8⟩
        have HB8 := Lib.hid (HB7.out.trans (hb8.mono HB7.out.size))
        clear HB7 hb8 HP7 HS x0 x1 y0 y1 H2 H3
        go_wp2_with fail
        refine (HW.out _).mono ?_
        rintro e w9 ⟨rfl, hb9⟩
        have HB9 := HB8.out.trans (hb9.mono HB8.out.size)
        go_wp2_with fail
        go_ret
        exact ⟨rfl, HB9⟩
      · obtain ⟨g, o, a0, c0, rfl, hc0, hcc, hv0⟩ := HFI.out (by omega)
        have hq := HQ.out a0 (rows.headD []) c0 hv0 (show wide rows ≤ 1000000 by have := HWD.out; omega) hcc
        have Q1 : Hid (∀ W, Below w.heap.size w W → Calls Tryz.prog 16 #[.int .i64 op, .int .i64 kind, .slice a0 (wide rows) c0] W fun e w' => e = .returned (.tuple #[vA (redV op kind (rows.headD [])), .int .i64 (redE op kind (rows.headD []))]) ∧ Below W.heap.size W w') := hq.1
        have Q2 : Hid (∀ W, Below w.heap.size w W → Calls Tryz.prog 17 #[.int .i64 op, .int .i64 kind, .slice a0 (wide rows) c0] W fun e w' => e = .returned (.tuple #[vA (redV op kind (rows.headD [])), .int .i64 (redE op kind (rows.headD []))]) ∧ Below W.heap.size W w') := hq.2.1
        have Q3 : Hid (∀ W, Below w.heap.size w W → Calls Tryz.prog 18 #[.int .i64 op, .int .i64 kind, .slice a0 (wide rows) c0] W fun e w' => ∃ la lc, e = .returned (.tuple #[.slice la (scV op kind (rows.headD [])).length lc, .int .i64 (scanE op kind (rows.headD []))]) ∧ Vls w' la (scV op kind (rows.headD [])) ∧ Below W.heap.size W w') := hq.2.2.1
        have Q4 : Hid (∀ W, Below w.heap.size w W → Calls Tryz.prog 19 #[.int .i64 op, .int .i64 kind, .slice a0 (wide rows) c0] W fun e w' => ∃ la lc, e = .returned (.tuple #[.slice la (scV op kind (rows.headD [])).length lc, .int .i64 (scanE op kind (rows.headD []))]) ∧ Vls w' la (scV op kind (rows.headD [])) ∧ Below W.heap.size W w') := hq.2.2.2
        have hd0 : (0 : Int) < (k : Int) := by omega
        have hdn : 0 < k := by omega
        have hcx := kcell HB.out hc0
        clear hq HQ HFI hv0 hc0
        generalize redE op kind (rows.headD []) = F at *
        generalize redV op kind (rows.headD []) = u at *
        generalize scV op kind (rows.headD []) = M at *
        generalize scanE op kind (rows.headD []) = G at *
        generalize wide rows = N at *
        obtain ⟨x, p⟩ := u
        unfold vA at Q1 Q2
        have hq := eql_selfV x p
        have hFF : ((F == F) : Bool) = true := by simp
        have hGG : ((G == G) : Bool) = true := by simp
        go_wp2_with fail
        refine (Q1.out _ HB.out).mono ?_
        rintro e w4 ⟨rfl, hb4⟩
        have H1 := Lib.hid (heap_alloc_new w4 (.cells #[.int .u64 x, .int .i64 p] 24))
        have HB4 := Lib.hid ((HB.out.trans (hb4.mono HB.out.size)).alloc (Nat.le_trans HB.out.size hb4.size) (.cells #[.int .u64 x, .int .i64 p] 24))
        have hz4 : (w4.alloc (.cells #[.int .u64 x, .int .i64 p] 24)).heap.size = w4.heap.size + 1 := by simp
        try clear hcx
        clear HB hb4 Q1
        go_wp2_with fail
        generalize w4.alloc (.cells #[.int .u64 x, .int .i64 p] 24) = X4 at *
        refine (Q2.out _ HB4.out).mono ?_
        rintro e w5 ⟨rfl, hb5⟩
        have hz5 : w4.heap.size + 1 ≤ w5.heap.size := by have := hb5.size; omega
        have H2 := Lib.hid (heap_alloc_keep w5 (.cells #[.int .u64 x, .int .i64 p] 24) _ _ (heapB hb5 H1.out))
        have H3 := Lib.hid (heap_alloc_new w5 (.cells #[.int .u64 x, .int .i64 p] 24))
        have HB5 := Lib.hid ((HB4.out.trans (hb5.mono HB4.out.size)).alloc (Nat.le_trans HB4.out.size hb5.size) (.cells #[.int .u64 x, .int .i64 p] 24))
        clear HB4 hb5 H1 Q2
        go_wp2_with fail
        generalize w5.alloc (.cells #[.int .u64 x, .int .i64 p] 24) = X5 at *
        refine (Q3.out _ HB5.out).mono ?_
        rintro e w6 ⟨lp, lq, rfl, hP, hb6⟩
        have G2 := Lib.hid (heapB hb6 H2.out)
        have G3 := Lib.hid (heapB hb6 H3.out)
        have HP := Lib.hid hP
        have HB6 := Lib.hid (HB5.out.trans (hb6.mono HB5.out.size))
        clear HB5 hb6 H2 H3 Q3 hP
        go_wp2_with fail
        refine (Q4.out _ HB6.out).mono ?_
        rintro e w7 ⟨lr, ls, rfl, hS, hb7⟩
        have H2 := Lib.hid (heapB hb7 G2.out)
        have H3 := Lib.hid (heapB hb7 G3.out)
        have HP7 := Lib.hid (HP.out.keep hb7)
        have HS := Lib.hid hS
        have HB7 := Lib.hid (HB6.out.trans (hb7.mono HB6.out.size))
        clear HB6 hb7 G2 G3 Q4 hS HP
        have x0 := cellR 0 H2.out rfl
        have x1 := cellR 1 H2.out rfl
        have y0 := cellR 0 H3.out rfl
        have y1 := cellR 1 H3.out rfl
        go_wp2_with fail
        refine (same_self HP7.out HS.out lq ls).mono ?_
        rintro e w8 ⟨rfl, hb8⟩
        have HB8 := Lib.hid (HB7.out.trans (hb8.mono HB7.out.size))
        clear HB7 hb8 HP7 HS x0 x1 y0 y1 H2 H3
        go_wp2_with fail
        refine (HW.out _).mono ?_
        rintro e w9 ⟨rfl, hb9⟩
        have HB9 := HB8.out.trans (hb9.mono HB8.out.size)
        go_wp2_with fail
        go_ret
        exact ⟨rfl, HB9⟩
end Go.Proofs.YtjcdnaandbockaaGreat
