import Derived.Test.YtoloiingodigpaaSM
import Derived.Deep.DeepCutAuto
import Derived.BigQuiet
namespace Go.Proofs.Ytoloiingodigpaa
open Go.RowKit Go.Shelf Go.Lib
attribute [local go_sem] Oper.semAt_some litE
set_option maxRecDepth 100000
set_option maxHeartbeats 16000000

def colF (cs : List Int) (i : Nat) : Int := if 0 < cs.length ∧ 0 < cs.getD (i % cs.length) 0 % 5 then cs.getD (i % cs.length) 0 % 5 else -2
def keyF (ks : List Int) (i : Nat) : Int := if 0 < ks.length then ks.getD (i % ks.length) 0 - 100 else 0
def colG (cs : List Int) (n k : Nat) : List Int := (List.range k).map (colF cs) ++ List.replicate (n - k) 0
def keyG (ks : List Int) (n k : Nat) : List Int := (List.range k).map (keyF ks) ++ List.replicate (n - k) 0
theorem gen_len (f : Nat → Int) (n k : Nat) (h : k ≤ n) : ((List.range k).map f ++ List.replicate (n - k) 0).length = n := by simp; omega
theorem gen_set (f : Nat → Int) (n k : Nat) (h : k < n) : ((List.range k).map f ++ List.replicate (n - k) 0).set k (f k) = (List.range (k + 1)).map f ++ List.replicate (n - (k + 1)) 0 := by
  have e : n - k = (n - (k + 1)) + 1 := by omega
  rw [e, List.replicate_succ, List.set_append_right _ _ (by simp)]
  simp [List.range_succ]

theorem rows_S0 {w0 w : World} {B bc bk : Nat} {l1 l2 : List Int} (h1 : RowAt w bc l1) (h2 : RowAt w bk l2) (hB : Below B w0 w) (hc : B ≤ bc) (hk : B ≤ bk) (hne : bc ≠ bk) (i : Nat) (x y : Int) :
    RowAt ((w.setCell ⟨bc, i, none⟩ (.int .i64 x)).setCell ⟨bk, i, none⟩ (.int .i64 y)) bc (l1.set i x) ∧ RowAt ((w.setCell ⟨bc, i, none⟩ (.int .i64 x)).setCell ⟨bk, i, none⟩ (.int .i64 y)) bk (l2.set i y) ∧ Below B w0 ((w.setCell ⟨bc, i, none⟩ (.int .i64 x)).setCell ⟨bk, i, none⟩ (.int .i64 y)) :=
  ⟨(h1.set i x).set_other bk i _ hne, (h2.set_other bc i _ hne.symm).set i y, (hB.setCell hc _).setCell hk _⟩
theorem rows_S1 {w0 w : World} {B bc bk : Nat} {l1 l2 : List Int} (i : Nat) {y : Int} (h : RowAt w bc l1 ∧ RowAt w bk (l2.set i y) ∧ Below B w0 w) (hk : B ≤ bk) (hne : bc ≠ bk) (z : Int) :
    RowAt (w.setCell ⟨bk, i, none⟩ (.int .i64 z)) bc l1 ∧ RowAt (w.setCell ⟨bk, i, none⟩ (.int .i64 z)) bk (l2.set i z) ∧ Below B w0 (w.setCell ⟨bk, i, none⟩ (.int .i64 z)) :=
  ⟨h.1.set_other bk i _ hne, by have := h.2.1.set i z; rwa [List.set_set] at this, h.2.2.setCell hk _⟩
theorem rows_S2 {w0 w : World} {B bc bk : Nat} {l1 l2 : List Int} (i : Nat) {x : Int} (h : RowAt w bc (l1.set i x) ∧ RowAt w bk l2 ∧ Below B w0 w) (hc : B ≤ bc) (hne : bc ≠ bk) (z : Int) :
    RowAt (w.setCell ⟨bc, i, none⟩ (.int .i64 z)) bc (l1.set i z) ∧ RowAt (w.setCell ⟨bc, i, none⟩ (.int .i64 z)) bk l2 ∧ Below B w0 (w.setCell ⟨bc, i, none⟩ (.int .i64 z)) :=
  ⟨by have := h.1.set i z; rwa [List.set_set] at this, h.2.1.set_other bc i _ hne.symm, h.2.2.setCell hc _⟩

theorem RowAt.get {w : World} {b : Nat} {l : List Int} (h : RowAt w b l) (j : Nat) (hj : j < l.length) : w.cell? ⟨b, j, none⟩ = some (.int .i64 (l.getD j 0)) := by
  rw [h.cell j hj]; simp [List.getD, hj]
theorem RowAt.keep' {w0 w : World} {b : Nat} {l : List Int} (h : RowAt w0 b l) (hb : Below w0.heap.size w0 w) : RowAt w b l := h.keep hb

theorem CommSplits_walk (n : Int) (hn : (Lit.int .u8 n).wf = true) (bf : Int) (hbf : (Lit.int .u8 bf).wf = true) {w : World} {a b : Option Addr} {cs ks : List Int}
    (h0 : U8s w a cs) (c0 : Nat) (_ : cs.length ≤ c0) (_ : a = none → c0 = 0) (_ : True)
    (h1 : U8s w b ks) (c1 : Nat) (_ : ks.length ≤ c1) (_ : b = none → c1 = 0) (_ : True) :
    Calls Try.prog 10 #[.int .u8 n, .int .u8 bf, .slice a cs.length c0, .slice b ks.length c1] w fun e w' => e = .returned (.bool true) ∧ Below w.heap.size w w' := by
  by_cases g0 : 64 < cs.length
  · have e0 : (64 : Int) < (cs.length : Int) := by omega
    clear h0 h1
    go_enter Try.func10, Try.ntmps10
    go_wp2_with fail
    refine (works_true w).mono ?_
    rintro e w9 ⟨rfl, b9⟩
    go_wp2_with fail
    go_ret
    exact ⟨rfl, b9⟩
  have e0 : ¬ (64 : Int) < (cs.length : Int) := by omega
  by_cases g1 : 64 < ks.length
  · have e1 : (64 : Int) < (ks.length : Int) := by omega
    clear h0 h1
    go_enter Try.func10, Try.ntmps10
    go_wp2_with fail
    refine (works_true w).mono ?_
    rintro e w9 ⟨rfl, b9⟩
    go_wp2_with fail
    go_ret
    exact ⟨rfl, b9⟩
  have e1 : ¬ (64 : Int) < (ks.length : Int) := by omega
  have hnb : 0 ≤ n ∧ n < 256 := by
    simp only [Lit.wf, Bool.and_eq_true, decide_eq_true_eq] at hn
    have h1 : IntKind.u8.min = 0 := rfl
    have h2 : IntKind.u8.max = 255 := rfl
    omega
  have hbb : 0 ≤ bf ∧ bf < 256 := by
    simp only [Lit.wf, Bool.and_eq_true, decide_eq_true_eq] at hbf
    have h1 : IntKind.u8.min = 0 := rfl
    have h2 : IntKind.u8.max = 255 := rfl
    omega
  obtain ⟨n, rfl⟩ := Int.eq_ofNat_of_zero_le hnb.1
  obtain ⟨bf, rfl⟩ := Int.eq_ofNat_of_zero_le hbb.1
  obtain ⟨hnb0, hnb⟩ := hnb
  obtain ⟨hbb0, hbb⟩ := hbb
  clear hn hbf
  obtain ⟨N, hN⟩ : ∃ N : Nat, N = 1 + n % 64 := ⟨_, rfl⟩
  have hN1 : 1 ≤ N := by omega
  have hN2 : N ≤ 64 := by omega
  have hNe : Hid ((1 : Int) + (n : Int) % 64 = N) := by show _ = _; omega
  have hNew := New_ok N hN1 hN2 w
  rw [← hNe.out] at hNew
  replace hNew := Lib.hid hNew
  have H0 := Lib.hid h0
  have H1 := Lib.hid h1
  clear h0 h1
  have mixed : Try.prog.follows Departure.mixedOrders = true := by kernel_rfl
  go_enter Try.func10, Try.ntmps10
  go_wp2_with (refine hNew.out.mono ?_; clear hNew; rintro e W0 ⟨sp, m, rfl, hS, hB, hm⟩)
  rw [hNe.out]
  have HS := Lib.hid hS
  have HB := Lib.hid hB
  have HM := Lib.hid hm
  clear hS hB hm
  clear hN hNe e0 e1
  obtain ⟨d, hd⟩ : ∃ d : Nat, d = bf % 10 := ⟨_, rfl⟩
  have hd9 : d ≤ 9 := by omega
  have hde : (bf : Int) % 10 = d := by omega
  clear hd
  rw [hde]
  clear hde hbb0 hbb
  go_loopw [53] (fun i wr => ∃ k : Nat, k ≤ d ∧ i = .int .i64 k ∧ Hid (SpaceAt NoB wr sp m (List.replicate (k + 1) (iotaL N))) ∧ Hid (Below w.heap.size w wr)) (fun i _ => d - (intOf i).toNat)
  case atStart => exact ⟨0, Nat.zero_le _, rfl, HS, HB⟩
  case round =>
    obtain ⟨k, hk, rfl, hS, hB⟩ := hrel
    by_cases hkd : k < d
    · have hdup := Dup_ok hS.out (by simp) (by simp; omega) 0 (iotaL N) (by simp) (fun e => by have := congrArg List.length e; simp at this; omega)
      rw [List.length_replicate] at hdup
      have HDUP := Lib.hid hdup
      clear hdup
      go_wp2_with (refine HDUP.out.mono ?_; clear HDUP; rintro e w1 ⟨rfl, h1, h2, h3⟩)
      have H1' : Hid (SpaceAt NoB w1 sp m (List.replicate (k + 1 + 1) (iotaL N))) := by show SpaceAt _ _ _ _ _; rw [List.replicate_succ']; exact h1
      have H3 : Hid (Below w.heap.size w w1) := hB.out.trans (h3 _ HM.out hB.out.size)
      clear h1 h2 h3 hS hB
      as_aux_lemma =>
        go_wp2_with fail
        go_roundw
        case rel => exact ⟨k + 1, by omega, by go_num, H1', H3⟩
        case measure => simp [intOf]; omega
    · have hkd' : k = d := by omega
      subst hkd'
      have HCON := Lib.hid (Contexts_ok hS.out (by simp; omega))
      go_wp2_with (refine HCON.out.mono ?_; clear HCON; rintro e w1 ⟨vo, rfl, h1, h2⟩)
      rw [List.length_replicate] at h1
      obtain ⟨ao, co, rfl, hO⟩ := h1.ints
      have HO := Lib.hid hO
      have HS1 := Lib.hid (hS.out.keep h2)
      have HB1 := Lib.hid (hB.out.trans (h2.mono hB.out.size))
      clear h1 h2 hO hS hB HS HB
      go_cut [15, 16] (fun s15 s16 wx => ∃ bc bk : Nat, s15 = .slice (some ⟨bc, 0, none⟩) N N ∧ s16 = .slice (some ⟨bk, 0, none⟩) N N ∧ w1.heap.size ≤ bc ∧ w1.heap.size ≤ bk ∧ bc ≠ bk ∧ Hid (RowAt wx bc (List.replicate N 0)) ∧ Hid (RowAt wx bk (List.replicate N 0)) ∧ Hid (Below w1.heap.size w1 wx))
      case first =>
        have hmk : (Instr.makeSlice 22 (.int .i64 N) (.int .i64 N)).run Try.prog w1.drew = .ok (.slice (some ⟨w1.heap.size, 0, none⟩) N N) (w1.alloc (.cells (rowA (List.replicate N 0)) 3)).drew := make_ints N (by omega) w1.drew
        have hmk2 : (Instr.makeSlice 22 (.int .i64 N) (.int .i64 N)).run Try.prog (w1.alloc (.cells (rowA (List.replicate N 0)) 3)).drew = .ok (.slice (some ⟨w1.heap.size + 1, 0, none⟩) N N) ((w1.alloc (.cells (rowA (List.replicate N 0)) 3)).alloc (.cells (rowA (List.replicate N 0)) 3)).drew := by
          have := make_ints N (by omega) (w1.alloc (.cells (rowA (List.replicate N 0)) 3)).drew
          rwa [show (w1.alloc (.cells (rowA (List.replicate N 0)) 3)).drew.heap.size = w1.heap.size + 1 by show (w1.alloc (.cells (rowA (List.replicate N 0)) 3)).heap.size = _; simp] at this
        have q1 : RowAt ((w1.alloc (.cells (rowA (List.replicate N 0)) 3)).alloc (.cells (rowA (List.replicate N 0)) 3)).drew w1.heap.size (List.replicate N 0) := RowAt.alloc (heap_alloc_new w1 _) _
        have q2 : RowAt ((w1.alloc (.cells (rowA (List.replicate N 0)) 3)).alloc (.cells (rowA (List.replicate N 0)) 3)).drew (w1.heap.size + 1) (List.replicate N 0) := by
          have := heap_alloc_new (w1.alloc (.cells (rowA (List.replicate N 0)) 3)) (.cells (rowA (List.replicate N 0)) 3)
          rwa [show (w1.alloc (.cells (rowA (List.replicate N 0)) 3)).heap.size = w1.heap.size + 1 by simp] at this
        have q3 : Below w1.heap.size w1 ((w1.alloc (.cells (rowA (List.replicate N 0)) 3)).alloc (.cells (rowA (List.replicate N 0)) 3)).drew := (((Below.refl _ w1).alloc (Nat.le_refl _) _).alloc (by simp) _).drew
        have Q1 := Lib.hid q1
        have Q2 := Lib.hid q2
        have Q3 := Lib.hid q3
        clear q1 q2 q3
        go_region
        all_goals (
          go_wp2_with fail
          go_meet
          first
            | exact ⟨w1.heap.size, w1.heap.size + 1, rfl, rfl, by omega, by omega, by omega, Q1, Q2, Q3⟩
            | exact ⟨w1.heap.size + 1, w1.heap.size, rfl, rfl, by omega, by omega, by omega, Q2, Q1, Q3⟩)
      case rest =>
        obtain ⟨bc, bk, rfl, rfl, hbc, hbk, hne, R1, R2, HBx⟩ := hcut
        generalize wc = W2 at *
        go_wp2_with fail
        clear hkd hk
        go_loopw [17, 70] (fun _ i wr => ∃ k : Nat, k ≤ N ∧ i = .int .i64 k ∧ Hid (RowAt wr bc (colG cs N k)) ∧ Hid (RowAt wr bk (keyG ks N k)) ∧ Hid (Below w1.heap.size w1 wr)) (fun _ i _ => N - (intOf i).toNat)
        case atStart => exact ⟨0, Nat.zero_le _, rfl, by show RowAt _ _ _; simpa [colG] using R1.out, by show RowAt _ _ _; simpa [keyG] using R2.out, HBx⟩
        case round =>
          obtain ⟨i, hi, rfl, hR1, hR2, hBi⟩ := hrel
          by_cases hiN : i < N
          · have l1 : (colG cs N i).length = N := gen_len _ _ _ hi
            have l2 : (keyG ks N i).length = N := gen_len _ _ _ hi
            have d1 := hR1.out.cell i (by omega)
            have d2 := hR2.out.cell i (by omega)
            have f1 := hR1.out.open_ i
            have f2 := hR2.out.open_ i
            have hlt1 := hR1.out.lt
            have hlt2 := hR2.out.lt
            have E1 : Hid (∀ v, colF cs i = v → (colG cs N i).set i v = colG cs N (i + 1)) := fun v hv => by rw [← hv]; exact gen_set _ _ _ hiN
            have E2 : Hid (∀ v, keyF ks i = v → (keyG ks N i).set i v = keyG ks N (i + 1)) := fun v hv => by rw [← hv]; exact gen_set _ _ _ hiN
            generalize (colG cs N i)[i]'_ = z1 at *
            generalize (keyG ks N i)[i]'_ = z2 at *
            have HKW : Hid (Below w.heap.size w wr) := HB1.out.trans (hBi.out.mono HB1.out.size)
            have hsz1 : w.heap.size ≤ w1.heap.size := HB1.out.size
            have HC : Hid (cs.length = 0 ∧ colF cs i = -2 ∨ ∃ (gb off j : Nat) (y : Int), 0 < cs.length ∧ a = some ⟨gb, off, none⟩ ∧ j < cs.length ∧ (i : Int) % (cs.length : Int) = j ∧ 0 ≤ y ∧ y < 256 ∧ gb < w.heap.size ∧ wr.cell? ⟨gb, off + j, none⟩ = some (.int .u8 y) ∧ (y % 5 = 0 ∧ colF cs i = -2 ∨ 0 < y % 5 ∧ colF cs i = y % 5)) := by
              show _ ∨ _
              by_cases hz : cs.length = 0
              · exact .inl ⟨hz, by unfold colF; rw [if_neg (by omega)]⟩
              · right
                obtain ⟨gb, off, e, hc⟩ := H0.out.at_ (by intro e; rw [e] at hz; exact hz rfl)
                have hj : i % cs.length < cs.length := Nat.mod_lt _ (by omega)
                have hc1 := hc (i % cs.length) hj
                have hgb := block_lt_of_cell hc1
                have e1 : cs.getD (i % cs.length) 0 = cs[i % cs.length] := by simp [List.getD, hj]
                have hby := H0.out.byte _ (List.getElem_mem hj)
                refine ⟨gb, off, i % cs.length, cs[i % cs.length], by omega, e, hj, (Int.natCast_emod _ _).symm, hby.1, hby.2, hgb, (HKW.out.cell (p := ⟨gb, off + i % cs.length, none⟩) hgb).trans hc1, ?_⟩
                unfold colF
                rw [e1]
                by_cases hp : 0 < cs[i % cs.length] % 5
                · exact .inr ⟨hp, by rw [if_pos ⟨by omega, hp⟩]⟩
                · exact .inl ⟨by omega, by rw [if_neg (fun h => hp h.2)]⟩
            have HK : Hid (ks.length = 0 ∧ keyF ks i = 0 ∨ ∃ (gb off j : Nat) (y : Int), 0 < ks.length ∧ b = some ⟨gb, off, none⟩ ∧ j < ks.length ∧ (i : Int) % (ks.length : Int) = j ∧ 0 ≤ y ∧ y < 256 ∧ gb < w.heap.size ∧ wr.cell? ⟨gb, off + j, none⟩ = some (.int .u8 y) ∧ keyF ks i = y - 100) := by
              show _ ∨ _
              by_cases hz : ks.length = 0
              · exact .inl ⟨hz, by unfold keyF; rw [if_neg (by omega)]⟩
              · right
                obtain ⟨gb, off, e, hc⟩ := H1.out.at_ (by intro e; rw [e] at hz; exact hz rfl)
                have hj : i % ks.length < ks.length := Nat.mod_lt _ (by omega)
                have hc1 := hc (i % ks.length) hj
                have hgb := block_lt_of_cell hc1
                have e1 : ks.getD (i % ks.length) 0 = ks[i % ks.length] := by simp [List.getD, hj]
                have hby := H1.out.byte _ (List.getElem_mem hj)
                refine ⟨gb, off, i % ks.length, ks[i % ks.length], by omega, e, hj, (Int.natCast_emod _ _).symm, hby.1, hby.2, hgb, (HKW.out.cell (p := ⟨gb, off + i % ks.length, none⟩) hgb).trans hc1, ?_⟩
                unfold keyF
                rw [if_pos (by omega), e1]
            clear HKW
            rcases HC.out with ⟨hcz, hcv⟩ | ⟨gb, off, j, y, hcp, rfl, hj, hje, hy0, hy1, hgb, hcy, hyv⟩ <;> rcases HK.out with ⟨hkz, hkv⟩ | ⟨gb2, off2, j2, y2, hkp, rfl, hj2, hje2, hy02, hy12, hgb2, hcy2, hkv⟩
            all_goals (try (rcases hyv with ⟨hyz, hcv⟩ | ⟨hyz, hcv⟩))
            all_goals (
              have HCV := Lib.hid hcv
              have HKV := Lib.hid hkv
              clear hcv hkv HC HK)
            · as_aux_lemma =>
                go_wp2_with fail
                have q := rows_S0 hR1.out hR2.out hBi.out hbc hbk hne i (-2) 0
                rw [E1.out _ HCV.out, E2.out _ HKV.out] at q
                have q1 := Lib.hid q.1
                have q2 := Lib.hid q.2.1
                have q3 := Lib.hid q.2.2
                clear q
                go_roundw
                case rel => exact ⟨i + 1, by omega, by go_num, q1, q2, q3⟩
                case measure => simp [intOf]; omega
            · as_aux_lemma =>
                go_wp2_with fail
                have q := rows_S0 hR1.out hR2.out hBi.out hbc hbk hne i (-2) 0
                replace q := rows_S1 i q hbk hne (y2 - 100)
                rw [E1.out _ HCV.out, E2.out _ HKV.out] at q
                have q1 := Lib.hid q.1
                have q2 := Lib.hid q.2.1
                have q3 := Lib.hid q.2.2
                clear q
                go_roundw
                case rel => exact ⟨i + 1, by omega, by go_num, q1, q2, q3⟩
                case measure => simp [intOf]; omega
            · as_aux_lemma =>
                go_wp2_with fail
                have q := rows_S0 hR1.out hR2.out hBi.out hbc hbk hne i (-2) 0
                rw [E1.out _ HCV.out, E2.out _ HKV.out] at q
                have q1 := Lib.hid q.1
                have q2 := Lib.hid q.2.1
                have q3 := Lib.hid q.2.2
                clear q
                go_roundw
                case rel => exact ⟨i + 1, by omega, by go_num, q1, q2, q3⟩
                case measure => simp [intOf]; omega
            · as_aux_lemma =>
                go_wp2_with fail
                have q := rows_S0 hR1.out hR2.out hBi.out hbc hbk hne i (-2) 0
                replace q := rows_S2 i q hbc hne (y % 5)
                rw [E1.out _ HCV.out, E2.out _ HKV.out] at q
                have q1 := Lib.hid q.1
                have q2 := Lib.hid q.2.1
                have q3 := Lib.hid q.2.2
                clear q
                go_roundw
                case rel => exact ⟨i + 1, by omega, by go_num, q1, q2, q3⟩
                case measure => simp [intOf]; omega
            · as_aux_lemma =>
                go_wp2_with fail
                have q := rows_S0 hR1.out hR2.out hBi.out hbc hbk hne i (-2) 0
                replace q := rows_S1 i q hbk hne (y2 - 100)
                rw [E1.out _ HCV.out, E2.out _ HKV.out] at q
                have q1 := Lib.hid q.1
                have q2 := Lib.hid q.2.1
                have q3 := Lib.hid q.2.2
                clear q
                go_roundw
                case rel => exact ⟨i + 1, by omega, by go_num, q1, q2, q3⟩
                case measure => simp [intOf]; omega
            · as_aux_lemma =>
                go_wp2_with fail
                have q := rows_S0 hR1.out hR2.out hBi.out hbc hbk hne i (-2) 0
                replace q := rows_S2 i q hbc hne (y % 5)
                replace q := rows_S1 i q hbk hne (y2 - 100)
                rw [E1.out _ HCV.out, E2.out _ HKV.out] at q
                have q1 := Lib.hid q.1
                have q2 := Lib.hid q.2.1
                have q3 := Lib.hid q.2.2
                clear q
                go_roundw
                case rel => exact ⟨i + 1, by omega, by go_num, q1, q2, q3⟩
                case measure => simp [intOf]; omega
          · have hiN' : i = N := by omega
            subst hiN'
            have hC0 := hR1.out.ints (by rw [show (colG cs i i).length = i from gen_len _ _ _ hi]; omega)
            have hK0 := hR2.out.ints (by rw [show (keyG ks i i).length = i from gen_len _ _ _ hi]; omega)
            obtain ⟨C, hCe⟩ : ∃ C, C = colG cs i i := ⟨_, rfl⟩
            obtain ⟨Ks, hKe⟩ : ∃ Ks, Ks = keyG ks i i := ⟨_, rfl⟩
            have hCl : C.length = i := by rw [hCe]; exact gen_len _ _ _ hi
            have hKl : Ks.length = i := by rw [hKe]; exact gen_len _ _ _ hi
            have hCv : ∀ x ∈ C, x = -2 ∨ (1 ≤ x ∧ x ≤ 4) := by
              rw [hCe]
              intro x hx
              simp [colG] at hx
              obtain ⟨k, _, rfl⟩ := hx
              unfold colF
              split <;> omega
            rw [← hCe] at hC0
            rw [← hKe] at hK0
            have hsp := Split_all (HS1.out.keep hBi.out) 0 (iotaL i) (by simp) (by simp) hC0 hK0 i i (by simpa using hCl) (by simpa using hKl) (by simp; omega) (by simp; omega) (fun x hx => by rcases hCv x hx with h | h <;> omega) (by have := colorsOf_len C hCv; simp; omega)
            rw [hCl, hKl, iotaL_len] at hsp
            have HSP := Lib.hid hsp
            have HCl := Lib.hid hCl
            have HCi := Lib.hid hC0
            have HKi := Lib.hid hK0
            clear hsp hCl hC0 hK0 hCv
            go_wp2_with (refine HSP.out.mono ?_; clear HSP; rintro e w3 ⟨go, O, rfl, ho1, ho2, hgo, hM, hS3, hK3, hU3⟩)
            have HSAY := Lib.hid (split_says C O (fun x => Ks.getD x.toNat 0) i (k + 1) HCl.out ho2 ho1 hN1 _ rfl)
            have HM3 : Hid (RowAt w3 go (splitG C O (iotaL i) (List.replicate (k + 1) (iotaL i))).2) := hM
            have HS3 := Lib.hid hS3
            generalize splitG C O (iotaL i) (List.replicate (k + 1) (iotaL i)) = R at *
            obtain ⟨G, M⟩ := R
            have HO3 : Hid (Ints w3 ao (iotaL (k + 1))) := (HO.out.keep hBi.out).keepP hK3
            have HC3 : Hid (RowAt w3 bc C) := KeepP.row (by rw [hCe]; exact hR1.out) hK3 (fun x => x)
            have HK3 : Hid (RowAt w3 bk Ks) := KeepP.row (by rw [hKe]; exact hR2.out) hK3 (fun x => x)
            have HMl : Hid (M.length = i) := HSAY.out.len
            have HM4 : Hid (RowAt w3 go M) := HM3.out
            have HKl : Hid (Ks.length = i) := hKl
            have HB3 : Hid (Below w.heap.size w w3) := (HB1.out.trans (hBi.out.mono HB1.out.size)).trans (hU3 _ HM.out (Nat.le_trans HB1.out.size hBi.out.size))
            have HG3 : Hid (SpaceAt NoB w3 sp m G) := HS3.out
            have HOLD : Hid (∀ j, j < k + 1 → G[j]? = some (iotaL i)) := HSAY.out.old
            have HONE : Hid (∀ t, t < i → (M.getD t 0 = -2 ∧ C.getD t 0 = -2) ∨
    (C.getD t 0 ≠ -2 ∧ ∃ (x : Nat) (g : List Int), M.getD t 0 = x ∧ k + 1 ≤ x ∧ G[x]? = some g ∧ (t : Int) ∈ g ∧
      (∀ p ∈ g, 0 ≤ p ∧ p < i ∧ M.getD p.toNat 0 = x ∧ C.getD p.toNat 0 = C.getD t 0) ∧
      (∀ j, j + 1 < g.length → LexLt (fun x => Ks.getD x.toNat 0) (g.getD j 0) (g.getD (j + 1) 0)) ∧
      (∀ p, p < i → ((C.getD p 0 = C.getD t 0) ↔ (M.getD p 0 = x))) ∧ (∀ p : Nat, p < i → C.getD p 0 = C.getD t 0 → (p : Int) ∈ g))) := HSAY.out.one
            clear ho1 ho2 hgo hM hS3 hK3 hU3 HM3 hR1 hR2 hBi HS1 HB1 HO HCi HKi R1 R2 HBx HM H0 H1 hCe hKe hKl HSAY HS3 hbc hbk hne
            go_wp2_with fail
            go_loopw [19, 20, 138] (fun _ _ s wr => ∃ t : Nat, t ≤ i ∧ s = .int .i64 t ∧ Hid (Below w3.heap.size w3 wr)) (fun _ _ s _ => i - (intOf s).toNat)
            case atStart => exact ⟨0, Nat.zero_le _, rfl, Below.refl _ _⟩
            case round =>
              obtain ⟨t, ht, rfl, hBt⟩ := hrel
              by_cases hti : t < i
              · have d1 := (HM4.out.keep hBt.out).get t (by have := HMl.out; omega)
                have d2 := (HC3.out.keep hBt.out).get t (by have := HCl.out; omega)
                rcases HONE.out t hti with ⟨e1, e2⟩ | ⟨e2, x, g, e1, hkx, hG, hmem, hin, hord, hiff, hall⟩
                · rw [e1] at d1
                  rw [e2] at d2
                  clear e1 e2
                  as_aux_lemma =>
                    go_wp2_with fail
                    go_roundw
                    case rel => exact ⟨t + 1, by omega, by go_num, hBt⟩
                    case measure => simp [intOf]; omega
                · rw [e1] at d1
                  obtain ⟨ct, hct⟩ : ∃ ct, ct = C.getD t 0 := ⟨_, rfl⟩
                  rw [← hct] at d2 e2
                  have hb1 : ((x : Int) == -2) = false := beq_eq_false_iff_ne.2 (by omega)
                  have hb2 : (ct == -2) = false := beq_eq_false_iff_ne.2 e2
                  have hmo := member_any (HO3.out.keep hBt.out) co (x : Int)
                  rw [iotaL_len, decide_eq_false (fun h => by have := iotaL_in _ _ h; omega)] at hmo
                  have HMO := Lib.hid hmo
                  have HGR := Lib.hid (Group_ok (HG3.out.keep hBt.out) x g hG)
                  have HIN := Lib.hid hin; have HORD := Lib.hid hord; have HIFF := Lib.hid hiff; have HALL := Lib.hid hall; have HMEM := Lib.hid hmem; have HCT := Lib.hid hct
                  clear hmo hG hin hord hiff hall hmem hct e1 e2 hkx
                  go_wp2_with (refine HMO.out.mono ?_; clear HMO; rintro e w4 ⟨rfl, rfl⟩)
                  go_wp2_with (refine HGR.out.mono ?_; clear HGR; rintro e w4 ⟨vg, rfl, hng, hb4⟩)
                  obtain ⟨ag, cg, rfl, hIg⟩ := hng.ints
                  have HIg := Lib.hid hIg
                  have HB4 := Lib.hid (hBt.out.trans (hb4.mono hBt.out.size))
                  have hmg := member_any hIg cg (t : Int)
                  rw [decide_eq_true HMEM.out] at hmg
                  have HMG := Lib.hid hmg
                  clear hng hb4 hIg hmg d1 d2 hBt hb1
                  have hgl := HIg.out.len
                  go_wp2_with (refine HMG.out.mono ?_; clear HMG; rintro e w5 ⟨rfl, rfl⟩)
                  go_wp2_with fail
                  clear hb2
                  go_loopw [23, 24, 178] (fun _ _ s wr => ∃ q : Nat, q ≤ g.length ∧ s = .int .i64 q ∧ Hid (Below w4.heap.size w4 wr)) (fun _ _ s _ => g.length - (intOf s).toNat)
                  case atStart => exact ⟨0, Nat.zero_le _, rfl, Below.refl _ _⟩
                  case round =>
                    obtain ⟨q, hq, rfl, hBq⟩ := hrel
                    have HBW : Hid (Below w3.heap.size w3 wr) := HB4.out.trans (hBq.out.mono HB4.out.size)
                    by_cases hql : q < g.length
                    · obtain ⟨gb, go2, eag, hcg⟩ := (HIg.out.keep hBq.out).at_ (ne_nil_of_lt hql)
                      subst eag
                      have c0' := hcg q hql
                      have hpin := HIN.out g[q] (List.getElem_mem hql)
                      have hlexq : ∀ q', q = q' + 1 → LexLt (fun x => Ks.getD x.toNat 0) (g.getD q' 0) (g.getD q 0) := fun q' e => by subst e; exact HORD.out q' hql
                      have eq1 : g.getD q 0 = g[q] := by simp [List.getD, hql]
                      obtain ⟨p, hp⟩ : ∃ p, p = g[q] := ⟨_, rfl⟩
                      rw [eq1] at hlexq
                      rw [← hp] at c0' hpin hlexq
                      obtain ⟨hp0, hp1, hpM, hpC⟩ := hpin
                      obtain ⟨pn, rfl⟩ := Int.eq_ofNat_of_zero_le hp0
                      rw [Int.toNat_natCast] at hpM hpC
                      have hpi : pn < i := by omega
                      have hpl : decide ((pn : Int) < 0) = false := decide_eq_false (by omega)
                      have hpg : decide (i ≤ pn) = false := decide_eq_false (by omega)
                      have hpg2 : decide ((i : Int) ≤ (pn : Int)) = false := decide_eq_false (by omega)
                      have d1 := (HM4.out.keep HBW.out).get pn (by have := HMl.out; omega)
                      have d2 := (HC3.out.keep HBW.out).get pn (by have := HCl.out; omega)
                      have d3 := (HC3.out.keep HBW.out).get t (by have := HCl.out; omega)
                      have d4 := (HK3.out.keep HBW.out).get pn (by have := HKl.out; omega)
                      rw [hpM] at d1
                      rw [hpC] at d2
                      rw [← HCT.out] at d2 d3
                      by_cases hq0 : q = 0
                      · subst hq0
                        simp only [Nat.add_zero] at c0'
                        have hj0 : decide ((0 : Int) < 0) = false := rfl
                        have hj1 : decide ((0 : Nat) < 0) = false := rfl
                        have hj2 : decide ((0 : Int) < ((0 : Nat) : Int)) = false := rfl
                        clear hcg hlexq hp eq1 hpM hpC
                        go_tidy
                        as_aux_lemma =>
                          go_wp2_with fail
                          simp only [List.append_eq, List.cons_append, List.nil_append]
                          go_big_quiet (fail)
                          go_wp2_with fail
                          go_roundw
                          case rel => exact ⟨0 + 1, by omega, by go_num, below_drewN hBq.out _⟩
                          case measure => simp [intOf]; omega
                      · obtain ⟨q', rfl⟩ : ∃ q', q = q' + 1 := ⟨q - 1, by omega⟩
                        have c1' := hcg q' (by omega)
                        have hrin := HIN.out g[q'] (List.getElem_mem (by omega))
                        have hlx := hlexq q' rfl
                        have eq2 : g.getD q' 0 = g[q'] := by simp [List.getD, show q' < g.length by omega]
                        rw [eq2] at hlx
                        obtain ⟨r, hr⟩ : ∃ r, r = g[q'] := ⟨_, rfl⟩
                        rw [← hr] at c1' hrin hlx
                        obtain ⟨hr0, hr1, -, -⟩ := hrin
                        obtain ⟨rn, rfl⟩ := Int.eq_ofNat_of_zero_le hr0
                        have hri : rn < i := by omega
                        have d5 := (HK3.out.keep HBW.out).get rn (by have := HKl.out; omega)
                        unfold LexLt at hlx
                        simp only [Int.toNat_natCast] at hlx
                        generalize Ks.getD rn 0 = kr at *
                        generalize Ks.getD pn 0 = kp at *
                        clear hcg hlexq hp eq1 eq2 hr hpM hpC
                        have ea : (((q' + 1 : Nat) : Int) - 1).toNat = q' := by omega
                        have pa : (0 : Int) ≤ ((q' + 1 : Nat) : Int) - 1 := by omega
                        have ra : IntKind.i64.wrap (((q' + 1 : Nat) : Int) - 1) = ((q' + 1 : Nat) : Int) - 1 := by rw [IntKind.wrap_i64]; omega
                        have ba : ((q' + 1 : Nat) : Int) - 1 < (g.length : Int) := by omega
                        have hj0 : decide ((0 : Int) < ((q' + 1 : Nat) : Int)) = true := decide_eq_true (by omega)
                        have hj1 : decide (0 < q' + 1) = true := decide_eq_true (by omega)
                        have hj2 : decide ((0 : Int) < (q' : Int) + 1) = true := decide_eq_true (by omega)
                        rcases hlx with hlx | ⟨rfl, hlx⟩
                        all_goals go_tidy
                        · have hn1 : decide (kp < kr) = false := decide_eq_false (by omega)
                          have hn2 : (kr == kp) = false := beq_eq_false_iff_ne.2 (by omega)
                          as_aux_lemma =>
                            go_wp2_with fail
                            simp only [List.append_eq, List.cons_append, List.nil_append]
                            go_big_quiet (fail)
                            go_wp2_with fail
                            go_roundw
                            case rel => exact ⟨q' + 1 + 1, by omega, by go_num, below_drewN hBq.out _⟩
                            case measure => simp [intOf]; omega
                        · have hn4 : decide (pn ≤ rn) = false := decide_eq_false (by omega)
                          have hn5 : decide (kr < kr) = false := decide_eq_false (by omega)
                          have hn3 : decide ((pn : Int) ≤ (rn : Int)) = false := decide_eq_false (by omega)
                          as_aux_lemma =>
                            go_wp2_with fail
                            simp only [List.append_eq, List.cons_append, List.nil_append]
                            go_big_quiet (fail)
                            go_wp2_with fail
                            go_roundw
                            case rel => exact ⟨q' + 1 + 1, by omega, by go_num, below_drewN hBq.out _⟩
                            case measure => simp [intOf]; omega
                    · go_wp2_with fail
                      clear hq hql
                      obtain ⟨wo, rfl⟩ : ∃ wo : World, wo = wr := ⟨_, rfl⟩
                      go_loopw [25, 254] (fun _ s wr => ∃ q : Nat, q ≤ i ∧ s = .int .i64 q ∧ Hid (Below w3.heap.size w3 wr) ∧ Hid (Below w4.heap.size w4 wr)) (fun _ s _ => i - (intOf s).toNat)
                      case atStart => exact ⟨0, Nat.zero_le _, rfl, HBW, hBq⟩
                      case round =>
                        obtain ⟨q, hq, rfl, hB5, hB6⟩ := hrel
                        by_cases hqi : q < i
                        · have d1 := (HM4.out.keep hB5.out).get q (by have := HMl.out; omega)
                          have d2 := (HC3.out.keep hB5.out).get q (by have := HCl.out; omega)
                          have d3 := (HC3.out.keep hB5.out).get t (by have := HCl.out; omega)
                          by_cases hcq : C.getD q 0 = C.getD t 0
                          · have hmq := (HIFF.out q hqi).1 hcq
                            have hmm := HALL.out q hqi hcq
                            have hmc : ∀ n, Calls Try.prog 55 #[.slice ag g.length cg, .int .i64 q] (wr.drewN n) fun e w' => e = .returned (.bool true) ∧ w' = wr.drewN n := fun n => by
                              have := member_any ((HIg.out.keep hB6.out).keep (below_drewN (Below.refl _ _) n)) cg (q : Int)
                              rw [decide_eq_true hmm] at this
                              exact this.mono fun _ _ ⟨h1, h2⟩ => ⟨h1, h2.symm⟩
                            have HMC := Lib.hid hmc
                            rw [hmq] at d1
                            rw [hcq] at d2
                            rw [← HCT.out] at d2 d3
                            clear hmc hmq hcq hmm
                            go_tidy
                            as_aux_lemma =>
                              go_wp2_with fail
                              try simp only [List.append_eq, List.cons_append, List.nil_append]
                              go_big_quiet (first | (go_at_call 55; refine Calls.quiet_of_same (HMC.out _)))
                              go_wp2_with fail
                              go_roundw
                              case rel => exact ⟨q + 1, by omega, by go_num, below_drewN hB5.out _, below_drewN hB6.out _⟩
                              case measure => simp [intOf]; omega
                          · have hmq : M.getD q 0 ≠ x := fun h => hcq ((HIFF.out q hqi).2 h)
                            have hn1 : (C.getD q 0 == C.getD t 0) = false := beq_eq_false_iff_ne.2 hcq
                            have hn2 : (M.getD q 0 == (x : Int)) = false := beq_eq_false_iff_ne.2 hmq
                            generalize C.getD q 0 = cq at *
                            generalize C.getD t 0 = ct2 at *
                            generalize M.getD q 0 = mq at *
                            clear hcq hmq
                            go_tidy
                            as_aux_lemma =>
                              go_wp2_with fail
                              try simp only [List.append_eq, List.cons_append, List.nil_append]
                              go_big_quiet (fail)
                              go_wp2_with fail
                              go_roundw
                              case rel => exact ⟨q + 1, by omega, by go_num, below_drewN hB5.out _, below_drewN hB6.out _⟩
                              case measure => simp [intOf]; omega
                        · clear hB6 hBq HBW
                          as_aux_lemma =>
                            go_wp2_with fail
                            go_roundw
                            case rel => exact ⟨t + 1, by omega, by go_num, hB5⟩
                            case measure => simp [intOf]; omega
              · go_wp2_with fail
                clear hti ht
                go_loopw [27, 294] (fun _ s wr => ∃ q : Nat, q ≤ k + 1 ∧ s = .int .i64 q ∧ Hid (Below w3.heap.size w3 wr)) (fun _ s _ => k + 1 - (intOf s).toNat)
                case atStart => exact ⟨0, Nat.zero_le _, rfl, hBt⟩
                case round =>
                  obtain ⟨q, hq, rfl, hBq⟩ := hrel
                  by_cases hqk : q < k + 1
                  · obtain ⟨gb, go2, eag, hcg⟩ := (HO3.out.keep hBq.out).at_ (ne_nil_of_lt (by simpa using hqk))
                    subst eag
                    have c0' := hcg q (by simpa using hqk)
                    have ev : (iotaL (k + 1))[q]'(by simpa using hqk) = (q : Int) := by simp [iotaL]
                    rw [ev] at c0'
                    have HGR := Lib.hid (Group_ok (HG3.out.keep hBq.out) q (iotaL i) (HOLD.out q hqk))
                    clear hcg ev
                    go_wp2_with (refine HGR.out.mono ?_; clear HGR; rintro e w4 ⟨vg, rfl, hng, hb4⟩)
                    obtain ⟨ag, cg, rfl, hIg⟩ := hng.ints
                    rw [iotaL_len]
                    have HB4 := Lib.hid (hBq.out.trans (hb4.mono hBq.out.size))
                    clear hng hb4 hIg hBq
                    have hlenr : (Builtin.len_ #[22] 3 #[Value.slice ag i cg]).run Try.prog w4 = .ok (.int .i64 i) w4 := by simp [Builtin.len_, go_sem, run_underlying Try.underlying22]; try rfl
                    as_aux_lemma =>
                      go_wp2_with fail
                      rw [hlenr]
                      first | go_upon | simp only [Result.andThen_ok]
                      go_wp2_with fail
                      go_roundw
                      case rel => exact ⟨q + 1, by omega, by go_num, HB4⟩
                      case measure => simp [intOf]; omega
                  · have HBW : Hid (Below w.heap.size w wr) := HB3.out.trans (hBq.out.mono HB3.out.size)
                    go_wp2_with fail
                    refine (works_true wr).mono ?_
                    rintro e w9 ⟨rfl, b9⟩
                    go_wp2_with fail
                    go_ret
                    exact ⟨rfl, HBW.out.trans (b9.mono HBW.out.size)⟩
end Go.Proofs.Ytoloiingodigpaa
