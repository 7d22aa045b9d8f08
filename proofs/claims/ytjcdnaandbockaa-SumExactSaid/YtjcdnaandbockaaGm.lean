import Derived.Test.YtjcdnaandbockaaGl
import Derived.Deep.SlicePairs
namespace Go.Proofs.Ytjcdnaandbockaa
open Go.RowKit Go.Shelf
set_option maxRecDepth 100000
set_option maxHeartbeats 1000000

theorem sg_inj {x y : Nat} (hx : x < 18446744073709551616) (hy : y < 18446744073709551616) (h : sg x = sg y) : x = y := by
  unfold sg at h
  split at h <;> split at h <;> omega
theorem minS_comm {x y : Nat} (hx : x < 18446744073709551616) (hy : y < 18446744073709551616) : minS x y = minS y x := by
  unfold minS
  split <;> split
  · exact sg_inj hx hy (by omega)
  · rfl
  · rfl
  · omega
theorem maxS_comm {x y : Nat} (hx : x < 18446744073709551616) (hy : y < 18446744073709551616) : maxS x y = maxS y x := by
  unfold maxS
  split <;> split
  · exact sg_inj hy hx (by omega)
  · rfl
  · rfl
  · omega
theorem minS_assoc (x y z : Nat) : minS (minS x y) z = minS x (minS y z) := by
  unfold minS
  by_cases h1 : sg x ≤ sg y <;> by_cases h2 : sg y ≤ sg z <;> by_cases h3 : sg x ≤ sg z <;> simp [h1, h2, h3] <;> omega
theorem maxS_assoc (x y z : Nat) : maxS (maxS x y) z = maxS x (maxS y z) := by
  unfold maxS
  by_cases h1 : sg x ≤ sg y <;> by_cases h2 : sg y ≤ sg z <;> by_cases h3 : sg x ≤ sg z <;> simp [h1, h2, h3] <;> omega
theorem cmpN_lt (x y : Nat) : decide (cmpN x y < 0) = decide (x < y) := by
  unfold cmpN
  rw [decide_eq_decide]
  split
  · simp [*]
  · split <;> simp [*]
theorem cmpN_gt (x y : Nat) : decide (0 < cmpN x y) = decide (y < x) := by
  unfold cmpN
  rw [decide_eq_decide]
  split
  · simp; omega
  · split <;> simp [*]
theorem level_inj {x y : Nat} (hx : x < 18446744073709551616) (hy : y < 18446744073709551616) (h1 : nanB x = false) (h2 : nanB y = false) (h : levelN x = levelN y) : x = y := by
  have e1 : oneN x = x := by unfold oneN; rw [h1]; rfl
  have e2 : oneN y = y := by unfold oneN; rw [h2]; rfl
  unfold levelN at h
  rw [e1, e2] at h
  split at h <;> split at h <;> omega
def pickM (s : Bool) (x y : Nat) : Nat := if (nanB x || nanB y) = true then 9221120237041090560 else if (if s = true then levelN x < levelN y else levelN y < levelN x) then x else y
theorem pick_lt (x y : Nat) : pickN (fun i => decide (i < 0)) x y = pickM true x y := by
  unfold pickN pickM
  simp [cmpN_lt]
theorem pick_gt (x y : Nat) : pickN (fun i => decide (0 < i)) x y = pickM false x y := by
  unfold pickN pickM
  simp [cmpN_gt]
theorem nan_nan : nanB 9221120237041090560 = true := by decide
theorem pickM_comm (s : Bool) {x y : Nat} (hx : x < 18446744073709551616) (hy : y < 18446744073709551616) : pickM s x y = pickM s y x := by
  unfold pickM
  cases h1 : nanB x <;> cases h2 : nanB y <;> simp
  have hi := level_inj hx hy h1 h2
  cases s
  · simp
    split <;> split <;> first | omega | rfl | (exact hi (by omega)) | exact (hi (by omega)).symm
  · simp
    split <;> split <;> first | omega | rfl | (exact hi (by omega)) | exact (hi (by omega)).symm
theorem pickM_assoc (s : Bool) (x y z : Nat) : pickM s (pickM s x y) z = pickM s x (pickM s y z) := by
  have hn := nan_nan
  unfold pickM
  cases h1 : nanB x <;> cases h2 : nanB y <;> cases h3 : nanB z <;> simp [hn, h1, h2, h3]
  · cases s
    · simp only [Bool.false_eq_true, if_false]
      by_cases a : levelN y < levelN x <;> by_cases b : levelN z < levelN y <;> by_cases c : levelN z < levelN x <;> simp [a, b, c, h1, h2, h3] <;> omega
    · simp only [if_true]
      by_cases a : levelN x < levelN y <;> by_cases b : levelN y < levelN z <;> by_cases c : levelN x < levelN z <;> simp [a, b, c, h1, h2, h3] <;> omega
  all_goals (split <;> simp [h1, h2, h3])
theorem truth_and (x y : Nat) : truthN (· && ·) x y = if x ≠ 0 ∧ y ≠ 0 then 1 else 0 := by
  unfold truthN
  by_cases h1 : x = 0 <;> by_cases h2 : y = 0 <;> simp [h1, h2]
theorem truth_or (x y : Nat) : truthN (· || ·) x y = if x ≠ 0 ∨ y ≠ 0 then 1 else 0 := by
  unfold truthN
  by_cases h1 : x = 0 <;> by_cases h2 : y = 0 <;> simp [h1, h2]
theorem intOp_comm (op : Int) {x y : Nat} (hx : x < 18446744073709551616) (hy : y < 18446744073709551616) : intOp op x y = intOp op y x := by
  unfold intOp
  rw [Nat.add_comm x y, Nat.mul_comm x y, minS_comm hx hy, maxS_comm hx hy, Nat.and_comm x y, Nat.or_comm x y, Nat.xor_comm x y, truth_and x y, truth_and y x, truth_or x y, truth_or y x]
  simp only [and_comm, or_comm]
theorem intOp_assoc (op : Int) (x y z : Nat) : intOp op (intOp op x y) z = intOp op x (intOp op y z) := by
  unfold intOp
  by_cases h1 : op = 1
  · simp only [if_pos h1, Nat.mod_add_mod, Nat.add_mod_mod, Nat.add_assoc]
  · simp only [if_neg h1]
    by_cases h2 : op = 2
    · simp only [if_pos h2, Nat.mod_mul_mod, Nat.mul_mod_mod, Nat.mul_assoc]
    · simp only [if_neg h2]
      by_cases h3 : op = 3
      · simp only [if_pos h3, minS_assoc]
      · simp only [if_neg h3]
        by_cases h4 : op = 4
        · simp only [if_pos h4, maxS_assoc]
        · simp only [if_neg h4]
          by_cases h5 : op = 5
          · simp only [if_pos h5, Nat.and_assoc]
          · simp only [if_neg h5]
            by_cases h6 : op = 6
            · simp only [if_pos h6, Nat.or_assoc]
            · simp only [if_neg h6]
              by_cases h7 : op = 7
              · simp only [if_pos h7, Nat.xor_assoc]
              · simp only [if_neg h7]
                by_cases h8 : op = 8
                · simp only [if_pos h8, truth_and]
                  by_cases a : x = 0 <;> by_cases b : y = 0 <;> by_cases c : z = 0 <;> simp [a, b, c]
                · simp only [if_neg h8, truth_or]
                  by_cases a : x = 0 <;> by_cases b : y = 0 <;> by_cases c : z = 0 <;> simp [a, b, c]
theorem joinF_comm (f g : Facts) : joinF f g = joinF g f := by
  unfold joinF
  rw [Nat.add_comm f.V, Nat.or_comm f.saw, Nat.max_comm f.zero]
theorem orI_lt (a b p q : Int) : orI (cmpI a b) (cmpI p q) < 0 ↔ (a < b ∨ (a = b ∧ p < q)) := by
  unfold orI cmpI
  by_cases h1 : a < b
  · simp [h1]
  · by_cases h2 : b < a
    · simp [h1, h2]; omega
    · have : a = b := by omega
      by_cases h3 : p < q
      · simp [h1, h2, h3, this]
      · by_cases h4 : q < p
        · simp [h1, h2, h3, h4, this]
        · simp [h1, h2, h3, h4, this]
def bestM (s : Int) (u v : Vl) : Vl := if (s * sg u.x < s * sg v.x ∨ (s * sg u.x = s * sg v.x ∧ u.p < v.p)) then u else v
theorem best_108 (u v : Vl) : bestL 108 u v = bestM 1 u v := by
  rw [best108]
  unfold bestM
  have := orI_lt (sg u.x) (sg v.x) u.p v.p
  by_cases h : orI (cmpI (sg u.x) (sg v.x)) (cmpI u.p v.p) < 0
  · rw [if_pos h, if_pos (by have := this.1 h; omega)]
  · rw [if_neg h, if_neg (fun h2 => h (this.2 (by omega)))]
theorem best_109 (u v : Vl) : bestL 109 u v = bestM (-1) u v := by
  rw [best109]
  unfold bestM
  have := orI_lt (sg v.x) (sg u.x) u.p v.p
  by_cases h : orI (cmpI (sg v.x) (sg u.x)) (cmpI u.p v.p) < 0
  · rw [if_pos h, if_pos (by have := this.1 h; omega)]
  · rw [if_neg h, if_neg (fun h2 => h (this.2 (by omega)))]
theorem bestM_comm (s : Int) (hs : s = 1 ∨ s = -1) {u v : Vl} (hu : u.Ok) (hv : v.Ok) : bestM s u v = bestM s v u := by
  have key : sg u.x = sg v.x → u.p = v.p → u = v := fun h1 h2 => by
    obtain ⟨x, p⟩ := u
    obtain ⟨y, q⟩ := v
    have := sg_inj hu.x hv.x h1
    simp only at this h2
    rw [this, h2]
  unfold bestM
  rcases hs with rfl | rfl
  · split <;> split <;> first | rfl | omega | exact key (by omega) (by omega) | exact (key (by omega) (by omega)).symm
  · split <;> split <;> first | rfl | omega | exact key (by omega) (by omega) | exact (key (by omega) (by omega)).symm
theorem bestM_assoc (s : Int) (u v z : Vl) : bestM s (bestM s u v) z = bestM s u (bestM s v z) := by
  unfold bestM
  obtain ⟨a, ha⟩ : ∃ a, a = s * sg u.x := ⟨_, rfl⟩
  obtain ⟨b, hb⟩ : ∃ a, a = s * sg v.x := ⟨_, rfl⟩
  obtain ⟨c, hc⟩ : ∃ a, a = s * sg z.x := ⟨_, rfl⟩
  by_cases h1 : (s * sg u.x < s * sg v.x ∨ (s * sg u.x = s * sg v.x ∧ u.p < v.p)) <;> by_cases h2 : (s * sg v.x < s * sg z.x ∨ (s * sg v.x = s * sg z.x ∧ v.p < z.p)) <;>
    by_cases h3 : (s * sg u.x < s * sg z.x ∨ (s * sg u.x = s * sg z.x ∧ u.p < z.p)) <;> simp only [h1, h2, h3, if_true, if_false] <;> (rw [← ha, ← hb] at h1; rw [← hb, ← hc] at h2; rw [← ha, ← hc] at h3; omega)
theorem opV_comm (op kind : Int) {u v : Vl} (hu : u.Ok) (hv : v.Ok) : opV op kind u v = opV op kind v u := by
  unfold opV realOp
  rw [intOp_comm op hu.x hv.x, joinF_comm (factsN u.x), pick_lt, pick_gt, pick_lt, pick_gt, pickM_comm true hu.x hv.x, pickM_comm false hu.x hv.x, best_108, best_108, best_109, best_109, bestM_comm 1 (.inl rfl) hu hv, bestM_comm (-1) (.inr rfl) hu hv]
theorem opV_assoc (op kind : Int) (u v z : Vl) (hne : ¬ (op = 1 ∧ kind = 2)) : opV op kind (opV op kind u v) z = opV op kind u (opV op kind v z) := by
  unfold opV
  by_cases h1 : kind = 1
  · simp only [if_pos h1, intOp_assoc]
  · simp only [if_neg h1]
    by_cases h2 : kind = 2
    · have h3 : ¬ op = 1 := fun h => hne ⟨h, h2⟩
      simp only [if_pos h2, realOp, if_neg h3, pick_lt, pick_gt]
      split <;> rw [pickM_assoc]
    · simp only [if_neg h2, best_108, best_109]
      split
      · rw [bestM_assoc]
      · rw [bestM_assoc]
theorem opV_valid (op kind : Int) (u v : Vl) (hu : allowsB kind u = true) (hv : allowsB kind v = true) : allowsB kind (opV op kind u v) = true := by
  unfold opV
  by_cases h1 : kind = 1
  · rw [if_pos h1]; simp [allowsB]
  · rw [if_neg h1]
    by_cases h2 : kind = 2
    · rw [if_pos h2]; simp [allowsB]
    · rw [if_neg h2]
      split
      · rcases bestL_cases 108 u v with h | h <;> rw [h] <;> assumption
      · rcases bestL_cases 109 u v with h | h <;> rw [h] <;> assumption
end Go.Proofs.Ytjcdnaandbockaa

namespace Go.Proofs.Ytjcdnaandbockaa
open Go.RowKit Go.Shelf
attribute [local go_sem] Oper.semAt_some
set_option maxRecDepth 100000
set_option maxHeartbeats 2000000

theorem do_ok {op kind : Int} {u v : Vl} (h0 : findE op kind = 0) (ha : allowsB kind u = true) (hb : allowsB kind v = true) (hu : u.Ok) (hv : v.Ok) (w : World) :
    Calls Try.prog 25 #[.int .i64 op, .int .i64 kind, .agg #[.int .u64 u.x, .int .i64 u.p], .agg #[.int .u64 v.x, .int .i64 v.p]] w fun e w' => e = .returned (.tuple #[.agg #[.int .u64 (opV op kind u v).x, .int .i64 (opV op kind u v).p], .int .i64 0]) ∧ Below w.heap.size w w' := by
  have hE : doE op kind u v = 0 := by unfold doE; rw [if_neg (by rw [h0]; decide), ha, hb]; rfl
  have := Do_any op kind u v hu hv w
  rw [hE, show doV op kind u v = opV op kind u v by unfold doV; rw [if_pos hE]] at this
  exact this
theorem do_err {op kind : Int} {u v : Vl} (h0 : findE op kind ≠ 0) (hu : u.Ok) (hv : v.Ok) (w : World) :
    Calls Try.prog 25 #[.int .i64 op, .int .i64 kind, .agg #[.int .u64 u.x, .int .i64 u.p], .agg #[.int .u64 v.x, .int .i64 v.p]] w fun e w' => e = .returned (.tuple #[.agg #[.int .u64 0, .int .i64 0], .int .i64 (findE op kind)]) ∧ Below w.heap.size w w' := by
  have hE : doE op kind u v = findE op kind := by unfold doE; rw [if_pos h0]
  have := Do_any op kind u v hu hv w
  rw [hE, show doV op kind u v = ⟨0, 0⟩ by unfold doV; rw [if_neg (by rw [hE]; exact h0)]] at this
  exact this
theorem SumLaws_walk (op kind : Int) (a b c : Vl) (ha : a.Ok) (hvb : b.Ok) (hc : c.Ok) (w : World) : Calls Try.prog 7 #[.int .i64 op, .int .i64 kind, vA a, vA b, vA c] w fun e w' => e = .returned (.bool true) ∧ Below w.heap.size w w' := by
  unfold vA
  by_cases hk : kind = 3
  · have q3 : ((kind != 3) : Bool) = false := by rw [hk]; rfl
    obtain ⟨hb, h1, h2, h3, hz⟩ := three w (.cells #[.int .u64 a.x, .int .i64 a.p] 54) (.cells #[.int .u64 b.x, .int .i64 b.p] 54) (.cells #[.int .u64 c.x, .int .i64 c.p] 54)
    have HB0 := Lib.hid hb
    have FA := Lib.hid h1
    have FB := Lib.hid h2
    have FC := Lib.hid h3
    clear hb h1 h2 h3 hz
    have oka : Vl.Ok a := ha
    have ala : allowsB kind a = true := by simp [allowsB, hk]
    have okb : Vl.Ok b := hvb
    have alb : allowsB kind b = true := by simp [allowsB, hk]
    have okc : Vl.Ok c := hc
    have alc : allowsB kind c = true := by simp [allowsB, hk]
    have hck := Check_any op kind
    by_cases hF : findE op kind = 0
    · have hdo := @do_ok op kind
      rw [hF] at hck
      have HAB := Lib.hid (do_ok (u := a) (v := b) hF ala alb oka okb)
      have HBA := Lib.hid (do_ok (u := b) (v := a) hF alb ala okb oka)
      have HBC := Lib.hid (do_ok (u := b) (v := c) hF alb alc okb okc)
      have hcm : opV op kind b a = opV op kind a b := opV_comm op kind okb oka
      rw [hcm] at HBA
      clear hcm hdo
      have okab := opV_ok op kind oka okb
      have okbc := opV_ok op kind okb okc
      have alab := opV_valid op kind _ _ ala alb
      have albc := opV_valid op kind _ _ alb alc
      have HX := Lib.hid (do_ok hF alab alc okab okc)
      have HY := Lib.hid (do_ok hF ala albc oka okbc)
      have HAS : Hid (¬ (op = 1 ∧ kind = 2) → opV op kind a (opV op kind b c) = opV op kind (opV op kind a b) c) := fun h => (opV_assoc op kind _ _ _ h).symm
      obtain ⟨ab, eab⟩ : ∃ r, r = opV op kind a b := ⟨_, rfl⟩
      obtain ⟨bc, ebc⟩ : ∃ r, r = opV op kind b c := ⟨_, rfl⟩
      rw [← eab] at HAB HBA HX HAS
      rw [← ebc] at HBC HY HAS
      obtain ⟨rx, erx⟩ : ∃ r, r = opV op kind ab c := ⟨_, rfl⟩
      obtain ⟨ry, ery⟩ : ∃ r, r = opV op kind a bc := ⟨_, rfl⟩
      rw [← erx] at HX HAS
      rw [← ery] at HY HAS
      clear eab ebc erx ery okab okbc alab albc
      have hq1 := neq_V ab.x ab.x ab.p ab.p
      rw [show eqV ⟨ab.x, ab.p⟩ ⟨ab.x, ab.p⟩ = true from (eqV_iff _ _).2 rfl] at hq1
      clear hk
      go_enter Try.func7, Try.ntmps7
      go_wp2_with fail
      refine (hck ((((w.alloc (.cells #[.int .u64 a.x, .int .i64 a.p] 54)).alloc (.cells #[.int .u64 b.x, .int .i64 b.p] 54)).alloc (.cells #[.int .u64 c.x, .int .i64 c.p] 54)))).mono ?_
      rintro e w1 ⟨rfl, hb⟩
      have FA := Lib.hid (heapB hb FA.out)
      have FB := Lib.hid (heapB hb FB.out)
      have FC := Lib.hid (heapB hb FC.out)
      have HB1 := Lib.hid (HB0.out.trans (hb.mono HB0.out.size))
      clear HB0 hb
      clear hck
      have FA0 := cellR 0 FA.out rfl
      have FA1 := cellR 1 FA.out rfl
      have FB0 := cellR 0 FB.out rfl
      have FB1 := cellR 1 FB.out rfl
      go_wp2_with fail
      refine (HAB.out w1).mono ?_
      rintro e w2 ⟨rfl, hb⟩
      clear FA0 FA1 FB0 FB1
      have FA := Lib.hid (heapB hb FA.out)
      have FB := Lib.hid (heapB hb FB.out)
      have FC := Lib.hid (heapB hb FC.out)
      have HB2 := Lib.hid (HB1.out.trans (hb.mono HB1.out.size))
      clear HB1 hb
      clear HAB
      have hb9 := (Below.refl (w2).heap.size (w2)).alloc (Nat.le_refl _) (.cells #[.int .u64 ab.x, .int .i64 ab.p] 54)
      have hn9 := Lib.hid (heap_alloc_new (w2) (.cells #[.int .u64 ab.x, .int .i64 ab.p] 54))
      have FA := Lib.hid (heapB hb9 FA.out)
      have FB := Lib.hid (heapB hb9 FB.out)
      have FC := Lib.hid (heapB hb9 FC.out)
      have HB3 := Lib.hid (HB2.out.trans (hb9.mono HB2.out.size))
      clear HB2 hb9
      have F13 := hn9
      clear hn9
      have FA0 := cellR 0 FA.out rfl
      have FA1 := cellR 1 FA.out rfl
      have FB0 := cellR 0 FB.out rfl
      have FB1 := cellR 1 FB.out rfl
      go_wp2_with fail
      refine (HBA.out _).mono ?_
      rintro e w3 ⟨rfl, hb⟩
      clear FA0 FA1 FB0 FB1
      have FA := Lib.hid (heapB hb FA.out)
      have FB := Lib.hid (heapB hb FB.out)
      have FC := Lib.hid (heapB hb FC.out)
      have F13 := Lib.hid (heapB hb F13.out)
      have HB4 := Lib.hid (HB3.out.trans (hb.mono HB3.out.size))
      clear HB3 hb
      clear HBA
      have hb9 := (Below.refl (w3).heap.size (w3)).alloc (Nat.le_refl _) (.cells #[.int .u64 ab.x, .int .i64 ab.p] 54)
      have hn9 := Lib.hid (heap_alloc_new (w3) (.cells #[.int .u64 ab.x, .int .i64 ab.p] 54))
      have FA := Lib.hid (heapB hb9 FA.out)
      have FB := Lib.hid (heapB hb9 FB.out)
      have FC := Lib.hid (heapB hb9 FC.out)
      have F13 := Lib.hid (heapB hb9 F13.out)
      have HB5 := Lib.hid (HB4.out.trans (hb9.mono HB4.out.size))
      clear HB4 hb9
      have F15 := hn9
      clear hn9
      have FB0 := cellR 0 FB.out rfl
      have FB1 := cellR 1 FB.out rfl
      have FC0 := cellR 0 FC.out rfl
      have FC1 := cellR 1 FC.out rfl
      go_wp2_with fail
      refine (HBC.out _).mono ?_
      rintro e w4 ⟨rfl, hb⟩
      clear FB0 FB1 FC0 FC1
      have FA := Lib.hid (heapB hb FA.out)
      have FB := Lib.hid (heapB hb FB.out)
      have FC := Lib.hid (heapB hb FC.out)
      have F13 := Lib.hid (heapB hb F13.out)
      have F15 := Lib.hid (heapB hb F15.out)
      have HB6 := Lib.hid (HB5.out.trans (hb.mono HB5.out.size))
      clear HB5 hb
      clear HBC
      have hb9 := (Below.refl (w4).heap.size (w4)).alloc (Nat.le_refl _) (.cells #[.int .u64 bc.x, .int .i64 bc.p] 54)
      have hn9 := Lib.hid (heap_alloc_new (w4) (.cells #[.int .u64 bc.x, .int .i64 bc.p] 54))
      have FA := Lib.hid (heapB hb9 FA.out)
      have FB := Lib.hid (heapB hb9 FB.out)
      have FC := Lib.hid (heapB hb9 FC.out)
      have F13 := Lib.hid (heapB hb9 F13.out)
      have F15 := Lib.hid (heapB hb9 F15.out)
      have HB7 := Lib.hid (HB6.out.trans (hb9.mono HB6.out.size))
      clear HB6 hb9
      have F17 := hn9
      clear hn9
      have F130 := cellR 0 F13.out rfl
      have F131 := cellR 1 F13.out rfl
      have F150 := cellR 0 F15.out rfl
      have F151 := cellR 1 F15.out rfl
      by_cases hs : op = 1 ∧ kind = 2
      · obtain ⟨h1, h2⟩ := hs
        have q1 : ((op == 1) : Bool) = true := by rw [h1]; rfl
        have q2 : ((kind == 2) : Bool) = true := by rw [h2]; rfl
        clear h1 h2
        go_wp2_with fail
        refine (works_any _).mono ?_
        rintro e w5 ⟨rfl, hb⟩
        have hbb := HB7.out.trans (hb.mono HB7.out.size)
        go_wp2_with fail
        go_ret
        exact ⟨rfl, hbb⟩
      · have has := HAS.out hs
        rw [has] at HY
        have hq2 := eql_V rx.x rx.x rx.p rx.p
        rw [show eqV ⟨rx.x, rx.p⟩ ⟨rx.x, rx.p⟩ = true from (eqV_iff _ _).2 rfl] at hq2
        have HNS := Lib.hid hs
        clear hs has HAS
        have FC0 := cellR 0 FC.out rfl
        have FC1 := cellR 1 FC.out rfl
        by_cases h1 : op = 1
        · have h2 : ¬ kind = 2 := fun h => HNS.out ⟨h1, h⟩
          have q1 : ((op == 1) : Bool) = true := by rw [h1]; rfl
          have q2 : ((kind == 2) : Bool) = false := beq_eq_false_iff_ne.2 h2
          clear h1 h2
          go_wp2_with fail
          refine (HX.out _).mono ?_
          rintro e w5 ⟨rfl, hb⟩
          clear F130 F131 F150 F151 FC0 FC1
          have FA := Lib.hid (heapB hb FA.out)
          have FB := Lib.hid (heapB hb FB.out)
          have FC := Lib.hid (heapB hb FC.out)
          have F13 := Lib.hid (heapB hb F13.out)
          have F15 := Lib.hid (heapB hb F15.out)
          have F17 := Lib.hid (heapB hb F17.out)
          have HB8 := Lib.hid (HB7.out.trans (hb.mono HB7.out.size))
          clear HB7 hb
          clear HX
          have hb9 := (Below.refl (w5).heap.size (w5)).alloc (Nat.le_refl _) (.cells #[.int .u64 rx.x, .int .i64 rx.p] 54)
          have hn9 := Lib.hid (heap_alloc_new (w5) (.cells #[.int .u64 rx.x, .int .i64 rx.p] 54))
          have FA := Lib.hid (heapB hb9 FA.out)
          have FB := Lib.hid (heapB hb9 FB.out)
          have FC := Lib.hid (heapB hb9 FC.out)
          have F13 := Lib.hid (heapB hb9 F13.out)
          have F15 := Lib.hid (heapB hb9 F15.out)
          have F17 := Lib.hid (heapB hb9 F17.out)
          have HB9 := Lib.hid (HB8.out.trans (hb9.mono HB8.out.size))
          clear HB8 hb9
          have F19 := hn9
          clear hn9
          have FA0 := cellR 0 FA.out rfl
          have FA1 := cellR 1 FA.out rfl
          have F170 := cellR 0 F17.out rfl
          have F171 := cellR 1 F17.out rfl
          go_wp2_with fail
          refine (HY.out _).mono ?_
          rintro e w6 ⟨rfl, hb⟩
          clear FA0 FA1 F170 F171
          have FA := Lib.hid (heapB hb FA.out)
          have FB := Lib.hid (heapB hb FB.out)
          have FC := Lib.hid (heapB hb FC.out)
          have F13 := Lib.hid (heapB hb F13.out)
          have F15 := Lib.hid (heapB hb F15.out)
          have F17 := Lib.hid (heapB hb F17.out)
          have F19 := Lib.hid (heapB hb F19.out)
          have HB10 := Lib.hid (HB9.out.trans (hb.mono HB9.out.size))
          clear HB9 hb
          clear HY
          have hb9 := (Below.refl (w6).heap.size (w6)).alloc (Nat.le_refl _) (.cells #[.int .u64 rx.x, .int .i64 rx.p] 54)
          have hn9 := Lib.hid (heap_alloc_new (w6) (.cells #[.int .u64 rx.x, .int .i64 rx.p] 54))
          have FA := Lib.hid (heapB hb9 FA.out)
          have FB := Lib.hid (heapB hb9 FB.out)
          have FC := Lib.hid (heapB hb9 FC.out)
          have F13 := Lib.hid (heapB hb9 F13.out)
          have F15 := Lib.hid (heapB hb9 F15.out)
          have F17 := Lib.hid (heapB hb9 F17.out)
          have F19 := Lib.hid (heapB hb9 F19.out)
          have HB11 := Lib.hid (HB10.out.trans (hb9.mono HB10.out.size))
          clear HB10 hb9
          have F20 := hn9
          clear hn9
          have F190 := cellR 0 F19.out rfl
          have F191 := cellR 1 F19.out rfl
          have F200 := cellR 0 F20.out rfl
          have F201 := cellR 1 F20.out rfl
          go_wp2_with fail
          refine (works_any _).mono ?_
          rintro e w7 ⟨rfl, hb⟩
          have hbb := HB11.out.trans (hb.mono HB11.out.size)
          go_wp2_with fail
          go_ret
          exact ⟨rfl, hbb⟩
        · have q1 : ((op == 1) : Bool) = false := beq_eq_false_iff_ne.2 h1
          clear h1
          go_wp2_with fail
          refine (HX.out _).mono ?_
          rintro e w5 ⟨rfl, hb⟩
          clear F130 F131 F150 F151 FC0 FC1
          have FA := Lib.hid (heapB hb FA.out)
          have FB := Lib.hid (heapB hb FB.out)
          have FC := Lib.hid (heapB hb FC.out)
          have F13 := Lib.hid (heapB hb F13.out)
          have F15 := Lib.hid (heapB hb F15.out)
          have F17 := Lib.hid (heapB hb F17.out)
          have HB8 := Lib.hid (HB7.out.trans (hb.mono HB7.out.size))
          clear HB7 hb
          clear HX
          have hb9 := (Below.refl (w5).heap.size (w5)).alloc (Nat.le_refl _) (.cells #[.int .u64 rx.x, .int .i64 rx.p] 54)
          have hn9 := Lib.hid (heap_alloc_new (w5) (.cells #[.int .u64 rx.x, .int .i64 rx.p] 54))
          have FA := Lib.hid (heapB hb9 FA.out)
          have FB := Lib.hid (heapB hb9 FB.out)
          have FC := Lib.hid (heapB hb9 FC.out)
          have F13 := Lib.hid (heapB hb9 F13.out)
          have F15 := Lib.hid (heapB hb9 F15.out)
          have F17 := Lib.hid (heapB hb9 F17.out)
          have HB9 := Lib.hid (HB8.out.trans (hb9.mono HB8.out.size))
          clear HB8 hb9
          have F19 := hn9
          clear hn9
          have FA0 := cellR 0 FA.out rfl
          have FA1 := cellR 1 FA.out rfl
          have F170 := cellR 0 F17.out rfl
          have F171 := cellR 1 F17.out rfl
          go_wp2_with fail
          refine (HY.out _).mono ?_
          rintro e w6 ⟨rfl, hb⟩
          clear FA0 FA1 F170 F171
          have FA := Lib.hid (heapB hb FA.out)
          have FB := Lib.hid (heapB hb FB.out)
          have FC := Lib.hid (heapB hb FC.out)
          have F13 := Lib.hid (heapB hb F13.out)
          have F15 := Lib.hid (heapB hb F15.out)
          have F17 := Lib.hid (heapB hb F17.out)
          have F19 := Lib.hid (heapB hb F19.out)
          have HB10 := Lib.hid (HB9.out.trans (hb.mono HB9.out.size))
          clear HB9 hb
          clear HY
          have hb9 := (Below.refl (w6).heap.size (w6)).alloc (Nat.le_refl _) (.cells #[.int .u64 rx.x, .int .i64 rx.p] 54)
          have hn9 := Lib.hid (heap_alloc_new (w6) (.cells #[.int .u64 rx.x, .int .i64 rx.p] 54))
          have FA := Lib.hid (heapB hb9 FA.out)
          have FB := Lib.hid (heapB hb9 FB.out)
          have FC := Lib.hid (heapB hb9 FC.out)
          have F13 := Lib.hid (heapB hb9 F13.out)
          have F15 := Lib.hid (heapB hb9 F15.out)
          have F17 := Lib.hid (heapB hb9 F17.out)
          have F19 := Lib.hid (heapB hb9 F19.out)
          have HB11 := Lib.hid (HB10.out.trans (hb9.mono HB10.out.size))
          clear HB10 hb9
          have F20 := hn9
          clear hn9
          have F190 := cellR 0 F19.out rfl
          have F191 := cellR 1 F19.out rfl
          have F200 := cellR 0 F20.out rfl
          have F201 := cellR 1 F20.out rfl
          go_wp2_with fail
          refine (works_any _).mono ?_
          rintro e w7 ⟨rfl, hb⟩
          have hbb := HB11.out.trans (hb.mono HB11.out.size)
          go_wp2_with fail
          go_ret
          exact ⟨rfl, hbb⟩
    · have HAB := Lib.hid (do_err (u := a) (v := b) hF oka okb)
      obtain ⟨E, hE⟩ : ∃ E, E = findE op kind := ⟨_, rfl⟩
      rw [← hE] at hF hck HAB
      clear hE
      have q1 : ((E != 0) : Bool) = true := bne_iff_ne.2 hF
      clear hk
      go_enter Try.func7, Try.ntmps7
      go_wp2_with fail
      refine (hck ((((w.alloc (.cells #[.int .u64 a.x, .int .i64 a.p] 54)).alloc (.cells #[.int .u64 b.x, .int .i64 b.p] 54)).alloc (.cells #[.int .u64 c.x, .int .i64 c.p] 54)))).mono ?_
      rintro e w1 ⟨rfl, hb⟩
      have FA := Lib.hid (heapB hb FA.out)
      have FB := Lib.hid (heapB hb FB.out)
      have HB1 := Lib.hid (HB0.out.trans (hb.mono HB0.out.size))
      clear HB0 hb
      have FA0 := cellR 0 FA.out rfl
      have FA1 := cellR 1 FA.out rfl
      have FB0 := cellR 0 FB.out rfl
      have FB1 := cellR 1 FB.out rfl
      go_wp2_with fail
      refine (HAB.out w1).mono ?_
      rintro e w2 ⟨rfl, hb⟩
      clear FA0 FA1 FB0 FB1
      have FA := Lib.hid (heapB hb FA.out)
      have FB := Lib.hid (heapB hb FB.out)
      have HB2 := Lib.hid (HB1.out.trans (hb.mono HB1.out.size))
      clear HB1 hb
      clear HAB
      have hb9 := (Below.refl (w2).heap.size (w2)).alloc (Nat.le_refl _) (.cells #[.int .u64 0, .int .i64 0] 54)
      have hn9 := Lib.hid (heap_alloc_new (w2) (.cells #[.int .u64 0, .int .i64 0] 54))
      have FA := Lib.hid (heapB hb9 FA.out)
      have FB := Lib.hid (heapB hb9 FB.out)
      have HB3 := Lib.hid (HB2.out.trans (hb9.mono HB2.out.size))
      clear HB2 hb9
      have F11 := hn9
      clear hn9
      go_wp2_with fail
      refine (hck _).mono ?_
      rintro e w3 ⟨rfl, hb⟩
      have FA := Lib.hid (heapB hb FA.out)
      have FB := Lib.hid (heapB hb FB.out)
      have F11 := Lib.hid (heapB hb F11.out)
      have HB4 := Lib.hid (HB3.out.trans (hb.mono HB3.out.size))
      clear HB3 hb
      go_wp2_with fail
      refine (works_any _).mono ?_
      rintro e w4 ⟨rfl, hb⟩
      have hbb := HB4.out.trans (hb.mono HB4.out.size)
      go_wp2_with fail
      go_ret
      exact ⟨rfl, hbb⟩
  · have q3 : ((kind != 3) : Bool) = true := bne_iff_ne.2 hk
    obtain ⟨hb, h1, h2, h3, hz⟩ := three w (.cells #[.int .u64 a.x, .int .i64 0] 54) (.cells #[.int .u64 b.x, .int .i64 0] 54) (.cells #[.int .u64 c.x, .int .i64 0] 54)
    have HB0 := Lib.hid hb
    have FA := Lib.hid h1
    have FB := Lib.hid h2
    have FC := Lib.hid h3
    clear hb h1 h2 h3 hz
    have oka : Vl.Ok (⟨a.x, 0⟩ : Vl) := ok0 ha.x
    have ala : allowsB kind (⟨a.x, 0⟩ : Vl) = true := by simp [allowsB]
    have okb : Vl.Ok (⟨b.x, 0⟩ : Vl) := ok0 hvb.x
    have alb : allowsB kind (⟨b.x, 0⟩ : Vl) = true := by simp [allowsB]
    have okc : Vl.Ok (⟨c.x, 0⟩ : Vl) := ok0 hc.x
    have alc : allowsB kind (⟨c.x, 0⟩ : Vl) = true := by simp [allowsB]
    have hck := Check_any op kind
    by_cases hF : findE op kind = 0
    · have hdo := @do_ok op kind
      rw [hF] at hck
      have HAB := Lib.hid (do_ok (u := (⟨a.x, 0⟩ : Vl)) (v := (⟨b.x, 0⟩ : Vl)) hF ala alb oka okb)
      have HBA := Lib.hid (do_ok (u := (⟨b.x, 0⟩ : Vl)) (v := (⟨a.x, 0⟩ : Vl)) hF alb ala okb oka)
      have HBC := Lib.hid (do_ok (u := (⟨b.x, 0⟩ : Vl)) (v := (⟨c.x, 0⟩ : Vl)) hF alb alc okb okc)
      have hcm : opV op kind (⟨b.x, 0⟩ : Vl) (⟨a.x, 0⟩ : Vl) = opV op kind (⟨a.x, 0⟩ : Vl) (⟨b.x, 0⟩ : Vl) := opV_comm op kind okb oka
      rw [hcm] at HBA
      clear hcm hdo
      have okab := opV_ok op kind oka okb
      have okbc := opV_ok op kind okb okc
      have alab := opV_valid op kind _ _ ala alb
      have albc := opV_valid op kind _ _ alb alc
      have HX := Lib.hid (do_ok hF alab alc okab okc)
      have HY := Lib.hid (do_ok hF ala albc oka okbc)
      have HAS : Hid (¬ (op = 1 ∧ kind = 2) → opV op kind (⟨a.x, 0⟩ : Vl) (opV op kind (⟨b.x, 0⟩ : Vl) (⟨c.x, 0⟩ : Vl)) = opV op kind (opV op kind (⟨a.x, 0⟩ : Vl) (⟨b.x, 0⟩ : Vl)) (⟨c.x, 0⟩ : Vl)) := fun h => (opV_assoc op kind _ _ _ h).symm
      obtain ⟨ab, eab⟩ : ∃ r, r = opV op kind (⟨a.x, 0⟩ : Vl) (⟨b.x, 0⟩ : Vl) := ⟨_, rfl⟩
      obtain ⟨bc, ebc⟩ : ∃ r, r = opV op kind (⟨b.x, 0⟩ : Vl) (⟨c.x, 0⟩ : Vl) := ⟨_, rfl⟩
      rw [← eab] at HAB HBA HX HAS
      rw [← ebc] at HBC HY HAS
      obtain ⟨rx, erx⟩ : ∃ r, r = opV op kind ab (⟨c.x, 0⟩ : Vl) := ⟨_, rfl⟩
      obtain ⟨ry, ery⟩ : ∃ r, r = opV op kind (⟨a.x, 0⟩ : Vl) bc := ⟨_, rfl⟩
      rw [← erx] at HX HAS
      rw [← ery] at HY HAS
      clear eab ebc erx ery okab okbc alab albc
      have hq1 := neq_V ab.x ab.x ab.p ab.p
      rw [show eqV ⟨ab.x, ab.p⟩ ⟨ab.x, ab.p⟩ = true from (eqV_iff _ _).2 rfl] at hq1
      clear hk
      go_enter Try.func7, Try.ntmps7
      go_wp2_with fail
      refine (hck ((((w.alloc (.cells #[.int .u64 a.x, .int .i64 0] 54)).alloc (.cells #[.int .u64 b.x, .int .i64 0] 54)).alloc (.cells #[.int .u64 c.x, .int .i64 0] 54)))).mono ?_
      rintro e w1 ⟨rfl, hb⟩
      have FA := Lib.hid (heapB hb FA.out)
      have FB := Lib.hid (heapB hb FB.out)
      have FC := Lib.hid (heapB hb FC.out)
      have HB1 := Lib.hid (HB0.out.trans (hb.mono HB0.out.size))
      clear HB0 hb
      clear hck
      have FA0 := cellR 0 FA.out rfl
      have FA1 := cellR 1 FA.out rfl
      have FB0 := cellR 0 FB.out rfl
      have FB1 := cellR 1 FB.out rfl
      go_wp2_with fail
      refine (HAB.out w1).mono ?_
      rintro e w2 ⟨rfl, hb⟩
      clear FA0 FA1 FB0 FB1
      have FA := Lib.hid (heapB hb FA.out)
      have FB := Lib.hid (heapB hb FB.out)
      have FC := Lib.hid (heapB hb FC.out)
      have HB2 := Lib.hid (HB1.out.trans (hb.mono HB1.out.size))
      clear HB1 hb
      clear HAB
      have hb9 := (Below.refl (w2).heap.size (w2)).alloc (Nat.le_refl _) (.cells #[.int .u64 ab.x, .int .i64 ab.p] 54)
      have hn9 := Lib.hid (heap_alloc_new (w2) (.cells #[.int .u64 ab.x, .int .i64 ab.p] 54))
      have FA := Lib.hid (heapB hb9 FA.out)
      have FB := Lib.hid (heapB hb9 FB.out)
      have FC := Lib.hid (heapB hb9 FC.out)
      have HB3 := Lib.hid (HB2.out.trans (hb9.mono HB2.out.size))
      clear HB2 hb9
      have F13 := hn9
      clear hn9
      have FA0 := cellR 0 FA.out rfl
      have FA1 := cellR 1 FA.out rfl
      have FB0 := cellR 0 FB.out rfl
      have FB1 := cellR 1 FB.out rfl
      go_wp2_with fail
      refine (HBA.out _).mono ?_
      rintro e w3 ⟨rfl, hb⟩
      clear FA0 FA1 FB0 FB1
      have FA := Lib.hid (heapB hb FA.out)
      have FB := Lib.hid (heapB hb FB.out)
      have FC := Lib.hid (heapB hb FC.out)
      have F13 := Lib.hid (heapB hb F13.out)
      have HB4 := Lib.hid (HB3.out.trans (hb.mono HB3.out.size))
      clear HB3 hb
      clear HBA
      have hb9 := (Below.refl (w3).heap.size (w3)).alloc (Nat.le_refl _) (.cells #[.int .u64 ab.x, .int .i64 ab.p] 54)
      have hn9 := Lib.hid (heap_alloc_new (w3) (.cells #[.int .u64 ab.x, .int .i64 ab.p] 54))
      have FA := Lib.hid (heapB hb9 FA.out)
      have FB := Lib.hid (heapB hb9 FB.out)
      have FC := Lib.hid (heapB hb9 FC.out)
      have F13 := Lib.hid (heapB hb9 F13.out)
      have HB5 := Lib.hid (HB4.out.trans (hb9.mono HB4.out.size))
      clear HB4 hb9
      have F15 := hn9
      clear hn9
      have FB0 := cellR 0 FB.out rfl
      have FB1 := cellR 1 FB.out rfl
      have FC0 := cellR 0 FC.out rfl
      have FC1 := cellR 1 FC.out rfl
      go_wp2_with fail
      refine (HBC.out _).mono ?_
      rintro e w4 ⟨rfl, hb⟩
      clear FB0 FB1 FC0 FC1
      have FA := Lib.hid (heapB hb FA.out)
      have FB := Lib.hid (heapB hb FB.out)
      have FC := Lib.hid (heapB hb FC.out)
      have F13 := Lib.hid (heapB hb F13.out)
      have F15 := Lib.hid (heapB hb F15.out)
      have HB6 := Lib.hid (HB5.out.trans (hb.mono HB5.out.size))
      clear HB5 hb
      clear HBC
      have hb9 := (Below.refl (w4).heap.size (w4)).alloc (Nat.le_refl _) (.cells #[.int .u64 bc.x, .int .i64 bc.p] 54)
      have hn9 := Lib.hid (heap_alloc_new (w4) (.cells #[.int .u64 bc.x, .int .i64 bc.p] 54))
      have FA := Lib.hid (heapB hb9 FA.out)
      have FB := Lib.hid (heapB hb9 FB.out)
      have FC := Lib.hid (heapB hb9 FC.out)
      have F13 := Lib.hid (heapB hb9 F13.out)
      have F15 := Lib.hid (heapB hb9 F15.out)
      have HB7 := Lib.hid (HB6.out.trans (hb9.mono HB6.out.size))
      clear HB6 hb9
      have F17 := hn9
      clear hn9
      have F130 := cellR 0 F13.out rfl
      have F131 := cellR 1 F13.out rfl
      have F150 := cellR 0 F15.out rfl
      have F151 := cellR 1 F15.out rfl
      by_cases hs : op = 1 ∧ kind = 2
      · obtain ⟨h1, h2⟩ := hs
        have q1 : ((op == 1) : Bool) = true := by rw [h1]; rfl
        have q2 : ((kind == 2) : Bool) = true := by rw [h2]; rfl
        clear h1 h2
        go_wp2_with fail
        refine (works_any _).mono ?_
        rintro e w5 ⟨rfl, hb⟩
        have hbb := HB7.out.trans (hb.mono HB7.out.size)
        go_wp2_with fail
        go_ret
        exact ⟨rfl, hbb⟩
      · have has := HAS.out hs
        rw [has] at HY
        have hq2 := eql_V rx.x rx.x rx.p rx.p
        rw [show eqV ⟨rx.x, rx.p⟩ ⟨rx.x, rx.p⟩ = true from (eqV_iff _ _).2 rfl] at hq2
        have HNS := Lib.hid hs
        clear hs has HAS
        have FC0 := cellR 0 FC.out rfl
        have FC1 := cellR 1 FC.out rfl
        by_cases h1 : op = 1
        · have h2 : ¬ kind = 2 := fun h => HNS.out ⟨h1, h⟩
          have q1 : ((op == 1) : Bool) = true := by rw [h1]; rfl
          have q2 : ((kind == 2) : Bool) = false := beq_eq_false_iff_ne.2 h2
          clear h1 h2
          go_wp2_with fail
          refine (HX.out _).mono ?_
          rintro e w5 ⟨rfl, hb⟩
          clear F130 F131 F150 F151 FC0 FC1
          have FA := Lib.hid (heapB hb FA.out)
          have FB := Lib.hid (heapB hb FB.out)
          have FC := Lib.hid (heapB hb FC.out)
          have F13 := Lib.hid (heapB hb F13.out)
          have F15 := Lib.hid (heapB hb F15.out)
          have F17 := Lib.hid (heapB hb F17.out)
          have HB8 := Lib.hid (HB7.out.trans (hb.mono HB7.out.size))
          clear HB7 hb
          clear HX
          have hb9 := (Below.refl (w5).heap.size (w5)).alloc (Nat.le_refl _) (.cells #[.int .u64 rx.x, .int .i64 rx.p] 54)
          have hn9 := Lib.hid (heap_alloc_new (w5) (.cells #[.int .u64 rx.x, .int .i64 rx.p] 54))
          have FA := Lib.hid (heapB hb9 FA.out)
          have FB := Lib.hid (heapB hb9 FB.out)
          have FC := Lib.hid (heapB hb9 FC.out)
          have F13 := Lib.hid (heapB hb9 F13.out)
          have F15 := Lib.hid (heapB hb9 F15.out)
          have F17 := Lib.hid (heapB hb9 F17.out)
          have HB9 := Lib.hid (HB8.out.trans (hb9.mono HB8.out.size))
          clear HB8 hb9
          have F19 := hn9
          clear hn9
          have FA0 := cellR 0 FA.out rfl
          have FA1 := cellR 1 FA.out rfl
          have F170 := cellR 0 F17.out rfl
          have F171 := cellR 1 F17.out rfl
          go_wp2_with fail
          refine (HY.out _).mono ?_
          rintro e w6 ⟨rfl, hb⟩
          clear FA0 FA1 F170 F171
          have FA := Lib.hid (heapB hb FA.out)
          have FB := Lib.hid (heapB hb FB.out)
          have FC := Lib.hid (heapB hb FC.out)
          have F13 := Lib.hid (heapB hb F13.out)
          have F15 := Lib.hid (heapB hb F15.out)
          have F17 := Lib.hid (heapB hb F17.out)
          have F19 := Lib.hid (heapB hb F19.out)
          have HB10 := Lib.hid (HB9.out.trans (hb.mono HB9.out.size))
          clear HB9 hb
          clear HY
          have hb9 := (Below.refl (w6).heap.size (w6)).alloc (Nat.le_refl _) (.cells #[.int .u64 rx.x, .int .i64 rx.p] 54)
          have hn9 := Lib.hid (heap_alloc_new (w6) (.cells #[.int .u64 rx.x, .int .i64 rx.p] 54))
          have FA := Lib.hid (heapB hb9 FA.out)
          have FB := Lib.hid (heapB hb9 FB.out)
          have FC := Lib.hid (heapB hb9 FC.out)
          have F13 := Lib.hid (heapB hb9 F13.out)
          have F15 := Lib.hid (heapB hb9 F15.out)
          have F17 := Lib.hid (heapB hb9 F17.out)
          have F19 := Lib.hid (heapB hb9 F19.out)
          have HB11 := Lib.hid (HB10.out.trans (hb9.mono HB10.out.size))
          clear HB10 hb9
          have F20 := hn9
          clear hn9
          have F190 := cellR 0 F19.out rfl
          have F191 := cellR 1 F19.out rfl
          have F200 := cellR 0 F20.out rfl
          have F201 := cellR 1 F20.out rfl
          go_wp2_with fail
          refine (works_any _).mono ?_
          rintro e w7 ⟨rfl, hb⟩
          have hbb := HB11.out.trans (hb.mono HB11.out.size)
          go_wp2_with fail
          go_ret
          exact ⟨rfl, hbb⟩
        · have q1 : ((op == 1) : Bool) = false := beq_eq_false_iff_ne.2 h1
          clear h1
          go_wp2_with fail
          refine (HX.out _).mono ?_
          rintro e w5 ⟨rfl, hb⟩
          clear F130 F131 F150 F151 FC0 FC1
          have FA := Lib.hid (heapB hb FA.out)
          have FB := Lib.hid (heapB hb FB.out)
          have FC := Lib.hid (heapB hb FC.out)
          have F13 := Lib.hid (heapB hb F13.out)
          have F15 := Lib.hid (heapB hb F15.out)
          have F17 := Lib.hid (heapB hb F17.out)
          have HB8 := Lib.hid (HB7.out.trans (hb.mono HB7.out.size))
          clear HB7 hb
          clear HX
          have hb9 := (Below.refl (w5).heap.size (w5)).alloc (Nat.le_refl _) (.cells #[.int .u64 rx.x, .int .i64 rx.p] 54)
          have hn9 := Lib.hid (heap_alloc_new (w5) (.cells #[.int .u64 rx.x, .int .i64 rx.p] 54))
          have FA := Lib.hid (heapB hb9 FA.out)
          have FB := Lib.hid (heapB hb9 FB.out)
          have FC := Lib.hid (heapB hb9 FC.out)
          have F13 := Lib.hid (heapB hb9 F13.out)
          have F15 := Lib.hid (heapB hb9 F15.out)
          have F17 := Lib.hid (heapB hb9 F17.out)
          have HB9 := Lib.hid (HB8.out.trans (hb9.mono HB8.out.size))
          clear HB8 hb9
          have F19 := hn9
          clear hn9
          have FA0 := cellR 0 FA.out rfl
          have FA1 := cellR 1 FA.out rfl
          have F170 := cellR 0 F17.out rfl
          have F171 := cellR 1 F17.out rfl
          go_wp2_with fail
          refine (HY.out _).mono ?_
          rintro e w6 ⟨rfl, hb⟩
          clear FA0 FA1 F170 F171
          have FA := Lib.hid (heapB hb FA.out)
          have FB := Lib.hid (heapB hb FB.out)
          have FC := Lib.hid (heapB hb FC.out)
          have F13 := Lib.hid (heapB hb F13.out)
          have F15 := Lib.hid (heapB hb F15.out)
          have F17 := Lib.hid (heapB hb F17.out)
          have F19 := Lib.hid (heapB hb F19.out)
          have HB10 := Lib.hid (HB9.out.trans (hb.mono HB9.out.size))
          clear HB9 hb
          clear HY
          have hb9 := (Below.refl (w6).heap.size (w6)).alloc (Nat.le_refl _) (.cells #[.int .u64 rx.x, .int .i64 rx.p] 54)
          have hn9 := Lib.hid (heap_alloc_new (w6) (.cells #[.int .u64 rx.x, .int .i64 rx.p] 54))
          have FA := Lib.hid (heapB hb9 FA.out)
          have FB := Lib.hid (heapB hb9 FB.out)
          have FC := Lib.hid (heapB hb9 FC.out)
          have F13 := Lib.hid (heapB hb9 F13.out)
          have F15 := Lib.hid (heapB hb9 F15.out)
          have F17 := Lib.hid (heapB hb9 F17.out)
          have F19 := Lib.hid (heapB hb9 F19.out)
          have HB11 := Lib.hid (HB10.out.trans (hb9.mono HB10.out.size))
          clear HB10 hb9
          have F20 := hn9
          clear hn9
          have F190 := cellR 0 F19.out rfl
          have F191 := cellR 1 F19.out rfl
          have F200 := cellR 0 F20.out rfl
          have F201 := cellR 1 F20.out rfl
          go_wp2_with fail
          refine (works_any _).mono ?_
          rintro e w7 ⟨rfl, hb⟩
          have hbb := HB11.out.trans (hb.mono HB11.out.size)
          go_wp2_with fail
          go_ret
          exact ⟨rfl, hbb⟩
    · have HAB := Lib.hid (do_err (u := (⟨a.x, 0⟩ : Vl)) (v := (⟨b.x, 0⟩ : Vl)) hF oka okb)
      obtain ⟨E, hE⟩ : ∃ E, E = findE op kind := ⟨_, rfl⟩
      rw [← hE] at hF hck HAB
      clear hE
      have q1 : ((E != 0) : Bool) = true := bne_iff_ne.2 hF
      clear hk
      go_enter Try.func7, Try.ntmps7
      go_wp2_with fail
      refine (hck ((((w.alloc (.cells #[.int .u64 a.x, .int .i64 0] 54)).alloc (.cells #[.int .u64 b.x, .int .i64 0] 54)).alloc (.cells #[.int .u64 c.x, .int .i64 0] 54)))).mono ?_
      rintro e w1 ⟨rfl, hb⟩
      have FA := Lib.hid (heapB hb FA.out)
      have FB := Lib.hid (heapB hb FB.out)
      have HB1 := Lib.hid (HB0.out.trans (hb.mono HB0.out.size))
      clear HB0 hb
      have FA0 := cellR 0 FA.out rfl
      have FA1 := cellR 1 FA.out rfl
      have FB0 := cellR 0 FB.out rfl
      have FB1 := cellR 1 FB.out rfl
      go_wp2_with fail
      refine (HAB.out w1).mono ?_
      rintro e w2 ⟨rfl, hb⟩
      clear FA0 FA1 FB0 FB1
      have FA := Lib.hid (heapB hb FA.out)
      have FB := Lib.hid (heapB hb FB.out)
      have HB2 := Lib.hid (HB1.out.trans (hb.mono HB1.out.size))
      clear HB1 hb
      clear HAB
      have hb9 := (Below.refl (w2).heap.size (w2)).alloc (Nat.le_refl _) (.cells #[.int .u64 0, .int .i64 0] 54)
      have hn9 := Lib.hid (heap_alloc_new (w2) (.cells #[.int .u64 0, .int .i64 0] 54))
      have FA := Lib.hid (heapB hb9 FA.out)
      have FB := Lib.hid (heapB hb9 FB.out)
      have HB3 := Lib.hid (HB2.out.trans (hb9.mono HB2.out.size))
      clear HB2 hb9
      have F11 := hn9
      clear hn9
      go_wp2_with fail
      refine (hck _).mono ?_
      rintro e w3 ⟨rfl, hb⟩
      have FA := Lib.hid (heapB hb FA.out)
      have FB := Lib.hid (heapB hb FB.out)
      have F11 := Lib.hid (heapB hb F11.out)
      have HB4 := Lib.hid (HB3.out.trans (hb.mono HB3.out.size))
      clear HB3 hb
      go_wp2_with fail
      refine (works_any _).mono ?_
      rintro e w4 ⟨rfl, hb⟩
      have hbb := HB4.out.trans (hb.mono HB4.out.size)
      go_wp2_with fail
      go_ret
      exact ⟨rfl, hbb⟩
end Go.Proofs.Ytjcdnaandbockaa

namespace Go.Proofs.Ytjcdnaandbockaa
open Go.ChangeShapes Go.WideShapes Go.ChangeAt Go.RowKit
set_option maxRecDepth 100000

theorem Try.cells54 : Try.prog.cellsOf 54 = 2 := by kernel_rfl
theorem i64_ok {p : Int} (h : (Lit.int .i64 p).wf = true) : -9223372036854775808 ≤ p ∧ p < 9223372036854775808 := by
  have h2 : IntKind.i64.min ≤ p ∧ p ≤ IntKind.i64.max := by simpa [Lit.wf] using h
  have e1 : IntKind.i64.min = -9223372036854775808 := by decide
  have e2 : IntKind.i64.max = 9223372036854775807 := by decide
  omega
/-- an argument that is a value -/
theorem val_of_trod {H : Type} {enc : TypeId × Value → H} {W : World} {v : Value} {d : DataW H} {ps : List MemPlace} {r : Reach} {b0 : Nat} (hval : Value.okWide Try.prog W r b0 54 v) (h : DataW.Trod enc Try.prog W 0 (fun _ => true) true 54 v d ps) :
    ∃ u : Vl, u.Ok ∧ v = vA u := by
  obtain ⟨cs, rfl, hsz⟩ := okWide_struct Try.underlying54 hval
  rw [Try.cells54] at hsz
  obtain ⟨fuel, hf⟩ := h
  obtain ⟨xs, k, hk, hxy, _, hxl, hf⟩ := DataW.trod_struct Try.underlying54 hf
  obtain ⟨l⟩ := cs
  match l, hsz with
  | [c0, c1], _ =>
    match xs, hxl with
    | [y0, y1], _ =>
      have g0 : DataW.trod enc Try.prog W 0 (fun _ => true) true k 33 ((([c0, c1] : List Value).drop 0).take (Try.prog.cellsOf 33)) = some y0 := hf 0 _ rfl
      have g1 : DataW.trod enc Try.prog W 0 (fun _ => true) true k 2 ((([c0, c1] : List Value).drop 1).take (Try.prog.cellsOf 2)) = some y1 := hf 1 _ rfl
      rw [show Try.prog.cellsOf 33 = 1 by kernel_rfl] at g0
      rw [show Try.prog.cellsOf 2 = 1 by kernel_rfl] at g1
      obtain ⟨x, ex, _, wx⟩ := DataW.trod_int Try.underlying33 g0
      obtain ⟨p, ep, _, wp⟩ := DataW.trod_int Try.underlying2 g1
      obtain ⟨n, rfl, hn⟩ := u64_nat wx
      have hp := i64_ok wp
      simp at ex ep
      subst ex
      subst ep
      exact ⟨⟨n, p⟩, ⟨hn, hp.1, hp.2⟩, rfl⟩
end Go.Proofs.Ytjcdnaandbockaa
