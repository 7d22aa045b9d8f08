import Derived.Test.YtjcdnaandbockaaGreatRows
import Derived.Test.YtjcdnaandbockaaGreatGk
import Derived.WalkKit
import Derived.ProofKit
import Derived.OpenShut
import Derived.Carry
import Derived.Deep.SlicePairs
namespace Go.Proofs.YtjcdnaandbockaaGreat
open Go.ChangeShapes Go.WideShapes Go.ChangeAt Go.RowKit

theorem own : ownKnob Tryz.prog.godebug = none := by kernel_rfl
theorem laidOut : laidOutB Tryz.prog = true := by kernel_rfl

/-- the arguments read behind the call as before it -/
theorem below_trodAll {H : Type} {enc : TypeId × Value → H} {W W' : World} (hb : Below W.heap.size W W') : ∀ (ts : List TypeId) {vs : List Value} {ds : List (DataW H)} {ps : List MemPlace},
    (∀ t ∈ ts, Tryz.prog.readableRec t = true ∧ t < Tryz.prog.types.size) → DataW.TrodAll enc Tryz.prog W 0 (fun _ => true) true ts vs ds ps → (∀ x ∈ ps, x.block < W.heap.size) →
    DataW.TrodAll enc Tryz.prog W' 0 (fun b => decide (b < W.heap.size)) true ts vs ds ps
  | [], _, _, _, _, h, _ => by
    obtain ⟨rfl, rfl, rfl⟩ := trodAll_nil h
    exact trodAll_mk0
  | t :: ts, _, _, _, ht, h, hlt => by
    obtain ⟨v, vs1, d, ds1, a, b, rfl, rfl, rfl, h1, h2⟩ := trodAll_cons h
    obtain ⟨hr, hs⟩ := ht t (by simp)
    exact trodAll_cons_mk (Below.trod laidOut hr hs h1 hb fun x hx => hlt x (by simp [hx])) (below_trodAll hb ts (fun u hu => ht u (by simp [hu])) h2 fun x hx => hlt x (by simp [hx]))
/-- a number of 64 bits -/
theorem u64_nat {a : Int} (h : (Lit.int .u64 a).wf = true) : ∃ x : Nat, a = x ∧ x < 18446744073709551616 := by
  have h2 : IntKind.u64.min ≤ a ∧ a ≤ IntKind.u64.max := by simpa [Lit.wf] using h
  have e1 : IntKind.u64.min = 0 := by decide
  have e2 : IntKind.u64.max = 18446744073709551615 := by decide
  exact ⟨a.toNat, by omega, by omega⟩
end Go.Proofs.YtjcdnaandbockaaGreat

namespace Go.Proofs.YtjcdnaandbockaaGreat
open Go.RowKit Go.Shelf
set_option maxRecDepth 100000
set_option maxHeartbeats 1000000

theorem sg_inj {x y : Nat} (hx : x < 18446744073709551616) (hy : y < 18446744073709551616) (h : sg x = sg y) : x = y := by
  unfold sg at h
  split at h <;> split at h <;> omega
theorem minS_comm {x y : Nat} (hx : x < 18446744073709551616) (hy : y < 18446744073709551616) : minS x y = minS y x := by
  unfold minS
  split <;> split
  · exact sg_inj hx hy (by omega)
  · rfl
  · rfl
  · omega
theorem maxS_comm {x y : Nat} (hx : x < 18446744073709551616) (hy : y < 18446744073709551616) : maxS x y = maxS y x := by
  unfold maxS
  split <;> split
  · exact sg_inj hy hx (by omega)
  · rfl
  · rfl
  · omega
theorem minS_assoc (x y z : Nat) : minS (minS x y) z = minS x (minS y z) := by
  unfold minS
  by_cases h1 : sg x ≤ sg y <;> by_cases h2 : sg y ≤ sg z <;> by_cases h3 : sg x ≤ sg z <;> simp [h1, h2, h3] <;> omega
theorem maxS_assoc (x y z : Nat) : maxS (maxS x y) z = maxS x (maxS y z) := by
  unfold maxS
  by_cases h1 : sg x ≤ sg y <;> by_cases h2 : sg y ≤ sg z <;> by_cases h3 : sg x ≤ sg z <;> simp [h1, h2, h3] <;> omega
theorem cmpN_lt (x y : Nat) : decide (cmpN x y < 0) = decide (x < y) := by
  unfold cmpN
  rw [decide_eq_decide]
  split
  · simp [*]
  · split <;> simp [*]
theorem cmpN_gt (x y : Nat) : decide (0 < cmpN x y) = decide (y < x) := by
  unfold cmpN
  rw [decide_eq_decide]
  split
  · simp; omega
  · split <;> simp [*]
theorem level_inj {x y : Nat} (hx : x < 18446744073709551616) (hy : y < 18446744073709551616) (h1 : nanB x = false) (h2 : nanB y = false) (h : levelN x = levelN y) : x = y := by
  have e1 : oneN x = x := by unfold oneN; rw [h1]; rfl
  have e2 : oneN y = y := by unfold oneN; rw [h2]; rfl
  unfold levelN at h
  rw [e1, e2] at h
  split at h <;> split at h <;> omega
def pickM (s : Bool) (x y : Nat) : Nat := if (nanB x || nanB y) = true then 9221120237041090560 else if (if s = true then levelN x < levelN y else levelN y < levelN x) then x else y
theorem pick_lt (x y : Nat) : pickN (fun i => decide (i < 0)) x y = pickM true x y := by
  unfold pickN pickM
  simp [cmpN_lt]
theorem pick_gt (x y : Nat) : pickN (fun i => decide (0 < i)) x y = pickM false x y := by
  unfold pickN pickM
  simp [cmpN_gt]
theorem nan_nan : nanB 9221120237041090560 = true := by decide
theorem pickM_comm (s : Bool) {x y : Nat} (hx : x < 18446744073709551616) (hy : y < 18446744073709551616) : pickM s x y = pickM s y x := by
  unfold pickM
  cases h1 : nanB x <;> cases h2 : nanB y <;> simp
  have hi := level_inj hx hy h1 h2
  cases s
  · simp
    split <;> split <;> first | omega | rfl | (exact hi (by omega)) | exact (hi (by omega)).symm
  · simp
    split <;> split <;> first | omega | rfl | (exact hi (by omega)) | exact (hi (by omega)).symm
theorem pickM_assoc (s : Bool) (x y z : Nat) : pickM s (pickM s x y) z = pickM s x (pickM s y z) := by
  have hn := nan_nan
  unfold pickM
  cases h1 : nanB x <;> cases h2 : nanB y <;> cases h3 : nanB z <;> simp [hn, h1, h2, h3]
  · cases s
    · simp only [Bool.false_eq_true, if_false]
      by_cases a : levelN y < levelN x <;> by_cases b : levelN z < levelN y <;> by_cases c : levelN z < levelN x <;> simp [a, b, c, h1, h2, h3] <;> omega
    · simp only [if_true]
      by_cases a : levelN x < levelN y <;> by_cases b : levelN y < levelN z <;> by_cases c : levelN x < levelN z <;> simp [a, b, c, h1, h2, h3] <;> omega
  all_goals (split <;> simp [h1, h2, h3])
theorem truth_and (x y : Nat) : truthN (· && ·) x y = if x ≠ 0 ∧ y ≠ 0 then 1 else 0 := by
  unfold truthN
  by_cases h1 : x = 0 <;> by_cases h2 : y = 0 <;> simp [h1, h2]
theorem truth_or (x y : Nat) : truthN (· || ·) x y = if x ≠ 0 ∨ y ≠ 0 then 1 else 0 := by
  unfold truthN
  by_cases h1 : x = 0 <;> by_cases h2 : y = 0 <;> simp [h1, h2]
theorem intOp_comm (op : Int) {x y : Nat} (hx : x < 18446744073709551616) (hy : y < 18446744073709551616) : intOp op x y = intOp op y x := by
  unfold intOp
  rw [Nat.add_comm x y, Nat.mul_comm x y, minS_comm hx hy, maxS_comm hx hy, Nat.and_comm x y, Nat.or_comm x y, Nat.xor_comm x y, truth_and x y, truth_and y x, truth_or x y, truth_or y x]
  simp only [and_comm, or_comm]
theorem intOp_assoc (op : Int) (x y z : Nat) : intOp op (intOp op x y) z = intOp op x (intOp op y z) := by
  unfold intOp
  by_cases h1 : op = 1
  · simp only [if_pos h1, Nat.mod_add_mod, Nat.add_mod_mod, Nat.add_assoc]
  · simp only [if_neg h1]
    by_cases h2 : op = 2
    · simp only [if_pos h2, Nat.mod_mul_mod, Nat.mul_mod_mod, Nat.mul_assoc]
    · simp only [if_neg h2]
      by_cases h3 : op = 3
      · simp only [if_pos h3, minS_assoc]
      · simp only [if_neg h3]
        by_cases h4 : op = 4
        · simp only [if_pos h4, maxS_assoc]
        · simp only [if_neg h4]
          by_cases h5 : op = 5
          · simp only [if_pos h5, Nat.and_assoc]
          · simp only [if_neg h5]
            by_cases h6 : op = 6
            · simp only [if_pos h6, Nat.or_assoc]
            · simp only [if_neg h6]
              by_cases h7 : op = 7
              · simp only [if_pos h7, Nat.xor_assoc]
              · simp only [if_neg h7]
                by_cases h8 : op = 8
                · simp only [if_pos h8, truth_and]
                  by_cases a : x = 0 <;> by_cases b : y = 0 <;> by_cases c : z = 0 <;> simp [a, b, c]
                · simp only [if_neg h8, truth_or]
                  by_cases a : x = 0 <;> by_cases b : y = 0 <;> by_cases c : z = 0 <;> simp [a, b, c]
theorem joinF_comm (f g : Facts) : joinF f g = joinF g f := by
  unfold joinF
  rw [Nat.add_comm f.V, Nat.or_comm f.saw, Nat.max_comm f.zero]
theorem orI_lt (a b p q : Int) : orI (cmpI a b) (cmpI p q) < 0 ↔ (a < b ∨ (a = b ∧ p < q)) := by
  unfold orI cmpI
  by_cases h1 : a < b
  · simp [h1]
  · by_cases h2 : b < a
    · simp [h1, h2]; omega
    · have : a = b := by omega
      by_cases h3 : p < q
      · simp [h1, h2, h3, this]
      · by_cases h4 : q < p
        · simp [h1, h2, h3, h4, this]
        · simp [h1, h2, h3, h4, this]
def bestM (s : Int) (u v : Vl) : Vl := if (s * sg u.x < s * sg v.x ∨ (s * sg u.x = s * sg v.x ∧ u.p < v.p)) then u else v
theorem best_108 (u v : Vl) : bestL 108 u v = bestM 1 u v := by
  rw [best108]
  unfold bestM
  have := orI_lt (sg u.x) (sg v.x) u.p v.p
  by_cases h : orI (cmpI (sg u.x) (sg v.x)) (cmpI u.p v.p) < 0
  · rw [if_pos h, if_pos (by have := this.1 h; omega)]
  · rw [if_neg h, if_neg (fun h2 => h (this.2 (by omega)))]
theorem best_109 (u v : Vl) : bestL 109 u v = bestM (-1) u v := by
  rw [best109]
  unfold bestM
  have := orI_lt (sg v.x) (sg u.x) u.p v.p
  by_cases h : orI (cmpI (sg v.x) (sg u.x)) (cmpI u.p v.p) < 0
  · rw [if_pos h, if_pos (by have := this.1 h; omega)]
  · rw [if_neg h, if_neg (fun h2 => h (this.2 (by omega)))]
theorem bestM_comm (s : Int) (hs : s = 1 ∨ s = -1) {u v : Vl} (hu : u.Ok) (hv : v.Ok) : bestM s u v = bestM s v u := by
  have key : sg u.x = sg v.x → u.p = v.p → u = v := fun h1 h2 => by
    obtain ⟨x, p⟩ := u
    obtain ⟨y, q⟩ := v
    have := sg_inj hu.x hv.x h1
    simp only at this h2
    rw [this, h2]
  unfold bestM
  rcases hs with rfl | rfl
  · split <;> split <;> first | rfl | omega | exact key (by omega) (by omega) | exact (key (by omega) (by omega)).symm
  · split <;> split <;> first | rfl | omega | exact key (by omega) (by omega) | exact (key (by omega) (by omega)).symm
theorem bestM_assoc (s : Int) (u v z : Vl) : bestM s (bestM s u v) z = bestM s u (bestM s v z) := by
  unfold bestM
  obtain ⟨a, ha⟩ : ∃ a, a = s * sg u.x := ⟨_, rfl⟩
  obtain ⟨b, hb⟩ : ∃ a, a = s * sg v.x := ⟨_, rfl⟩
  obtain ⟨c, hc⟩ : ∃ a, a = s * sg z.x := ⟨_, rfl⟩
  by_cases h1 : (s * sg u.x < s * sg v.x ∨ (s * sg u.x = s * sg v.x ∧ u.p < v.p)) <;> by_cases h2 : (s * sg v.x < s * sg z.x ∨ (s * sg v.x = s * sg z.x ∧ v.p < z.p)) <;>
    by_cases h3 : (s * sg u.x < s * sg z.x ∨ (s * sg u.x = s * sg z.x ∧ u.p < z.p)) <;> simp only [h1, h2, h3, if_true, if_false] <;> (rw [← ha, ← hb] at h1; rw [← hb, ← hc] at h2; rw [← ha, ← hc] at h3; omega)
theorem opV_comm (op kind : Int) {u v : Vl} (hu : u.Ok) (hv : v.Ok) : opV op kind u v = opV op kind v u := by
  unfold opV realOp
  rw [intOp_comm op hu.x hv.x, joinF_comm (factsN u.x), pick_lt, pick_gt, pick_lt, pick_gt, pickM_comm true hu.x hv.x, pickM_comm false hu.x hv.x, best_108, best_108, best_109, best_109, bestM_comm 1 (.inl rfl) hu hv, bestM_comm (-1) (.inr rfl) hu hv]
theorem opV_assoc (op kind : Int) (u v z : Vl) (hne : ¬ (op = 1 ∧ kind = 2)) : opV op kind (opV op kind u v) z = opV op kind u (opV op kind v z) := by
  unfold opV
  by_cases h1 : kind = 1
  · simp only [if_pos h1, intOp_assoc]
  · simp only [if_neg h1]
    by_cases h2 : kind = 2
    · have h3 : ¬ op = 1 := fun h => hne ⟨h, h2⟩
      simp only [if_pos h2, realOp, if_neg h3, pick_lt, pick_gt]
      split <;> rw [pickM_assoc]
    · simp only [if_neg h2, best_108, best_109]
      split
      · rw [bestM_assoc]
      · rw [bestM_assoc]
theorem opV_valid (op kind : Int) (u v : Vl) (hu : allowsB kind u = true) (hv : allowsB kind v = true) : allowsB kind (opV op kind u v) = true := by
  unfold opV
  by_cases h1 : kind = 1
  · rw [if_pos h1]; simp [allowsB]
  · rw [if_neg h1]
    by_cases h2 : kind = 2
    · rw [if_pos h2]; simp [allowsB]
    · rw [if_neg h2]
      split
      · rcases bestL_cases 108 u v with h | h <;> rw [h] <;> assumption
      · rcases bestL_cases 109 u v with h | h <;> rw [h] <;> assumption
end Go.Proofs.YtjcdnaandbockaaGreat

namespace Go.Proofs.YtjcdnaandbockaaGreat
open Go.ChangeShapes Go.WideShapes Go.ChangeAt Go.RowKit
set_option maxRecDepth 100000

theorem Tryz.cells54 : Tryz.prog.cellsOf 24 = 2 := by kernel_rfl
theorem i64_ok {p : Int} (h : (Lit.int .i64 p).wf = true) : -9223372036854775808 ≤ p ∧ p < 9223372036854775808 := by
  have h2 : IntKind.i64.min ≤ p ∧ p ≤ IntKind.i64.max := by simpa [Lit.wf] using h
  have e1 : IntKind.i64.min = -9223372036854775808 := by decide
  have e2 : IntKind.i64.max = 9223372036854775807 := by decide
  omega
/-- an argument that is a value -/
theorem val_of_trod {H : Type} {enc : TypeId × Value → H} {W : World} {v : Value} {d : DataW H} {ps : List MemPlace} {r : Reach} {b0 : Nat} (hval : Value.okWide Tryz.prog W r b0 24 v) (h : DataW.Trod enc Tryz.prog W 0 (fun _ => true) true 24 v d ps) :
    ∃ u : Vl, u.Ok ∧ v = vA u := by
  obtain ⟨cs, rfl, hsz⟩ := okWide_struct Tryz.underlying24 hval
  rw [Tryz.cells54] at hsz
  obtain ⟨fuel, hf⟩ := h
  obtain ⟨xs, k, hk, hxy, _, hxl, hf⟩ := DataW.trod_struct Tryz.underlying24 hf
  obtain ⟨l⟩ := cs
  match l, hsz with
  | [c0, c1], _ =>
    match xs, hxl with
    | [y0, y1], _ =>
      have g0 : DataW.trod enc Tryz.prog W 0 (fun _ => true) true k 22 ((([c0, c1] : List Value).drop 0).take (Tryz.prog.cellsOf 22)) = some y0 := hf 0 _ rfl
      have g1 : DataW.trod enc Tryz.prog W 0 (fun _ => true) true k 2 ((([c0, c1] : List Value).drop 1).take (Tryz.prog.cellsOf 2)) = some y1 := hf 1 _ rfl
      rw [show Tryz.prog.cellsOf 22 = 1 by kernel_rfl] at g0
      rw [show Tryz.prog.cellsOf 2 = 1 by kernel_rfl] at g1
      obtain ⟨x, ex, _, wx⟩ := DataW.trod_int Tryz.underlying22 g0
      obtain ⟨p, ep, _, wp⟩ := DataW.trod_int Tryz.underlying2 g1
      obtain ⟨n, rfl, hn⟩ := u64_nat wx
      have hp := i64_ok wp
      simp at ex ep
      subst ex
      subst ep
      exact ⟨⟨n, p⟩, ⟨hn, hp.1, hp.2⟩, rfl⟩
end Go.Proofs.YtjcdnaandbockaaGreat
