import Derived.Test.YtbhkenphcahifaaGreatRows
import Derived.Test.YtbhkenphcahifaaGreatNA
import Derived.WalkKit
import Derived.ProofKit
import Derived.OpenShut
import Derived.Carry
import Derived.SizedLaws
namespace Go.Proofs.YtbhkenphcahifaaGreat
open Go.ChangeShapes Go.WideShapes Go.ChangeAt Go.RowKit
set_option maxRecDepth 100000

theorem own : ownKnob Tryz.prog.godebug = none := by kernel_rfl
theorem laidOut : laidOutB Tryz.prog = true := by kernel_rfl

/-- the arguments read behind the call as before it -/
theorem below_trodAll {H : Type} {enc : TypeId × Value → H} {W W' : World} (hb : Below W.heap.size W W') : ∀ (ts : List TypeId) {vs : List Value} {ds : List (DataW H)} {ps : List MemPlace},
    (∀ t ∈ ts, Tryz.prog.readableRec t = true ∧ t < Tryz.prog.types.size) → DataW.TrodAll enc Tryz.prog W 0 (fun _ => true) true ts vs ds ps → (∀ x ∈ ps, x.block < W.heap.size) →
    DataW.TrodAll enc Tryz.prog W' 0 (fun b => decide (b < W.heap.size)) true ts vs ds ps
  | [], _, _, _, _, h, _ => by
    obtain ⟨rfl, rfl, rfl⟩ := trodAll_nil h
    exact trodAll_mk0
  | t :: ts, _, _, _, ht, h, hlt => by
    obtain ⟨v, vs1, d, ds1, a, b, rfl, rfl, rfl, h1, h2⟩ := trodAll_cons h
    obtain ⟨hr, hs⟩ := ht t (by simp)
    exact trodAll_cons_mk (Below.trod laidOut hr hs h1 hb fun x hx => hlt x (by simp [hx])) (below_trodAll hb ts (fun u hu => ht u (by simp [hu])) h2 fun x hx => hlt x (by simp [hx]))

theorem Tryz.cells3 : Tryz.prog.cellsOf 3 = 1 := by kernel_rfl
theorem Tryz.cells22 : Tryz.prog.cellsOf 22 = 1 := by kernel_rfl
theorem Tryz.cells24 : Tryz.prog.cellsOf 24 = 3 := by kernel_rfl
theorem Tryz.bytes3 : Tryz.prog.bytesOf 3 = 8 := by kernel_rfl

/-- a slice of integers, read -/
theorem ints_of_trod {H : Type} {enc : TypeId × Value → H} {W : World} {v : Value} {k : Nat} {y : DataW H × List MemPlace} (hf : DataW.trod enc Tryz.prog W 0 (fun _ => true) true k 22 [v] = some y)
    (hs : ∀ es sp, y.1 = .slice es sp → (es.length + sp.length) * Tryz.prog.bytesOf 3 ≤ reachBytes) :
    ∃ (x : Option Addr) (cap : Nat) (l : List Int), v = .slice x l.length cap ∧ l.length ≤ cap ∧ (x = none → cap = 0) ∧ Ints W x l ∧ (∀ n ∈ l, (Lit.int .i64 n).wf = true) := by
  rcases open_ints Tryz.underlying22 Tryz.underlying3 Tryz.cells3 hf with ⟨hcs, hx⟩ | ⟨a, len', cap', zs, hcs, _, hl, hm, hz, hx, hcell, hwz⟩
  · obtain rfl : v = .slice none 0 0 := by simpa using hcs
    exact ⟨none, 0, [], rfl, Nat.le_refl _, fun _ => rfl, ⟨by simp, fun hl => absurd rfl hl⟩, fun n hn => by cases hn⟩
  · obtain rfl : v = .slice (some a) len' cap' := by simpa using hcs
    simp only [if_true] at hz
    have hd := hs (lits .i64 (zs.take len')) (lits .i64 (zs.drop len')) (by rw [hx])
    rw [Tryz.bytes3] at hd
    simp only [lits, List.length_map, List.length_take, List.length_drop, reachBytes] at hd
    have hlen : (zs.take len').length = len' := by simp; omega
    refine ⟨some a, cap', zs.take len', by rw [hlen], by omega, (fun e => by cases e), ⟨by simp; omega, fun hne => ?_⟩, fun n hn => hwz n (List.mem_of_mem_take hn)⟩
    have hp : 0 < zs.length := by
      cases zs with
      | nil => simp at hne
      | cons _ _ => simp
    obtain ⟨b, off, rfl, hc⟩ := ints_at hcell hp
    refine ⟨b, off, rfl, fun j hj => ?_⟩
    simp at hj
    rw [hc j (by omega)]
    simp [List.getD, show j < zs.length by omega]

/-- an argument that is a network's description -/
theorem spec_of_trod {H : Type} {enc : TypeId × Value → H} {W : World} {v : Value} {d : DataW H} {ps : List MemPlace} {r : Reach} {b0 : Nat} (hval : Value.okWide Tryz.prog W r b0 24 v) (h : DataW.Trod enc Tryz.prog W 0 (fun _ => true) true 24 v d ps)
    {ts : List TypeId} {ds : List (DataW H)} {j : Nat} (hsz : (DataW.weightsEach Tryz.prog ts ds).all (· ≤ reachBytes) = true) (ht : ts[j]? = some 24) (hd : ds[j]? = some d) :
    ∃ (kind hosts : Int) (x : Option Addr) (cap : Nat) (l : List Int), v = .agg #[.int .i64 kind, .slice x l.length cap, .int .i64 hosts] ∧ l.length ≤ cap ∧ (x = none → cap = 0) ∧ Ints W x l ∧ (∀ n ∈ l, (Lit.int .i64 n).wf = true) ∧
      (Lit.int .i64 kind).wf = true ∧ (Lit.int .i64 hosts).wf = true := by
  obtain ⟨cs, rfl, hn⟩ := okWide_struct Tryz.underlying24 hval
  rw [Tryz.cells24] at hn
  obtain ⟨fuel, hf⟩ := h
  obtain ⟨xs, k, hk, hxy, _, hxl, hf⟩ := DataW.trod_struct Tryz.underlying24 hf
  obtain ⟨l⟩ := cs
  match l, hn with
  | [c0, c1, c2], _ =>
    match xs, hxl with
    | [y0, y1, y2], _ =>
      have g0 : DataW.trod enc Tryz.prog W 0 (fun _ => true) true k 3 ((([c0, c1, c2] : List Value).drop 0).take (Tryz.prog.cellsOf 3)) = some y0 := hf 0 _ rfl
      have g1 : DataW.trod enc Tryz.prog W 0 (fun _ => true) true k 22 ((([c0, c1, c2] : List Value).drop 1).take (Tryz.prog.cellsOf 22)) = some y1 := hf 1 _ rfl
      have g2 : DataW.trod enc Tryz.prog W 0 (fun _ => true) true k 3 ((([c0, c1, c2] : List Value).drop 2).take (Tryz.prog.cellsOf 3)) = some y2 := hf 2 _ rfl
      rw [Tryz.cells3] at g0 g2
      rw [Tryz.cells22] at g1
      obtain ⟨x, ex, _, wx⟩ := DataW.trod_int Tryz.underlying3 g0
      obtain ⟨p, ep, _, wp⟩ := DataW.trod_int Tryz.underlying3 g2
      simp at ex ep
      subst ex
      subst ep
      have hd2 : d = .agg [y0.1, y1.1, y2.1] := by
        have := congrArg Prod.fst hxy
        simpa using this
      have := ints_of_trod (v := c1) g1 (fun es sp e => by
        have := List.all_eq_true.1 hsz _ (DataW.weights_mem_each ht hd ((es.length + sp.length) * Tryz.prog.bytesOf 3) (by
          rw [hd2, e]
          have := DataW.weights_mem_each (H := H) (P := Tryz.prog) (ts := [3, 22, 3]) (ds := [y0.1, .slice es sp, y2.1]) (j := 1) rfl rfl ((es.length + sp.length) * Tryz.prog.bytesOf 3) (by simp [DataW.weights, Tryz.underlying22])
          simpa [DataW.weights, Tryz.underlying24] using this))
        simpa using this)
      obtain ⟨x1, cap, L, rfl, h1, h2, h3, h4⟩ := this
      exact ⟨x, p, x1, cap, L, rfl, h1, h2, h3, h4, wx, wp⟩
end Go.Proofs.YtbhkenphcahifaaGreat
