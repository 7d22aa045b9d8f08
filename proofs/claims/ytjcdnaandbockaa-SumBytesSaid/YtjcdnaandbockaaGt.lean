import Derived.Test.YtjcdnaandbockaaGs
import Derived.Test.YtjcdnaandbockaaGh
import Derived.Test.YtjcdnaandbockaaGp
import Derived.Test.YtjcdnaandbockaaGl
namespace Go.Proofs.Ytjcdnaandbockaa
open Go.RowKit Go.Shelf
attribute [local go_sem] Oper.semAt_some
set_option maxRecDepth 100000
set_option maxHeartbeats 1000000

theorem u8_rem2 (p : Nat) (hp : p < 256) (w : World) : (binOp .rem 5 (.int .u8 p) (.int .u8 2)).run Try.prog w = .ok (.int .u8 ((p % 2 : Nat) : Int)) w := by
  simp [go_sem]
  rw [Int.tmod_eq_emod_of_nonneg (by omega)]
theorem u8_quo2 (p : Nat) (hp : p < 256) (w : World) : (binOp .quo 5 (.int .u8 p) (.int .u8 2)).run Try.prog w = .ok (.int .u8 ((p / 2 : Nat) : Int)) w := by
  simp [go_sem]
  try (rw [IntKind.wrap_u8]; omega)
theorem u8_quo4 (p : Nat) (hp : p < 256) (w : World) : (binOp .quo 5 (.int .u8 p) (.int .u8 4)).run Try.prog w = .ok (.int .u8 ((p / 4 : Nat) : Int)) w := by
  simp [go_sem]
  try (rw [IntKind.wrap_u8]; omega)
theorem u8_quo8 (p : Nat) (hp : p < 256) (w : World) : (binOp .quo 5 (.int .u8 p) (.int .u8 8)).run Try.prog w = .ok (.int .u8 ((p / 8 : Nat) : Int)) w := by
  simp [go_sem]
  try (rw [IntKind.wrap_u8]; omega)
theorem u8_one (x : Nat) (w : World) : (binOp .eql 5 (.int .u8 x) (.int .u8 1)).run Try.prog w = .ok (.bool (decide (x = 1))) w := by
  simp [go_sem]
  by_cases h : x = 1
  · subst h; rfl
  · rw [decide_eq_false h, beq_eq_false_iff_ne]; omega
theorem u8_i64 (z : Nat) (hz : z < 256) (w : World) : (convert 5 3 (.int .u8 z)).run Try.prog w = .ok (.int .i64 z) w := by
  simp [go_sem]
  rw [IntKind.wrap_i64]; omega
theorem append_bs {W : World} {base : Nat} {v : Value} {n : Nat} {xs : List Value} (hown : W.ownsRow base 5 1 v n xs) {ad : Addr} {l : List Nat} (h : Bs W (some ad) l) (cap : Nat) (hn : n + l.length ≤ 17592186044416) (hbase : base ≤ W.heap.size) :
    ∃ v' w', (Builtin.append_ #[22, 22] 22 #[v, .slice (some ad) l.length cap]).run Try.prog W = .ok v' w' ∧ w'.ownsRow base 5 1 v' (n + l.length) (xs ++ bvals l) ∧ W.grownBy w' v.ownBlock := by
  obtain ⟨i0, hi, hz0, hz1, hz2⟩ := info_parts Try.info5
  obtain ⟨v', w', h1, h2, h3, _⟩ := run_append_own (P := Try.prog) (w := W) base 22 22 5 i0 (.int .u8 0) 1 1 Try.underlying22 hi hz0 hz1 hz2 rfl (by decide) v n xs hown ad l.length cap (bvals l) (by simp [bvals])
    (fun j u hj => by
      have hjl : j < l.length := by have := (List.getElem?_eq_some_iff.1 hj).1; simpa [bvals] using this
      obtain ⟨b, off, e1, hc⟩ := h.at_ (ne_nil_of_lt hjl)
      cases e1
      have e : (⟨b, off, none⟩ : Addr).add j = ⟨b, off + j, none⟩ := by unfold Addr.add; split <;> simp_all
      rw [e, hc j hjl]
      simpa [bvals, hjl] using hj)
    (by intro u hu; obtain ⟨y, _, rfl⟩ := List.mem_map.1 hu; rfl) (by unfold maxLen; omega) (by omega) hbase
  exact ⟨v', w', h1, h2, h3⟩
theorem list_cons {n : Nat} (l : List Bool) (h : l.length = n + 1) : ∃ x t, l = x :: t ∧ t.length = n := by
  cases l with
  | nil => simp at h
  | cons x t => exact ⟨x, t, rfl, by simpa using h⟩
theorem NewBs.form {B : Nat} {w : World} {v : Value} {l : List Nat} (h : NewBs B w v l) : ∃ a c, v = .slice a l.length c := by
  rcases h.own.2 with ⟨h1, h2⟩ | ⟨g, cap, cur, h1, _⟩
  · exact ⟨none, 0, by rw [h1, h2]⟩
  · exact ⟨_, _, h1⟩
/-- is a list of bytes not a sum's for the reference -/
def rBad (p q : Nat) (m : List Nat) : Bool := decide (2 < p / 8) || decide (1 < q) || (decide (m ≠ []) && decide (m.getD 0 0 = 0)) || (decide (m = []) && decide (q = 1)) || (decide (p / 8 < 2) && (decide (m ≠ []) || decide (p % 8 ≠ 0)))
theorem rdecode_any {w : World} {a : Option Addr} {p q : Nat} {m : List Nat} (h : Bs w a (p :: q :: m)) (hl : m.length + 2 ≤ 282) (cap : Nat) (hcap : m.length + 2 ≤ cap) :
    Calls Try.prog 13 #[.slice a (m.length + 2) cap] w fun e w' => Below w.heap.size w w' ∧ ((rBad p q m = true ∧ e = .returned (.tuple #[.pointer none, .int .i64 7])) ∨
      (rBad p q m = false ∧ ∃ b va vc, e = .returned (.tuple #[.pointer (some ⟨b, 0, none⟩), .int .i64 0]) ∧ RAt w' b (decide (q = 1)) va m vc (decide (p % 2 = 1)) (decide (p / 2 % 2 = 1)) (decide (p / 4 % 2 = 1)) (p / 8))) := by
  have hp := h.small p (by simp)
  have hq := h.small q (by simp)
  obtain ⟨g, o, rfl, hc⟩ := h.at_ (by simp)
  have c0 := hc 0 (by simp)
  have c1 := hc 1 (by simp)
  rw [Nat.add_zero] at c0
  simp only [List.getElem_cons_zero, List.getElem_cons_succ] at c0 c1
  obtain ⟨a2, ha2⟩ : ∃ x : Addr, x = ⟨g, if cap = 2 then o else o + 2, none⟩ := ⟨_, rfl⟩
  have h22 : Bs w (some a2) m := ⟨by have := h.len; simp at this; omega, fun x hx => h.small x (by simp [hx]), fun hne => by
    have : 0 < m.length := List.length_pos_iff.2 hne
    refine ⟨g, o + 2, by rw [ha2, if_neg (by omega)], fun j hj => ?_⟩
    have := hc (2 + j) (by simp; omega)
    rw [Nat.add_assoc, this]
    simp [Nat.add_comm 2 j]⟩
  have HSL : Hid (∀ W, (Instr.sliceAt 22 (.slice (some ⟨g, o, none⟩) (m.length + 2) cap) (some (.int .i64 2)) none none).run Try.prog W = .ok (.slice (some a2) m.length (cap - 2)) W) := Lib.hid (fun W => by
    rw [ha2]; exact slice22 g o (m.length + 2) cap (by omega) hcap W)
  have HSRC : Hid (∀ W, Below w.heap.size w W → Bs W (some a2) m) := fun W hW => h22.keep hW
  have HSM := Lib.hid h22.small
  have C0 := Lib.hid c0
  have C1 := Lib.hid c1
  have HL9 : Hid (m.length ≤ 280) := by show _ ≤ _; omega
  have HM := Lib.hid (fun W => u8_one q W)
  have HR2 := Lib.hid (fun W => u8_rem2 p hp W)
  have HE1 := Lib.hid (fun W => u8_one (p % 2) W)
  have HQ2 := Lib.hid (fun W => u8_quo2 p hp W)
  have HR22 := Lib.hid (fun W => u8_rem2 (p / 2) (by omega) W)
  have HE2 := Lib.hid (fun W => u8_one (p / 2 % 2) W)
  have HQ4 := Lib.hid (fun W => u8_quo4 p hp W)
  have HR42 := Lib.hid (fun W => u8_rem2 (p / 4) (by omega) W)
  have HE4 := Lib.hid (fun W => u8_one (p / 4 % 2) W)
  have HQ8 := Lib.hid (fun W => u8_quo8 p hp W)
  have HCV := Lib.hid (fun W => u8_i64 (p / 8) (by omega) W)
  have HBAD : Hid (rBad p q m = (decide (2 < p / 8) || decide (1 < q) || (decide (m ≠ []) && decide (m.getD 0 0 = 0)) || (decide (m = []) && decide (q = 1)) || (decide (p / 8 < 2) && (decide (m ≠ []) || decide (p % 8 ≠ 0))))) := rfl
  clear c0 c1 h22 ha2 h hc
  have hz32 : p / 8 < 32 := by omega
  obtain ⟨z, hz⟩ : ∃ z, z = p / 8 := ⟨_, rfl⟩
  rw [← hz] at HQ8 HCV HBAD hz32 ⊢
  obtain ⟨N, hN⟩ : ∃ N, N = m.length := ⟨_, rfl⟩
  have HN := Lib.hid hN
  rw [← hN] at hl hcap HSL ⊢
  clear hN hz
  have hcap1 : 1 < N + 2 := by omega
  have hd1 : decide ((282 : Int) < (N : Int) + 2) = false := decide_eq_false (by omega)
  have hd2 : decide ((N : Int) + 2 < 2) = false := decide_eq_false (by omega)
  generalize rBad p q m = bad at *
  obtain ⟨nB, hnB⟩ : ∃ x, x = decide (p % 2 = 1) := ⟨_, rfl⟩
  rw [← hnB] at HE1 ⊢
  obtain ⟨pB, hpB⟩ : ∃ x, x = decide (p / 2 % 2 = 1) := ⟨_, rfl⟩
  rw [← hpB] at HE2 ⊢
  obtain ⟨bB, hbB⟩ : ∃ x, x = decide (p / 4 % 2 = 1) := ⟨_, rfl⟩
  rw [← hbB] at HE4 ⊢
  obtain ⟨mB, hmB⟩ : ∃ x, x = decide (q = 1) := ⟨_, rfl⟩
  have HMB := Lib.hid hmB
  rw [← hmB] at HM HBAD ⊢
  clear hnB hpB hbB hmB
  go_enter Try.func13, Try.ntmps13
  go_wp2_with fail
  refine (wpIn_wide (n := 0)).1 ?_
  refine region_det (by kernel_rfl) (I := fun listed a' w' => ∃ (gb gp : Nat) (va : Option Addr) (vc : Nat), Hid (Below w.heap.size w w') ∧ Hid (listed.getD 4 false = true → listed.getD 7 false = false → w'.ownsRow w.heap.size 5 1 (.slice (some ⟨gb, 0, none⟩) 0 0) 0 []) ∧ Hid (listed.getD 7 false = true → NewBs w.heap.size w' (Value.slice va N vc) m) ∧ Hid (listed.getD 31 false = true → w'.heap[gp]? = some (.cells #[.bool mB, Value.slice va N vc, .bool nB, .bool pB, .bool bB, .int .i64 z] 81 (0, 0))) ∧ Hid (listed.getD 30 false = true → listed.getD 7 false = true) ∧ Hid (listed.getD 31 false = true → listed.getD 30 false = true) ∧ Hid (listed.getD 32 false = true → listed.getD 31 false = true) ∧ a' = ⟨#[Value.slice (some ⟨g, o, none⟩) (N + 2) cap, undef, Value.pointer none, Value.int IntKind.i64 0, (if listed.getD 32 false = true then Value.pointer (some ⟨gp, 0, none⟩) else undef), undef, Value.slice (some ⟨g, o, none⟩) (N + 2) cap, Value.int IntKind.i64 (↑N + 2), Value.bool false, Value.slice (some ⟨g, o, none⟩) (N + 2) cap, Value.int IntKind.i64 (↑N + 2), Value.bool false, (if listed.getD 0 false = true then Value.slice (some ⟨g, o, none⟩) (N + 2) cap else undef), (if listed.getD 1 false = true then Value.pointer (some ⟨g, (o + 1), none⟩) else undef), (if listed.getD 2 false = true then Value.int IntKind.u8 (q : Int) else undef), (if listed.getD 3 false = true then Value.bool mB else undef), (if listed.getD 4 false = true then Value.slice (some ⟨gb, 0, none⟩) 0 0 else undef), (if listed.getD 5 false = true then Value.slice (some ⟨g, o, none⟩) (N + 2) cap else undef), (if listed.getD 6 false = true then Value.slice (some a2) N (cap - 2) else undef), (if listed.getD 7 false = true then Value.slice va N vc else undef), (if listed.getD 8 false = true then Value.slice (some ⟨g, o, none⟩) (N + 2) cap else undef), (if listed.getD 9 false = true then Value.pointer (some ⟨g, o, none⟩) else undef), (if listed.getD 10 false = true then Value.int IntKind.u8 (p : Int) else undef), (if listed.getD 11 false = true then Value.int IntKind.u8 ((p % 2 : Nat) : Int) else undef), (if listed.getD 12 false = true then Value.bool nB else undef), (if listed.getD 13 false = true then Value.slice (some ⟨g, o, none⟩) (N + 2) cap else undef), (if listed.getD 14 false = true then Value.pointer (some ⟨g, o, none⟩) else undef), (if listed.getD 15 false = true then Value.int IntKind.u8 (p : Int) else undef), (if listed.getD 16 false = true then Value.int IntKind.u8 ((p / 2 : Nat) : Int) else undef), (if listed.getD 17 false = true then Value.int IntKind.u8 ((p / 2 % 2 : Nat) : Int) else undef), (if listed.getD 18 false = true then Value.bool pB else undef), (if listed.getD 19 false = true then Value.slice (some ⟨g, o, none⟩) (N + 2) cap else undef), (if listed.getD 20 false = true then Value.pointer (some ⟨g, o, none⟩) else undef), (if listed.getD 21 false = true then Value.int IntKind.u8 (p : Int) else undef), (if listed.getD 22 false = true then Value.int IntKind.u8 ((p / 4 : Nat) : Int) else undef), (if listed.getD 23 false = true then Value.int IntKind.u8 ((p / 4 % 2 : Nat) : Int) else undef), (if listed.getD 24 false = true then Value.bool bB else undef), (if listed.getD 25 false = true then Value.slice (some ⟨g, o, none⟩) (N + 2) cap else undef), (if listed.getD 26 false = true then Value.pointer (some ⟨g, o, none⟩) else undef), (if listed.getD 27 false = true then Value.int IntKind.u8 (p : Int) else undef), (if listed.getD 28 false = true then Value.int IntKind.u8 (z : Int) else undef), (if listed.getD 29 false = true then Value.int IntKind.i64 (z : Int) else undef), (if listed.getD 30 false = true then Value.agg #[.bool mB, Value.slice va N vc, .bool nB, .bool pB, .bool bB, .int .i64 (z : Int)] else undef), (if listed.getD 31 false = true then Value.pointer (some ⟨gp, 0, none⟩) else undef), undef, undef, undef, undef, undef, undef, undef, undef, undef, undef, undef, undef, undef, undef, undef, undef, undef, undef, undef, undef, undef, undef, undef, undef, undef, undef, undef, undef, undef, undef, undef, undef, undef, undef, undef, undef, undef, undef, undef, undef, undef, undef, undef, undef, undef, undef, undef, undef, undef, undef, undef, undef, undef, undef, undef, undef, undef, undef], []⟩) (hup_check (by kernel_rfl)) ?h0 ?step ?fin
  case h0 => exact ⟨0, 0, none, 0, (Below.refl _ _).drew, (fun h => by simp at h), (fun h => by simp at h), (fun h => by simp at h), (fun h => by simp at h), (fun h => by simp at h), (fun h => by simp at h), rfl⟩
  case step =>
    intro listed a' w' i hs hbi hdep hi ⟨gb, gp, va, vc, IB, IO, IV, IP, J30, J31, J32, ha⟩
    obtain ⟨ls⟩ := listed
    have hs0 : ls.length = 33 := by simpa using hs
    obtain ⟨x0, t0, rfl, hs1⟩ := list_cons ls hs0
    obtain ⟨x1, t1, rfl, hs2⟩ := list_cons t0 hs1
    obtain ⟨x2, t2, rfl, hs3⟩ := list_cons t1 hs2
    obtain ⟨x3, t3, rfl, hs4⟩ := list_cons t2 hs3
    obtain ⟨x4, t4, rfl, hs5⟩ := list_cons t3 hs4
    obtain ⟨x5, t5, rfl, hs6⟩ := list_cons t4 hs5
    obtain ⟨x6, t6, rfl, hs7⟩ := list_cons t5 hs6
    obtain ⟨x7, t7, rfl, hs8⟩ := list_cons t6 hs7
    obtain ⟨x8, t8, rfl, hs9⟩ := list_cons t7 hs8
    obtain ⟨x9, t9, rfl, hs10⟩ := list_cons t8 hs9
    obtain ⟨x10, t10, rfl, hs11⟩ := list_cons t9 hs10
    obtain ⟨x11, t11, rfl, hs12⟩ := list_cons t10 hs11
    obtain ⟨x12, t12, rfl, hs13⟩ := list_cons t11 hs12
    obtain ⟨x13, t13, rfl, hs14⟩ := list_cons t12 hs13
    obtain ⟨x14, t14, rfl, hs15⟩ := list_cons t13 hs14
    obtain ⟨x15, t15, rfl, hs16⟩ := list_cons t14 hs15
    obtain ⟨x16, t16, rfl, hs17⟩ := list_cons t15 hs16
    obtain ⟨x17, t17, rfl, hs18⟩ := list_cons t16 hs17
    obtain ⟨x18, t18, rfl, hs19⟩ := list_cons t17 hs18
    obtain ⟨x19, t19, rfl, hs20⟩ := list_cons t18 hs19
    obtain ⟨x20, t20, rfl, hs21⟩ := list_cons t19 hs20
    obtain ⟨x21, t21, rfl, hs22⟩ := list_cons t20 hs21
    obtain ⟨x22, t22, rfl, hs23⟩ := list_cons t21 hs22
    obtain ⟨x23, t23, rfl, hs24⟩ := list_cons t22 hs23
    obtain ⟨x24, t24, rfl, hs25⟩ := list_cons t23 hs24
    obtain ⟨x25, t25, rfl, hs26⟩ := list_cons t24 hs25
    obtain ⟨x26, t26, rfl, hs27⟩ := list_cons t25 hs26
    obtain ⟨x27, t27, rfl, hs28⟩ := list_cons t26 hs27
    obtain ⟨x28, t28, rfl, hs29⟩ := list_cons t27 hs28
    obtain ⟨x29, t29, rfl, hs30⟩ := list_cons t28 hs29
    obtain ⟨x30, t30, rfl, hs31⟩ := list_cons t29 hs30
    obtain ⟨x31, t31, rfl, hs32⟩ := list_cons t30 hs31
    obtain ⟨x32, t32, rfl, hs33⟩ := list_cons t31 hs32
    obtain rfl : t32 = [] := List.eq_nil_of_length_eq_zero hs33
    clear hs0 hs1 hs2 hs3 hs4 hs5 hs6 hs7 hs8 hs9 hs10 hs11 hs12 hs13 hs14 hs15 hs16 hs17 hs18 hs19 hs20 hs21 hs22 hs23 hs24 hs25 hs26 hs27 hs28 hs29 hs30 hs31 hs32 hs33
    subst ha
    have hi' : i = 0 ∨ i = 1 ∨ i = 2 ∨ i = 3 ∨ i = 4 ∨ i = 5 ∨ i = 6 ∨ i = 7 ∨ i = 8 ∨ i = 9 ∨ i = 10 ∨ i = 11 ∨ i = 12 ∨ i = 13 ∨ i = 14 ∨ i = 15 ∨ i = 16 ∨ i = 17 ∨ i = 18 ∨ i = 19 ∨ i = 20 ∨ i = 21 ∨ i = 22 ∨ i = 23 ∨ i = 24 ∨ i = 25 ∨ i = 26 ∨ i = 27 ∨ i = 28 ∨ i = 29 ∨ i = 30 ∨ i = 31 ∨ i = 32 := by simp at hi; omega
    have hsz : w.heap.size ≤ w'.heap.size := IB.out.size
    have c0 := kcell IB.out C0.out
    have c1 := kcell IB.out C1.out
    rcases hi' with rfl | rfl | rfl | rfl | rfl | rfl | rfl | rfl | rfl | rfl | rfl | rfl | rfl | rfl | rfl | rfl | rfl | rfl | rfl | rfl | rfl | rfl | rfl | rfl | rfl | rfl | rfl | rfl | rfl | rfl | rfl | rfl | rfl
    · obtain rfl : x0 = false := by simpa using hbi
      refine wpOpIn_plain rfl rfl rfl ?_
      exact ⟨gb, gp, va, vc, IB, IO, IV, IP, J30, J31, J32, rfl⟩
    · obtain rfl : x1 = false := by simpa using hbi
      obtain rfl : x0 = true := hdep _ rfl ⟨0, .data⟩ (by simp) rfl
      refine wpOpIn_plain (v := Value.pointer (some ⟨g, (o + 1), none⟩)) (w' := w') rfl rfl (by simp [Oper.semAt, execOp, go_sem]; intro h9; omega) ?_
      exact ⟨gb, gp, va, vc, IB, IO, IV, IP, J30, J31, J32, rfl⟩
    · obtain rfl : x2 = false := by simpa using hbi
      obtain rfl : x1 = true := hdep _ rfl ⟨1, .data⟩ (by simp) rfl
      refine wpOpIn_plain (v := Value.int IntKind.u8 (q : Int)) (w' := w') rfl rfl (by simp [Oper.semAt, execOp, go_sem, c1]) ?_
      exact ⟨gb, gp, va, vc, IB, IO, IV, IP, J30, J31, J32, rfl⟩
    · obtain rfl : x3 = false := by simpa using hbi
      obtain rfl : x2 = true := hdep _ rfl ⟨2, .data⟩ (by simp) rfl
      refine wpOpIn_plain (v := Value.bool mB) (w' := w') rfl rfl (sem_bin (vx := Value.int IntKind.u8 (q : Int)) (vy := Value.int IntKind.u8 1) rfl rfl rfl rfl (HM.out w')) ?_
      exact ⟨gb, gp, va, vc, IB, IO, IV, IP, J30, J31, J32, rfl⟩
    · obtain rfl : x4 = false := by simpa using hbi
      refine wpOpIn_plain (v := Value.slice (some ⟨w'.heap.size, 0, none⟩) 0 0) (w' := w'.alloc (.cells #[] 5)) rfl rfl (by simp [Oper.semAt, execOp, go_sem]) ?_
      have hb9 : Below w'.heap.size w' (w'.alloc (.cells #[] 5)) := (Below.refl _ _).alloc (Nat.le_refl _) _
      exact ⟨w'.heap.size, gp, va, vc, (IB.out.trans (hb9.mono hsz)), (fun _ _ => own_base9 (World.ownsRow_lit (base := w'.heap.size) w' #[] 0 (Nat.le_refl _) (by unfold maxLen; omega) rfl) hsz), (fun h => (IV.out h).keep hb9), (fun h => heapB hb9 (IP.out h)), J30, J31, J32, rfl⟩
    · obtain rfl : x5 = false := by simpa using hbi
      refine wpOpIn_plain rfl rfl rfl ?_
      exact ⟨gb, gp, va, vc, IB, IO, IV, IP, J30, J31, J32, rfl⟩
    · obtain rfl : x6 = false := by simpa using hbi
      obtain rfl : x5 = true := hdep _ rfl ⟨5, .data⟩ (by simp) rfl
      refine wpOpIn_plain (v := Value.slice (some a2) N (cap - 2)) (w' := w') rfl rfl (sem_slice2 rfl rfl rfl (HSL.out w')) ?_
      exact ⟨gb, gp, va, vc, IB, IO, IV, IP, J30, J31, J32, rfl⟩
    · obtain rfl : x7 = false := by simpa using hbi
      obtain rfl : x4 = true := hdep _ rfl ⟨4, .data⟩ (by simp) rfl
      obtain rfl : x6 = true := hdep _ rfl ⟨6, .data⟩ (by simp) rfl
      obtain rfl : x30 = false := Bool.eq_false_iff.2 fun h => by have := J30.out h; cases this
      obtain rfl : x31 = false := Bool.eq_false_iff.2 fun h => by have := J30.out (J31.out h); cases this
      have hown := IO.out rfl rfl
      obtain ⟨v', w2, hrun, hown2, hgr⟩ := append_bs hown (HSRC.out w' IB.out) (cap - 2) (by have := HL9.out; omega) hsz
      rw [← HN.out] at hrun
      rw [Nat.zero_add] at hown2
      have hn2 : NewBs w.heap.size w2 v' m := ⟨hown2, by have := HL9.out; omega⟩
      obtain ⟨ua, uc, hv'⟩ := hn2.form
      subst hv'
      rw [← HN.out] at hrun hn2
      refine wpOpIn_append rfl rfl _ _ 22 rfl rfl rfl hrun ?_
      exact ⟨gb, gp, ua, uc, ((IB.out).grown hgr hsz (fun k hk => by cases hk; exact (hown.lt _ rfl).1)), (fun _ h => by cases h), (fun _ => hn2), (fun h => by cases h), (fun h => by cases h), J31, J32, rfl⟩
    · obtain rfl : x8 = false := by simpa using hbi
      refine wpOpIn_plain rfl rfl rfl ?_
      exact ⟨gb, gp, va, vc, IB, IO, IV, IP, J30, J31, J32, rfl⟩
    · obtain rfl : x9 = false := by simpa using hbi
      obtain rfl : x8 = true := hdep _ rfl ⟨8, .data⟩ (by simp) rfl
      refine wpOpIn_plain (v := Value.pointer (some ⟨g, o, none⟩)) (w' := w') rfl rfl (by simp [Oper.semAt, execOp, go_sem]; intro h9; omega) ?_
      exact ⟨gb, gp, va, vc, IB, IO, IV, IP, J30, J31, J32, rfl⟩
    · obtain rfl : x10 = false := by simpa using hbi
      obtain rfl : x9 = true := hdep _ rfl ⟨9, .data⟩ (by simp) rfl
      refine wpOpIn_plain (v := Value.int IntKind.u8 (p : Int)) (w' := w') rfl rfl (by simp [Oper.semAt, execOp, go_sem, c0]) ?_
      exact ⟨gb, gp, va, vc, IB, IO, IV, IP, J30, J31, J32, rfl⟩
    · obtain rfl : x11 = false := by simpa using hbi
      obtain rfl : x10 = true := hdep _ rfl ⟨10, .data⟩ (by simp) rfl
      refine wpOpIn_plain (v := Value.int IntKind.u8 ((p % 2 : Nat) : Int)) (w' := w') rfl rfl (sem_bin (vx := Value.int IntKind.u8 (p : Int)) (vy := Value.int IntKind.u8 2) rfl rfl rfl rfl (HR2.out w')) ?_
      exact ⟨gb, gp, va, vc, IB, IO, IV, IP, J30, J31, J32, rfl⟩
    · obtain rfl : x12 = false := by simpa using hbi
      obtain rfl : x11 = true := hdep _ rfl ⟨11, .data⟩ (by simp) rfl
      refine wpOpIn_plain (v := Value.bool nB) (w' := w') rfl rfl (sem_bin (vx := Value.int IntKind.u8 ((p % 2 : Nat) : Int)) (vy := Value.int IntKind.u8 1) rfl rfl rfl rfl (HE1.out w')) ?_
      exact ⟨gb, gp, va, vc, IB, IO, IV, IP, J30, J31, J32, rfl⟩
    · obtain rfl : x13 = false := by simpa using hbi
      refine wpOpIn_plain rfl rfl rfl ?_
      exact ⟨gb, gp, va, vc, IB, IO, IV, IP, J30, J31, J32, rfl⟩
    · obtain rfl : x14 = false := by simpa using hbi
      obtain rfl : x13 = true := hdep _ rfl ⟨13, .data⟩ (by simp) rfl
      refine wpOpIn_plain (v := Value.pointer (some ⟨g, o, none⟩)) (w' := w') rfl rfl (by simp [Oper.semAt, execOp, go_sem]; intro h9; omega) ?_
      exact ⟨gb, gp, va, vc, IB, IO, IV, IP, J30, J31, J32, rfl⟩
    · obtain rfl : x15 = false := by simpa using hbi
      obtain rfl : x14 = true := hdep _ rfl ⟨14, .data⟩ (by simp) rfl
      refine wpOpIn_plain (v := Value.int IntKind.u8 (p : Int)) (w' := w') rfl rfl (by simp [Oper.semAt, execOp, go_sem, c0]) ?_
      exact ⟨gb, gp, va, vc, IB, IO, IV, IP, J30, J31, J32, rfl⟩
    · obtain rfl : x16 = false := by simpa using hbi
      obtain rfl : x15 = true := hdep _ rfl ⟨15, .data⟩ (by simp) rfl
      refine wpOpIn_plain (v := Value.int IntKind.u8 ((p / 2 : Nat) : Int)) (w' := w') rfl rfl (sem_bin (vx := Value.int IntKind.u8 (p : Int)) (vy := Value.int IntKind.u8 2) rfl rfl rfl rfl (HQ2.out w')) ?_
      exact ⟨gb, gp, va, vc, IB, IO, IV, IP, J30, J31, J32, rfl⟩
    · obtain rfl : x17 = false := by simpa using hbi
      obtain rfl : x16 = true := hdep _ rfl ⟨16, .data⟩ (by simp) rfl
      refine wpOpIn_plain (v := Value.int IntKind.u8 ((p / 2 % 2 : Nat) : Int)) (w' := w') rfl rfl (sem_bin (vx := Value.int IntKind.u8 ((p / 2 : Nat) : Int)) (vy := Value.int IntKind.u8 2) rfl rfl rfl rfl (HR22.out w')) ?_
      exact ⟨gb, gp, va, vc, IB, IO, IV, IP, J30, J31, J32, rfl⟩
    · obtain rfl : x18 = false := by simpa using hbi
      obtain rfl : x17 = true := hdep _ rfl ⟨17, .data⟩ (by simp) rfl
      refine wpOpIn_plain (v := Value.bool pB) (w' := w') rfl rfl (sem_bin (vx := Value.int IntKind.u8 ((p / 2 % 2 : Nat) : Int)) (vy := Value.int IntKind.u8 1) rfl rfl rfl rfl (HE2.out w')) ?_
      exact ⟨gb, gp, va, vc, IB, IO, IV, IP, J30, J31, J32, rfl⟩
    · obtain rfl : x19 = false := by simpa using hbi
      refine wpOpIn_plain rfl rfl rfl ?_
      exact ⟨gb, gp, va, vc, IB, IO, IV, IP, J30, J31, J32, rfl⟩
    · obtain rfl : x20 = false := by simpa using hbi
      obtain rfl : x19 = true := hdep _ rfl ⟨19, .data⟩ (by simp) rfl
      refine wpOpIn_plain (v := Value.pointer (some ⟨g, o, none⟩)) (w' := w') rfl rfl (by simp [Oper.semAt, execOp, go_sem]; intro h9; omega) ?_
      exact ⟨gb, gp, va, vc, IB, IO, IV, IP, J30, J31, J32, rfl⟩
    · obtain rfl : x21 = false := by simpa using hbi
      obtain rfl : x20 = true := hdep _ rfl ⟨20, .data⟩ (by simp) rfl
      refine wpOpIn_plain (v := Value.int IntKind.u8 (p : Int)) (w' := w') rfl rfl (by simp [Oper.semAt, execOp, go_sem, c0]) ?_
      exact ⟨gb, gp, va, vc, IB, IO, IV, IP, J30, J31, J32, rfl⟩
    · obtain rfl : x22 = false := by simpa using hbi
      obtain rfl : x21 = true := hdep _ rfl ⟨21, .data⟩ (by simp) rfl
      refine wpOpIn_plain (v := Value.int IntKind.u8 ((p / 4 : Nat) : Int)) (w' := w') rfl rfl (sem_bin (vx := Value.int IntKind.u8 (p : Int)) (vy := Value.int IntKind.u8 4) rfl rfl rfl rfl (HQ4.out w')) ?_
      exact ⟨gb, gp, va, vc, IB, IO, IV, IP, J30, J31, J32, rfl⟩
    · obtain rfl : x23 = false := by simpa using hbi
      obtain rfl : x22 = true := hdep _ rfl ⟨22, .data⟩ (by simp) rfl
      refine wpOpIn_plain (v := Value.int IntKind.u8 ((p / 4 % 2 : Nat) : Int)) (w' := w') rfl rfl (sem_bin (vx := Value.int IntKind.u8 ((p / 4 : Nat) : Int)) (vy := Value.int IntKind.u8 2) rfl rfl rfl rfl (HR42.out w')) ?_
      exact ⟨gb, gp, va, vc, IB, IO, IV, IP, J30, J31, J32, rfl⟩
    · obtain rfl : x24 = false := by simpa using hbi
      obtain rfl : x23 = true := hdep _ rfl ⟨23, .data⟩ (by simp) rfl
      refine wpOpIn_plain (v := Value.bool bB) (w' := w') rfl rfl (sem_bin (vx := Value.int IntKind.u8 ((p / 4 % 2 : Nat) : Int)) (vy := Value.int IntKind.u8 1) rfl rfl rfl rfl (HE4.out w')) ?_
      exact ⟨gb, gp, va, vc, IB, IO, IV, IP, J30, J31, J32, rfl⟩
    · obtain rfl : x25 = false := by simpa using hbi
      refine wpOpIn_plain rfl rfl rfl ?_
      exact ⟨gb, gp, va, vc, IB, IO, IV, IP, J30, J31, J32, rfl⟩
    · obtain rfl : x26 = false := by simpa using hbi
      obtain rfl : x25 = true := hdep _ rfl ⟨25, .data⟩ (by simp) rfl
      refine wpOpIn_plain (v := Value.pointer (some ⟨g, o, none⟩)) (w' := w') rfl rfl (by simp [Oper.semAt, execOp, go_sem]; intro h9; omega) ?_
      exact ⟨gb, gp, va, vc, IB, IO, IV, IP, J30, J31, J32, rfl⟩
    · obtain rfl : x27 = false := by simpa using hbi
      obtain rfl : x26 = true := hdep _ rfl ⟨26, .data⟩ (by simp) rfl
      refine wpOpIn_plain (v := Value.int IntKind.u8 (p : Int)) (w' := w') rfl rfl (by simp [Oper.semAt, execOp, go_sem, c0]) ?_
      exact ⟨gb, gp, va, vc, IB, IO, IV, IP, J30, J31, J32, rfl⟩
    · obtain rfl : x28 = false := by simpa using hbi
      obtain rfl : x27 = true := hdep _ rfl ⟨27, .data⟩ (by simp) rfl
      refine wpOpIn_plain (v := Value.int IntKind.u8 (z : Int)) (w' := w') rfl rfl (sem_bin (vx := Value.int IntKind.u8 (p : Int)) (vy := Value.int IntKind.u8 8) rfl rfl rfl rfl (HQ8.out w')) ?_
      exact ⟨gb, gp, va, vc, IB, IO, IV, IP, J30, J31, J32, rfl⟩
    · obtain rfl : x29 = false := by simpa using hbi
      obtain rfl : x28 = true := hdep _ rfl ⟨28, .data⟩ (by simp) rfl
      refine wpOpIn_plain (v := Value.int IntKind.i64 (z : Int)) (w' := w') rfl rfl (sem_conv rfl rfl (HCV.out w')) ?_
      exact ⟨gb, gp, va, vc, IB, IO, IV, IP, J30, J31, J32, rfl⟩
    · obtain rfl : x30 = false := by simpa using hbi
      obtain rfl : x3 = true := hdep _ rfl ⟨3, .data⟩ (by simp) rfl
      obtain rfl : x7 = true := hdep _ rfl ⟨7, .data⟩ (by simp) rfl
      obtain rfl : x12 = true := hdep _ rfl ⟨12, .data⟩ (by simp) rfl
      obtain rfl : x18 = true := hdep _ rfl ⟨18, .data⟩ (by simp) rfl
      obtain rfl : x24 = true := hdep _ rfl ⟨24, .data⟩ (by simp) rfl
      obtain rfl : x29 = true := hdep _ rfl ⟨29, .data⟩ (by simp) rfl
      refine wpOpIn_plain (v := Value.agg #[.bool mB, Value.slice va N vc, .bool nB, .bool pB, .bool bB, .int .i64 (z : Int)]) (w' := w') rfl rfl (by simp [Oper.semAt, execOp, go_sem]) ?_
      exact ⟨gb, gp, va, vc, IB, IO, IV, IP, (fun _ => rfl), (fun _ => rfl), J32, rfl⟩
    · obtain rfl : x31 = false := by simpa using hbi
      obtain rfl : x30 = true := hdep _ rfl ⟨30, .data⟩ (by simp) rfl
      obtain rfl : x32 = false := Bool.eq_false_iff.2 fun h => by have := J32.out h; cases this
      refine wpOpIn_plain (v := Value.pointer (some ⟨w'.heap.size, 0, none⟩)) (w' := w'.alloc (.cells #[.bool mB, Value.slice va N vc, .bool nB, .bool pB, .bool bB, .int .i64 z] 81)) rfl rfl (by simp [Oper.semAt, execOp, go_sem]) ?_
      have hb9 : Below w'.heap.size w' (w'.alloc (.cells #[.bool mB, Value.slice va N vc, .bool nB, .bool pB, .bool bB, .int .i64 z] 81)) := (Below.refl _ _).alloc (Nat.le_refl _) _
      exact ⟨gb, w'.heap.size, va, vc, (IB.out.trans (hb9.mono hsz)), (fun h h' => own_keepB (IO.out h h') hb9), (fun h => (IV.out h).keep hb9), (fun _ => heap_alloc_new w' _), J30, (fun _ => rfl), (fun _ => rfl), rfl⟩
    · obtain rfl : x32 = false := by simpa using hbi
      obtain rfl : x31 = true := hdep _ rfl ⟨31, .data⟩ (by simp) rfl
      refine wpOpIn_plain rfl rfl rfl ?_
      exact ⟨gb, gp, va, vc, IB, IO, IV, IP, J30, J31, (fun _ => rfl), rfl⟩
  case fin =>
  intro listed a' Z hs hall ⟨gb, gp, va, vc, IB, IO, IV, IP, J30, J31, J32, ha⟩
  obtain ⟨ls⟩ := listed
  have hs0 : ls.length = 33 := by simpa using hs
  obtain ⟨x0, t0, rfl, hs1⟩ := list_cons ls hs0
  obtain ⟨x1, t1, rfl, hs2⟩ := list_cons t0 hs1
  obtain ⟨x2, t2, rfl, hs3⟩ := list_cons t1 hs2
  obtain ⟨x3, t3, rfl, hs4⟩ := list_cons t2 hs3
  obtain ⟨x4, t4, rfl, hs5⟩ := list_cons t3 hs4
  obtain ⟨x5, t5, rfl, hs6⟩ := list_cons t4 hs5
  obtain ⟨x6, t6, rfl, hs7⟩ := list_cons t5 hs6
  obtain ⟨x7, t7, rfl, hs8⟩ := list_cons t6 hs7
  obtain ⟨x8, t8, rfl, hs9⟩ := list_cons t7 hs8
  obtain ⟨x9, t9, rfl, hs10⟩ := list_cons t8 hs9
  obtain ⟨x10, t10, rfl, hs11⟩ := list_cons t9 hs10
  obtain ⟨x11, t11, rfl, hs12⟩ := list_cons t10 hs11
  obtain ⟨x12, t12, rfl, hs13⟩ := list_cons t11 hs12
  obtain ⟨x13, t13, rfl, hs14⟩ := list_cons t12 hs13
  obtain ⟨x14, t14, rfl, hs15⟩ := list_cons t13 hs14
  obtain ⟨x15, t15, rfl, hs16⟩ := list_cons t14 hs15
  obtain ⟨x16, t16, rfl, hs17⟩ := list_cons t15 hs16
  obtain ⟨x17, t17, rfl, hs18⟩ := list_cons t16 hs17
  obtain ⟨x18, t18, rfl, hs19⟩ := list_cons t17 hs18
  obtain ⟨x19, t19, rfl, hs20⟩ := list_cons t18 hs19
  obtain ⟨x20, t20, rfl, hs21⟩ := list_cons t19 hs20
  obtain ⟨x21, t21, rfl, hs22⟩ := list_cons t20 hs21
  obtain ⟨x22, t22, rfl, hs23⟩ := list_cons t21 hs22
  obtain ⟨x23, t23, rfl, hs24⟩ := list_cons t22 hs23
  obtain ⟨x24, t24, rfl, hs25⟩ := list_cons t23 hs24
  obtain ⟨x25, t25, rfl, hs26⟩ := list_cons t24 hs25
  obtain ⟨x26, t26, rfl, hs27⟩ := list_cons t25 hs26
  obtain ⟨x27, t27, rfl, hs28⟩ := list_cons t26 hs27
  obtain ⟨x28, t28, rfl, hs29⟩ := list_cons t27 hs28
  obtain ⟨x29, t29, rfl, hs30⟩ := list_cons t28 hs29
  obtain ⟨x30, t30, rfl, hs31⟩ := list_cons t29 hs30
  obtain ⟨x31, t31, rfl, hs32⟩ := list_cons t30 hs31
  obtain ⟨x32, t32, rfl, hs33⟩ := list_cons t31 hs32
  obtain rfl : t32 = [] := List.eq_nil_of_length_eq_zero hs33
  clear hs0 hs1 hs2 hs3 hs4 hs5 hs6 hs7 hs8 hs9 hs10 hs11 hs12 hs13 hs14 hs15 hs16 hs17 hs18 hs19 hs20 hs21 hs22 hs23 hs24 hs25 hs26 hs27 hs28 hs29 hs30 hs31 hs32 hs33
  obtain rfl : x0 = true := hall 0 (by simp)
  obtain rfl : x1 = true := hall 1 (by simp)
  obtain rfl : x2 = true := hall 2 (by simp)
  obtain rfl : x3 = true := hall 3 (by simp)
  obtain rfl : x4 = true := hall 4 (by simp)
  obtain rfl : x5 = true := hall 5 (by simp)
  obtain rfl : x6 = true := hall 6 (by simp)
  obtain rfl : x7 = true := hall 7 (by simp)
  obtain rfl : x8 = true := hall 8 (by simp)
  obtain rfl : x9 = true := hall 9 (by simp)
  obtain rfl : x10 = true := hall 10 (by simp)
  obtain rfl : x11 = true := hall 11 (by simp)
  obtain rfl : x12 = true := hall 12 (by simp)
  obtain rfl : x13 = true := hall 13 (by simp)
  obtain rfl : x14 = true := hall 14 (by simp)
  obtain rfl : x15 = true := hall 15 (by simp)
  obtain rfl : x16 = true := hall 16 (by simp)
  obtain rfl : x17 = true := hall 17 (by simp)
  obtain rfl : x18 = true := hall 18 (by simp)
  obtain rfl : x19 = true := hall 19 (by simp)
  obtain rfl : x20 = true := hall 20 (by simp)
  obtain rfl : x21 = true := hall 21 (by simp)
  obtain rfl : x22 = true := hall 22 (by simp)
  obtain rfl : x23 = true := hall 23 (by simp)
  obtain rfl : x24 = true := hall 24 (by simp)
  obtain rfl : x25 = true := hall 25 (by simp)
  obtain rfl : x26 = true := hall 26 (by simp)
  obtain rfl : x27 = true := hall 27 (by simp)
  obtain rfl : x28 = true := hall 28 (by simp)
  obtain rfl : x29 = true := hall 29 (by simp)
  obtain rfl : x30 = true := hall 30 (by simp)
  obtain rfl : x31 = true := hall 31 (by simp)
  obtain rfl : x32 = true := hall 32 (by simp)
  subst ha
  have HV9 := Lib.hid (IV.out rfl)
  have HP9 := Lib.hid (IP.out rfl)
  have HB9 : Hid (Below w.heap.size w Z) := IB
  have C1Z := Lib.hid (kcell IB.out C1.out)
  have C0Z := Lib.hid (kcell IB.out C0.out)
  clear J30 J31 J32 IO IV IP IB hall hs
  dsimp only [Exit.then, Exit.inBlock]
  have k0 := cellR 0 HP9.out rfl
  have k1 := cellR 1 HP9.out rfl
  have k5 := cellR 5 HP9.out rfl
  have d0 := C0Z.out
  have d1 := C1Z.out
  have HRA : Hid (RAt Z gp mB va m vc nB pB bB z) := by
    refine ⟨by rw [← HN.out]; exact HP9.out, ?_⟩
    by_cases hm : m = []
    · subst hm
      exact ⟨by simp, by simp, fun h9 => absurd rfl h9⟩
    · obtain ⟨a9, c9, e9, h9⟩ := HV9.out.bs hm HSM.out
      cases e9
      exact h9
  clear C0Z C1Z HP9 HM HR2 HE1 HQ2 HR22 HE2 HQ4 HR42 HE4 HQ8 HCV HSL HSRC C0 C1
  by_cases hz2 : 2 < z
  · have hz2i : (2 : Int) < z := by omega
    have HB2 : Hid (bad = true) := by show _ = _; rw [HBAD.out]; simp [hz2]
    clear HBAD
    go_wp2_with fail
    go_ret2
    exact ⟨HB9.out, .inl ⟨HB2.out, rfl⟩⟩
  · have hz2i : ¬ (2 : Int) < z := by omega
    by_cases hq1 : 1 < q
    · have hq1i : (1 : Int) < q := by omega
      have HB2 : Hid (bad = true) := by show _ = _; rw [HBAD.out]; simp [hq1]
      clear HBAD
      go_wp2_with fail
      go_ret2
      exact ⟨HB9.out, .inl ⟨HB2.out, rfl⟩⟩
    · have hq1i : ¬ (1 : Int) < q := by omega
      by_cases hN0 : N = 0
      · have hm0 : m = [] := List.eq_nil_of_length_eq_zero (by rw [← HN.out]; exact hN0)
        have hN0i : ((N : Int) == 0) = true := by rw [beq_iff_eq]; omega
        cases mB with
        | true =>
          have HB2 : Hid (bad = true) := by show _ = _; rw [HBAD.out]; simp [hm0]
          clear HBAD hm0 hN0
          go_wp2_with fail
          go_ret2
          exact ⟨HB9.out, .inl ⟨HB2.out, rfl⟩⟩
        | false =>
          by_cases hzl : z < 2
          · have hzli : (z : Int) < 2 := by omega
            by_cases hp8 : p % 8 = 0
            · have hp8i : ((p : Int) % 8) = 0 := by omega
              have HB2 : Hid (bad = false) := by show _ = _; rw [HBAD.out]; simp [hm0, hz2, hq1, hp8]
              clear HBAD hm0 hN0
              go_wp2_with fail
              go_ret2
              first | exact ⟨HB9.out, .inr ⟨HB2.out, gp, rfl, _, _, HRA.out⟩⟩ | exact ⟨HB9.out, .inr ⟨HB2.out, gp, _, _, rfl, HRA.out⟩⟩
            · have hp8i : ¬ ((p : Int) % 8) = 0 := by omega
              have HB2 : Hid (bad = true) := by show _ = _; rw [HBAD.out]; simp [hm0, hzl, hp8]
              clear HBAD hm0 hN0
              go_wp2_with fail
              go_ret2
              exact ⟨HB9.out, .inl ⟨HB2.out, rfl⟩⟩
          · have hzli : ¬ (z : Int) < 2 := by omega
            have HB2 : Hid (bad = false) := by show _ = _; rw [HBAD.out]; simp [hm0, hz2, hq1, hzl]
            clear HBAD hm0 hN0
            go_wp2_with fail
            go_ret2
            first | exact ⟨HB9.out, .inr ⟨HB2.out, gp, rfl, _, _, HRA.out⟩⟩ | exact ⟨HB9.out, .inr ⟨HB2.out, gp, _, _, rfl, HRA.out⟩⟩
      · have hm0 : m ≠ [] := by intro e; rw [e] at HN; exact hN0 HN.out
        have hN0i : ((N : Int) == 0) = false := by rw [beq_eq_false_iff_ne]; omega
        obtain ⟨b9, o9, e9, hc9⟩ := HRA.out.bs.at_ hm0
        subst e9
        have hpos : 0 < m.length := List.length_pos_iff.2 hm0
        have k9 := hc9 0 hpos
        have e9 : m[0] = m.getD 0 0 := by rw [List.getD_eq_getElem?_getD, List.getElem?_eq_getElem hpos]; rfl
        rw [e9, Nat.add_zero] at k9
        have hsm := HSM.out _ (List.getElem_mem hpos)
        rw [e9] at hsm
        clear e9 hc9
        have hNp : 0 < N := by omega
        generalize m.getD 0 0 = m0 at *
        by_cases hm00 : m0 = 0
        · have hm00i : ((m0 : Int) == 0) = true := by rw [beq_iff_eq]; omega
          have HB2 : Hid (bad = true) := by show _ = _; rw [HBAD.out]; simp [hm0, hm00]
          clear HBAD
          go_wp2_with fail
          go_ret2
          exact ⟨HB9.out, .inl ⟨HB2.out, rfl⟩⟩
        · have hm00i : ((m0 : Int) == 0) = false := by rw [beq_eq_false_iff_ne]; omega
          by_cases hzl : z < 2
          · have hzli : (z : Int) < 2 := by omega
            have HB2 : Hid (bad = true) := by show _ = _; rw [HBAD.out]; simp [hm0, hzl]
            clear HBAD
            go_wp2_with fail
            go_ret2
            exact ⟨HB9.out, .inl ⟨HB2.out, rfl⟩⟩
          · have hzli : ¬ (z : Int) < 2 := by omega
            have HB2 : Hid (bad = false) := by show _ = _; rw [HBAD.out]; simp [hm0, hz2, hq1, hzl, hm00]
            clear HBAD
            go_wp2_with fail
            go_ret2
            first | exact ⟨HB9.out, .inr ⟨HB2.out, gp, rfl, _, _, HRA.out⟩⟩ | exact ⟨HB9.out, .inr ⟨HB2.out, gp, _, _, rfl, HRA.out⟩⟩
end Go.Proofs.Ytjcdnaandbockaa

namespace Go.Proofs.Ytjcdnaandbockaa
open Go.RowKit Go.Shelf
set_option maxRecDepth 100000
set_option maxHeartbeats 1000000

theorem bytesN_get (V j : Nat) (hj : j < (bytesN V).length) : (bytesN V)[j] = V / 2 ^ (8 * ((blen V + 7) / 8 - 1 - j)) % 256 := by simp [bytesN]
theorem bytesN_words {m : List Nat} (h : ∀ x ∈ m, x < 256) (h0 : m = [] ∨ m.getD 0 0 ≠ 0) : bytesN (wordsN m) = m := by
  by_cases hne : m = []
  · subst hne; rfl
  · have h0 : m.getD 0 0 ≠ 0 := by rcases h0 with h0 | h0; exact absurd h0 hne; exact h0
    have hp : 0 < m.length := List.length_pos_iff.2 hne
    have hb := blen_words h hne h0
    have hx : m[0] = m.getD 0 0 := by rw [List.getD_eq_getElem?_getD, List.getElem?_eq_getElem hp]; rfl
    have h8 : blen (m.getD 0 0) ≤ 8 := blen_le.2 (by rw [← hx]; exact h _ (List.getElem_mem hp))
    have h1 : ¬ blen (m.getD 0 0) ≤ 0 := by rw [blen_le]; omega
    have hn : (blen (wordsN m) + 7) / 8 = m.length := by omega
    apply List.ext_getElem
    · rw [bytesN_len, hn]
    · intro j h2 h3
      rw [bytesN_get, hn, wordsN_byte h, if_pos (by omega)]
      unfold rev
      rw [show m.length - 1 - (m.length - 1 - j) = j by omega, List.getD_eq_getElem?_getD, List.getElem?_eq_getElem h3]
      rfl
theorem bytesN_lead (V : Nat) : bytesN V = [] ∨ (bytesN V).getD 0 0 ≠ 0 := by
  by_cases hb : blen V = 0
  · left
    unfold bytesN
    rw [hb]
    rfl
  · right
    have hn : 0 < (blen V + 7) / 8 := by omega
    have hl : 0 < (bytesN V).length := by rw [bytesN_len]; exact hn
    rw [List.getD_eq_getElem?_getD, List.getElem?_eq_getElem hl]
    show (bytesN V)[0] ≠ 0
    rw [bytesN_get, Nat.sub_zero]
    generalize hq : (blen V + 7) / 8 = n at *
    have h1 : V < 2 ^ (8 * (n - 1)) * 256 := by
      have h9 := lt_blen V
      have h8 := pow2_le (blen V) (8 * (n - 1 + 1)) (by omega)
      rw [pow8] at h8
      omega
    have h2 : V / 2 ^ (8 * (n - 1)) < 256 := (div_lt' (Nat.two_pow_pos _)).2 h1
    rw [Nat.mod_eq_of_lt h2]
    have h3 : ¬ blen V ≤ 8 * (n - 1) := by omega
    rw [blen_le] at h3
    have h4 : 1 ≤ V / 2 ^ (8 * (n - 1)) := by rw [Nat.le_div_iff_mul_le (Nat.two_pow_pos _)]; omega
    omega
theorem wordsN_zero {m : List Nat} (h : ∀ x ∈ m, x < 256) (h0 : m = [] ∨ m.getD 0 0 ≠ 0) (hw : wordsN m = 0) : m = [] := by
  have := bytesN_words h h0
  rw [hw] at this
  rw [← this]; rfl
theorem words_top {m : List Nat} (h : ∀ x ∈ m, x < 256) (hl : m.length ≤ 280) : wordsN m < top := by
  rw [top_eq]
  exact lt_pw (8 * m.length) 2240 (wordsN_lt h) (by omega)
theorem opp_neg {W : Nat} (h : W < top) (h0 : 0 < W) : negN (opp W) = true ∧ opp W < big ∧ opp (opp W) = W := by
  have hb := big_top
  have ht := top_pos
  have e : opp W = big - W := by unfold opp; exact Nat.mod_eq_of_lt (by omega)
  have h1 : opp W < big := by omega
  refine ⟨(neg_iff h1).2 (by omega), h1, opp_opp (by omega) h0⟩
theorem pos_neg {W : Nat} (h : W < top) : negN W = false := by
  have hb := big_top
  have ht := top_pos
  cases hn : negN W with
  | false => rfl
  | true => have := (neg_iff (show W < big by omega)).1 hn; omega
theorem dec_lit (p q : Nat) (m : List Nat) : decN (p :: q :: m) = ⟨if q = 1 then opp (wordsN m) else wordsN m, p % 8, p / 8⟩ := rfl
theorem rBad_iff {p q : Nat} {m : List Nat} (h : ∀ x ∈ m, x < 256) (hl : m.length ≤ 280) (hp : p < 256) : decOk (p :: q :: m) ↔ rBad p q m = false := by
  have hW := words_top h hl
  have ht := top_pos
  have hb := big_top
  unfold decOk
  rw [dec_lit]
  constructor
  · rintro ⟨h1, h2⟩
    unfold encN at h2
    simp only [List.cons.injEq] at h2
    obtain ⟨e1, e2, e3⟩ := h2
    have hlead : m = [] ∨ m.getD 0 0 ≠ 0 := by
      have := bytesN_lead (absN (if q = 1 then opp (wordsN m) else wordsN m))
      rwa [e3] at this
    have hz := wordsN_zero h hlead
    unfold possN at h1
    simp only at h1 e1 e2
    have hq : q ≤ 1 := by
      generalize (if q = 1 then opp (wordsN m) else wordsN m) = V' at e2
      split at e2 <;> omega
    have h9 : m = [] → q = 0 := by
      intro hm
      subst hm
      by_cases hq1 : q = 1
      · subst hq1
        have e0 : opp (wordsN []) = 0 := by show opp 0 = 0; unfold opp; rw [Nat.sub_zero, Nat.mod_self]
        rw [if_pos rfl, e0, pos_neg ht] at e2
        cases e2
      · omega
    have hV : (if q = 1 then opp (wordsN m) else wordsN m) = 0 → m = [] := by
      intro hV
      by_cases hq1 : q = 1
      · rw [if_pos hq1] at hV
        apply hz
        apply Classical.byContradiction
        intro hw
        have := (opp_neg hW (by omega)).1
        rw [hV, pos_neg ht] at this
        cases this
      · rw [if_neg hq1] at hV; exact hz hV
    unfold rBad
    rw [Bool.or_eq_true, Bool.and_eq_true, decide_eq_true_iff, decide_eq_true_iff, decide_eq_true_iff] at h1
    have hz2 : p / 8 ≤ 2 := by rcases h1 with h1 | ⟨h1, _⟩ <;> omega
    have a1 : decide (2 < p / 8) = false := decide_eq_false (by omega)
    have a2 : decide (1 < q) = false := decide_eq_false (by omega)
    rw [a1, a2]
    rcases hlead with hm | hm
    · have hq0 := h9 hm
      subst hm
      subst hq0
      rcases h1 with h1 | ⟨h1, h3, h4⟩
      · simp; omega
      · simp; omega
    · have hne : m ≠ [] := by intro e; subst e; exact hm rfl
      rcases h1 with h1 | ⟨h1, h3, h4⟩
      · have : ¬ p / 8 < 2 := by omega
        rw [decide_eq_true hne, decide_eq_false hm, decide_eq_false (show ¬ m = [] from hne), decide_eq_false this]
        rfl
      · exact absurd (hV h3) hne
  · intro hbad
    unfold rBad at hbad
    simp only [Bool.or_eq_false_iff, Bool.and_eq_false_iff, decide_eq_false_iff_not] at hbad
    obtain ⟨⟨⟨⟨b1, b2⟩, b3⟩, b4⟩, b5⟩ := hbad
    have hlead : m = [] ∨ m.getD 0 0 ≠ 0 := by
      rcases b3 with b3 | b3
      · exact .inl (Classical.byContradiction b3)
      · exact .inr b3
    have hbw := bytesN_words h hlead
    have hz := wordsN_zero h hlead
    have hposs : ∀ V, (p / 8 < 2 → V = 0) → possN ⟨V, p % 8, p / 8⟩ = true := by
      intro V hV
      unfold possN
      rw [Bool.or_eq_true, Bool.and_eq_true, decide_eq_true_iff, decide_eq_true_iff, decide_eq_true_iff]
      by_cases hz2 : p / 8 = 2
      · exact .inl hz2
      · right
        refine ⟨by show p / 8 < 2; omega, hV (by omega), ?_⟩
        rcases b5 with b5 | ⟨_, b5⟩
        · exact absurd (by omega) b5
        · show p % 8 = 0; omega
    have hzm : p / 8 < 2 → m = [] := by
      intro h3
      rcases b5 with b5 | ⟨b5, _⟩
      · exact absurd h3 b5
      · exact Classical.byContradiction b5
    by_cases hq1 : q = 1
    · subst hq1
      have hne : m ≠ [] := by
        rcases b4 with b4 | b4
        · exact b4
        · exact absurd rfl b4
      have hw0 : 0 < wordsN m := by
        apply Nat.pos_of_ne_zero
        intro hw
        exact hne (hz hw)
      obtain ⟨n1, n2, n3⟩ := opp_neg hW hw0
      rw [if_pos rfl]
      refine ⟨hposs _ (fun h3 => absurd (hzm h3) hne), ?_⟩
      unfold encN absN
      simp only [n1, if_true, n3, hbw]
      congr 1
      omega
    · have hq0 : q = 0 := by omega
      subst hq0
      rw [if_neg (by decide)]
      have hn := pos_neg hW
      refine ⟨hposs _ (fun h3 => by rw [hzm h3]; rfl), ?_⟩
      unfold encN absN
      simp only [hn, Bool.false_eq_true, if_false, hbw]
      congr 1
      omega
theorem rval_eq {p q : Nat} {m : List Nat} (h : ∀ x ∈ m, x < 256) (hl : m.length ≤ 280) (hp : p < 256) (hok : rBad p q m = false) :
    rvalN (decide (q = 1)) (decide (p % 2 = 1)) (decide (p / 2 % 2 = 1)) (decide (p / 4 % 2 = 1)) (p / 8) m = valueN (decN (p :: q :: m)) := by
  have hW := words_top h hl
  have ht := top_pos
  unfold rBad at hok
  simp only [Bool.or_eq_false_iff, Bool.and_eq_false_iff, decide_eq_false_iff_not] at hok
  obtain ⟨⟨⟨⟨b1, b2⟩, b3⟩, b4⟩, b5⟩ := hok
  have hlead : m = [] ∨ m.getD 0 0 ≠ 0 := by
    rcases b3 with b3 | b3
    · exact .inl (Classical.byContradiction b3)
    · exact .inr b3
  have hz := wordsN_zero h hlead
  rw [dec_lit]
  unfold rvalN valueN
  simp only
  have hs : p % 8 = 0 ∨ p % 8 = 1 ∨ p % 8 = 2 ∨ p % 8 = 3 ∨ p % 8 = 4 ∨ p % 8 = 5 ∨ p % 8 = 6 ∨ p % 8 = 7 := by omega
  have key : ∀ a b c : Nat, p % 2 = a → p / 2 % 2 = b → p / 4 % 2 = c → decide (p % 2 = 1) = decide (a = 1) ∧ decide (p / 2 % 2 = 1) = decide (b = 1) ∧ decide (p / 4 % 2 = 1) = decide (c = 1) := by
    rintro a b c rfl rfl rfl; exact ⟨rfl, rfl, rfl⟩
  rcases hs with hs | hs | hs | hs | hs | hs | hs | hs
  · obtain ⟨k1, k2, k3⟩ := key 0 0 0 (by omega) (by omega) (by omega)
    rw [k1, k2, k3]
    simp only [show decide (0 = 1) = false from rfl, Bool.and_self, Bool.or_self, Bool.false_eq_true, if_false]
    rw [if_neg (show ¬ (p % 8 % 2 = 1 ∨ p % 8 = 6) by omega), if_neg (show ¬ (p % 8 = 2) by omega), if_neg (show ¬ (p % 8 = 4) by omega)]
    by_cases hz1 : p / 8 = 1
    · have hm : m = [] := by
        rcases b5 with b5 | ⟨b5, _⟩
        · exact absurd (by omega) b5
        · exact Classical.byContradiction b5
      subst hm
      rw [hz1, if_pos rfl, if_pos (by simp)]
      rfl
    · rw [if_neg hz1]
      by_cases hq1 : q = 1
      · have hne : m ≠ [] := by
          rcases b4 with b4 | b4
          · exact b4
          · exact absurd hq1 b4
        have hw0 : 0 < wordsN m := by
          apply Nat.pos_of_ne_zero
          intro hw
          exact hne (hz hw)
        obtain ⟨n1, n2, n3⟩ := opp_neg hW hw0
        rw [if_pos hq1, if_pos n1, n3, if_pos (by simp [hq1])]
      · rw [if_neg hq1, pos_neg hW, if_neg (show ¬ (decide (q = 1) || decide (p / 8 = 1)) = true by simp [hq1, hz1]), if_neg (by decide)]
  · obtain ⟨k1, k2, k3⟩ := key 1 0 0 (by omega) (by omega) (by omega)
    rw [k1, k2, k3, hs]
    simp
  · obtain ⟨k1, k2, k3⟩ := key 0 1 0 (by omega) (by omega) (by omega)
    rw [k1, k2, k3, hs]
    simp
  · obtain ⟨k1, k2, k3⟩ := key 1 1 0 (by omega) (by omega) (by omega)
    rw [k1, k2, k3, hs]
    simp
  · obtain ⟨k1, k2, k3⟩ := key 0 0 1 (by omega) (by omega) (by omega)
    rw [k1, k2, k3, hs]
    simp
  · obtain ⟨k1, k2, k3⟩ := key 1 0 1 (by omega) (by omega) (by omega)
    rw [k1, k2, k3, hs]
    simp
  · obtain ⟨k1, k2, k3⟩ := key 0 1 1 (by omega) (by omega) (by omega)
    rw [k1, k2, k3, hs]
    simp
  · obtain ⟨k1, k2, k3⟩ := key 1 1 1 (by omega) (by omega) (by omega)
    rw [k1, k2, k3, hs]
    simp
end Go.Proofs.Ytjcdnaandbockaa

namespace Go.Proofs.Ytjcdnaandbockaa
open Go.RowKit Go.Shelf
attribute [local go_sem] Oper.semAt_some
set_option maxRecDepth 100000
set_option maxHeartbeats 2000000

theorem rdecode_short {w : World} {a : Option Addr} {n : Nat} (cap : Nat) (h : n < 2) :
    Calls Try.prog 13 #[.slice a n cap] w fun e w' => e = .returned (.tuple #[.pointer none, .int .i64 7]) ∧ w = w' := by
  have h1 : ¬ (282 : Int) < n := by omega
  have h2 : (n : Int) < 2 := by omega
  clear h
  go_enter Try.func13, Try.ntmps13
  go_wp2_with fail
  go_ret2
  exact ⟨rfl, rfl⟩
theorem rdecode_long {w : World} {a : Option Addr} {n : Nat} (cap : Nat) (h : 282 < n) :
    Calls Try.prog 13 #[.slice a n cap] w fun e w' => e = .returned (.tuple #[.pointer none, .int .i64 8]) ∧ w = w' := by
  have h1 : (282 : Int) < n := by omega
  clear h
  go_enter Try.func13, Try.ntmps13
  go_wp2_with fail
  go_ret2
  exact ⟨rfl, rfl⟩
theorem dec_abs {p q : Nat} {m : List Nat} (h : ∀ x ∈ m, x < 256) (hl : m.length ≤ 280) : absN (decN (p :: q :: m)).V < 2 ^ 2240 := by
  have hW := words_top h hl
  have ht := top_pos
  rw [← top_eq, dec_lit]
  show absN (if q = 1 then opp (wordsN m) else wordsN m) < top
  have h0 : ∀ V, V < top → absN V < top := fun V hV => by unfold absN; rw [pos_neg hV]; simpa using hV
  split
  · by_cases hw : wordsN m = 0
    · rw [hw]
      have : opp 0 = 0 := by unfold opp; rw [Nat.sub_zero, Nat.mod_self]
      rw [this]
      exact h0 0 ht
    · obtain ⟨n1, _, n3⟩ := opp_neg hW (by omega)
      unfold absN
      rw [n1, if_pos rfl, n3]
      exact hW
  · exact h0 _ hW
theorem SumBytes_walk {w : World} {a : Option Addr} {l : List Nat} (h : U8l w a l) (cap : Nat) (hcap : l.length ≤ cap) :
    Calls Try.prog 3 #[.slice a l.length cap] w fun e w' => e = .returned (.bool true) ∧ Below w.heap.size w w' := by
  have hlen := h.len
  by_cases hbig : 300 < l.length
  · have hbi : (300 : Int) < l.length := by omega
    clear h hbig
    go_enter Try.func3, Try.ntmps3
    go_wp2_with fail
    refine (works_any _).mono ?_
    rintro e wz ⟨rfl, hbw⟩
    go_wp2_with fail
    go_ret
    exact ⟨rfl, hbw⟩
  · have hbi : ¬ (300 : Int) < l.length := by omega
    by_cases h282 : 282 < l.length
    · have H1 := Lib.hid (@Decode_long w a l.length cap h282)
      have H2 := Lib.hid (fun W => @rdecode_long W a l.length cap h282)
      clear h
      go_enter Try.func3, Try.ntmps3
      go_wp2_with fail
      refine H1.out.mono ?_
      rintro e w1 ⟨rfl, hb⟩
      have HB := Lib.hid hb
      clear hb
      go_wp2_with fail
      refine (H2.out _).mono ?_
      rintro e w' ⟨rfl, rfl⟩
      go_wp2_with fail
      refine (works_any _).mono ?_
      rintro e wz ⟨rfl, hbw⟩
      have HW := HB.out.trans (hbw.mono HB.out.size)
      go_wp2_with fail
      go_ret
      exact ⟨rfl, HW⟩
    · by_cases h2 : l.length < 2
      · have H1 := Lib.hid (@Decode_short w a l.length cap h2)
        have H2 := Lib.hid (fun W => @rdecode_short W a l.length cap h2)
        clear h
        go_enter Try.func3, Try.ntmps3
        go_wp2_with fail
        refine H1.out.mono ?_
        rintro e w1 ⟨rfl, hb⟩
        have HB := Lib.hid hb
        clear hb
        go_wp2_with fail
        refine (H2.out _).mono ?_
        rintro e w' ⟨rfl, rfl⟩
        go_wp2_with fail
        refine (works_any _).mono ?_
        rintro e wz ⟨rfl, hbw⟩
        have HW := HB.out.trans (hbw.mono HB.out.size)
        go_wp2_with fail
        go_ret
        exact ⟨rfl, HW⟩
      · obtain ⟨p, q, m, rfl⟩ : ∃ p q m, l = p :: q :: m := by
          cases l with
          | nil => simp at h2
          | cons p l =>
            cases l with
            | nil => simp at h2
            | cons q m => exact ⟨p, q, m, rfl⟩
        have hbs : Bs w a (p :: q :: m) := ⟨by omega, h.small, h.at_⟩
        have hml : (p :: q :: m).length = m.length + 2 := by simp
        have hp := h.small p (by simp)
        have hsm : ∀ x ∈ m, x < 256 := fun x hx => h.small x (by simp [hx])
        have hm280 : m.length ≤ 280 := by omega
        have hiff := rBad_iff (q := q) hsm hm280 hp
        have hval := rval_eq (q := q) hsm hm280 hp
        have habs := dec_abs (p := p) (q := q) hsm hm280
        have hd := Decode_any hbs (by omega) (by omega) cap hcap
        have hR := fun (W : World) (hW : Below w.heap.size w W) => rdecode_any (hbs.keep hW) (by omega) cap (by omega)
        have hdk := decN_small h.small
        have hdb := decN_big h.small (by omega)
        have HS := Lib.hid h.small
        have HBS := Lib.hid hbs
        have HAB := Lib.hid habs
        have HDK := Lib.hid hdk
        have HDB := Lib.hid hdb
        have HM := Lib.hid (show m.length ≤ 280 from hm280)
        rw [hml] at hd ⊢
        clear hlen
        have hbi : ¬ (300 : Int) < ((m.length + 2 : Nat) : Int) := by omega
        have hcv : ∀ W, Below w.heap.size w W → (convert 22 9 (.slice a (m.length + 2) cap)).run Try.prog W = .ok (.string (strN (p :: q :: m))) W := fun W hW => by
          have h9 := conv_str (hbs.keep hW) (by simp) cap
          rwa [hml] at h9
        have HCV := Lib.hid hcv
        clear hcv hdk hdb habs h hbs h282 h2 hbig hcap
        cases hb : rBad p q m with
        | true =>
          have hno : ¬ decOk (p :: q :: m) := fun h9 => by rw [hiff.1 h9] at hb; cases hb
          simp only [if_neg hno] at hd
          have HR := Lib.hid hR
          have HD := Lib.hid hd
          rw [hb] at HR
          clear hd hR hval hiff hno hb
          go_enter Try.func3, Try.ntmps3
          go_wp2_with fail
          refine HD.out.mono ?_
          rintro e w1 ⟨hb1, rfl⟩
          have HB := Lib.hid hb1
          clear HD hb1
          go_wp2_with fail
          refine (HR.out w1 HB.out).mono ?_
          rintro e w2 ⟨hb2, hcase⟩
          rcases hcase with ⟨_, rfl⟩ | ⟨h9, _⟩
          · have HB2 := Lib.hid (HB.out.trans (hb2.mono HB.out.size))
            clear hb2 HB HR
            go_wp2_with fail
            refine (works_any _).mono ?_
            rintro e wz ⟨rfl, hbw⟩
            have HW := HB2.out.trans (hbw.mono HB2.out.size)
            go_wp2_with fail
            go_ret
            exact ⟨rfl, HW⟩
          · cases h9
        | false =>
          have hyes : decOk (p :: q :: m) := hiff.2 hb
          simp only [if_pos hyes] at hd
          have hlead : m = [] ∨ m.getD 0 0 ≠ 0 := by
            have h9 := hb
            unfold rBad at h9
            simp only [Bool.or_eq_false_iff, Bool.and_eq_false_iff, decide_eq_false_iff_not] at h9
            rcases h9.1.1.2 with h9 | h9
            · exact .inl (Classical.byContradiction h9)
            · exact .inr h9
          have HL := Lib.hid hlead
          have henc := hyes.2
          have HENC := Lib.hid henc
          have HVAL := Lib.hid (hval hb)
          have HR := Lib.hid hR
          have HD := Lib.hid hd
          rw [hb] at HR
          clear hd hR hval hiff hyes hb hlead henc
          generalize decN (p :: q :: m) = f at *
          go_enter Try.func3, Try.ntmps3
          go_wp2_with fail
          refine HD.out.mono ?_
          rintro e w1 ⟨hb1, b, rfl, hlo, hA⟩
          have HB := Lib.hid hb1
          have HA := Lib.hid hA
          clear HD hb1 hA hlo
          go_wp2_with fail
          refine (HR.out w1 HB.out).mono ?_
          rintro e w2 ⟨hb2, hcase⟩
          rcases hcase with ⟨h9, _⟩ | ⟨_, b2, va, vc, rfl, hra⟩
          · cases h9
          · have HB2 := Lib.hid (HB.out.trans (hb2.mono HB.out.size))
            have HA2 := Lib.hid (HA.out.keep hb2)
            have HRA := Lib.hid hra
            have hE := Encode_any HA2.out HDK.out.1 HDK.out.2 HDB.out
            rw [HENC.out] at hE
            have HE := Lib.hid hE
            clear hb2 hra HB HA HR hE HENC
            go_wp2_with fail
            refine HE.out.mono ?_
            rintro e w3 ⟨v, rfl, hv, hb3⟩
            obtain ⟨g3, cap3, rfl, hbs3⟩ := hv.bs (by simp) HS.out
            have HB3 := Lib.hid (HB2.out.trans (hb3.mono HB2.out.size))
            have HA3 := Lib.hid (HA2.out.keep hb3)
            have HRA3 := Lib.hid (HRA.out.keep hb3)
            have hc1 := HCV.out w3 HB3.out
            have hc2 := conv_str hbs3 (by simp) cap3
            have hV := Value_any HA3.out HDK.out.1 HDB.out HAB.out
            have HV := Lib.hid hV
            clear hV hv hb3 hbs3 HE HB2 HA2 HRA HCV
            rw [hml] at hc2 ⊢
            generalize strN (p :: q :: m) = S at *
            generalize valueN f = z at *
            go_wp2_with fail
            refine HV.out.mono ?_
            rintro e w4 ⟨rfl, hb4⟩
            have HB4 := Lib.hid (HB3.out.trans (hb4.mono HB3.out.size))
            have hW := rvalue_any (HRA3.out.keep hb4) HM.out HL.out
            rw [HVAL.out] at hW
            have HW := Lib.hid hW
            clear hW hb4 HV HB3 HA3 HRA3
            go_wp2_with fail
            refine HW.out.mono ?_
            rintro e w' ⟨rfl, rfl⟩
            clear HW
            go_wp2_with fail
            refine (works_any _).mono ?_
            rintro e wz ⟨rfl, hbw⟩
            have HW := HB4.out.trans (hbw.mono HB4.out.size)
            go_wp2_with fail
            go_ret
            exact ⟨rfl, HW⟩
end Go.Proofs.Ytjcdnaandbockaa
