import Derived.Test.YtbhkenphcahifaaGreatND
namespace Go.Proofs.YtbhkenphcahifaaGreat
open Go.RowKit Go.Shelf
attribute [local go_sem] Oper.semAt_some
set_option maxRecDepth 100000
set_option maxHeartbeats 4000000

/-- is a network valid -/
def vOk (kind : Int) (l : List Int) (h : Int) : Prop := (kind = 1 ∧ tOk l h) ∨ (kind = 2 ∧ rOk l h) ∨ (kind = 3 ∧ dOk l h)
instance (kind : Int) (l : List Int) (h : Int) : Decidable (vOk kind l h) := by unfold vOk; infer_instance
/-- a network as a value -/
def netV (kind : Int) (sa : Option Addr) (sc : Nat) (l : List Int) : Value :=
  if kind = 1 then .iface 138 (.agg #[.slice sa l.length sc, .int .i64 (prodI l)])
  else if kind = 2 then .iface 142 (.agg #[.int .i64 (l.getD 0 0), .int .i64 (l.getD 1 0), .int .i64 (wordsI l)])
  else .iface 146 (.agg #[.int .i64 (l.getD 0 0), .int .i64 (l.getD 1 0), .int .i64 (l.getD 0 0 * l.getD 1 0 + 1)])
theorem networkOf_any {w : World} {sa : Option Addr} {l : List Int} (h : Ints w sa l) (sc : Nat) (kind hosts : Int) :
    Calls Tryz.prog 47 #[.agg #[.int .i64 kind, .slice sa l.length sc, .int .i64 hosts]] w fun e w' => Below w.heap.size w w' ∧ ((vOk kind l hosts ∧ e = .returned (.tuple #[netV kind sa sc l, .int .i64 0])) ∨ (¬ vOk kind l hosts ∧ e = .returned (.tuple #[.nilIface, .int .i64 2]))) := by
  have HT : Hid (∀ W, Below w.heap.size w W → Calls Tryz.prog 89 #[.agg #[.int .i64 kind, .slice sa l.length sc, .int .i64 hosts]] W fun e w' => Below W.heap.size W w' ∧ ∃ (a : Option Addr) (n c : Nat) (m : Int), e = .returned (.tuple #[.agg #[.slice a n c, .int .i64 m], .bool (decide (tOk l hosts))]) ∧ (tOk l hosts → a = sa ∧ n = l.length ∧ c = sc ∧ m = prodI l)) := fun W hb => torusOf_any (h.keep hb) sc kind hosts
  have HR : Hid (∀ W, Below w.heap.size w W → Calls Tryz.prog 90 #[.agg #[.int .i64 kind, .slice sa l.length sc, .int .i64 hosts]] W fun e w' => Below W.heap.size W w' ∧ ∃ a b c : Int, e = .returned (.tuple #[.agg #[.int .i64 a, .int .i64 b, .int .i64 c], .bool (decide (rOk l hosts))]) ∧ (rOk l hosts → a = l.getD 0 0 ∧ b = l.getD 1 0 ∧ c = wordsI l)) := fun W hb => treeOf_any (h.keep hb) sc kind hosts
  have HD : Hid (∀ W, Below w.heap.size w W → Calls Tryz.prog 91 #[.agg #[.int .i64 kind, .slice sa l.length sc, .int .i64 hosts]] W fun e w' => Below W.heap.size W w' ∧ ∃ a b c : Int, e = .returned (.tuple #[.agg #[.int .i64 a, .int .i64 b, .int .i64 c], .bool (decide (dOk l hosts))]) ∧ (dOk l hosts → a = l.getD 0 0 ∧ b = l.getD 1 0 ∧ c = l.getD 0 0 * l.getD 1 0 + 1)) := fun W hb => dragonflyOf_any (h.keep hb) sc kind hosts
  have hb0 : Below w.heap.size w (w.alloc (.cells #[.int .i64 kind, .slice sa l.length sc, .int .i64 hosts] 24)) := (Below.refl _ _).alloc (Nat.le_refl _) _
  have q0 := heap_alloc_new w (.cells #[.int .i64 kind, .slice sa l.length sc, .int .i64 hosts] 24)
  have HB := Lib.hid hb0
  have HVO : Hid (vOk kind l hosts ↔ (kind = 1 ∧ tOk l hosts) ∨ (kind = 2 ∧ rOk l hosts) ∨ (kind = 3 ∧ dOk l hosts)) := Iff.rfl
  have HNV : Hid (netV kind sa sc l = if kind = 1 then .iface 138 (.agg #[.slice sa l.length sc, .int .i64 (prodI l)]) else if kind = 2 then .iface 142 (.agg #[.int .i64 (l.getD 0 0), .int .i64 (l.getD 1 0), .int .i64 (wordsI l)]) else .iface 146 (.agg #[.int .i64 (l.getD 0 0), .int .i64 (l.getD 1 0), .int .i64 (l.getD 0 0 * l.getD 1 0 + 1)])) := rfl
  generalize netV kind sa sc l = NV at *
  generalize vOk kind l hosts = VO at *
  have c0 := cellR 0 q0 rfl
  have c1 := cellR 1 q0 rfl
  have c2 := cellR 2 q0 rfl
  clear h hb0 q0
  by_cases hk1 : kind = 1
  case pos =>
    have hk := hk1
    clear hk1
    have hv1 : VO ↔ tOk l hosts := by rw [HVO.out, hk]; simp
    have HV1 := Lib.hid hv1
    have HN1 : Hid (NV = .iface 138 (.agg #[.slice sa l.length sc, .int .i64 (prodI l)])) := by show _ = _; rw [HNV.out, hk]; rfl
    have HC := Lib.hid (HT.out _ HB.out)
    subst hk
    clear HT HR HD hv1 HVO HNV
    go_enter Tryz.func47, Tryz.ntmps47
    go_wp2_with fail
    generalize w.alloc (.cells #[.int .i64 1, .slice sa l.length sc, .int .i64 hosts] 24) = X at *
    refine HC.out.mono ?_
    rintro e w1 ⟨hb1, a, n, c, m, rfl, hres⟩
    have HB1 := Lib.hid (HB.out.trans (hb1.mono HB.out.size))
    have HRS := Lib.hid hres
    clear HC hb1 hres c0 c1 c2
    by_cases ht : tOk l hosts
    · have hd : decide (tOk l hosts) = true := decide_eq_true ht
      have HT1 := Lib.hid ht
      rw [hd]
      clear ht hd
      go_wp2_with fail
      go_ret2
      have hr := HRS.out HT1.out
      exact ⟨HB1.out, .inl ⟨HV1.out.2 HT1.out, by rw [HN1.out, hr.1, hr.2.1, hr.2.2.1, hr.2.2.2]; rfl⟩⟩
    · have hd : decide (tOk l hosts) = false := decide_eq_false ht
      have HT1 := Lib.hid ht
      rw [hd]
      clear ht hd
      go_wp2_with fail
      go_ret2
      exact ⟨HB1.out, .inr ⟨fun h9 => HT1.out (HV1.out.1 h9), rfl⟩⟩
  by_cases hk2 : kind = 2
  case pos =>
    have hk := hk2
    clear hk2
    have hv1 : VO ↔ rOk l hosts := by rw [HVO.out, hk]; simp
    have HV1 := Lib.hid hv1
    have HN1 : Hid (NV = .iface 142 (.agg #[.int .i64 (l.getD 0 0), .int .i64 (l.getD 1 0), .int .i64 (wordsI l)])) := by show _ = _; rw [HNV.out, hk]; rfl
    have HC := Lib.hid (HR.out _ HB.out)
    subst hk
    clear HT HR HD hv1 HVO HNV
    go_enter Tryz.func47, Tryz.ntmps47
    go_wp2_with fail
    generalize w.alloc (.cells #[.int .i64 2, .slice sa l.length sc, .int .i64 hosts] 24) = X at *
    refine HC.out.mono ?_
    rintro e w1 ⟨hb1, a, b, c, rfl, hres⟩
    have HB1 := Lib.hid (HB.out.trans (hb1.mono HB.out.size))
    have HRS := Lib.hid hres
    clear HC hb1 hres c0 c1 c2
    by_cases ht : rOk l hosts
    · have hd : decide (rOk l hosts) = true := decide_eq_true ht
      have HT1 := Lib.hid ht
      rw [hd]
      clear ht hd
      go_wp2_with fail
      go_ret2
      have hr := HRS.out HT1.out
      exact ⟨HB1.out, .inl ⟨HV1.out.2 HT1.out, by rw [HN1.out, hr.1, hr.2.1, hr.2.2]; rfl⟩⟩
    · have hd : decide (rOk l hosts) = false := decide_eq_false ht
      have HT1 := Lib.hid ht
      rw [hd]
      clear ht hd
      go_wp2_with fail
      go_ret2
      exact ⟨HB1.out, .inr ⟨fun h9 => HT1.out (HV1.out.1 h9), rfl⟩⟩
  by_cases hk3 : kind = 3
  case pos =>
    have hk := hk3
    clear hk3
    have hv1 : VO ↔ dOk l hosts := by rw [HVO.out, hk]; simp
    have HV1 := Lib.hid hv1
    have HN1 : Hid (NV = .iface 146 (.agg #[.int .i64 (l.getD 0 0), .int .i64 (l.getD 1 0), .int .i64 (l.getD 0 0 * l.getD 1 0 + 1)])) := by show _ = _; rw [HNV.out, hk]; rfl
    have HC := Lib.hid (HD.out _ HB.out)
    subst hk
    clear HT HR HD hv1 HVO HNV
    go_enter Tryz.func47, Tryz.ntmps47
    go_wp2_with fail
    generalize w.alloc (.cells #[.int .i64 3, .slice sa l.length sc, .int .i64 hosts] 24) = X at *
    refine HC.out.mono ?_
    rintro e w1 ⟨hb1, a, b, c, rfl, hres⟩
    have HB1 := Lib.hid (HB.out.trans (hb1.mono HB.out.size))
    have HRS := Lib.hid hres
    clear HC hb1 hres c0 c1 c2
    by_cases ht : dOk l hosts
    · have hd : decide (dOk l hosts) = true := decide_eq_true ht
      have HT1 := Lib.hid ht
      rw [hd]
      clear ht hd
      go_wp2_with fail
      go_ret2
      have hr := HRS.out HT1.out
      exact ⟨HB1.out, .inl ⟨HV1.out.2 HT1.out, by rw [HN1.out, hr.1, hr.2.1, hr.2.2]; rfl⟩⟩
    · have hd : decide (dOk l hosts) = false := decide_eq_false ht
      have HT1 := Lib.hid ht
      rw [hd]
      clear ht hd
      go_wp2_with fail
      go_ret2
      exact ⟨HB1.out, .inr ⟨fun h9 => HT1.out (HV1.out.1 h9), rfl⟩⟩
  have k1 : (kind == 1) = false := beq_eq_false_iff_ne.2 hk1
  have k2 : (kind == 2) = false := beq_eq_false_iff_ne.2 hk2
  have k3 : (kind == 3) = false := beq_eq_false_iff_ne.2 hk3
  have HV1 : Hid (¬ VO) := fun h => by
    rcases HVO.out.1 h with h | h | h
    · exact hk1 h.1
    · exact hk2 h.1
    · exact hk3 h.1
  clear HT HR HD HVO HNV hk1 hk2 hk3
  go_enter Tryz.func47, Tryz.ntmps47
  go_wp2_with fail
  go_ret2
  exact ⟨HB.out, .inr ⟨HV1.out, rfl⟩⟩
end Go.Proofs.YtbhkenphcahifaaGreat
