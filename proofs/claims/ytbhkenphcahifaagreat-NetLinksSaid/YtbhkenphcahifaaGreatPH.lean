import Derived.Test.YtbhkenphcahifaaGreatPG
import Derived.Test.YtbhkenphcahifaaGreatPE
import Derived.Test.YtbhkenphcahifaaGreatOH
namespace Go.Proofs.YtbhkenphcahifaaGreat
open Go.RowKit Go.Shelf
attribute [local go_sem] Oper.semAt_some
set_option maxRecDepth 100000
set_option maxHeartbeats 4000000

def szM (kind : Int) (l : List Int) (hosts most : Int) : Int := if vOk kind l hosts ∧ swI kind l ≤ most then swI kind l else 0
def hoM (kind : Int) (l : List Int) (hosts most : Int) : Int := if vOk kind l hosts ∧ swI kind l ≤ most then hoI kind l else 0
theorem size_any {w : World} {sa : Option Addr} {l : List Int} (h : Ints w sa l) (sc : Nat) (kind hosts most : Int) :
    Calls Tryz.prog 30 #[.agg #[.int .i64 kind, .slice sa l.length sc, .int .i64 hosts], .int .i64 most] w fun e w' => e = .returned (.tuple #[.int .i64 (szM kind l hosts most), .int .i64 (hoM kind l hosts most)]) ∧ Below w.heap.size w w' := by
  have HB := Lib.hid ((Below.refl w.heap.size w).alloc (Nat.le_refl _) (.cells #[.int .i64 kind, .slice sa l.length sc, .int .i64 hosts] 24))
  have Q0 := Lib.hid (heap_alloc_new w (.cells #[.int .i64 kind, .slice sa l.length sc, .int .i64 hosts] 24))
  have c0 := cellR 0 Q0.out rfl
  have c1 := cellR 1 Q0.out rfl
  have c2 := cellR 2 Q0.out rfl
  have HS := Lib.hid (Size_any (h.keep HB.out) sc kind hosts)
  by_cases hv : vOk kind l hosts
  · obtain ⟨b1, b2, b3, b4, b5, b6⟩ := v_bound hv
    have e1 : szI kind l hosts = swI kind l := if_pos hv
    have e2 : hsI kind l hosts = hoI kind l * hosts := if_pos hv
    have e3 : errI kind l hosts = 0 := if_pos hv
    rw [e1, e2, e3] at HS
    have hq : wrap64 ((hoI kind l * hosts).tdiv hosts) = hoI kind l := by
      rw [Int.mul_tdiv_cancel _ (by omega)]; unfold wrap64; omega
    have hz : hosts ≠ 0 := by omega
    by_cases hm : swI kind l ≤ most
    · have hM : szM kind l hosts most = swI kind l := if_pos ⟨hv, hm⟩
      have hN : hoM kind l hosts most = hoI kind l := if_pos ⟨hv, hm⟩
      rw [hM, hN]
      generalize swI kind l = n at *
      generalize hoI kind l = m at *
      generalize m * hosts = mh at *
      have d1 : decide (n < 1) = false := decide_eq_false (by omega)
      have d2 : decide (n > most) = false := decide_eq_false (by omega)
      have d3 : decide (hosts < 1) = false := decide_eq_false (by omega)
      clear h hv e1 e2 e3 hM hN b1 b2 b3 b4 b5 b6
      generalize l.length = N at *
      go_enter Tryz.func30, Tryz.ntmps30
      go_wp2_with fail
      generalize w.alloc (.cells #[.int .i64 kind, .slice sa N sc, .int .i64 hosts] 24) = X at *
      refine HS.out.mono ?_
      rintro e w1 ⟨rfl, hb⟩
      replace c2 := kcell hb c2
      replace HB := Lib.hid (HB.out.trans (hb.mono HB.out.size))
      clear HS hb Q0 c0 c1
      go_wp2_with fail
      go_quiet (fail)
      go_wp2_with fail
      exact bodyPost_ret (v := .tuple #[.int .i64 n, .int .i64 m]) (by simp [results, Tryz.results30, hq]) rfl ⟨rfl, below_drewN HB.out _⟩
    · have hM : szM kind l hosts most = 0 := if_neg fun h => hm h.2
      have hN : hoM kind l hosts most = 0 := if_neg fun h => hm h.2
      rw [hM, hN]
      generalize swI kind l = n at *
      generalize hoI kind l = m at *
      generalize m * hosts = mh at *
      have d1 : decide (n < 1) = false := decide_eq_false (by omega)
      have d2 : decide (n > most) = true := decide_eq_true (by omega)
      clear h hv e1 e2 e3 hM hN b1 b2 b3 b4 b5 b6
      generalize l.length = N at *
      go_enter Tryz.func30, Tryz.ntmps30
      go_wp2_with fail
      generalize w.alloc (.cells #[.int .i64 kind, .slice sa N sc, .int .i64 hosts] 24) = X at *
      refine HS.out.mono ?_
      rintro e w1 ⟨rfl, hb⟩
      replace HB := Lib.hid (HB.out.trans (hb.mono HB.out.size))
      clear HS hb Q0 c0 c1 c2
      go_wp2_with fail
      exact bodyPost_ret (v := .tuple #[.int .i64 0, .int .i64 0]) (by simp [results, Tryz.results30]) rfl ⟨rfl, HB.out⟩
  · have hM : szM kind l hosts most = 0 := if_neg fun h => hv h.1
    have hN : hoM kind l hosts most = 0 := if_neg fun h => hv h.1
    have e3 : errI kind l hosts = 2 := if_neg hv
    rw [e3] at HS
    rw [hM, hN]
    generalize szI kind l hosts = n at *
    generalize hsI kind l hosts = m at *
    clear h hv e3 hM hN
    generalize l.length = N at *
    go_enter Tryz.func30, Tryz.ntmps30
    go_wp2_with fail
    generalize w.alloc (.cells #[.int .i64 kind, .slice sa N sc, .int .i64 hosts] 24) = X at *
    refine HS.out.mono ?_
    rintro e w1 ⟨rfl, hb⟩
    replace HB := Lib.hid (HB.out.trans (hb.mono HB.out.size))
    clear HS hb Q0 c0 c1 c2
    go_wp2_with fail
    exact bodyPost_ret (v := .tuple #[.int .i64 0, .int .i64 0]) (by simp [results, Tryz.results30]) rfl ⟨rfl, HB.out⟩
end Go.Proofs.YtbhkenphcahifaaGreat
