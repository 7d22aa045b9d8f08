import Derived.Test.YtbhkenphcahifaaGreatOB
import Derived.Test.YtbhkenphcahifaaGreatNS
namespace Go.Proofs.YtbhkenphcahifaaGreat
open Go.RowKit Go.Shelf
attribute [local go_sem] Oper.semAt_some
set_option maxRecDepth 100000
set_option maxHeartbeats 4000000

theorem downL_len (k : Nat) (ww y : Int) : ∀ (l : Nat) (wd : Int), (downL k ww y l wd).length = l
  | 0, _ => rfl
  | l + 1, wd => by rw [downL, List.length_cons, downL_len k ww y l]
theorem upL_len (k : Nat) (ww y : Int) : ∀ (f l : Nat) (wd : Int), (upL k ww y f l wd).length ≤ 2 * f + l
  | 0, l, wd => by rw [upL, downL_len]; omega
  | f + 1, l, wd => by
    rw [upL]
    split
    · rw [List.length_cons]; have := upL_len k ww y f (l + 1) (wthI k l wd (digI k l y)); omega
    · rw [downL_len]; omega
theorem treeMake (lo : Nat) (k lv : Nat) (x y : Int) (hk : 1 ≤ k) (hk2 : k ≤ 16) (hlv : 1 ≤ lv) (hlv2 : lv ≤ 5) (hww2 : k ^ (lv - 1) ≤ 1000) (hx : 0 ≤ x) (hx2 : x < (lv : Int) * ((k ^ (lv - 1) : Nat) : Int)) (hy : 0 ≤ y) (hy2 : y < ((k ^ (lv - 1) : Nat) : Int)) (w : World) :
    RMake lo 183 (.agg #[.int .i64 (k : Int), .int .i64 (lv : Int), .int .i64 ((k ^ (lv - 1) : Nat) : Int)]) x y (treeL k lv x y) w := by
  obtain ⟨hb, q0, q1, q2⟩ := three_new w (.cells #[.int .i64 (k : Int), .int .i64 (lv : Int), .int .i64 ((k ^ (lv - 1) : Nat) : Int)] 142) (.cells #[.int .i64 x] 3) (.cells #[.int .i64 y] 3)
  have HB := Lib.hid hb
  have HI : Hid (RIter lo 189 #[.pointer (some ⟨w.heap.size + 1, 0, none⟩), .pointer (some ⟨w.heap.size, 0, none⟩), .pointer (some ⟨w.heap.size + 2, 0, none⟩)] (treeL k lv x y) w.heap.size (((w.alloc (.cells #[.int .i64 (k : Int), .int .i64 (lv : Int), .int .i64 ((k ^ (lv - 1) : Nat) : Int)] 142)).alloc (.cells #[.int .i64 x] 3)).alloc (.cells #[.int .i64 y] 3))) := by
    refine ⟨enters_of Tryz.func189 (by kernel_rfl) rfl, _, ?_, fun n n0 o _ => treeIter n0 o w.heap.size (w.heap.size + 1) (w.heap.size + 2) k lv x y hk hk2 hlv hlv2 hww2 hx hx2 hy hy2 q0 q1 q2 n⟩
    rintro b (rfl | rfl | rfl)
    · exact ⟨Nat.le_refl _, _, q0, rfl⟩
    · exact ⟨by omega, _, q1, rfl⟩
    · exact ⟨by omega, _, q2, rfl⟩
  clear hb q0 q1 q2 hww2 hx2 hy2
  generalize ((k ^ (lv - 1) : Nat) : Int) = ww at *
  unfold RMake
  go_enter Tryz.func183, Tryz.ntmps183
  go_wp2_with fail
  go_ret
  exact ⟨189, _, rfl, HI.out, HB.out⟩
/-- the steps of a route in a tree -/
def treeSteps (l : List Int) (x y : Int) : List (Int × Int) := treeL (l.getD 0 0).toNat (l.getD 1 0).toNat x y
theorem treeSteps_len {l : List Int} {hosts x y : Int} (hv : vOk 2 l hosts) (hin : inB (swI 2 l) [x, y] = true) : (treeSteps l x y).length ≤ 100000 := by
  obtain ⟨⟨hx0, hx1⟩, _⟩ := inB_two hin
  have hb := v_bound hv
  have hr : rOk l hosts := by
    rcases hv with ⟨h0, h1⟩ | ⟨h0, h1⟩ | ⟨h0, h1⟩
    · cases h0
    · exact h1
    · cases h0
  obtain ⟨_, h1, h2, _⟩ := hr
  refine Nat.le_trans (upL_len _ _ _ _ _ _) ?_
  have hd := Int.ediv_le_self (((l.getD 0 0).toNat ^ ((l.getD 1 0).toNat - 1) : Nat) : Int) hx0
  omega
theorem treeSteps_make {l : List Int} {hosts x y : Int} (hv : vOk 2 l hosts) (hin : inB (swI 2 l) [x, y] = true) (hy : y < hoI 2 l) (lo : Nat) (W : World) :
    RMake lo 183 (.agg #[.int .i64 (l.getD 0 0), .int .i64 (l.getD 1 0), .int .i64 (wordsI l)]) x y (treeSteps l x y) W := by
  obtain ⟨⟨hx0, hx1⟩, hy0, _⟩ := inB_two hin
  have hr : rOk l hosts := by
    rcases hv with ⟨h0, h1⟩ | ⟨h0, h1⟩ | ⟨h0, h1⟩
    · cases h0
    · exact h1
    · cases h0
  have hwb := words_bound hr
  obtain ⟨_, h1, h2, _⟩ := hr
  have hs : swI 2 l = l.getD 1 0 * wordsI l := rfl
  have ho : hoI 2 l = wordsI l := rfl
  rw [hs] at hx1
  rw [ho] at hy
  have hw : wordsI l = (((l.getD 0 0).toNat ^ ((l.getD 1 0).toNat - 1) : Nat) : Int) := rfl
  unfold treeSteps
  rw [hw] at hx1 hy hwb ⊢
  clear hv hin hs ho hw
  generalize l.getD 0 0 = A at *
  generalize l.getD 1 0 = C at *
  obtain ⟨k, rfl⟩ := Int.eq_ofNat_of_zero_le (show 0 ≤ A by omega)
  obtain ⟨lv, rfl⟩ := Int.eq_ofNat_of_zero_le (show 0 ≤ C by omega)
  simp only [Int.toNat_natCast] at hx1 hy hwb ⊢
  exact treeMake lo k lv x y (by omega) (by omega) (by omega) (by omega) (by omega) hx0 (by omega) hy0 hy W
theorem Route_tree {w : World} {sa : Option Addr} {l : List Int} (h : Ints w sa l) (sc : Nat) (hosts x y : Int) (hv : vOk 2 l hosts) (hin : inB (swI 2 l) [x, y] = true) (hy : y < hoI 2 l) :
    Calls Tryz.prog 87 #[.agg #[.int .i64 2, .slice sa l.length sc, .int .i64 hosts], .int .i64 x, .int .i64 y] w fun e w' => ∃ v, e = .returned (.tuple #[v, .int .i64 0]) ∧ NewInts w.heap.size w' v (x :: (treeSteps l x y).map (·.1)) ∧ Below w.heap.size w w' :=
  Route2_any h sc hosts x y hv hin hy _ (treeSteps_len hv hin) (fun W _ => treeSteps_make hv hin hy _ W)
theorem Classes_tree {w : World} {sa : Option Addr} {l : List Int} (h : Ints w sa l) (sc : Nat) (hosts x y : Int) (hv : vOk 2 l hosts) (hin : inB (swI 2 l) [x, y] = true) (hy : y < hoI 2 l) :
    Calls Tryz.prog 88 #[.agg #[.int .i64 2, .slice sa l.length sc, .int .i64 hosts], .int .i64 x, .int .i64 y] w fun e w' => ∃ v, e = .returned (.tuple #[v, .int .i64 0]) ∧ NewInts w.heap.size w' v ((treeSteps l x y).map (·.2)) ∧ Below w.heap.size w w' :=
  Classes2_any h sc hosts x y hv hin hy _ (treeSteps_len hv hin) (fun W _ => treeSteps_make hv hin hy _ W)
theorem tree_example : (treeSteps [2, 3] 0 3) = [(5, 0), (11, 0), (7, 0), (3, 0)] := by decide
end Go.Proofs.YtbhkenphcahifaaGreat
