import Derived.Test.YtbhkenphcahifaaGreatNG
namespace Go.Proofs.YtbhkenphcahifaaGreat
open Go.RowKit Go.Shelf
attribute [local go_sem] Oper.semAt_some
set_option maxRecDepth 100000
set_option maxHeartbeats 4000000

/-- how many switches -/
def swI (kind : Int) (l : List Int) : Int := if kind = 1 then prodI l else if kind = 2 then l.getD 1 0 * wordsI l else l.getD 0 0 * (l.getD 0 0 * l.getD 1 0 + 1)
/-- how many homes -/
def hoI (kind : Int) (l : List Int) : Int := if kind = 2 then wordsI l else swI kind l
theorem prod_pos_acc : ∀ (l : List Int) (a : Int), 1 ≤ a → (∀ x ∈ l, 1 ≤ x) → 1 ≤ l.foldl (· * ·) a
  | [], a, h, _ => h
  | x :: l, a, h, hl => by
    refine prod_pos_acc l (a * x) ?_ (fun y hy => hl y (List.mem_cons_of_mem _ hy))
    have := Int.mul_le_mul h (hl x (List.mem_cons_self ..)) (by decide) (by omega)
    omega
theorem words_bound {l : List Int} {h : Int} (hr : rOk l h) : 1 ≤ wordsI l ∧ wordsI l * l.getD 0 0 ≤ 256 ∧ wordsI l ≤ 128 := by
  obtain ⟨_, h1, h2, h3, _⟩ := hr
  unfold wordsI
  generalize l.getD 0 0 = kk at *
  generalize l.getD 1 0 = ll at *
  obtain ⟨kn, rfl⟩ := Int.eq_ofNat_of_zero_le (show 0 ≤ kk by omega)
  obtain ⟨ln, rfl⟩ := Int.eq_ofNat_of_zero_le (show 0 ≤ ll by omega)
  simp only [Int.toNat_natCast] at *
  have e : kn ^ ln = kn ^ (ln - 1) * kn := by rw [← Nat.pow_succ, show (ln - 1).succ = ln by omega]
  have hp : 1 ≤ kn ^ (ln - 1) := Nat.one_le_pow _ _ (by omega)
  rw [e] at h3
  generalize kn ^ (ln - 1) = p at *
  have h9 : p * 2 ≤ p * kn := Nat.mul_le_mul_left p (by omega)
  have h8 : ((p * kn : Nat) : Int) = (p : Int) * (kn : Int) := by simp
  omega
theorem v_bound {kind : Int} {l : List Int} {h : Int} (hv : vOk kind l h) : 1 ≤ hoI kind l ∧ hoI kind l ≤ 256 ∧ hoI kind l ≤ swI kind l ∧ swI kind l ≤ 512 ∧ 1 ≤ h ∧ h ≤ 8 := by
  rcases hv with ⟨rfl, h1⟩ | ⟨rfl, h1⟩ | ⟨rfl, h1⟩
  · have hp : 1 ≤ prodI l := prod_pos_acc l 1 (by decide) (fun x hx => by have := h1.2.2.1 x hx; omega)
    have h2 := h1.2.1
    have h3 := h1.2.2.2
    unfold hoI swI
    rw [if_neg (by decide), if_pos rfl]
    omega
  · obtain ⟨w1, w2, w3⟩ := words_bound h1
    obtain ⟨_, k1, k2, k3, k4⟩ := h1
    unfold hoI swI
    rw [if_pos rfl, if_neg (by decide), if_pos rfl]
    have e1 := Int.mul_le_mul k2.2 w3 (by omega) (by decide)
    have e2 := Int.mul_le_mul k2.1 (Int.le_refl (wordsI l)) (by omega) (by omega)
    omega
  · obtain ⟨_, k0, k1, k2, k3⟩ := h1
    obtain ⟨b1, b2, b3, b4⟩ := drag_bound k1.1 k1.2 k2.1 k2.2
    unfold hoI swI
    rw [if_neg (by decide), if_neg (by decide), if_neg (by decide)]
    omega
theorem m_size1 (sa : Option Addr) (n sc : Nat) (m : Int) (w : World) : (method 330 138 (.agg #[.slice sa n sc, .int .i64 m]) "armada/net.size").run Tryz.prog w = .ok (144, .agg #[.slice sa n sc, .int .i64 m]) w := by kernel_rfl
theorem m_size2 (a b c : Int) (w : World) : (method 330 142 (.agg #[.int .i64 a, .int .i64 b, .int .i64 c]) "armada/net.size").run Tryz.prog w = .ok (185, .agg #[.int .i64 a, .int .i64 b, .int .i64 c]) w := by kernel_rfl
theorem m_size3 (a b c : Int) (w : World) : (method 330 146 (.agg #[.int .i64 a, .int .i64 b, .int .i64 c]) "armada/net.size").run Tryz.prog w = .ok (199, .agg #[.int .i64 a, .int .i64 b, .int .i64 c]) w := by kernel_rfl
theorem m_place1 (sa : Option Addr) (n sc : Nat) (m : Int) (w : World) : (method 330 138 (.agg #[.slice sa n sc, .int .i64 m]) "armada/net.place").run Tryz.prog w = .ok (141, .agg #[.slice sa n sc, .int .i64 m]) w := by kernel_rfl
theorem m_place2 (a b c : Int) (w : World) : (method 330 142 (.agg #[.int .i64 a, .int .i64 b, .int .i64 c]) "armada/net.place").run Tryz.prog w = .ok (182, .agg #[.int .i64 a, .int .i64 b, .int .i64 c]) w := by kernel_rfl
theorem m_place3 (a b c : Int) (w : World) : (method 330 146 (.agg #[.int .i64 a, .int .i64 b, .int .i64 c]) "armada/net.place").run Tryz.prog w = .ok (196, .agg #[.int .i64 a, .int .i64 b, .int .i64 c]) w := by kernel_rfl
theorem Size1_any {w : World} {sa : Option Addr} {l : List Int} (h : Ints w sa l) (sc : Nat) (hosts : Int) (hv : vOk 1 l hosts) :
    Calls Tryz.prog 41 #[.agg #[.int .i64 1, .slice sa l.length sc, .int .i64 hosts]] w fun e w' => e = .returned (.tuple #[.int .i64 (swI 1 l), .int .i64 (hoI 1 l * hosts), .int .i64 0]) ∧ Below w.heap.size w w' := by
  have HO : Hid (∀ W, Below w.heap.size w W → Calls Tryz.prog 47 #[.agg #[.int .i64 1, .slice sa l.length sc, .int .i64 hosts]] W fun e w' => Below W.heap.size W w' ∧ ((vOk 1 l hosts ∧ e = .returned (.tuple #[netV 1 sa sc l, .int .i64 0])) ∨ (¬ vOk 1 l hosts ∧ e = .returned (.tuple #[.nilIface, .int .i64 2])))) := fun W hb => networkOf_any (h.keep hb) sc 1 hosts
  have hb0 : Below w.heap.size w (w.alloc (.cells #[.int .i64 1, .slice sa l.length sc, .int .i64 hosts] 24)) := (Below.refl _ _).alloc (Nat.le_refl _) _
  have Q0 := Lib.hid (heap_alloc_new w (.cells #[.int .i64 1, .slice sa l.length sc, .int .i64 hosts] 24))
  have HB := Lib.hid hb0
  have c0 := cellR 0 Q0.out rfl
  have c1 := cellR 1 Q0.out rfl
  have c2 := cellR 2 Q0.out rfl
  obtain ⟨v1, v2, v3, v4, v5, v6⟩ := v_bound hv
  have hmul := Int.mul_le_mul v2 v6 (by omega) (by decide)
  have hmul0 := Int.mul_nonneg (show 0 ≤ hoI 1 l by omega) (show 0 ≤ hosts by omega)
  have hw : wrap64 (hoI 1 l * hosts) = hoI 1 l * hosts := by generalize hoI 1 l * hosts = z at *; unfold wrap64; omega
  have HWW := Lib.hid hw
  have HSZ : Hid (∀ W, Calls Tryz.prog 144 #[.agg #[.slice sa l.length sc, .int .i64 (prodI l)]] W fun e w' => e = .returned (.tuple #[.int .i64 (swI 1 l), .int .i64 (hoI 1 l)]) ∧ Below W.heap.size W w') := fun W => sizeT_any sa l.length sc (prodI l) W
  have HNV : Hid (netV 1 sa sc l = .iface 138 (.agg #[.slice sa l.length sc, .int .i64 (prodI l)])) := rfl
  clear h hb0 hmul hmul0 hw v1 v2 v3 v4 v5 v6
  generalize swI 1 l = SW at *
  generalize hoI 1 l = HO_ at *
  go_enter Tryz.func41, Tryz.ntmps41
  go_wp2_with fail
  generalize w.alloc (.cells #[.int .i64 1, .slice sa l.length sc, .int .i64 hosts] 24) = X at *
  refine (HO.out _ HB.out).mono ?_
  rintro e w1 ⟨hb1, ⟨_, rfl⟩ | ⟨hn, _⟩⟩
  · rw [HNV.out]
    have hm := m_size1 sa l.length sc (prodI l)
    have Q1 := Lib.hid (heapB hb1 Q0.out)
    have HB1 := Lib.hid (HB.out.trans (hb1.mono HB.out.size))
    clear c0 c1 c2 Q0 HB hb1 HO
    go_wp2_with fail
    refine (HSZ.out _).mono ?_
    rintro e w2 ⟨rfl, hb2⟩
    have Q2 := Lib.hid (heapB hb2 Q1.out)
    have HB2 := Lib.hid (HB1.out.trans (hb2.mono HB1.out.size))
    clear Q1 HB1 hb2 HSZ hm
    have c2 := cellR 2 Q2.out rfl
    go_wp2_with fail
    go_quiet (fail)
    go_wp2_with fail
    go_ret3
    exact ⟨by show Ending.returned (.tuple #[.int .i64 SW, .int .i64 (wrap64 (HO_ * hosts)), .int .i64 0]) = _; rw [HWW.out], below_drewN HB2.out _⟩
  · exact absurd hv hn
theorem Size2_any {w : World} {sa : Option Addr} {l : List Int} (h : Ints w sa l) (sc : Nat) (hosts : Int) (hv : vOk 2 l hosts) :
    Calls Tryz.prog 41 #[.agg #[.int .i64 2, .slice sa l.length sc, .int .i64 hosts]] w fun e w' => e = .returned (.tuple #[.int .i64 (swI 2 l), .int .i64 (hoI 2 l * hosts), .int .i64 0]) ∧ Below w.heap.size w w' := by
  have HO : Hid (∀ W, Below w.heap.size w W → Calls Tryz.prog 47 #[.agg #[.int .i64 2, .slice sa l.length sc, .int .i64 hosts]] W fun e w' => Below W.heap.size W w' ∧ ((vOk 2 l hosts ∧ e = .returned (.tuple #[netV 2 sa sc l, .int .i64 0])) ∨ (¬ vOk 2 l hosts ∧ e = .returned (.tuple #[.nilIface, .int .i64 2])))) := fun W hb => networkOf_any (h.keep hb) sc 2 hosts
  have hb0 : Below w.heap.size w (w.alloc (.cells #[.int .i64 2, .slice sa l.length sc, .int .i64 hosts] 24)) := (Below.refl _ _).alloc (Nat.le_refl _) _
  have Q0 := Lib.hid (heap_alloc_new w (.cells #[.int .i64 2, .slice sa l.length sc, .int .i64 hosts] 24))
  have HB := Lib.hid hb0
  have c0 := cellR 0 Q0.out rfl
  have c1 := cellR 1 Q0.out rfl
  have c2 := cellR 2 Q0.out rfl
  obtain ⟨v1, v2, v3, v4, v5, v6⟩ := v_bound hv
  have hmul := Int.mul_le_mul v2 v6 (by omega) (by decide)
  have hmul0 := Int.mul_nonneg (show 0 ≤ hoI 2 l by omega) (show 0 ≤ hosts by omega)
  have hw : wrap64 (hoI 2 l * hosts) = hoI 2 l * hosts := by generalize hoI 2 l * hosts = z at *; unfold wrap64; omega
  have HWW := Lib.hid hw
  have HSZ : Hid (∀ W, Calls Tryz.prog 185 #[.agg #[.int .i64 (l.getD 0 0), .int .i64 (l.getD 1 0), .int .i64 (wordsI l)]] W fun e w' => e = .returned (.tuple #[.int .i64 (swI 2 l), .int .i64 (hoI 2 l)]) ∧ Below W.heap.size W w') := fun W => by
    rcases hv with ⟨h9, _⟩ | ⟨_, h9⟩ | ⟨h9, _⟩
    · cases h9
    · have hwb := words_bound h9
      have h8 := h9.2.2.1
      exact sizeR_any (l.getD 0 0) (l.getD 1 0) (wordsI l) (by omega) (by omega) (by omega) (by omega) W
    · cases h9
  have HNV : Hid (netV 2 sa sc l = .iface 142 (.agg #[.int .i64 (l.getD 0 0), .int .i64 (l.getD 1 0), .int .i64 (wordsI l)])) := rfl
  clear h hb0 hmul hmul0 hw v1 v2 v3 v4 v5 v6
  generalize swI 2 l = SW at *
  generalize hoI 2 l = HO_ at *
  go_enter Tryz.func41, Tryz.ntmps41
  go_wp2_with fail
  generalize w.alloc (.cells #[.int .i64 2, .slice sa l.length sc, .int .i64 hosts] 24) = X at *
  refine (HO.out _ HB.out).mono ?_
  rintro e w1 ⟨hb1, ⟨_, rfl⟩ | ⟨hn, _⟩⟩
  · rw [HNV.out]
    have hm := m_size2 (l.getD 0 0) (l.getD 1 0) (wordsI l)
    have Q1 := Lib.hid (heapB hb1 Q0.out)
    have HB1 := Lib.hid (HB.out.trans (hb1.mono HB.out.size))
    clear c0 c1 c2 Q0 HB hb1 HO
    go_wp2_with fail
    refine (HSZ.out _).mono ?_
    rintro e w2 ⟨rfl, hb2⟩
    have Q2 := Lib.hid (heapB hb2 Q1.out)
    have HB2 := Lib.hid (HB1.out.trans (hb2.mono HB1.out.size))
    clear Q1 HB1 hb2 HSZ hm
    have c2 := cellR 2 Q2.out rfl
    go_wp2_with fail
    go_quiet (fail)
    go_wp2_with fail
    go_ret3
    exact ⟨by show Ending.returned (.tuple #[.int .i64 SW, .int .i64 (wrap64 (HO_ * hosts)), .int .i64 0]) = _; rw [HWW.out], below_drewN HB2.out _⟩
  · exact absurd hv hn
theorem Size3_any {w : World} {sa : Option Addr} {l : List Int} (h : Ints w sa l) (sc : Nat) (hosts : Int) (hv : vOk 3 l hosts) :
    Calls Tryz.prog 41 #[.agg #[.int .i64 3, .slice sa l.length sc, .int .i64 hosts]] w fun e w' => e = .returned (.tuple #[.int .i64 (swI 3 l), .int .i64 (hoI 3 l * hosts), .int .i64 0]) ∧ Below w.heap.size w w' := by
  have HO : Hid (∀ W, Below w.heap.size w W → Calls Tryz.prog 47 #[.agg #[.int .i64 3, .slice sa l.length sc, .int .i64 hosts]] W fun e w' => Below W.heap.size W w' ∧ ((vOk 3 l hosts ∧ e = .returned (.tuple #[netV 3 sa sc l, .int .i64 0])) ∨ (¬ vOk 3 l hosts ∧ e = .returned (.tuple #[.nilIface, .int .i64 2])))) := fun W hb => networkOf_any (h.keep hb) sc 3 hosts
  have hb0 : Below w.heap.size w (w.alloc (.cells #[.int .i64 3, .slice sa l.length sc, .int .i64 hosts] 24)) := (Below.refl _ _).alloc (Nat.le_refl _) _
  have Q0 := Lib.hid (heap_alloc_new w (.cells #[.int .i64 3, .slice sa l.length sc, .int .i64 hosts] 24))
  have HB := Lib.hid hb0
  have c0 := cellR 0 Q0.out rfl
  have c1 := cellR 1 Q0.out rfl
  have c2 := cellR 2 Q0.out rfl
  obtain ⟨v1, v2, v3, v4, v5, v6⟩ := v_bound hv
  have hmul := Int.mul_le_mul v2 v6 (by omega) (by decide)
  have hmul0 := Int.mul_nonneg (show 0 ≤ hoI 3 l by omega) (show 0 ≤ hosts by omega)
  have hw : wrap64 (hoI 3 l * hosts) = hoI 3 l * hosts := by generalize hoI 3 l * hosts = z at *; unfold wrap64; omega
  have HWW := Lib.hid hw
  have HSZ : Hid (∀ W, Calls Tryz.prog 199 #[.agg #[.int .i64 (l.getD 0 0), .int .i64 (l.getD 1 0), .int .i64 (l.getD 0 0 * l.getD 1 0 + 1)]] W fun e w' => e = .returned (.tuple #[.int .i64 (swI 3 l), .int .i64 (hoI 3 l)]) ∧ Below W.heap.size W w') := fun W => by
    rcases hv with ⟨h9, _⟩ | ⟨h9, _⟩ | ⟨_, h9⟩
    · cases h9
    · cases h9
    · obtain ⟨b1, b2, b3, b4⟩ := drag_bound h9.2.2.1.1 h9.2.2.1.2 h9.2.2.2.1.1 h9.2.2.2.1.2
      have h8 := h9.2.2.1
      exact sizeD_any (l.getD 0 0) (l.getD 1 0) (l.getD 0 0 * l.getD 1 0 + 1) (by omega) (by omega) (by omega) (by omega) W
  have HNV : Hid (netV 3 sa sc l = .iface 146 (.agg #[.int .i64 (l.getD 0 0), .int .i64 (l.getD 1 0), .int .i64 (l.getD 0 0 * l.getD 1 0 + 1)])) := rfl
  clear h hb0 hmul hmul0 hw v1 v2 v3 v4 v5 v6
  generalize swI 3 l = SW at *
  generalize hoI 3 l = HO_ at *
  go_enter Tryz.func41, Tryz.ntmps41
  go_wp2_with fail
  generalize w.alloc (.cells #[.int .i64 3, .slice sa l.length sc, .int .i64 hosts] 24) = X at *
  refine (HO.out _ HB.out).mono ?_
  rintro e w1 ⟨hb1, ⟨_, rfl⟩ | ⟨hn, _⟩⟩
  · rw [HNV.out]
    have hm := m_size3 (l.getD 0 0) (l.getD 1 0) (l.getD 0 0 * l.getD 1 0 + 1)
    have Q1 := Lib.hid (heapB hb1 Q0.out)
    have HB1 := Lib.hid (HB.out.trans (hb1.mono HB.out.size))
    clear c0 c1 c2 Q0 HB hb1 HO
    go_wp2_with fail
    refine (HSZ.out _).mono ?_
    rintro e w2 ⟨rfl, hb2⟩
    have Q2 := Lib.hid (heapB hb2 Q1.out)
    have HB2 := Lib.hid (HB1.out.trans (hb2.mono HB1.out.size))
    clear Q1 HB1 hb2 HSZ hm
    have c2 := cellR 2 Q2.out rfl
    go_wp2_with fail
    go_quiet (fail)
    go_wp2_with fail
    go_ret3
    exact ⟨by show Ending.returned (.tuple #[.int .i64 SW, .int .i64 (wrap64 (HO_ * hosts)), .int .i64 0]) = _; rw [HWW.out], below_drewN HB2.out _⟩
  · exact absurd hv hn
end Go.Proofs.YtbhkenphcahifaaGreat
