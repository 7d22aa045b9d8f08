import Derived.Test.YtjcdnaandbockaaGreatGn
import Derived.Test.YtjcdnaandbockaaGreatGe
import Derived.Lib.AppendZeros
namespace Go.Proofs.YtjcdnaandbockaaGreat
open Go.RowKit Go.Shelf
attribute [local go_sem] Oper.semAt_some
set_option maxRecDepth 100000
set_option maxHeartbeats 1000000

theorem bytesN_get (V j : Nat) (hj : j < (bytesN V).length) : (bytesN V)[j] = V / 2 ^ (8 * ((blen V + 7) / 8 - 1 - j)) % 256 := by simp [bytesN]
theorem bytesN_words {m : List Nat} (h : ∀ x ∈ m, x < 256) (h0 : m = [] ∨ m.getD 0 0 ≠ 0) : bytesN (wordsN m) = m := by
  by_cases hne : m = []
  · subst hne; rfl
  · have h0 : m.getD 0 0 ≠ 0 := by rcases h0 with h0 | h0; exact absurd h0 hne; exact h0
    have hp : 0 < m.length := List.length_pos_iff.2 hne
    have hb := blen_words h hne h0
    have hx : m[0] = m.getD 0 0 := by rw [List.getD_eq_getElem?_getD, List.getElem?_eq_getElem hp]; rfl
    have h8 : blen (m.getD 0 0) ≤ 8 := blen_le.2 (by rw [← hx]; exact h _ (List.getElem_mem hp))
    have h1 : ¬ blen (m.getD 0 0) ≤ 0 := by rw [blen_le]; omega
    have hn : (blen (wordsN m) + 7) / 8 = m.length := by omega
    apply List.ext_getElem
    · rw [bytesN_len, hn]
    · intro j h2 h3
      rw [bytesN_get, hn, wordsN_byte h, if_pos (by omega)]
      unfold rev
      rw [show m.length - 1 - (m.length - 1 - j) = j by omega, List.getD_eq_getElem?_getD, List.getElem?_eq_getElem h3]
      rfl
theorem bytesN_lead (V : Nat) : bytesN V = [] ∨ (bytesN V).getD 0 0 ≠ 0 := by
  by_cases hb : blen V = 0
  · left
    unfold bytesN
    rw [hb]
    rfl
  · right
    have hn : 0 < (blen V + 7) / 8 := by omega
    have hl : 0 < (bytesN V).length := by rw [bytesN_len]; exact hn
    rw [List.getD_eq_getElem?_getD, List.getElem?_eq_getElem hl]
    show (bytesN V)[0] ≠ 0
    rw [bytesN_get, Nat.sub_zero]
    generalize hq : (blen V + 7) / 8 = n at *
    have h1 : V < 2 ^ (8 * (n - 1)) * 256 := by
      have h9 := lt_blen V
      have h8 := pow2_le (blen V) (8 * (n - 1 + 1)) (by omega)
      rw [pow8] at h8
      omega
    have h2 : V / 2 ^ (8 * (n - 1)) < 256 := (div_lt' (Nat.two_pow_pos _)).2 h1
    rw [Nat.mod_eq_of_lt h2]
    have h3 : ¬ blen V ≤ 8 * (n - 1) := by omega
    rw [blen_le] at h3
    have h4 : 1 ≤ V / 2 ^ (8 * (n - 1)) := by rw [Nat.le_div_iff_mul_le (Nat.two_pow_pos _)]; omega
    omega
theorem valB_cons (x : Nat) (t : List Nat) : ∀ k, k ≤ t.length → valB (rev (x :: t)) k = valB (rev t) k
  | 0, _ => rfl
  | k + 1, h => by
    rw [valB, valB, valB_cons x t k (by omega)]
    have : rev (x :: t) k = rev t k := by
      unfold rev
      rw [show (x :: t).length - 1 - k = (t.length - 1 - k) + 1 by simp; omega]
      rfl
    rw [this]
theorem wordsN_cons (x : Nat) (t : List Nat) : wordsN (x :: t) = wordsN t + x * 2 ^ (8 * t.length) := by
  unfold wordsN
  rw [show (x :: t).length = t.length + 1 by simp, valB, valB_cons x t _ (Nat.le_refl _)]
  have : rev (x :: t) t.length = x := by
    unfold rev
    rw [show (x :: t).length - 1 - t.length = 0 by simp]
    rfl
  rw [this]
/-- a number of the reference: its bytes, the highest one first, without zeros before them -/
def IsB (w : World) (g : Nat) : Prop := ∃ cs fr, w.heap[g]? = some (.cells cs 5 fr)
theorem IsB.keep {w w' : World} {g : Nat} (h : IsB w g) (hb : Below w.heap.size w w') : IsB w' g := by
  obtain ⟨cs, fr, h⟩ := h
  exact ⟨cs, fr, (hb.block g (Array.getElem?_eq_some_iff.1 h).1).trans h⟩
structure NumAt (w : World) (a : Option Addr) (n cap X : Nat) : Prop where
  len : n = (bytesN X).length
  cap : n ≤ cap
  bs : Bs w a (bytesN X)
  ty : n ≠ 0 → ∃ g o, a = some ⟨g, o, none⟩ ∧ IsB w g
theorem NumAt.keep {w w' : World} {a : Option Addr} {n cap X : Nat} (h : NumAt w a n cap X) (hb : Below w.heap.size w w') : NumAt w' a n cap X := ⟨h.len, h.cap, h.bs.keep hb, fun h0 => by
  obtain ⟨g, o, e, ht⟩ := h.ty h0
  exact ⟨g, o, e, ht.keep hb⟩⟩
theorem Bs.tail' {w : World} {g o p : Nat} {m : List Nat} (h : Bs w (some ⟨g, o, none⟩) (p :: m)) : Bs w (some ⟨g, o + 1, none⟩) m := by
  refine ⟨by have := h.len; simp at this; omega, fun x hx => h.small x (List.mem_cons_of_mem _ hx), fun hl => ?_⟩
  obtain ⟨b', off, e, hc⟩ := h.at_ (by simp)
  cases e
  refine ⟨g, o + 1, rfl, fun j hj => ?_⟩
  have := hc (j + 1) (by simp; omega)
  rw [show o + (j + 1) = o + 1 + j by omega] at this
  simpa using this
theorem trim_any {w : World} {a : Option Addr} {l : List Nat} (h : Bs w a l) (hl : l.length ≤ 1000) (cap : Nat) (hcap : l.length ≤ cap) (hty : l ≠ [] → ∃ g o, a = some ⟨g, o, none⟩ ∧ IsB w g) :
    Calls Tryz.prog 92 #[.slice a l.length cap] w fun e w' => w = w' ∧ ∃ a' n' cap', e = .returned (.slice a' n' cap') ∧ NumAt w a' n' cap' (wordsN l) := by
  have HB := Lib.hid h
  have HTY : Hid (l ≠ [] → ∃ g o, a = some ⟨g, o, none⟩ ∧ IsB w g) := hty
  clear h hty
  go_enter Tryz.func92, Tryz.ntmps92
  go_wp2_with fail
  go_loopw [0] (fun v wr => ∃ (a' : Option Addr) (l' : List Nat) (cap' : Nat), v = .slice a' l'.length cap' ∧ l'.length ≤ cap' ∧ l'.length ≤ 1000 ∧ Hid (Bs w a' l') ∧ Hid (wordsN l' = wordsN l) ∧ Hid (l' ≠ [] → ∃ g o, a' = some ⟨g, o, none⟩ ∧ IsB w g) ∧ wr = w) (fun v _ => match v with | .slice _ n _ => n | _ => 0)
  case atStart => exact ⟨a, l, cap, rfl, hcap, hl, HB, rfl, HTY, rfl⟩
  case round =>
    obtain ⟨a', l', cap', rfl, hc', hl', HBS, HW, HT0, rfl⟩ := hrel
    clear HTY
    cases l' with
    | nil =>
      have HN : Hid (NumAt wr a' 0 cap' (wordsN l)) := by
        show NumAt _ _ _ _ _
        rw [← HW.out]
        exact ⟨rfl, hc', HBS.out, fun h9 => absurd rfl h9⟩
      clear HBS HW
      go_wp2_with fail
      go_ret
      exact ⟨rfl, a', 0, cap', rfl, HN.out⟩
    | cons x t =>
      obtain ⟨g, o, rfl, hc⟩ := HBS.out.at_ (by simp)
      have HTB : Hid (IsB wr g) := by
        obtain ⟨g9, o9, e9, h9⟩ := HT0.out (by simp)
        cases e9
        exact h9
      clear HT0
      have c0 := hc 0 (by simp)
      rw [Nat.add_zero] at c0
      simp only [List.getElem_cons_zero] at c0
      have hx := HBS.out.small x (by simp)
      rw [List.length_cons] at hc' hl' ⊢
      clear hc
      by_cases hx0 : x = 0
      · subst hx0
        have HT := Lib.hid HBS.out.tail'
        have HW2 : Hid (wordsN t = wordsN l) := by show _ = _; rw [← HW.out, wordsN_cons]; omega
        clear HW HBS
        have hpos : (0 : Int) < (t.length : Int) + 1 := by omega
        by_cases hcap1 : cap' = 1
        · subst hcap1
          have ht : t = [] := List.eq_nil_of_length_eq_zero (by omega)
          subst ht
          go_wp2_with fail
          refine ⟨⟨_, [], 0, rfl, Nat.le_refl _, Nat.zero_le _, ?_, HW2, (fun h9 => absurd rfl h9), trivial⟩, ?_⟩
          · exact ⟨by simp, by simp, fun h9 => absurd rfl h9⟩
          · simp
        · go_wp2_with fail
          refine ⟨⟨_, t, cap' - 1, rfl, by omega, by omega, HT, HW2, (fun _ => ⟨g, o + 1, rfl, HTB.out⟩), trivial⟩, ?_⟩
          show t.length < t.length + 1
          omega
      · have HN : Hid (NumAt wr (some ⟨g, o, none⟩) (t.length + 1) cap' (wordsN l)) := by
          show NumAt _ _ _ _ _
          rw [← HW.out]
          have hbw := bytesN_words HBS.out.small (.inr (by show x ≠ 0; exact hx0))
          refine ⟨by rw [hbw, List.length_cons], hc', by rw [hbw]; exact HBS.out, fun _ => ⟨g, o, rfl, HTB.out⟩⟩
        have hx0i : ((x : Int) == 0) = false := by rw [beq_eq_false_iff_ne]; omega
        have hpos : (0 : Int) < (t.length : Int) + 1 := by omega
        clear HBS HW
        go_wp2_with fail
        go_ret
        exact ⟨rfl, _, _, _, rfl, HN.out⟩
end Go.Proofs.YtjcdnaandbockaaGreat

namespace Go.Proofs.YtjcdnaandbockaaGreat
open Go.RowKit Go.Shelf
attribute [local go_sem] Oper.semAt_some
set_option maxRecDepth 100000
set_option maxHeartbeats 2000000

/-- what is carried behind i bytes of a sum -/
def carI (X Y : Nat) (s : Int) (i : Nat) : Int := (((X % 2 ^ (8 * i) : Nat) : Int) + s * ((Y % 2 ^ (8 * i) : Nat) : Int)) / ((2 ^ (8 * i) : Nat) : Int)
theorem car_zero (X Y : Nat) (s : Int) : carI X Y s 0 = 0 := by unfold carI; simp [Nat.mod_one]
theorem car_core (P xb yb rx ry : Nat) (s c : Int) (hP : 0 < P) (hc : c = ((rx : Int) + s * (ry : Int)) / (P : Int)) :
    (((rx + P * xb : Nat) : Int) + s * ((ry + P * yb : Nat) : Int)) / ((P * 256 : Nat) : Int) = ((xb : Int) + s * (yb : Int) + c) / 256 := by
  have h1 : (((rx + P * xb : Nat) : Int) + s * ((ry + P * yb : Nat) : Int)) = ((rx : Int) + s * (ry : Int)) + (P : Int) * ((xb : Int) + s * (yb : Int)) := by
    push_cast
    rw [Int.mul_add, Int.mul_add, Int.mul_left_comm s]
    omega
  rw [h1, Int.natCast_mul, ← Int.ediv_ediv_of_nonneg (by omega), Int.add_mul_ediv_left _ _ (by omega), ← hc, Int.add_comm c]
  rfl
theorem byte_core (P qx qy rx ry S : Nat) (s c : Int) (hP : 0 < P) (hc : c = ((rx : Int) + s * (ry : Int)) / (P : Int)) (hS : (S : Int) = ((rx + P * qx : Nat) : Int) + s * ((ry + P * qy : Nat) : Int)) :
    ((S / P : Nat) : Int) = (qx : Int) + s * (qy : Int) + c := by
  have h1 : (((rx + P * qx : Nat) : Int) + s * ((ry + P * qy : Nat) : Int)) = ((rx : Int) + s * (ry : Int)) + (P : Int) * ((qx : Int) + s * (qy : Int)) := by
    push_cast
    rw [Int.mul_add, Int.mul_add, Int.mul_left_comm s]
    omega
  rw [Int.natCast_ediv, hS, h1, Int.add_mul_ediv_left _ _ (by omega), ← hc, Int.add_comm c]
theorem car_step (X Y S : Nat) (s : Int) (hs : s = 1 ∨ s = -1) (hS : (S : Int) = X + s * Y) (i : Nat) :
    (((X / 2 ^ (8 * i) % 256 : Nat) : Int) + s * ((Y / 2 ^ (8 * i) % 256 : Nat) : Int) + carI X Y s i) % 256 = ((S / 2 ^ (8 * i) % 256 : Nat) : Int) ∧
    (((X / 2 ^ (8 * i) % 256 : Nat) : Int) + s * ((Y / 2 ^ (8 * i) % 256 : Nat) : Int) + carI X Y s i) / 256 = carI X Y s (i + 1) := by
  have hP := Nat.two_pow_pos (8 * i)
  obtain ⟨c, hc⟩ : ∃ c, c = carI X Y s i := ⟨_, rfl⟩
  have hc' := hc
  unfold carI at hc'
  rw [← hc]
  constructor
  · have hb := byte_core (2 ^ (8 * i)) (X / 2 ^ (8 * i)) (Y / 2 ^ (8 * i)) (X % 2 ^ (8 * i)) (Y % 2 ^ (8 * i)) S s c hP hc' (by rw [Nat.mod_add_div, Nat.mod_add_div]; exact hS)
    rw [show ((S / 2 ^ (8 * i) % 256 : Nat) : Int) = ((S / 2 ^ (8 * i) : Nat) : Int) % 256 from rfl, hb]
    generalize X / 2 ^ (8 * i) = x
    generalize Y / 2 ^ (8 * i) = y
    rcases hs with rfl | rfl <;> omega
  · have hb := car_core (2 ^ (8 * i)) (X / 2 ^ (8 * i) % 256) (Y / 2 ^ (8 * i) % 256) (X % 2 ^ (8 * i)) (Y % 2 ^ (8 * i)) s c hP hc'
    rw [← Nat.mod_mul, ← Nat.mod_mul, ← pow8] at hb
    unfold carI
    exact hb.symm
theorem car_add (X Y : Nat) (i : Nat) : 0 ≤ carI X Y 1 i ∧ carI X Y 1 i ≤ 1 := by
  have hP := Nat.two_pow_pos (8 * i)
  have h1 := Nat.mod_lt X hP
  have h2 := Nat.mod_lt Y hP
  unfold carI
  generalize X % 2 ^ (8 * i) = x at *
  generalize Y % 2 ^ (8 * i) = y at *
  generalize 2 ^ (8 * i) = P at *
  constructor
  · exact Int.ediv_nonneg (by omega) (by omega)
  · have : ((x : Int) + 1 * (y : Int)) / (P : Int) < 2 := by
      rw [Int.ediv_lt_iff_lt_mul (by omega)]
      omega
    omega
theorem car_sub (X Y : Nat) (i : Nat) : -1 ≤ carI X Y (-1) i ∧ carI X Y (-1) i ≤ 0 := by
  have hP := Nat.two_pow_pos (8 * i)
  have h1 := Nat.mod_lt X hP
  have h2 := Nat.mod_lt Y hP
  unfold carI
  generalize X % 2 ^ (8 * i) = x at *
  generalize Y % 2 ^ (8 * i) = y at *
  generalize 2 ^ (8 * i) = P at *
  constructor
  · rw [Int.le_ediv_iff_mul_le (by omega)]
    omega
  · have : ((x : Int) + (-1) * (y : Int)) / (P : Int) < 1 := by
      rw [Int.ediv_lt_iff_lt_mul (by omega)]
      omega
    omega
theorem bytesG_words (S n : Nat) (h : S < 2 ^ (8 * n)) : wordsN (bytesG S n n) = S := by
  unfold wordsN
  have hl : (bytesG S n n).length = n := bytesG_len S n n
  rw [hl, valB_congr (g := fun j => S / 2 ^ (8 * j) % 256) (fun j hj => ?_), valB_bytes, Nat.mod_eq_of_lt h]
  unfold rev
  rw [hl, List.getD_eq_getElem?_getD, List.getElem?_eq_getElem (by rw [hl]; omega)]
  show (bytesG S n n)[n - 1 - j]'_ = _
  simp only [bytesG, List.getElem_map, List.getElem_range]
  rw [if_pos (by omega), show n - 1 - (n - 1 - j) = j by omega]
theorem bytesG_small (V n k : Nat) : ∀ x ∈ bytesG V n k, x < 256 := by
  intro x hx
  unfold bytesG at hx
  obtain ⟨j, _, rfl⟩ := List.mem_map.1 hx
  split
  · exact Nat.mod_lt _ (by decide)
  · decide
theorem num_lt {w : World} {a : Option Addr} {n cap X : Nat} (h : NumAt w a n cap X) : X < 2 ^ (8 * n) := by
  have h1 := lt_blen X
  have h2 := h.len
  rw [bytesN_len] at h2
  exact lt_pw (blen X) (8 * n) h1 (by omega)
theorem plus_add {w : World} {a a2 : Option Addr} {n n2 cap cap2 X Y S : Nat} (hx : NumAt w a n cap X) (hy : NumAt w a2 n2 cap2 Y) (hn : n ≤ 300) (hn2 : n2 ≤ 300) (hS : (S : Int) = X + 1 * Y) :
    Calls Tryz.prog 91 #[.slice a n cap, .slice a2 n2 cap2, .int .i64 (1)] w fun e w' => Below w.heap.size w w' ∧ ∃ a' n' cap', e = .returned (.slice a' n' cap') ∧ NumAt w' a' n' cap' S := by
  have HX := Lib.hid hx
  have HY := Lib.hid hy
  have HSTEP := Lib.hid (car_step X Y S (1) (by omega) hS)
  have HCB := Lib.hid (car_add X Y)
  have HC0 := Lib.hid (car_zero X Y (1))
  obtain ⟨N, hN⟩ : ∃ N, N = max n n2 + 1 := ⟨_, rfl⟩
  have hSN : S < 2 ^ (8 * N) := by
    have h1 := num_lt hx
    have h2 := num_lt hy
    have h3 := pow2_le (8 * n) (8 * max n n2) (by omega)
    have h4 := pow2_le (8 * n2) (8 * max n n2) (by omega)
    rw [hN, pow8]
    have : S ≤ X + Y := by omega
    omega
  have HSN := Lib.hid hSN
  have hmax : max (n : Int) (n2 : Int) + 1 = (N : Int) := by omega
  have hN2 : N ≤ 301 := by omega
  have hN0 : 1 ≤ N := by omega
  have hmk := make_bytes N (by omega) w
  have hxn := hx.len
  have hyn := hy.len
  clear hx hy hS hSN
  have HXN := Lib.hid hxn
  have HYN := Lib.hid hyn
  clear hxn hyn hN
  generalize carI X Y (1) = car at *
  go_enter Tryz.func91, Tryz.ntmps91
  go_wp2_with fail
  have B0 : Hid (BRow (w.alloc (.cells (rowB (List.replicate N 0)) 5)) w.heap.size (bytesG S N 0)) := by show BRow _ _ _; rw [bytesG_zero]; exact heap_alloc_new w _
  have HB1 : Hid (Below w.heap.size w (w.alloc (.cells (rowB (List.replicate N 0)) 5))) := (Below.refl _ _).alloc (Nat.le_refl _) _
  generalize w.alloc (.cells (rowB (List.replicate N 0)) 5) = W1 at *
  obtain ⟨g, hg⟩ : ∃ g, g = w.heap.size := ⟨_, rfl⟩
  rw [← hg] at B0 ⊢
  have HGW : Hid (w.heap.size ≤ g) := Nat.le_of_eq hg.symm
  clear hmk hg
  clear hmax
  go_loopw [9, 10] (fun c i wr => ∃ (k : Nat) (C : Int), k ≤ N ∧ i = .int .i64 k ∧ c = .int .i64 C ∧ Hid (C = car k) ∧ Hid (BRow wr g (bytesG S N k)) ∧ Hid (Below w.heap.size w wr)) (fun _ i _ => N - (intOf i).toNat)
  case atStart => exact ⟨0, 0, Nat.zero_le _, rfl, rfl, HC0.out.symm, B0, HB1⟩
  case round =>
    obtain ⟨k, C, hk, rfl, rfl, HC, HR, HB⟩ := hrel
    by_cases hkn : k < N
    · have HA1 := Lib.hid (fun W (hW : Below w.heap.size w W) => at_any (HX.out.bs.keep hW) (by rw [← HXN.out]; omega) cap k (by omega))
      have HA2 := Lib.hid (fun W (hW : Below w.heap.size w W) => at_any (HY.out.bs.keep hW) (by rw [← HYN.out]; omega) cap2 k (by omega))
      rw [← HXN.out, wordsN_bytesN] at HA1
      rw [← HYN.out, wordsN_bytesN] at HA2
      obtain ⟨hst1, hst2⟩ := HSTEP.out k
      have hcb := HCB.out k
      rw [← HC.out] at hst1 hst2 hcb
      have hx9 : X / 2 ^ (8 * k) % 256 < 256 := Nat.mod_lt _ (by decide)
      have hy9 : Y / 2 ^ (8 * k) % 256 < 256 := Nat.mod_lt _ (by decide)
      have hs9 : S / 2 ^ (8 * k) % 256 < 256 := Nat.mod_lt _ (by decide)
      have HSET := Lib.hid (HR.out.set (N - 1 - k) (S / 2 ^ (8 * k) % 256))
      rw [bytesG_set S N k hkn] at HSET
      have HFZ := Lib.hid (HR.out.open_ (N - 1 - k))
      have HCL := Lib.hid (HR.out.cell (N - 1 - k) (by rw [bytesG_len]; omega))
      have HGL := Lib.hid HR.out.lt
      have HNEXT : Hid (∀ c', c' = car (k + 1) → c' = car (k + 1)) := fun _ h => h
      obtain ⟨cn, hcn⟩ : ∃ cn, cn = car (k + 1) := ⟨_, rfl⟩
      rw [← hcn] at hst2
      have HCN := Lib.hid hcn
      clear HNEXT hcn HC
      generalize X / 2 ^ (8 * k) % 256 = x at *
      generalize Y / 2 ^ (8 * k) % 256 = y at *
      generalize S / 2 ^ (8 * k) % 256 = sb at *
      generalize (bytesG S N k)[N - 1 - k]'_ = zz at *
      obtain ⟨m, hm⟩ : ∃ m, m = N - 1 - k := ⟨_, rfl⟩
      rw [← hm] at HSET HFZ HCL
      have ea : ((N : Int) - 1 - k).toNat = m := by omega
      have pa : (0 : Int) ≤ (N : Int) - 1 - k := by omega
      have ba : (N : Int) - 1 - k < (N : Int) := by omega
      clear hm
      obtain ⟨d, hd⟩ : ∃ d : Int, d = (x : Int) + 1 * (y : Int) + C := ⟨_, rfl⟩
      rw [← hd] at hst1 hst2
      have hd1 : 0 ≤ d := by omega
      have hd2 : d ≤ 511 := by omega
      go_wp2_with fail
      refine (HA1.out _ HB.out).mono ?_
      rintro e w' ⟨rfl, rfl⟩
      go_wp2_with fail
      refine (HA2.out _ HB.out).mono ?_
      rintro e w' ⟨rfl, rfl⟩
      clear HA1 HA2
      have hd9 := hd.symm
      have hf := HFZ.out
      have hcl := HCL.out
      have hgl := HGL.out
      have hneg : ¬ d < 0 := by omega
      by_cases hgt : 255 < d
      · have hv : d - 256 = (sb : Int) := by omega
        have HQ : Hid ((1 : Int) = car (k + 1)) := by show _ = _; rw [← HCN.out]; omega
        clear HCN hst1 hst2
        go_wp2_with fail
        rw [show (x : Int) + (y : Int) + C - 256 = (sb : Int) by omega]
        have HB2 : Hid (Below w.heap.size w (wr.setCell ⟨g, m, none⟩ (.int .u8 (sb : Int)))) := HB.out.setCell HGW.out _
        go_roundw
        case rel => exact ⟨k + 1, _, by omega, by go_num, rfl, HQ, HSET, HB2⟩
        case measure => simp [intOf]; omega
      · have hv : d = (sb : Int) := by omega
        have HQ : Hid ((0 : Int) = car (k + 1)) := by show _ = _; rw [← HCN.out]; omega
        clear HCN hst1 hst2
        go_wp2_with fail
        rw [show (x : Int) + (y : Int) + C = (sb : Int) by omega]
        have HB2 : Hid (Below w.heap.size w (wr.setCell ⟨g, m, none⟩ (.int .u8 (sb : Int)))) := HB.out.setCell HGW.out _
        go_roundw
        case rel => exact ⟨k + 1, _, by omega, by go_num, rfl, HQ, HSET, HB2⟩
        case measure => simp [intOf]; omega
    · have hk' : k = N := by omega
      subst hk'
      have hBS := HR.out.bs (by rw [bytesG_len]; omega) (bytesG_small S k k)
      have ht := trim_any hBS (by rw [bytesG_len]; omega) k (by rw [bytesG_len]; exact Nat.le_refl _) (fun _ => ⟨_, _, rfl, _, _, HR.out⟩)
      rw [bytesG_words S k HSN.out, bytesG_len] at ht
      have HT := Lib.hid ht
      clear hBS ht HR
      go_wp2_with fail
      refine HT.out.mono ?_
      rintro e w' ⟨rfl, a', n', cap', rfl, hN9⟩
      go_wp2_with fail
      go_ret
      exact ⟨HB.out, a', n', cap', rfl, hN9⟩
theorem plus_sub {w : World} {a a2 : Option Addr} {n n2 cap cap2 X Y S : Nat} (hx : NumAt w a n cap X) (hy : NumAt w a2 n2 cap2 Y) (hn : n ≤ 300) (hn2 : n2 ≤ 300) (hS : (S : Int) = X + -1 * Y) :
    Calls Tryz.prog 91 #[.slice a n cap, .slice a2 n2 cap2, .int .i64 (-1)] w fun e w' => Below w.heap.size w w' ∧ ∃ a' n' cap', e = .returned (.slice a' n' cap') ∧ NumAt w' a' n' cap' S := by
  have HX := Lib.hid hx
  have HY := Lib.hid hy
  have HSTEP := Lib.hid (car_step X Y S (-1) (by omega) hS)
  have HCB := Lib.hid (car_sub X Y)
  have HC0 := Lib.hid (car_zero X Y (-1))
  obtain ⟨N, hN⟩ : ∃ N, N = max n n2 + 1 := ⟨_, rfl⟩
  have hSN : S < 2 ^ (8 * N) := by
    have h1 := num_lt hx
    have h2 := num_lt hy
    have h3 := pow2_le (8 * n) (8 * max n n2) (by omega)
    have h4 := pow2_le (8 * n2) (8 * max n n2) (by omega)
    rw [hN, pow8]
    have : S ≤ X + Y := by omega
    omega
  have HSN := Lib.hid hSN
  have hmax : max (n : Int) (n2 : Int) + 1 = (N : Int) := by omega
  have hN2 : N ≤ 301 := by omega
  have hN0 : 1 ≤ N := by omega
  have hmk := make_bytes N (by omega) w
  have hxn := hx.len
  have hyn := hy.len
  clear hx hy hS hSN
  have HXN := Lib.hid hxn
  have HYN := Lib.hid hyn
  clear hxn hyn hN
  generalize carI X Y (-1) = car at *
  go_enter Tryz.func91, Tryz.ntmps91
  go_wp2_with fail
  have B0 : Hid (BRow (w.alloc (.cells (rowB (List.replicate N 0)) 5)) w.heap.size (bytesG S N 0)) := by show BRow _ _ _; rw [bytesG_zero]; exact heap_alloc_new w _
  have HB1 : Hid (Below w.heap.size w (w.alloc (.cells (rowB (List.replicate N 0)) 5))) := (Below.refl _ _).alloc (Nat.le_refl _) _
  generalize w.alloc (.cells (rowB (List.replicate N 0)) 5) = W1 at *
  obtain ⟨g, hg⟩ : ∃ g, g = w.heap.size := ⟨_, rfl⟩
  rw [← hg] at B0 ⊢
  have HGW : Hid (w.heap.size ≤ g) := Nat.le_of_eq hg.symm
  clear hmk hg
  clear hmax
  go_loopw [9, 10] (fun c i wr => ∃ (k : Nat) (C : Int), k ≤ N ∧ i = .int .i64 k ∧ c = .int .i64 C ∧ Hid (C = car k) ∧ Hid (BRow wr g (bytesG S N k)) ∧ Hid (Below w.heap.size w wr)) (fun _ i _ => N - (intOf i).toNat)
  case atStart => exact ⟨0, 0, Nat.zero_le _, rfl, rfl, HC0.out.symm, B0, HB1⟩
  case round =>
    obtain ⟨k, C, hk, rfl, rfl, HC, HR, HB⟩ := hrel
    by_cases hkn : k < N
    · have HA1 := Lib.hid (fun W (hW : Below w.heap.size w W) => at_any (HX.out.bs.keep hW) (by rw [← HXN.out]; omega) cap k (by omega))
      have HA2 := Lib.hid (fun W (hW : Below w.heap.size w W) => at_any (HY.out.bs.keep hW) (by rw [← HYN.out]; omega) cap2 k (by omega))
      rw [← HXN.out, wordsN_bytesN] at HA1
      rw [← HYN.out, wordsN_bytesN] at HA2
      obtain ⟨hst1, hst2⟩ := HSTEP.out k
      have hcb := HCB.out k
      rw [← HC.out] at hst1 hst2 hcb
      have hx9 : X / 2 ^ (8 * k) % 256 < 256 := Nat.mod_lt _ (by decide)
      have hy9 : Y / 2 ^ (8 * k) % 256 < 256 := Nat.mod_lt _ (by decide)
      have hs9 : S / 2 ^ (8 * k) % 256 < 256 := Nat.mod_lt _ (by decide)
      have HSET := Lib.hid (HR.out.set (N - 1 - k) (S / 2 ^ (8 * k) % 256))
      rw [bytesG_set S N k hkn] at HSET
      have HFZ := Lib.hid (HR.out.open_ (N - 1 - k))
      have HCL := Lib.hid (HR.out.cell (N - 1 - k) (by rw [bytesG_len]; omega))
      have HGL := Lib.hid HR.out.lt
      have HNEXT : Hid (∀ c', c' = car (k + 1) → c' = car (k + 1)) := fun _ h => h
      obtain ⟨cn, hcn⟩ : ∃ cn, cn = car (k + 1) := ⟨_, rfl⟩
      rw [← hcn] at hst2
      have HCN := Lib.hid hcn
      clear HNEXT hcn HC
      generalize X / 2 ^ (8 * k) % 256 = x at *
      generalize Y / 2 ^ (8 * k) % 256 = y at *
      generalize S / 2 ^ (8 * k) % 256 = sb at *
      generalize (bytesG S N k)[N - 1 - k]'_ = zz at *
      obtain ⟨m, hm⟩ : ∃ m, m = N - 1 - k := ⟨_, rfl⟩
      rw [← hm] at HSET HFZ HCL
      have ea : ((N : Int) - 1 - k).toNat = m := by omega
      have pa : (0 : Int) ≤ (N : Int) - 1 - k := by omega
      have ba : (N : Int) - 1 - k < (N : Int) := by omega
      clear hm
      obtain ⟨d, hd⟩ : ∃ d : Int, d = (x : Int) + -1 * (y : Int) + C := ⟨_, rfl⟩
      rw [← hd] at hst1 hst2
      have hd1 : -256 ≤ d := by omega
      have hd2 : d ≤ 255 := by omega
      go_wp2_with fail
      refine (HA1.out _ HB.out).mono ?_
      rintro e w' ⟨rfl, rfl⟩
      go_wp2_with fail
      refine (HA2.out _ HB.out).mono ?_
      rintro e w' ⟨rfl, rfl⟩
      clear HA1 HA2
      have hd9 := hd.symm
      have hf := HFZ.out
      have hcl := HCL.out
      have hgl := HGL.out
      by_cases hneg : d < 0
      · have hv : d + 256 = (sb : Int) := by omega
        have HQ : Hid ((-1 : Int) = car (k + 1)) := by show _ = _; rw [← HCN.out]; omega
        have hgt : ¬ (255 : Int) < d + 256 := by omega
        clear HCN hst1 hst2
        go_wp2_with fail
        rw [show (x : Int) + -(y : Int) + C + 256 = (sb : Int) by omega]
        have HB2 : Hid (Below w.heap.size w (wr.setCell ⟨g, m, none⟩ (.int .u8 (sb : Int)))) := HB.out.setCell HGW.out _
        go_roundw
        case rel => exact ⟨k + 1, _, by omega, by go_num, rfl, HQ, HSET, HB2⟩
        case measure => simp [intOf]; omega
      · have hv : d = (sb : Int) := by omega
        have HQ : Hid ((0 : Int) = car (k + 1)) := by show _ = _; rw [← HCN.out]; omega
        have hgt : ¬ (255 : Int) < d := by omega
        clear HCN hst1 hst2
        go_wp2_with fail
        rw [show (x : Int) + -(y : Int) + C = (sb : Int) by omega]
        have HB2 : Hid (Below w.heap.size w (wr.setCell ⟨g, m, none⟩ (.int .u8 (sb : Int)))) := HB.out.setCell HGW.out _
        go_roundw
        case rel => exact ⟨k + 1, _, by omega, by go_num, rfl, HQ, HSET, HB2⟩
        case measure => simp [intOf]; omega
    · have hk' : k = N := by omega
      subst hk'
      have hBS := HR.out.bs (by rw [bytesG_len]; omega) (bytesG_small S k k)
      have ht := trim_any hBS (by rw [bytesG_len]; omega) k (by rw [bytesG_len]; exact Nat.le_refl _) (fun _ => ⟨_, _, rfl, _, _, HR.out⟩)
      rw [bytesG_words S k HSN.out, bytesG_len] at ht
      have HT := Lib.hid ht
      clear hBS ht HR
      go_wp2_with fail
      refine HT.out.mono ?_
      rintro e w' ⟨rfl, a', n', cap', rfl, hN9⟩
      go_wp2_with fail
      go_ret
      exact ⟨HB.out, a', n', cap', rfl, hN9⟩
end Go.Proofs.YtjcdnaandbockaaGreat

namespace Go.Proofs.YtjcdnaandbockaaGreat
open Go.RowKit Go.Shelf
attribute [local go_sem] Oper.semAt_some
set_option maxRecDepth 100000
set_option maxHeartbeats 2000000

def ordN (X Y : Nat) : Int := if X < Y then -1 else if Y < X then 1 else 0
theorem len_mono {X Y : Nat} (h : (bytesN X).length < (bytesN Y).length) : X < Y := by
  rw [bytesN_len, bytesN_len] at h
  have h1 := lt_blen X
  have h2 : ¬ blen Y ≤ blen X := by omega
  rw [blen_le] at h2
  omega
theorem div_up (X k : Nat) : X / 2 ^ (8 * k) = X / 2 ^ (8 * (k + 1)) * 256 + X / 2 ^ (8 * k) % 256 := by
  rw [pow8, ← Nat.div_div_eq_div_mul]
  omega
theorem order_any {w : World} {a a2 : Option Addr} {n n2 cap cap2 X Y : Nat} (hx : NumAt w a n cap X) (hy : NumAt w a2 n2 cap2 Y) (hn : n ≤ 1000) (hn2 : n2 ≤ 1000) :
    Calls Tryz.prog 58 #[.slice a n cap, .slice a2 n2 cap2] w fun e w' => e = .returned (.int .i64 (ordN X Y)) ∧ Below w.heap.size w w' := by
  have hxn := hx.len
  have hyn := hy.len
  by_cases hne : n = n2
  · subst hne
    have HX := Lib.hid hx
    have HY := Lib.hid hy
    have HXN := Lib.hid hxn
    have HYN := Lib.hid hyn
    have HX0 : Hid (X / 2 ^ (8 * n) = 0) := by
      show _ = _
      rw [bytesN_len] at hxn
      exact Nat.div_eq_of_lt (lt_pw (blen X) (8 * n) (lt_blen X) (by omega))
    have HY0 : Hid (Y / 2 ^ (8 * n) = 0) := by
      show _ = _
      rw [bytesN_len] at hyn
      exact Nat.div_eq_of_lt (lt_pw (blen Y) (8 * n) (lt_blen Y) (by omega))
    clear hx hy hxn hyn
    have hnn : ((n : Int) != (n : Int)) = false := by simp
    go_enter Tryz.func58, Tryz.ntmps58
    go_wp2_with fail
    go_loopw [5] (fun i wr => ∃ k : Nat, k ≤ n ∧ i = .int .i64 k ∧ Hid (X / 2 ^ (8 * (n - k)) = Y / 2 ^ (8 * (n - k))) ∧ Hid (Below w.heap.size w wr)) (fun i _ => n - (intOf i).toNat)
    case atStart => exact ⟨0, Nat.zero_le _, rfl, by show _ = _; rw [Nat.sub_zero, HX0.out, HY0.out], Below.refl _ _⟩
    case round =>
      obtain ⟨k, hk, rfl, HE, HB⟩ := hrel
      by_cases hkn : k < n
      · have HXb := (HX.out.keep HB.out).bs
        have HYb := (HY.out.keep HB.out).bs
        have hk1 : k < (bytesN X).length := by rw [← HXN.out]; exact hkn
        have hk2 : k < (bytesN Y).length := by rw [← HYN.out]; exact hkn
        obtain ⟨g1, o1, rfl, hc1⟩ := HXb.at_ (ne_nil_of_lt hk1)
        obtain ⟨g2, o2, rfl, hc2⟩ := HYb.at_ (ne_nil_of_lt hk2)
        have c1 := hc1 k hk1
        have c2 := hc2 k hk2
        have hb1 := HXb.small _ (List.getElem_mem hk1)
        have hb2 := HYb.small _ (List.getElem_mem hk2)
        have e1 : (bytesN X)[k] = X / 2 ^ (8 * (n - 1 - k)) % 256 := by rw [bytesN_get, ← bytesN_len, ← HXN.out]
        have e2 : (bytesN Y)[k] = Y / 2 ^ (8 * (n - 1 - k)) % 256 := by rw [bytesN_get, ← bytesN_len, ← HYN.out]
        have HU1 := Lib.hid (div_up X (n - 1 - k))
        have HU2 := Lib.hid (div_up Y (n - 1 - k))
        rw [show n - 1 - k + 1 = n - k by omega] at HU1 HU2
        rw [e1] at c1 hb1
        rw [e2] at c2 hb2
        have hq : n - (k + 1) = n - 1 - k := by omega
        have HQ := Lib.hid hq
        clear hc1 hc2 HXb HYb hk1 hk2 e1 e2 hq
        obtain ⟨x, hxd⟩ : ∃ x, x = X / 2 ^ (8 * (n - 1 - k)) % 256 := ⟨_, rfl⟩
        obtain ⟨y, hyd⟩ : ∃ y, y = Y / 2 ^ (8 * (n - 1 - k)) % 256 := ⟨_, rfl⟩
        rw [← hxd] at c1 hb1 HU1
        rw [← hyd] at c2 hb2 HU2
        clear hxd hyd
        by_cases hxy : x = y
        · subst hxy
          have hnq : ((x : Int) != (x : Int)) = false := by simp
          have HE2 : Hid (X / 2 ^ (8 * (n - (k + 1))) = Y / 2 ^ (8 * (n - (k + 1)))) := by
            show _ = _
            rw [HQ.out, HU1.out, HU2.out, HE.out]
          clear HU1 HU2 HE HQ
          go_wp2_with fail
          go_big_quiet (fail)
          have HB2 := Lib.hid (below_drewN HB.out nq)
          go_wp2_with fail
          go_round
          case rel => exact ⟨k + 1, by omega, by go_num, HE2, HB2⟩
          case measure => simp [intOf]; omega
        · have hnq : ((x : Int) != (y : Int)) = true := by simp; omega
          go_wp2_with fail
          go_big_quiet (fail)
          have HB2 := Lib.hid (below_drewN HB.out nq)
          have c1 := kcell (below_drewN (Below.refl _ _) nq) c1
          have c2 := kcell (below_drewN (Below.refl _ _) nq) c2
          generalize wr.drewN nq = Z at *
          by_cases hlt : x < y
          · have hlt1 : decide ((x : Int) < y) = true := decide_eq_true (by omega)
            have HR : Hid (ordN X Y = -1) := by
              show _ = _
              have h1 := HU1.out
              have h2 := HU2.out
              rw [HE.out] at h1
              unfold ordN
              rw [if_pos]
              apply Nat.lt_of_not_le
              intro h9
              have := Nat.div_le_div_right (c := 2 ^ (8 * (n - 1 - k))) h9
              omega
            clear HU1 HU2 HE HQ hnq
            go_wp2_with fail
            go_big_quiet (fail)
            have HB3 := Lib.hid (below_drewN HB2.out nq)
            go_wp2_with fail
            go_ret
            exact ⟨by rw [HR.out]; rfl, HB3.out⟩
          · have hlt1 : decide ((x : Int) < y) = false := decide_eq_false (by omega)
            have HR : Hid (ordN X Y = 1) := by
              show _ = _
              have h1 := HU1.out
              have h2 := HU2.out
              rw [HE.out] at h1
              have hle : Y < X := by
                apply Nat.lt_of_not_le
                intro h9
                have := Nat.div_le_div_right (c := 2 ^ (8 * (n - 1 - k))) h9
                omega
              unfold ordN
              rw [if_neg (by omega), if_pos hle]
            clear HU1 HU2 HE HQ hnq
            go_wp2_with fail
            go_big_quiet (fail)
            have HB3 := Lib.hid (below_drewN HB2.out nq)
            go_wp2_with fail
            go_ret
            exact ⟨by rw [HR.out]; rfl, HB3.out⟩
      · have hk' : k = n := by omega
        subst hk'
        have HR : Hid (ordN X Y = 0) := by
          show _ = _
          have := HE.out
          rw [Nat.sub_self, Nat.mul_zero, Nat.pow_zero, Nat.div_one, Nat.div_one] at this
          subst this
          unfold ordN
          rw [if_neg (Nat.lt_irrefl _), if_neg (Nat.lt_irrefl _)]
        clear HE
        go_wp2_with fail
        go_ret
        exact ⟨by rw [HR.out]; rfl, HB.out⟩
  · have hnn : ((n : Int) != (n2 : Int)) = true := by simp; omega
    clear hx hy
    by_cases hlt : n < n2
    · have hlt1 : (n : Int) < n2 := by omega
      have HR : Hid (ordN X Y = -1) := by
        show _ = _
        unfold ordN
        rw [if_pos (len_mono (by omega))]
      clear hxn hyn
      go_enter Tryz.func58, Tryz.ntmps58
      go_wp2_with fail
      go_ret
      exact ⟨by rw [HR.out]; rfl, Below.refl _ _⟩
    · have hlt1 : ¬ (n : Int) < n2 := by omega
      have HR : Hid (ordN X Y = 1) := by
        show _ = _
        have := @len_mono Y X (by omega)
        unfold ordN
        rw [if_neg (by omega), if_pos this]
      clear hxn hyn
      go_enter Tryz.func58, Tryz.ntmps58
      go_wp2_with fail
      go_ret
      exact ⟨by rw [HR.out]; rfl, Below.refl _ _⟩
end Go.Proofs.YtjcdnaandbockaaGreat

namespace Go.Proofs.YtjcdnaandbockaaGreat
open Go.RowKit Go.Shelf
attribute [local go_sem] Oper.semAt_some
set_option maxRecDepth 100000
set_option maxHeartbeats 2000000

/-- the sign and the number of a sum of two -/
def addS (m : Bool) (X : Nat) (o : Bool) (Y : Nat) : Bool := if m = o then m else if X = Y then false else if X < Y then o else m
def addR (m : Bool) (X : Nat) (o : Bool) (Y : Nat) : Nat := if m = o then X + Y else if X < Y then Y - X else X - Y
theorem num_nil (w : World) : NumAt w none 0 0 0 := ⟨rfl, Nat.le_refl _, ⟨by decide, (fun x hx => by cases hx), (fun h => absurd rfl h)⟩, (fun h => absurd rfl h)⟩
theorem radd_any {w : World} {a a2 : Option Addr} {n n2 cap cap2 X Y : Nat} (m o : Bool) (hx : NumAt w a n cap X) (hy : NumAt w a2 n2 cap2 Y) (hn : n ≤ 300) (hn2 : n2 ≤ 300) :
    Calls Tryz.prog 73 #[.bool m, .slice a n cap, .bool o, .slice a2 n2 cap2] w fun e w' => Below w.heap.size w w' ∧ ∃ a' n' cap', e = .returned (.tuple #[.bool (addS m X o Y), .slice a' n' cap']) ∧ NumAt w' a' n' cap' (addR m X o Y) := by
  by_cases hmo : m = o
  · subst hmo
    have h1 := plus_add hx hy hn hn2 (S := X + Y) (by omega)
    have HS : Hid (addS m X m Y = m) := by show _ = _; unfold addS; rw [if_pos rfl]
    have HR : Hid (addR m X m Y = X + Y) := by show _ = _; unfold addR; rw [if_pos rfl]
    have HP := Lib.hid h1
    clear h1 hx hy
    cases m
    all_goals
      go_enter Tryz.func73, Tryz.ntmps73
      go_wp2_with fail
      refine HP.out.mono ?_
      rintro e w1 ⟨hb, a', n', cap', rfl, hN⟩
      go_wp2_with fail
      go_ret2
      exact ⟨hb, a', n', cap', by rw [HS.out]; rfl, by rw [HR.out]; exact hN⟩
  · have h58 := order_any hx hy (by omega) (by omega)
    rcases Nat.lt_trichotomy X Y with hlt | heq | hgt
    · have HS : Hid (addS m X o Y = o) := by show _ = _; unfold addS; rw [if_neg hmo, if_neg (by omega), if_pos hlt]
      have HR : Hid (addR m X o Y = Y - X) := by show _ = _; unfold addR; rw [if_neg hmo, if_pos hlt]
      have hord : ordN X Y = -1 := by unfold ordN; rw [if_pos hlt]
      have hp := fun (W : World) (hW : Below w.heap.size w W) => plus_sub (hy.keep hW) (hx.keep hW) hn2 hn (S := Y - X) (by omega)
      rw [hord] at h58
      have H58 := Lib.hid h58
      have HP := Lib.hid hp
      clear hp h58 hx hy hord
      cases m <;> cases o <;> first | (exact absurd rfl hmo) | skip
      all_goals
        clear hmo
        go_enter Tryz.func73, Tryz.ntmps73
        go_wp2_with fail
        refine H58.out.mono ?_
        rintro e w1 ⟨rfl, hb⟩
        go_wp2_with fail
        refine (HP.out _ hb).mono ?_
        rintro e w2 ⟨hb2, a', n', cap', rfl, hN⟩
        go_wp2_with fail
        go_ret2
        exact ⟨hb.trans (hb2.mono hb.size), a', n', cap', by rw [HS.out]; rfl, by rw [HR.out]; exact hN⟩
    · have HS : Hid (addS m X o Y = false) := by show _ = _; unfold addS; rw [if_neg hmo, if_pos heq]
      have HR : Hid (addR m X o Y = 0) := by show _ = _; unfold addR; rw [if_neg hmo, if_neg (by omega)]; omega
      have hord : ordN X Y = 0 := by unfold ordN; rw [if_neg (by omega), if_neg (by omega)]
      rw [hord] at h58
      have H58 := Lib.hid h58
      clear h58 hx hy hord
      cases m <;> cases o <;> first | (exact absurd rfl hmo) | skip
      all_goals
        clear hmo
        go_enter Tryz.func73, Tryz.ntmps73
        go_wp2_with fail
        refine H58.out.mono ?_
        rintro e w1 ⟨rfl, hb⟩
        go_wp2_with fail
        go_ret2
        exact ⟨hb, none, 0, 0, by rw [HS.out]; rfl, by rw [HR.out]; exact num_nil w1⟩
    · have HS : Hid (addS m X o Y = m) := by show _ = _; unfold addS; rw [if_neg hmo, if_neg (by omega), if_neg (by omega)]
      have HR : Hid (addR m X o Y = X - Y) := by show _ = _; unfold addR; rw [if_neg hmo, if_neg (by omega)]
      have hord : ordN X Y = 1 := by unfold ordN; rw [if_neg (by omega), if_pos hgt]
      have hp := fun (W : World) (hW : Below w.heap.size w W) => plus_sub (hx.keep hW) (hy.keep hW) hn hn2 (S := X - Y) (by omega)
      rw [hord] at h58
      have H58 := Lib.hid h58
      have HP := Lib.hid hp
      clear hp h58 hx hy hord
      cases m <;> cases o <;> first | (exact absurd rfl hmo) | skip
      all_goals
        clear hmo
        go_enter Tryz.func73, Tryz.ntmps73
        go_wp2_with fail
        refine H58.out.mono ?_
        rintro e w1 ⟨rfl, hb⟩
        go_wp2_with fail
        refine (HP.out _ hb).mono ?_
        rintro e w2 ⟨hb2, a', n', cap', rfl, hN⟩
        go_wp2_with fail
        go_ret2
        exact ⟨hb.trans (hb2.mono hb.size), a', n', cap', by rw [HS.out]; rfl, by rw [HR.out]; exact hN⟩
end Go.Proofs.YtjcdnaandbockaaGreat

namespace Go.Proofs.YtjcdnaandbockaaGreat
open Go.RowKit Go.Shelf
attribute [local go_sem] Oper.semAt_some
set_option maxRecDepth 100000
set_option maxHeartbeats 2000000

/-- the number of some bytes, the lowest one first -/
def lowV (L : List Nat) : Nat := valB (fun j => L.getD j 0) L.length
theorem lowV_snoc (L : List Nat) (x : Nat) : lowV (L ++ [x]) = lowV L + x * 2 ^ (8 * L.length) := by
  unfold lowV
  rw [List.length_append]
  show valB _ (L.length + 1) = _
  rw [valB]
  congr 1
  · refine valB_congr fun j hj => ?_
    simp [List.getElem?_append_left hj]
  · congr 1
    simp
theorem lowV_zeros : ∀ n, lowV (List.replicate n 0) = 0
  | 0 => rfl
  | n + 1 => by rw [List.replicate_succ', lowV_snoc, lowV_zeros n]; simp
theorem getD_small {L : List Nat} (h : ∀ x ∈ L, x < 256) (j : Nat) : L.getD j 0 < 256 := by
  rw [List.getD_eq_getElem?_getD]
  rcases Nat.lt_or_ge j L.length with hj | hj
  · rw [List.getElem?_eq_getElem hj]; exact h _ (List.getElem_mem hj)
  · rw [List.getElem?_eq_none hj]; decide
theorem lowV_lt {L : List Nat} (h : ∀ x ∈ L, x < 256) : lowV L < 2 ^ (8 * L.length) := valB_lt _ (getD_small h) _
theorem lowV_byte {L : List Nat} (h : ∀ x ∈ L, x < 256) (j : Nat) (hj : j < L.length) : lowV L / 2 ^ (8 * j) % 256 = L[j] := by
  unfold lowV
  rw [valB_byte _ (getD_small h) _ _ hj, List.getD_eq_getElem?_getD, List.getElem?_eq_getElem hj]
  rfl
theorem append_byte {W : World} {B : Nat} {v : Value} {l : List Nat} {x b : Nat} (hN : NewBs B W v l) (hl : l.length ≤ 10000) (hb : W.heap[b]? = some (.cells #[.int .u8 (x : Int)] 5 (0, 0))) (hB : B ≤ W.heap.size) :
    ∃ v' w', (Builtin.append_ #[46, 46] 46 #[v, .slice (some ⟨b, 0, none⟩) 1 1]).run Tryz.prog W = .ok v' w' ∧ NewBs B w' v' (l ++ [x]) ∧ W.grownBy w' v.ownBlock := by
  have hr : BRow W b [x] := hb
  obtain ⟨v', w', h1, h2, h3⟩ := append_bytes hN.own hr (by show l.length + 1 ≤ _; omega) hB
  refine ⟨v', w', h1, ⟨?_, by simp; omega⟩, h3⟩
  rw [List.length_append]
  have : bvals (l ++ [x]) = bvals l ++ bvals [x] := by unfold bvals; rw [List.map_append]
  rw [this]
  exact h2
theorem grownB {w w' : World} {B : Nat} {a : Option Nat} (h : w.grownBy w' a) (hr : ∀ k, a = some k → B ≤ k) (hB : B ≤ w.heap.size) : Below B w w' :=
  ⟨h.os, h.tape, h.output, h.size, fun k hk => h.block k (by omega) (fun e => by have := hr k e.symm; omega)⟩
theorem newbs_nil (B : Nat) (w : World) : NewBs B w (.slice none 0 0) [] := ⟨⟨rfl, .inl ⟨rfl, rfl⟩⟩, by simp⟩
theorem NewBs.alloc {B : Nat} {w : World} {v : Value} {l : List Nat} (h : NewBs B w v l) (o : Obj) : NewBs B (w.alloc o) v l := h.keep ((Below.refl _ _).alloc (Nat.le_refl _) o)
theorem NewBs.form' {B : Nat} {w : World} {v : Value} {l : List Nat} (h : NewBs B w v l) : ∃ a c, v = .slice a l.length c := by
  rcases h.own.2 with ⟨h1, h2⟩ | ⟨g, cap, cur, h1, _⟩
  · exact ⟨none, 0, by rw [h1, h2]⟩
  · exact ⟨_, _, h1⟩
theorem shl_step (m r c d : Nat) (hd : d = m % 256 * 2 ^ r + c) : m * 2 ^ r + c = 256 * (m / 256 * 2 ^ r + d / 256) + d % 256 := by
  have h1 := Nat.div_add_mod m 256
  have h2 := Nat.div_add_mod d 256
  have h3 : m * 2 ^ r = 256 * (m / 256 * 2 ^ r) + m % 256 * 2 ^ r := by
    conv => lhs; rw [← h1, Nat.add_mul, Nat.mul_assoc]
  omega
theorem shifted_any (M K : Nat) (hM : M < 9007199254740992) (hK : K ≤ 2046) (w : World) :
    Calls Tryz.prog 74 #[.int .u64 M, .int .i64 K] w fun e w' => Below w.heap.size w w' ∧ ∃ a' n' cap', e = .returned (.slice a' n' cap') ∧ NumAt w' a' n' cap' (M * 2 ^ K) := by
  have hV : M * 2 ^ K < 2 ^ 2099 := by
    have h1 : M * 2 ^ K < 2 ^ 53 * 2 ^ K := Nat.mul_lt_mul_of_pos_right (by simpa using hM) (Nat.two_pow_pos K)
    rw [← Nat.pow_add] at h1
    exact lt_pw (53 + K) 2099 h1 (by omega)
  obtain ⟨r, hr⟩ : ∃ r, r = K % 8 := ⟨_, rfl⟩
  have hr8 : r < 8 := by omega
  have hri : (K : Int) % 8 = r := by omega
  obtain ⟨q, hq⟩ : ∃ q, q = K / 8 := ⟨_, rfl⟩
  have hqi : (K : Int) / 8 = q := by omega
  have hq9 : q ≤ 256 := by omega
  have hp8 : (2 : Nat) ^ (8 * q) * 2 ^ r = 2 ^ K := by rw [← Nat.pow_add]; congr 1; omega
  have HP8 := Lib.hid hp8
  have HV := Lib.hid hV
  clear hV hp8 hr hq
  go_enter Tryz.func74, Tryz.ntmps74
  go_wp2_with fail
  go_loopw [5, 6] (fun v i wr => ∃ k : Nat, k ≤ q ∧ i = .int .i64 k ∧ Hid (NewBs w.heap.size wr v (List.replicate k 0)) ∧ Hid (Below w.heap.size w wr)) (fun _ i _ => q - (intOf i).toNat)
  case atStart => exact ⟨0, Nat.zero_le _, rfl, newbs_nil _ _, Below.refl _ _⟩
  case round =>
    obtain ⟨k, hk, rfl, HN, HB⟩ := hrel
    by_cases hlt : k < q
    · have hx := heap_alloc_new wr (.cells #[.int .u8 ((0 : Nat) : Int)] 5)
      have hbx := (Below.refl wr.heap.size wr).alloc (Nat.le_refl _) (.cells #[.int .u8 ((0 : Nat) : Int)] 5)
      obtain ⟨v', w1, hr, hn, hg⟩ := append_byte (x := 0) (HN.out.alloc (.cells #[.int .u8 ((0 : Nat) : Int)] 5)) (by simp; omega) hx (by have := HB.out.size; have := hbx.size; omega)
      rw [show ((0 : Nat) : Int) = 0 from rfl] at hr
      have HR := Lib.hid hr
      have hlow := fun k h => (HN.out.own.lt k h).1
      have HB2 := Lib.hid ((HB.out.trans (hbx.mono HB.out.size)).trans (grownB hg hlow (by have := HB.out.size; have := hbx.size; omega)))
      have HN2 : Hid (NewBs w.heap.size w1 v' (List.replicate (k + 1) 0)) := by
        show NewBs _ _ _ _
        rw [List.replicate_succ']
        exact hn
      clear hr hn hg hx hbx HB HN hlow
      have hki : (k : Int) < (K : Int) / 8 := by omega
      go_wp2_with (at_builtin; refine Lib.wpList_append_run _ rfl (.tmp 17) (.tmp 18) 46 46 rfl _ _ rfl rfl _ _ HR.out ?_)
      go_round
      case rel => exact ⟨k + 1, by omega, by go_num, HN2, HB2.out⟩
      case measure => simp [intOf]; omega
    · obtain rfl : k = q := by omega
      have hki : ¬ (k : Int) < (K : Int) / 8 := by omega
      have HIV : Hid (lowV (List.replicate k 0) + 2 ^ (8 * (List.replicate k 0).length) * (M * 2 ^ r + 0) = M * 2 ^ K) := by
        show _ = _
        rw [lowV_zeros, List.length_replicate, Nat.zero_add, Nat.add_zero, ← HP8.out, Nat.mul_left_comm]
      have HSM : Hid (∀ x ∈ List.replicate k 0, x < 256) := fun x hx => by rw [List.eq_of_mem_replicate hx]; decide
      have hL0 : (List.replicate k 0).length ≤ 301 := by rw [List.length_replicate]; omega
      generalize List.replicate k 0 = L0 at *
      have HL0 : Hid (True) := trivial
      clear HP8 HL0
      go_wp2_with fail
      go_loopw [5, 0, 7] (fun v mm cc wr => ∃ (m c : Nat) (L : List Nat), mm = .int .u64 m ∧ cc = .int .u64 c ∧ m < 9007199254740992 ∧ c < 256 ∧ L.length ≤ 301 ∧ Hid (∀ x ∈ L, x < 256) ∧ Hid (lowV L + 2 ^ (8 * L.length) * (m * 2 ^ r + c) = M * 2 ^ K) ∧ Hid (NewBs w.heap.size wr v L) ∧ Hid (Below w.heap.size w wr)) (fun _ mm cc _ => 2 * (intOf mm).toNat + min (intOf cc).toNat 1)
      case atStart => exact ⟨M, 0, L0, rfl, rfl, hM, by decide, hL0, HSM, HIV, HN, HB⟩
      case round =>
        obtain ⟨m, c, L, rfl, rfl, hm, hc, hl301, HS, HI, HNL, HBL⟩ := hrel
        by_cases hstop : m = 0 ∧ c = 0
        · obtain ⟨rfl, rfl⟩ := hstop
          have HLV : Hid (lowV L = M * 2 ^ K) := by show _ = _; have := HI.out; rw [Nat.zero_mul, Nat.add_zero, Nat.mul_zero, Nat.add_zero] at this; exact this
          clear HI
          obtain ⟨wo, rfl⟩ : ∃ wo : World, wo = wr := ⟨_, rfl⟩
          obtain ⟨av, cv, rfl⟩ := HNL.out.form'
          have hbs : Bs wo av L := by
            by_cases hL : L = []
            · subst hL; exact ⟨by simp, (fun x hx => by cases hx), (fun h => absurd rfl h)⟩
            · obtain ⟨a9, c9, e9, h9⟩ := HNL.out.bs hL HS.out
              cases e9
              exact h9
          have HBS := Lib.hid hbs
          have HVS : Hid (lowV L < 2 ^ (8 * L.length)) := lowV_lt HS.out
          have HBY : Hid (∀ j (hj : j < L.length), lowV L / 2 ^ (8 * j) % 256 = L[j]) := fun j hj => lowV_byte HS.out j hj
          have hmk := make_bytes L.length (by omega) wo
          have HBB := Lib.hid HBL.out
          clear hbs HNL HBL
          go_wp2_with fail
          have B0 : Hid (BRow (wo.alloc (.cells (rowB (List.replicate L.length 0)) 5)) wo.heap.size (bytesG (lowV L) L.length 0)) := by show BRow _ _ _; rw [bytesG_zero]; exact heap_alloc_new wo _
          have HB1 : Hid (Below wo.heap.size wo (wo.alloc (.cells (rowB (List.replicate L.length 0)) 5))) := (Below.refl _ _).alloc (Nat.le_refl _) _
          generalize wo.alloc (.cells (rowB (List.replicate L.length 0)) 5) = W1 at *
          obtain ⟨g, hg⟩ : ∃ g, g = wo.heap.size := ⟨_, rfl⟩
          rw [← hg] at B0 ⊢
          have HGW : Hid (wo.heap.size ≤ g) := Nat.le_of_eq hg.symm
          clear hmk hg
          go_loopw [10] (fun i wr => ∃ k : Nat, k ≤ L.length ∧ i = .int .i64 k ∧ Hid (BRow wr g (bytesG (lowV L) L.length k)) ∧ Hid (Below wo.heap.size wo wr)) (fun i _ => L.length - (intOf i).toNat)
          case atStart => exact ⟨0, Nat.zero_le _, rfl, B0, HB1⟩
          case round =>
            obtain ⟨k, hk, rfl, HR, HB⟩ := hrel
            by_cases hkn : k < L.length
            · obtain ⟨g2, o2, rfl, hc⟩ := (HBS.out.keep HB.out).at_ (ne_nil_of_lt hkn)
              have c0 := hc k hkn
              have hsm := HS.out _ (List.getElem_mem hkn)
              have HSET := Lib.hid (HR.out.set (L.length - 1 - k) (lowV L / 2 ^ (8 * k) % 256))
              rw [bytesG_set _ _ k hkn, HBY.out k hkn] at HSET
              have hf := HR.out.open_ (L.length - 1 - k)
              have hcl := HR.out.cell (L.length - 1 - k) (by rw [bytesG_len]; omega)
              have hgl := HR.out.lt
              clear hc
              generalize L[k] = x at *
              generalize (bytesG (lowV L) L.length k)[L.length - 1 - k]'_ = zz at *
              obtain ⟨mm, hmm⟩ : ∃ mm, mm = L.length - 1 - k := ⟨_, rfl⟩
              rw [← hmm] at HSET hf hcl
              have ea : ((L.length : Int) - 1 - k).toNat = mm := by omega
              have pa : (0 : Int) ≤ (L.length : Int) - 1 - k := by omega
              have ba : (L.length : Int) - 1 - k < (L.length : Int) := by omega
              clear hmm HR
              go_wp2_with fail
              have HB2 : Hid (Below wo.heap.size wo (wr.setCell ⟨g, mm, none⟩ (.int .u8 (x : Int)))) := HB.out.setCell HGW.out _
              go_roundw
              case rel => exact ⟨k + 1, by omega, by go_num, HSET, HB2⟩
              case measure => simp [intOf]; omega
            · have hk' : k = L.length := by omega
              subst hk'
              have hBS := HR.out.bs (by rw [bytesG_len]; omega) (bytesG_small (lowV L) L.length L.length)
              have ht := trim_any hBS (by rw [bytesG_len]; omega) L.length (by rw [bytesG_len]; exact Nat.le_refl _) (fun _ => ⟨_, _, rfl, _, _, HR.out⟩)
              rw [bytesG_words _ _ HVS.out, bytesG_len, HLV.out] at ht
              have HT := Lib.hid ht
              have HW := Lib.hid (HBB.out.trans (HB.out.mono HBB.out.size))
              clear hBS ht HR
              go_wp2_with fail
              refine HT.out.mono ?_
              rintro e w' ⟨rfl, a', n', cap', rfl, hN9⟩
              go_wp2_with fail
              go_ret
              exact ⟨HW.out, a', n', cap', rfl, hN9⟩
        · have hgo : m ≠ 0 ∨ c ≠ 0 := by omega
          have hLen : L.length ≤ 300 := by
            apply Nat.le_of_not_lt
            intro h9
            have h1 := HI.out
            have hpos : 1 ≤ m * 2 ^ r + c := by
              rcases hgo with h | h
              · have := Nat.mul_pos (Nat.pos_of_ne_zero h) (Nat.two_pow_pos r); omega
              · omega
            have h2 : 2 ^ (8 * L.length) ≤ 2 ^ (8 * L.length) * (m * 2 ^ r + c) := Nat.le_mul_of_pos_right _ hpos
            have h3 := pow2_le 2099 (8 * L.length) (by omega)
            have h4 := HV.out
            rw [← h1] at h4
            exact absurd (Nat.lt_of_le_of_lt (Nat.le_trans h3 (Nat.le_trans h2 (Nat.le_add_left _ _))) h4) (Nat.lt_irrefl _)
          obtain ⟨d, hd⟩ : ∃ d, d = m % 256 * 2 ^ r + c := ⟨_, rfl⟩
          have hd9 : d < 65536 := by
            have : 2 ^ r ≤ 128 := by
              have := pow2_le r 7 (by omega)
              simpa using this
            have h2 : m % 256 * 2 ^ r ≤ 255 * 128 := Nat.mul_le_mul (by omega) this
            omega
          have HST := Lib.hid (shl_step m r c d hd)
          obtain ⟨x, hx9⟩ : ∃ x, x = d % 256 := ⟨_, rfl⟩
          have hxl : x < 256 := by omega
          have hx := heap_alloc_new wr (.cells #[.int .u8 (x : Int)] 5)
          have hbx := (Below.refl wr.heap.size wr).alloc (Nat.le_refl _) (.cells #[.int .u8 (x : Int)] 5)
          obtain ⟨v', w1, hr9, hn, hg⟩ := append_byte (x := x) (HNL.out.alloc (.cells #[.int .u8 (x : Int)] 5)) (by omega) hx (by have := HBL.out.size; have := hbx.size; omega)
          have HR := Lib.hid hr9
          have hlow := fun k h => (HNL.out.own.lt k h).1
          have HB2 := Lib.hid ((HBL.out.trans (hbx.mono HBL.out.size)).trans (grownB hg hlow (by have := HBL.out.size; have := hbx.size; omega)))
          have HN2 := Lib.hid hn
          have HS2 : Hid (∀ y ∈ L ++ [x], y < 256) := fun y hy => by
            rcases List.mem_append.1 hy with h | h
            · exact HS.out y h
            · simp at h; rw [h]; exact hxl
          have HI2 : Hid (lowV (L ++ [x]) + 2 ^ (8 * (L ++ [x]).length) * (m / 256 * 2 ^ r + d / 256) = M * 2 ^ K) := by
            show _ = _
            rw [lowV_snoc, List.length_append, ← HI.out, HST.out]
            show _ + 2 ^ (8 * (L.length + 1)) * _ = _
            rw [pow8, ← hx9]
            rw [Nat.mul_add (2 ^ (8 * L.length)), Nat.mul_assoc, Nat.mul_comm x, Nat.add_assoc]
            congr 1
            exact Nat.add_comm _ _
          have hr1 : r = 0 ∨ r = 1 ∨ r = 2 ∨ r = 3 ∨ r = 4 ∨ r = 5 ∨ r = 6 ∨ r = 7 := by omega
          have hm256 : (m : Int) % 256 = ((m % 256 : Nat) : Int) := by omega
          have HD := Lib.hid hd
          have HX9 := Lib.hid hx9
          clear hr9 hn hg hx hbx HNL HBL hlow HS HI HST hd hx9
          have hd256 : (d : Int) % 256 = (x : Int) := by have := HX9.out; omega
          by_cases hm0 : m = 0
          · subst hm0
            have hdc : d = c := by have := HD.out; simpa using this
            have hxc : x = c := by have := HX9.out; omega
            have hd0 : d / 256 = 0 := by omega
            rw [hd0] at HI2
            subst hxc
            have hcp : (0 : Int) < x := by omega
            have hx256 : (x : Int) % 256 = x := by omega
            clear hd256 hdc hd0 HD HX9 hm256
            go_wp2_with (at_builtin; refine Lib.wpList_append_run _ rfl (.tmp 33) (.tmp 37) 46 46 rfl _ _ rfl rfl _ _ HR.out ?_)
            go_round
            case rel => exact ⟨0, 0, L ++ [x], by go_num, by go_num, by decide, by decide, by simp; omega, HS2, by simpa using HI2, HN2, HB2⟩
            case measure => simp [intOf]; omega
          · have hgt : (0 : Int) < m := by omega
            rcases hr1 with rfl | rfl | rfl | rfl | rfl | rfl | rfl | rfl
            · have hde : (m : Int) % 256 + c = d := by have := HD.out; simp only [Nat.reducePow] at this; omega
              clear HD HX9 hm256
              go_wp2_with (at_builtin; refine Lib.wpList_append_run _ rfl (.tmp 33) (.tmp 37) 46 46 rfl _ _ rfl rfl _ _ HR.out ?_)
              go_round
              case rel => exact ⟨m / 256, d / 256, L ++ [x], by go_num, by go_num, by omega, by omega, by simp; omega, HS2, HI2, HN2, HB2⟩
              case measure => simp [intOf]; omega
            · have hde : (m : Int) % 256 * 2 + c = d := by have := HD.out; simp only [Nat.reducePow] at this; omega
              clear HD HX9 hm256
              go_wp2_with (at_builtin; refine Lib.wpList_append_run _ rfl (.tmp 33) (.tmp 37) 46 46 rfl _ _ rfl rfl _ _ HR.out ?_)
              go_round
              case rel => exact ⟨m / 256, d / 256, L ++ [x], by go_num, by go_num, by omega, by omega, by simp; omega, HS2, HI2, HN2, HB2⟩
              case measure => simp [intOf]; omega
            · have hde : (m : Int) % 256 * 4 + c = d := by have := HD.out; simp only [Nat.reducePow] at this; omega
              clear HD HX9 hm256
              go_wp2_with (at_builtin; refine Lib.wpList_append_run _ rfl (.tmp 33) (.tmp 37) 46 46 rfl _ _ rfl rfl _ _ HR.out ?_)
              go_round
              case rel => exact ⟨m / 256, d / 256, L ++ [x], by go_num, by go_num, by omega, by omega, by simp; omega, HS2, HI2, HN2, HB2⟩
              case measure => simp [intOf]; omega
            · have hde : (m : Int) % 256 * 8 + c = d := by have := HD.out; simp only [Nat.reducePow] at this; omega
              clear HD HX9 hm256
              go_wp2_with (at_builtin; refine Lib.wpList_append_run _ rfl (.tmp 33) (.tmp 37) 46 46 rfl _ _ rfl rfl _ _ HR.out ?_)
              go_round
              case rel => exact ⟨m / 256, d / 256, L ++ [x], by go_num, by go_num, by omega, by omega, by simp; omega, HS2, HI2, HN2, HB2⟩
              case measure => simp [intOf]; omega
            · have hde : (m : Int) % 256 * 16 + c = d := by have := HD.out; simp only [Nat.reducePow] at this; omega
              clear HD HX9 hm256
              go_wp2_with (at_builtin; refine Lib.wpList_append_run _ rfl (.tmp 33) (.tmp 37) 46 46 rfl _ _ rfl rfl _ _ HR.out ?_)
              go_round
              case rel => exact ⟨m / 256, d / 256, L ++ [x], by go_num, by go_num, by omega, by omega, by simp; omega, HS2, HI2, HN2, HB2⟩
              case measure => simp [intOf]; omega
            · have hde : (m : Int) % 256 * 32 + c = d := by have := HD.out; simp only [Nat.reducePow] at this; omega
              clear HD HX9 hm256
              go_wp2_with (at_builtin; refine Lib.wpList_append_run _ rfl (.tmp 33) (.tmp 37) 46 46 rfl _ _ rfl rfl _ _ HR.out ?_)
              go_round
              case rel => exact ⟨m / 256, d / 256, L ++ [x], by go_num, by go_num, by omega, by omega, by simp; omega, HS2, HI2, HN2, HB2⟩
              case measure => simp [intOf]; omega
            · have hde : (m : Int) % 256 * 64 + c = d := by have := HD.out; simp only [Nat.reducePow] at this; omega
              clear HD HX9 hm256
              go_wp2_with (at_builtin; refine Lib.wpList_append_run _ rfl (.tmp 33) (.tmp 37) 46 46 rfl _ _ rfl rfl _ _ HR.out ?_)
              go_round
              case rel => exact ⟨m / 256, d / 256, L ++ [x], by go_num, by go_num, by omega, by omega, by simp; omega, HS2, HI2, HN2, HB2⟩
              case measure => simp [intOf]; omega
            · have hde : (m : Int) % 256 * 128 + c = d := by have := HD.out; simp only [Nat.reducePow] at this; omega
              clear HD HX9 hm256
              go_wp2_with (at_builtin; refine Lib.wpList_append_run _ rfl (.tmp 33) (.tmp 37) 46 46 rfl _ _ rfl rfl _ _ HR.out ?_)
              go_round
              case rel => exact ⟨m / 256, d / 256, L ++ [x], by go_num, by go_num, by omega, by omega, by simp; omega, HS2, HI2, HN2, HB2⟩
              case measure => simp [intOf]; omega
end Go.Proofs.YtjcdnaandbockaaGreat
