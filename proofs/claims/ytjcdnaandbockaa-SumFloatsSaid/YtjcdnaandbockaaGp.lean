import Derived.Test.YtjcdnaandbockaaGn
namespace Go.Proofs.Ytjcdnaandbockaa
open Go.RowKit Go.Shelf
set_option maxRecDepth 100000
set_option maxHeartbeats 1000000

theorem joinF_assoc (f g h : Facts) : joinF (joinF f g) h = joinF f (joinF g h) := by
  unfold joinF
  simp only [Nat.mod_add_mod, Nat.add_mod_mod, Nat.add_assoc, Nat.or_assoc, Nat.max_assoc]
instance : Std.Associative joinF := ⟨joinF_assoc⟩
instance : Std.Commutative joinF := ⟨joinF_comm⟩
def zeroF : Facts := ⟨0, 0, 0⟩
theorem zeroF_join {f : Facts} (h : f.V < big) : joinF zeroF f = f := by
  obtain ⟨V, s, z⟩ := f
  unfold joinF zeroF
  simp only [Nat.zero_add, Nat.zero_or, Nat.zero_max]
  rw [Nat.mod_eq_of_lt h]
theorem join_zeroF {f : Facts} (h : f.V < big) : joinF f zeroF = f := by rw [joinF_comm]; exact zeroF_join h
/-- what the sum of a list of numbers knows -/
def fF : List Nat → Facts
  | [] => zeroF
  | x :: l => joinF (factsN x) (fF l)
def Small (l : List Nat) : Prop := ∀ x ∈ l, x < 18446744073709551616
theorem fF_ok : ∀ {l : List Nat}, Small l → (fF l).Ok
  | [], _ => ok_zero
  | x :: l, h => joinF_ok (factsN_ok (h x (by simp))) (fF_ok fun y hy => h y (by simp [hy]))
theorem fF_append : ∀ {l m : List Nat}, Small m → fF (l ++ m) = joinF (fF l) (fF m)
  | [], m, h => (zeroF_join (fF_ok h).V).symm
  | x :: l, m, h => by
    show joinF (factsN x) (fF (l ++ m)) = joinF (joinF (factsN x) (fF l)) (fF m)
    rw [fF_append h, joinF_assoc]
theorem fF_snoc {l : List Nat} {x : Nat} (hl : Small l) (hx : x < 18446744073709551616) : fF (l ++ [x]) = joinF (fF l) (factsN x) := by
  rw [fF_append (by intro y hy; simp at hy; rw [hy]; exact hx)]
  show joinF (fF l) (joinF (factsN x) zeroF) = _
  rw [join_zeroF (factsN_ok hx).V]
theorem foldl_fF : ∀ (l : List Nat) (f : Facts), f.V < big → Small l → (l.map v0).foldl (fun f u => joinF f (factsN u.x)) f = joinF f (fF l)
  | [], f, hf, _ => (join_zeroF hf).symm
  | x :: l, f, hf, h => by
    have hx := h x (by simp)
    show (l.map v0).foldl _ (joinF f (factsN x)) = joinF f (joinF (factsN x) (fF l))
    rw [foldl_fF l _ (Nat.mod_lt _ big_pos) (fun y hy => h y (by simp [hy])), joinF_assoc]
theorem foldF_fF {l : List Nat} (h : Small l) : foldF (l.map v0) = fF l := by
  unfold foldF
  rw [foldl_fF l _ big_pos h]
  exact zeroF_join (fF_ok h).V
/-- how great what a sum knows is -/
def Lim (f : Facts) (n : Nat) : Prop := (iv f.V).natAbs ≤ n * mid
theorem lim_zero (n : Nat) : Lim zeroF n := by show (iv 0).natAbs ≤ _; rw [iv_zero]; simp
theorem Lim.mono {f : Facts} {m n : Nat} (h : Lim f m) (hm : m ≤ n) : Lim f n := Nat.le_trans h (Nat.mul_le_mul_right _ hm)
theorem lim_one {x : Nat} (hx : x < 18446744073709551616) : Lim (factsN x) 1 := by have := factsN_abs hx; unfold Lim; omega
theorem small_top {n : Nat} (h : n ≤ 1000) : n * mid ≤ top := by
  have h1 := mid_top
  have h2 : n * mid ≤ 9223372036854775808 * mid := Nat.mul_le_mul_right _ (by omega)
  omega
theorem lim_join {f g : Facts} {m n : Nat} (hf : f.Ok) (hg : g.Ok) (h1 : Lim f m) (h2 : Lim g n) (hmn : m + n ≤ 1000) : Lim (joinF f g) (m + n) := by
  have h3 := small_top hmn
  have ht : top ≤ 9223372036854775808 * top := Nat.le_mul_of_pos_left _ (by decide)
  have hp := top_pos
  have ht2 : top < 9223372036854775808 * top := by
    have : 2 * top ≤ 9223372036854775808 * top := Nat.mul_le_mul_right _ (by decide)
    omega
  unfold Lim at *
  rw [Nat.add_mul] at *
  show (iv ((f.V + g.V) % big)).natAbs ≤ _
  obtain ⟨T, hT⟩ : ∃ T, T = 9223372036854775808 * top := ⟨_, rfl⟩
  rw [iv_add hf.V hg.V (by rw [← hT] at ht2 ⊢; omega) (by rw [← hT] at ht2 ⊢; omega)]
  omega
theorem lim_fit {f : Facts} {n : Nat} (hf : f.Ok) (h : Lim f n) (hn : n ≤ 999) : absN f.V < top := by
  have h3 := small_top (show n + 1 ≤ 1000 by omega)
  have hp := mid_pos
  rw [Nat.add_mul] at h3
  unfold Lim at h
  rw [abs_iv hf.V]
  omega
theorem res_ok {f g : Facts} {m n : Nat} (hf : f.Ok) (hg : g.Ok) (h1 : Lim f m) (h2 : Lim g n) (hmn : m + n ≤ 999) : resE f g = 0 ∧ resF f g = joinF f g := by
  have h := lim_fit (joinF_ok hf hg) (lim_join hf hg h1 h2 (by omega)) hmn
  have h4 : fitN ((f.V + g.V) % big) = true := (fit_iff (Nat.mod_lt _ big_pos)).2 h
  unfold resE resF
  rw [if_pos h4, if_pos h4]
  exact ⟨rfl, rfl⟩
theorem fF_lim : ∀ {l : List Nat}, Small l → l.length ≤ 900 → Lim (fF l) l.length
  | [], _, _ => lim_zero _
  | x :: l, h, hl => by
    have hx := h x (by simp)
    have hl2 : l.length + 1 ≤ 900 := by simpa using hl
    have hs : Small l := fun y hy => h y (by simp [hy])
    have := lim_join (factsN_ok hx) (fF_ok hs) (lim_one hx) (fF_lim hs (by omega)) (by omega)
    rw [Nat.add_comm] at this
    exact this
/-- what a sum can know -/
def Poss (f : Facts) : Prop := f.zero = 2 ∨ (f.zero < 2 ∧ f.V = 0 ∧ f.saw = 0)
theorem poss_zero : Poss zeroF := .inr ⟨by decide, rfl, rfl⟩
theorem poss_facts (x : Nat) : Poss (factsN x) := by
  unfold factsN
  split
  · exact .inl rfl
  · split
    · exact .inl rfl
    · split
      · exact .inl rfl
      · split
        · exact .inr ⟨by decide, rfl, rfl⟩
        · exact .inl rfl
theorem poss_join {f g : Facts} (hf : Poss f) (hg : Poss g) (h1 : f.Ok) (h2 : g.Ok) : Poss (joinF f g) := by
  have h3 := h1.zero
  have h4 := h2.zero
  unfold Poss joinF at *
  simp only
  rcases hf with hf | ⟨hf, hf2, hf3⟩ <;> rcases hg with hg | ⟨hg, hg2, hg3⟩
  · left; omega
  · left; omega
  · left; omega
  · right
    rw [hf2, hg2, hf3, hg3]
    exact ⟨by omega, by simp, by simp⟩
theorem poss_N {f : Facts} (h : Poss f) : possN f = true := by
  unfold possN
  rcases h with h | ⟨h1, h2, h3⟩
  · simp [h]
  · simp [h1, h2, h3]
theorem opp_opp {V : Nat} (h : V < big) (h0 : 0 < V) : opp (opp V) = V := by
  unfold opp
  have e : (big - V) % big = big - V := Nat.mod_eq_of_lt (by omega)
  rw [e]
  have e2 : big - (big - V) = V := by clear e; omega
  rw [e2, Nat.mod_eq_of_lt h]
theorem dec_enc {f : Facts} (hf : f.Ok) : decN (encN f) = f := by
  obtain ⟨V, s, z⟩ := f
  have hs : s < 8 := hf.saw
  have hV : V < big := hf.V
  have hd : (encN ⟨V, s, z⟩).drop 2 = bytesN (absN V) := rfl
  have h0 : (encN ⟨V, s, z⟩).getD 0 0 = s + 8 * z := rfl
  have h1 : (encN ⟨V, s, z⟩).getD 1 0 = if negN V = true then 1 else 0 := rfl
  unfold decN
  rw [hd, h0, h1, wordsN_bytesN]
  have e1 : (s + 8 * z) % 8 = s := by omega
  have e2 : (s + 8 * z) / 8 = z := by omega
  rw [e1, e2]
  congr 1
  cases hn : negN V with
  | true =>
    have hp : 0 < V := by
      have h2 := (neg_iff hV).1 hn
      have h3 := top_pos
      have h4 : top ≤ 9223372036854775808 * top := Nat.le_mul_of_pos_left _ (by decide)
      exact Nat.lt_of_lt_of_le h3 (Nat.le_trans h4 h2)
    simp only [if_true]
    unfold absN
    rw [hn]
    exact opp_opp hV hp
  | false =>
    simp only [Bool.false_eq_true, if_false]
    unfold absN
    rw [hn]
    simp
theorem dec_ok {f : Facts} (hf : f.Ok) (hp : Poss f) : decOk (encN f) := by
  unfold decOk
  rw [dec_enc hf]
  exact ⟨poss_N hp, rfl⟩
theorem enc_len {f : Facts} (hf : f.Ok) (h : absN f.V < top) : 2 ≤ (encN f).length ∧ (encN f).length ≤ 282 := by
  have hb : blen (absN f.V) ≤ 2240 := blen_le.2 (by rw [← top_eq]; exact h)
  unfold encN
  simp only [List.length_cons, bytesN_len]
  omega
/-- the join of four -/
def J4 (f : Nat → Facts) : Facts := joinF (joinF (f 0) (f 1)) (joinF (f 2) (f 3))
def up (f : Nat → Facts) (k : Nat) (g : Facts) : Nat → Facts := fun j => if j = k then joinF (f j) g else f j
theorem J4_up (f : Nat → Facts) (k : Nat) (hk : k < 4) (g : Facts) : J4 (up f k g) = joinF g (J4 f) := by
  have h : k = 0 ∨ k = 1 ∨ k = 2 ∨ k = 3 := by omega
  rcases h with rfl | rfl | rfl | rfl <;> simp [J4, up] <;> ac_rfl
/-- the join of the first i of four parts, from part r on -/
def T4 (f : Nat → Facts) (r : Nat) : Nat → Facts
  | 0 => zeroF
  | i + 1 => joinF (T4 f r i) (f ((i + r) % 4))
theorem T4_all (f : Nat → Facts) (r : Nat) (hf : ∀ k, k < 4 → (f k).V < big) : T4 f r 4 = J4 f := by
  have h0 := zeroF_join (hf ((0 + r) % 4) (Nat.mod_lt _ (by decide)))
  show joinF (joinF (joinF (joinF zeroF (f ((0 + r) % 4))) (f ((1 + r) % 4))) (f ((2 + r) % 4))) (f ((3 + r) % 4)) = J4 f
  rw [h0]
  have h : r % 4 = 0 ∨ r % 4 = 1 ∨ r % 4 = 2 ∨ r % 4 = 3 := by omega
  unfold J4
  rcases h with h | h | h | h
  · rw [show (0 + r) % 4 = 0 by omega, show (1 + r) % 4 = 1 by omega, show (2 + r) % 4 = 2 by omega, show (3 + r) % 4 = 3 by omega]; ac_rfl
  · rw [show (0 + r) % 4 = 1 by omega, show (1 + r) % 4 = 2 by omega, show (2 + r) % 4 = 3 by omega, show (3 + r) % 4 = 0 by omega]; ac_rfl
  · rw [show (0 + r) % 4 = 2 by omega, show (1 + r) % 4 = 3 by omega, show (2 + r) % 4 = 0 by omega, show (3 + r) % 4 = 1 by omega]; ac_rfl
  · rw [show (0 + r) % 4 = 3 by omega, show (1 + r) % 4 = 0 by omega, show (2 + r) % 4 = 1 by omega, show (3 + r) % 4 = 2 by omega]; ac_rfl
/-- a list turned -/
def rotL (l : List Nat) (o : Nat) : List Nat := (List.range l.length).map fun i => l.getD ((i + o) % l.length) 0
theorem rotL_eq (l : List Nat) (o : Nat) (hl : 0 < l.length) : rotL l o = l.drop (o % l.length) ++ l.take (o % l.length) := by
  have hs : o % l.length < l.length := Nat.mod_lt _ hl
  apply List.ext_getElem
  · simp [rotL]; omega
  · intro i h1 h2
    have hi : i < l.length := by simpa [rotL] using h1
    simp only [rotL, List.getElem_map, List.getElem_range]
    have e : (i + o) % l.length = if i < l.length - o % l.length then o % l.length + i else i - (l.length - o % l.length) := by
      rw [Nat.add_mod, Nat.mod_eq_of_lt hi]
      split
      · rw [Nat.mod_eq_of_lt (by omega)]; omega
      · rw [Nat.mod_eq_sub_mod (by omega), Nat.mod_eq_of_lt (by omega)]; omega
    rw [e]
    by_cases hc : i < l.length - o % l.length
    · rw [if_pos hc, List.getElem_append_left (by simp; omega), List.getElem_drop]
      simp [show o % l.length + i < l.length by omega]
    · rw [if_neg hc, List.getElem_append_right (by simp; omega), List.getElem_take]
      simp [show i - (l.length - o % l.length) < l.length by omega]
theorem rotL_fF (l : List Nat) (o : Nat) (hl : 0 < l.length) (h : Small l) : fF (rotL l o) = fF l := by
  have h1 : Small (l.take (o % l.length)) := fun x hx => h x (List.mem_of_mem_take hx)
  have h2 : Small (l.drop (o % l.length)) := fun x hx => h x (List.mem_of_mem_drop hx)
  rw [rotL_eq l o hl, fF_append h1, joinF_comm, ← fF_append h2, List.take_append_drop]
theorem rotL_small {l : List Nat} (o : Nat) (hl : 0 < l.length) (h : Small l) : Small (rotL l o) := by
  rw [rotL_eq l o hl]
  intro x hx
  rcases List.mem_append.1 hx with hx | hx
  · exact h x (List.mem_of_mem_drop hx)
  · exact h x (List.mem_of_mem_take hx)
end Go.Proofs.Ytjcdnaandbockaa

namespace Go.Proofs.Ytjcdnaandbockaa
open Go.RowKit Go.Shelf
attribute [local go_sem] Oper.semAt_some
set_option maxRecDepth 100000
set_option maxHeartbeats 1000000

/-- a list of numbers in memory -/
structure Uls (w : World) (a : Option Addr) (l : List Nat) : Prop where
  len : l.length ≤ 9223372036854775807
  small : Small l
  at_ : l ≠ [] → ∃ g o, a = some ⟨g, o, none⟩ ∧ ∀ i, (h : i < l.length) → w.cell? ⟨g, o + i, none⟩ = some (.int .u64 (l[i] : Nat))
theorem Uls.keep {w w' : World} {a : Option Addr} {l : List Nat} (h : Uls w a l) (hb : Below w.heap.size w w') : Uls w' a l := by
  refine ⟨h.len, h.small, fun hne => ?_⟩
  obtain ⟨g, o, ha, hc⟩ := h.at_ hne
  exact ⟨g, o, ha, fun i hi => kcell hb (hc i hi)⟩
/-- a list of bytes in memory -/
structure U8l (w : World) (a : Option Addr) (l : List Nat) : Prop where
  len : l.length ≤ 140737488355328
  small : ∀ x ∈ l, x < 256
  at_ : l ≠ [] → ∃ g o, a = some ⟨g, o, none⟩ ∧ ∀ i, (h : i < l.length) → w.cell? ⟨g, o + i, none⟩ = some (.int .u8 (l[i] : Nat))
theorem U8l.keep {w w' : World} {a : Option Addr} {l : List Nat} (h : U8l w a l) (hb : Below w.heap.size w w') : U8l w' a l := by
  refine ⟨h.len, h.small, fun hne => ?_⟩
  obtain ⟨g, o, ha, hc⟩ := h.at_ hne
  exact ⟨g, o, ha, fun i hi => kcell hb (hc i hi)⟩
theorem ne_nilU {l : List Nat} {k : Nat} (h : k < l.length) : l ≠ [] := by intro e; rw [e] at h; exact absurd h (Nat.not_lt_zero _)
theorem fF_take {l : List Nat} (h : Small l) (k : Nat) (hk : k < l.length) : fF (l.take (k + 1)) = joinF (fF (l.take k)) (factsN l[k]) := by
  rw [← List.take_append_getElem hk, fF_snoc (fun x hx => h x (List.mem_of_mem_take hx)) (h _ (List.getElem_mem hk))]
theorem Small.take {l : List Nat} (h : Small l) (k : Nat) : Small (l.take k) := fun x hx => h x (List.mem_of_mem_take hx)
theorem of_any {w : World} {a : Option Addr} {l : List Nat} (h : Uls w a l) (cap : Nat) (hl : l.length ≤ 100) :
    Calls Try.prog 22 #[.slice a l.length cap] w fun e w' => e = .returned (.tuple #[.pointer (some ⟨w.heap.size, 0, none⟩), .bool true]) ∧ AAt w' w.heap.size (fF l) ∧ Below w.heap.size w w' := by
  have hlen := h.len
  have HU := Lib.hid h
  clear h
  go_enter Try.func22, Try.ntmps22
  go_wp2_with fail
  refine (New_any w).mono ?_
  rintro e w1 ⟨rfl, hg, hb⟩
  have HG : Hid (AAt w1 w.heap.size (fF (l.take 0))) := hg
  have HB := Lib.hid hb
  clear hg hb
  go_wp2_with fail
  go_loopw [10] (fun i wr => ∃ k : Nat, k ≤ l.length ∧ i = .int .i64 k ∧ Hid (AAt wr w.heap.size (fF (l.take k))) ∧ Hid (Below w.heap.size w wr)) (fun i _ => l.length - (intOf i).toNat)
  case atStart => exact ⟨0, Nat.zero_le _, rfl, HG.out, HB.out⟩
  case round =>
    obtain ⟨k, hk, rfl, HA, HM⟩ := hrel
    by_cases hlt : k < l.length
    · obtain ⟨gg, o, rfl, hc⟩ := (HU.out.keep HM.out).at_ (ne_nilU hlt)
      have c0 := hc k hlt
      have hx := HU.out.small _ (List.getElem_mem hlt)
      have hst := HU.out.small.take k
      have hlim := fF_lim hst (by rw [List.length_take]; omega)
      have hr := res_ok (fF_ok hst) (factsN_ok hx) hlim (lim_one hx) (by rw [List.length_take]; omega)
      have ha := Add_any HA.out (fF_ok hst) (l[k]) hx
      rw [hr.1, hr.2, ← fF_take HU.out.small k hlt] at ha
      obtain ⟨x, hx9⟩ : ∃ x, x = l[k] := ⟨_, rfl⟩
      rw [← hx9] at c0 ha
      have HAD := Lib.hid ha
      clear hc hx hst hlim hr ha hx9
      go_wp2_with fail
      refine HAD.out.mono ?_
      rintro e w5 ⟨rfl, hA5, hs5⟩
      have HA5 := Lib.hid hA5
      have HM5 := Lib.hid (HM.out.trans (hs5.below (Nat.le_refl _) HM.out.size))
      clear HAD hA5 hs5 HA HM c0
      go_wp2_with fail
      go_round
      case rel => exact ⟨k + 1, by omega, by go_num, HA5, HM5⟩
      case measure => simp [intOf]; omega
    · have hkn : k = l.length := by omega
      subst hkn
      have hA := HA.out
      rw [List.take_length] at hA
      have HA2 := Lib.hid hA
      clear HA hA
      go_wp2_with fail
      go_ret2
      exact ⟨rfl, HA2.out, HM.out⟩
end Go.Proofs.Ytjcdnaandbockaa

namespace Go.Proofs.Ytjcdnaandbockaa
open Go.RowKit Go.Shelf
set_option maxRecDepth 100000
set_option maxHeartbeats 1000000

/-- an array of pointers to sums, of which the first k are made -/
structure Parts (w : World) (pb : Nat) (bs : Nat → Nat) (f : Nat → Facts) (k : Nat) : Prop where
  cs : ∃ cs : Array Value, w.heap[pb]? = some (.cells cs 51 (0, 0)) ∧ cs.size = 4 ∧ ∀ j, j < k → cs[j]? = some (.pointer (some ⟨bs j, 0, none⟩))
  acc : ∀ j, j < k → AAt w (bs j) (f j)
  lo : ∀ j, j < k → pb < bs j
  inj : ∀ i j, i < k → j < k → bs i = bs j → i = j
theorem Parts.lt {w : World} {pb : Nat} {bs : Nat → Nat} {f : Nat → Facts} {k : Nat} (h : Parts w pb bs f k) : pb < w.heap.size := by
  obtain ⟨cs, h1, _⟩ := h.cs
  exact (Array.getElem?_eq_some_iff.1 h1).1
theorem Parts.keep {w w' : World} {pb : Nat} {bs : Nat → Nat} {f : Nat → Facts} {k : Nat} (h : Parts w pb bs f k) (hb : Below w.heap.size w w') : Parts w' pb bs f k := by
  obtain ⟨cs, h1, h2, h3⟩ := h.cs
  exact ⟨⟨cs, heapB hb h1, h2, h3⟩, fun j hj => (h.acc j hj).keep hb, h.lo, h.inj⟩
theorem Parts.cell {w : World} {pb : Nat} {bs : Nat → Nat} {f : Nat → Facts} {k : Nat} (h : Parts w pb bs f k) (j : Nat) (hj : j < k) : w.cell? ⟨pb, j, none⟩ = some (.pointer (some ⟨bs j, 0, none⟩)) := by
  obtain ⟨cs, h1, _, h3⟩ := h.cs
  exact cellR j h1 (h3 j hj)
theorem Parts.sole {w w' : World} {pb b : Nat} {bs : Nat → Nat} {f : Nat → Facts} {k : Nat} (h : Parts w pb bs f k) (hs : Sole b w w') (h1 : pb ≠ b) (h2 : ∀ j, j < k → bs j ≠ b) : Parts w' pb bs f k := by
  obtain ⟨cs, g1, g2, g3⟩ := h.cs
  exact ⟨⟨cs, hs.at_ g1 h1, g2, g3⟩, fun j hj => hs.keepA (h.acc j hj) (h2 j hj), h.lo, h.inj⟩
theorem Parts.up {w w' : World} {pb : Nat} {bs : Nat → Nat} {f : Nat → Facts} {k : Nat} {g : Facts} (h : Parts w pb bs f 4) (hk : k < 4) (hs : Sole (bs k) w w') (ha : AAt w' (bs k) (joinF (f k) g)) : Parts w' pb bs (up f k g) 4 := by
  obtain ⟨cs, g1, g2, g3⟩ := h.cs
  have hl := h.lo k hk
  refine ⟨⟨cs, hs.at_ g1 (by omega), g2, g3⟩, fun j hj => ?_, h.lo, h.inj⟩
  by_cases e : j = k
  · subst e
    simpa [Proofs.Ytjcdnaandbockaa.up] using ha
  · have hne : bs j ≠ bs k := fun h9 => e (h.inj j k hj hk h9)
    have := hs.keepA (h.acc j hj) hne
    simpa [Proofs.Ytjcdnaandbockaa.up, e] using this
theorem Parts.add {w w1 : World} {pb k : Nat} {bs : Nat → Nat} (h : Parts w pb bs (fun _ => zeroF) k) (hk : k < 4) (hb : Below w.heap.size w w1) (ha : AAt w1 w.heap.size zeroF) :
    Parts (w1.setCell ⟨pb, k, none⟩ (.pointer (some ⟨w.heap.size, 0, none⟩))) pb (fun j => if j = k then w.heap.size else bs j) (fun _ => zeroF) (k + 1) := by
  obtain ⟨cs, g1, g2, g3⟩ := h.cs
  have hpb := h.lt
  have hs : Sole pb w1 (w1.setCell ⟨pb, k, none⟩ (.pointer (some ⟨w.heap.size, 0, none⟩))) := Sole.set _
  refine ⟨⟨_, heap_setCell_same w1 pb k _ _ _ (heapB hb g1), by simp [g2], fun j hj => ?_⟩, fun j hj => ?_, fun j hj => ?_, fun i j hi hj => ?_⟩
  · rw [Array.getElem?_setIfInBounds]
    by_cases e : k = j
    · subst e
      rw [if_pos rfl, if_pos (by omega)]
      simp
    · rw [if_neg e, g3 j (by omega)]
      simp [show ¬ j = k by omega]
  · by_cases e : j = k
    · simp only [if_pos e]
      exact hs.keepA ha (by omega)
    · simp only [if_neg e]
      have := h.lo j (by omega)
      exact hs.keepA ((h.acc j (by omega)).keep hb) (by omega)
  · by_cases e : j = k
    · simp only [if_pos e]; exact hpb
    · simp only [if_neg e]; exact h.lo j (by omega)
  · by_cases e : i = k
    · by_cases e2 : j = k
      · intro _; omega
      · have := (h.acc j (by omega)).lt
        simp only [if_pos e, if_neg e2]
        intro h9; omega
    · by_cases e2 : j = k
      · have := (h.acc i (by omega)).lt
        simp only [if_neg e, if_pos e2]
        intro h9; omega
      · simp only [if_neg e, if_neg e2]
        exact h.inj i j (by omega) (by omega)
def Good4 (f : Nat → Facts) (n : Nat) : Prop := ∀ j, j < 4 → (f j).Ok ∧ Poss (f j) ∧ Lim (f j) n
theorem good_zero : Good4 (fun _ => zeroF) 0 := fun _ _ => ⟨ok_zero, poss_zero, lim_zero 0⟩
theorem good_up {f : Nat → Facts} {n k x : Nat} (h : Good4 f n) (hx : x < 18446744073709551616) (hn : n ≤ 900) : Good4 (up f k (factsN x)) (n + 1) := by
  intro j hj
  obtain ⟨h1, h2, h3⟩ := h j hj
  unfold up
  split
  · exact ⟨joinF_ok h1 (factsN_ok hx), poss_join h2 (poss_facts x) h1 (factsN_ok hx), lim_join h1 (factsN_ok hx) h3 (lim_one hx) (by omega)⟩
  · exact ⟨h1, h2, h3.mono (Nat.le_succ n)⟩
theorem drop_step {l : List Nat} (n : Nat) (hn : n < l.length) : fF (l.drop n) = joinF (factsN l[n]) (fF (l.drop (n + 1))) := by
  rw [List.drop_eq_getElem_cons hn]
  rfl
theorem T4_ok {f : Nat → Facts} {n : Nat} (h : Good4 f n) (r : Nat) : ∀ i, i ≤ 4 → n ≤ 200 → (T4 f r i).Ok ∧ Lim (T4 f r i) (i * n)
  | 0, _, _ => ⟨ok_zero, lim_zero _⟩
  | i + 1, hi, hn => by
    obtain ⟨h1, h2⟩ := T4_ok h r i (by omega) hn
    obtain ⟨h3, _, h4⟩ := h ((i + r) % 4) (Nat.mod_lt _ (by decide))
    refine ⟨joinF_ok h1 h3, ?_⟩
    rw [Nat.add_mul, Nat.one_mul]
    refine lim_join h1 h3 h2 h4 ?_
    have : i * n ≤ 4 * n := Nat.mul_le_mul_right _ (by omega)
    omega
theorem bs_cap {B : Nat} {w : World} {v : Value} {l : List Nat} (h : NewBs B w v l) (hne : l ≠ []) (hs : ∀ x ∈ l, x < 256) : ∃ a cap, v = .slice a l.length cap ∧ Bs w a l ∧ l.length ≤ cap := by
  obtain ⟨a, cap, hv, hb⟩ := h.bs hne hs
  refine ⟨a, cap, hv, hb, ?_⟩
  rcases h.own.2 with ⟨_, h2⟩ | ⟨g, cap', cur, hv', _, _, hc, _⟩
  · exact absurd (List.length_eq_zero_iff.1 h2) hne
  · rw [hv] at hv'
    injection hv' with _ _ e3
    omega
/-- a sum that is good -/
structure Fine (f : Facts) (n : Nat) : Prop where
  ok : f.Ok
  poss : Poss f
  lim : Lim f n
theorem enc_part {w : World} {b n : Nat} {f : Facts} (h : AAt w b f) (hf : Fine f n) (hn : n ≤ 900) :
    Calls Try.prog 14 #[.pointer (some ⟨b, 0, none⟩)] w fun e w' => ∃ a cap, e = .returned (.tuple #[.slice a (encN f).length cap, .int .i64 0]) ∧ Bs w' a (encN f) ∧ (encN f).length ≤ cap ∧ Below w.heap.size w w' := by
  refine (Encode_any h hf.ok.saw (Nat.lt_of_le_of_lt hf.ok.zero (by decide)) hf.ok.V).mono ?_
  rintro e w' ⟨v, rfl, hv, hb⟩
  obtain ⟨a, cap, rfl, h1, h2⟩ := bs_cap hv (encN_ne f) (encN_small hf.ok.saw (Nat.lt_of_le_of_lt hf.ok.zero (by decide)))
  exact ⟨a, cap, rfl, h1, h2, hb⟩
theorem dec_part {w : World} {a : Option Addr} {n cap : Nat} {f : Facts} (h : Bs w a (encN f)) (hcap : (encN f).length ≤ cap) (hf : Fine f n) (hn : n ≤ 900) :
    Calls Try.prog 12 #[.slice a (encN f).length cap] w fun e w' => ∃ b, e = .returned (.tuple #[.pointer (some ⟨b, 0, none⟩), .int .i64 0]) ∧ w.heap.size ≤ b ∧ AAt w' b f ∧ Below w.heap.size w w' := by
  have hl := enc_len hf.ok (lim_fit hf.ok hf.lim (by omega))
  refine (Decode_any h hl.1 hl.2 cap hcap).mono ?_
  rintro e w' ⟨hb, h1⟩
  rw [if_pos (dec_ok hf.ok hf.poss)] at h1
  obtain ⟨b, h2, h3, h4⟩ := h1
  rw [dec_enc hf.ok] at h4
  exact ⟨b, h2, h3, h4, hb⟩
theorem same_true {w : World} {b b' : Nat} {f : Facts} (h : AAt w b f) (h' : AAt w b' f) (hV : f.V < big) :
    Calls Try.prog 20 #[.pointer (some ⟨b, 0, none⟩), .pointer (some ⟨b', 0, none⟩)] w fun e w' => e = .returned (.bool true) ∧ Below w.heap.size w w' := by
  have := Same_any h h' hV hV
  rwa [decide_eq_true (show _ ∧ _ ∧ _ from ⟨rfl, rfl, rfl⟩)] at this
theorem merge_ok {w : World} {b d m n : Nat} {f g : Facts} (h : AAt w b f) (h2 : AAt w d g) (hf : f.Ok) (hg : g.Ok) (h3 : Lim f m) (h4 : Lim g n) (hmn : m + n ≤ 999) :
    Calls Try.prog 19 #[.pointer (some ⟨b, 0, none⟩), .pointer (some ⟨d, 0, none⟩)] w fun e w' => e = .returned (.int .i64 0) ∧ AAt w' b (joinF f g) ∧ Sole b w w' := by
  have hr := res_ok hf hg h3 h4 hmn
  have := Merge_any h h2 hf hg
  rwa [hr.1, hr.2] at this
theorem add_ok {w : World} {b n x : Nat} {f : Facts} (h : AAt w b f) (hf : f.Ok) (hx : x < 18446744073709551616) (h3 : Lim f n) (hn : n ≤ 900) :
    Calls Try.prog 18 #[.pointer (some ⟨b, 0, none⟩), .int .u64 x] w fun e w' => e = .returned (.int .i64 0) ∧ AAt w' b (joinF f (factsN x)) ∧ Sole b w w' := by
  have hr := res_ok hf (factsN_ok hx) h3 (lim_one hx) (by omega)
  have := Add_any h hf x hx
  rwa [hr.1, hr.2] at this
theorem val_ok {w : World} {b n : Nat} {f : Facts} (h : AAt w b f) (hf : f.Ok) (hl : Lim f n) (hn : n ≤ 900) :
    Calls Try.prog 15 #[.pointer (some ⟨b, 0, none⟩)] w fun e w' => e = .returned (.int .u64 (valueN f : Nat)) ∧ Below w.heap.size w w' :=
  Value_any h hf.saw hf.V (by rw [← top_eq]; exact lim_fit hf hl (by omega))
end Go.Proofs.Ytjcdnaandbockaa

namespace Go.Proofs.Ytjcdnaandbockaa
open Go.RowKit Go.Shelf
attribute [local go_sem] Oper.semAt_some
set_option maxRecDepth 100000
set_option maxHeartbeats 2000000

section
variable {n : Nat} {P : Program} {ops : Array Oper} {Q : Exit → Act → World → Prop}
theorem wpOpIn_plainG {i : Nat} {o : Oper} {K : Act → World → Prop} {a : Act} {w w' : World} {v : Value} (ho : ops[i]? = some o) (hgd : Region.wanted o (yielded ops a.tmps) = true)
    (h : (o.semAt none a.eval).run P w = .ok (.value v) w') (hk : K (a.put o.dst v) w') : wpOpIn Fence.wide n P ops Q i K a w := by
  refine wpOpIn_step ho (fun K' hK => ?_)
  rw [if_pos hgd]
  exact wpIn_of_wp_plain h (hK _ _ hk)
theorem wpOpIn_callG {i : Nat} {o : Oper} {K : Act → World → Prop} {a : Act} {w : World} {f : FuncId} {args : Array Value} {R : Ending → World → Prop} (ho : ops[i]? = some o) (hgd : Region.wanted o (yielded ops a.tmps) = true)
    (h : (o.semAt none a.eval).run P w = .ok (.enter f args) w) (hc : Calls P f args w R) (hk : ∀ e w', R e w' → ∃ v, e = .returned v ∧ K (a.put o.dst v) w') : wpOpIn Fence.wide n P ops Q i K a w := by
  refine wpOpIn_step ho (fun K' hK => ?_)
  rw [if_pos hgd]
  refine ⟨fun f _ => trivial, ?_⟩
  have e : Fence.wide.round = none := rfl
  rw [e, h, Oper.uponIn_enter]
  refine ⟨(fun hd => by cases hd), callsIn_wide.2 (hc.mono ?_)⟩
  intro e w' hr
  obtain ⟨v, rfl, hv⟩ := hk e w' hr
  exact hK _ _ hv
end
theorem sem_call0 {P : Program} {o : Oper} {a : Act} {w : World} {g : FuncId} {ts : Array TypeId} (hop : o.op = .call { callee := .value (.func g), args := #[], argTypes := ts })
    (eg : ∀ args w, (callFunc g args).run P w = .ok (.enter g args) w) : (o.semAt none a.eval).run P w = .ok (.enter g #[]) w :=
  sem_call hop (by simp) eg
theorem SumOrder_walk {w : World} {a b c : Option Addr} {l p q : List Nat} (h : Uls w a l) (hp : U8l w b p) (hq : U8l w c q) (ca cb cc : Nat) :
    Calls Try.prog 5 #[.slice a l.length ca, .slice b p.length cb, .slice c q.length cc] w fun e w' => e = .returned (.bool true) ∧ Below w.heap.size w w' := by
  have hlen := h.len
  have hlp := hp.len
  have hlq := hq.len
  have HL := Lib.hid h
  have HP := Lib.hid hp
  have HQ := Lib.hid hq
  clear h hp hq
  by_cases h1 : 60 < l.length
  · have e1 : decide ((60 : Int) < (l.length : Int)) = true := decide_eq_true (by omega)
    clear h1
    go_enter Try.func5, Try.ntmps5
    go_wp2_with fail
    refine (works_any _).mono ?_
    rintro e w9 ⟨rfl, hb9⟩
    go_wp2_with fail
    go_ret
    exact ⟨rfl, hb9⟩
  · have e1 : decide ((60 : Int) < (l.length : Int)) = false := decide_eq_false (by omega)
    by_cases h2 : l.length = 0
    · have e2 : ((l.length : Int) == 0) = true := beq_iff_eq.2 (by omega)
      clear h1 h2
      go_enter Try.func5, Try.ntmps5
      go_wp2_with fail
      refine (works_any _).mono ?_
      rintro e w9 ⟨rfl, hb9⟩
      go_wp2_with fail
      go_ret
      exact ⟨rfl, hb9⟩
    · have e2 : ((l.length : Int) == 0) = false := beq_eq_false_iff_ne.2 (by omega)
      obtain ⟨N, hN⟩ : ∃ N, N = l.length := ⟨_, rfl⟩
      have HN := Lib.hid hN
      have h60 : N ≤ 60 := by omega
      have h0N : 0 < N := by omega
      rw [← hN] at e1 e2 hlen ⊢
      have hof := of_any HL.out ca (by omega)
      rw [← hN] at hof
      clear h1 h2 hN
      go_enter Try.func5, Try.ntmps5
      go_wp2_with fail
      refine hof.mono ?_
      rintro e w1 ⟨rfl, hA, hb⟩
      have hb2 := (Below.refl w1.heap.size w1).alloc (Nat.le_refl _) (.cells #[.pointer none, .pointer none, .pointer none, .pointer none] 51)
      have hn2 := heap_alloc_new w1 (.cells #[.pointer none, .pointer none, .pointer none, .pointer none] 51)
      have HB := Lib.hid (hb.trans (hb2.mono hb.size))
      have HA := Lib.hid (hA.keep hb2)
      have hsz := hA.lt
      have HPT : Hid (Parts (w1.alloc (.cells #[.pointer none, .pointer none, .pointer none, .pointer none] 51)) w1.heap.size (fun _ => 0) (fun _ => zeroF) 0) := ⟨⟨_, hn2, rfl, fun j hj => absurd hj (Nat.not_lt_zero _)⟩, fun j hj => absurd hj (Nat.not_lt_zero _), fun j hj => absurd hj (Nat.not_lt_zero _), fun i j hi => absurd hi (Nat.not_lt_zero _)⟩
      clear hof hA hb hb2 hn2
      go_wp2_with fail
      generalize w1.alloc (.cells #[.pointer none, .pointer none, .pointer none, .pointer none] 51) = Y at *
      go_loopw [40] (fun i wr => ∃ k : Nat, k ≤ 4 ∧ i = .int .i64 k ∧ ∃ bs, Hid (Parts wr w1.heap.size bs (fun _ => zeroF) k) ∧ Hid (AAt wr w.heap.size (fF l)) ∧ Hid (Below w.heap.size w wr)) (fun i _ => 4 - (intOf i).toNat)
      case atStart => exact ⟨0, Nat.zero_le _, rfl, _, HPT.out, HA.out, HB.out⟩
      case round =>
        obtain ⟨k1, hk, rfl, bs, HT, KA, KB⟩ := hrel
        by_cases hlt : k1 < 4
        · go_wp2_with fail
          refine (New_any wr).mono ?_
          rintro e w5 ⟨rfl, hA5, hb5⟩
          have hadd := HT.out.add hlt hb5 hA5
          obtain ⟨cs, g1, g2, _⟩ := (HT.out.keep hb5).cs
          obtain ⟨vc, hvc⟩ : ∃ v, cs[k1]? = some v := ⟨_, Array.getElem?_eq_getElem (show k1 < cs.size by omega)⟩
          have d0 := cellR k1 g1 hvc
          have f0 := frozen_of_row w5 _ k1 _ _ g1
          have l0 := (Array.getElem?_eq_some_iff.1 g1).1
          have HT5 := Lib.hid hadd
          have hs5 : Sole w1.heap.size w5 (w5.setCell ⟨w1.heap.size, k1, none⟩ (.pointer (some ⟨wr.heap.size, 0, none⟩))) := Sole.set _
          have HA5 : Hid (AAt (w5.setCell ⟨w1.heap.size, k1, none⟩ (.pointer (some ⟨wr.heap.size, 0, none⟩))) w.heap.size (fF l)) := hs5.keepA (KA.out.keep hb5) (by omega)
          have HB5 := Lib.hid ((KB.out.trans (hb5.mono KB.out.size)).setCell (p := ⟨w1.heap.size, k1, none⟩) (show w.heap.size ≤ w1.heap.size by omega) (.pointer (some ⟨wr.heap.size, 0, none⟩)))
          clear hA5 hb5 hadd g1 g2 hvc hs5 HT KA KB
          go_wp2_with fail
          go_round
          case rel => exact ⟨k1 + 1, by omega, by go_num, _, HT5, HA5, HB5⟩
          case measure => simp [intOf]; omega
        · have hkn : k1 = 4 := by omega
          rw [hkn] at HT
          have e8 : decide ((k1 : Int) < 4) = false := decide_eq_false (by omega)
          clear hkn
          have hJ0 : Hid (J4 (fun _ => zeroF) = fF (l.drop N)) := by show _ = _; rw [HN.out, List.drop_length]; rfl
          have hG0 := Lib.hid good_zero
          go_wp2_with fail
          obtain ⟨wo, hwo⟩ : ∃ wo : World, wo = wr := ⟨_, rfl⟩
          rw [← hwo] at HT KA KB
          rw [← hwo]
          clear hwo wr
          go_loopw [11] (fun i wr => ∃ (m : Nat) (z : Int), m ≤ N ∧ i = .int .i64 z ∧ Hid (z + 1 = m) ∧ ∃ f, Hid (Parts wr w1.heap.size bs f 4) ∧ Hid (J4 f = fF (l.drop m)) ∧ Hid (Good4 f (N - m)) ∧ Hid (AAt wr w.heap.size (fF l)) ∧ Hid (Below w.heap.size w wr)) (fun i _ => (intOf i + 1).toNat)
          case atStart => exact ⟨N, _, Nat.le_refl _, rfl, (by show _ = _; omega), _, HT.out, hJ0.out, (by show Good4 _ _; rw [Nat.sub_self]; exact hG0.out), KA.out, KB.out⟩
          case round =>
            obtain ⟨m, z, hm, rfl, HZ, f, HT, HJ, HG, KA, KB⟩ := hrel
            rcases Nat.eq_zero_or_pos m with hm0 | hm0
            · obtain rfl : z = -1 := by have := HZ.out; omega
              subst hm0
              have hJl : Hid (J4 f = fF l) := HJ.out
              have hG9 : Hid (Good4 f N) := HG.out
              go_wp2_with fail
              refine (New_any wr).mono ?_
              rintro e w6 ⟨rfl, hO6, hb6⟩
              obtain ⟨TB, hTB⟩ : ∃ n, n = wr.heap.size := ⟨_, rfl⟩
              rw [← hTB] at hO6 ⊢
              obtain ⟨r, hr⟩ : ∃ r, r = q.getD 0 0 := ⟨_, rfl⟩
              have HRR := Lib.hid hr
              have HTB : Hid (w1.heap.size < TB ∧ w.heap.size < w1.heap.size) := ⟨by rw [hTB]; exact HT.out.lt, hsz⟩
              have HTB2 : Hid (∀ j, j < 4 → bs j < TB) := fun j hj => by rw [hTB]; exact (HT.out.acc j hj).lt
              have T6 := Lib.hid (HT.out.keep hb6)
              have A6 := Lib.hid (KA.out.keep hb6)
              have O6 : Hid (AAt w6 TB (T4 f r 0)) := hO6
              have B6 := Lib.hid (KB.out.trans (hb6.mono KB.out.size))
              have hfine : ∀ k, k < 4 → Fine (f k) N := fun k hk => ⟨(hG9.out k hk).1, (hG9.out k hk).2.1, (hG9.out k hk).2.2⟩
              have hq0 := HQ.out.len
              clear hTB hr hO6 hb6 HT HJ HG KA KB HZ
              go_wp2_with fail
              go_loopw [76] (fun i wr => ∃ j : Nat, j ≤ 4 ∧ i = .int .i64 j ∧ Hid (Parts wr w1.heap.size bs f 4) ∧ Hid (AAt wr TB (T4 f r j)) ∧ Hid (AAt wr w.heap.size (fF l)) ∧ Hid (Below w.heap.size w wr)) (fun i _ => 4 - (intOf i).toNat)
              case atStart => exact ⟨0, Nat.zero_le _, rfl, T6.out, O6.out, A6.out, B6.out⟩
              case round =>
                obtain ⟨j, hj, rfl, HT, KT, KA, KB⟩ := hrel
                by_cases hlt : j < 4
                · by_cases hq9 : q.length = 0
                  · have e4 : decide ((0 : Int) < (q.length : Int)) = false := decide_eq_false (by omega)
                    have e5 : decide (0 < q.length) = false := decide_eq_false (by omega)
                    have hr0 : r = 0 := by have hqn := List.length_eq_zero_iff.1 hq9; rw [HRR.out, hqn]; rfl
                    have hkk : j < 4 := hlt
                    have HTS : Hid (T4 f r (j + 1) = joinF (T4 f r j) (f j)) := by show joinF (T4 f r j) (f ((j + r) % 4)) = _; rw [hr0, Nat.add_zero, Nat.mod_eq_of_lt hlt]
                    clear hq9 hr0
                    have fk := hfine j hkk
                    have c0 := HT.out.cell j hkk
                    have hen := Lib.hid (enc_part (HT.out.acc j hkk) fk (by omega))
                    go_wp2_with fail
                    refine hen.out.mono ?_
                    rintro e w7 ⟨a7, c7, rfl, hbs, hcap7, hb7⟩
                    have hde := Lib.hid (dec_part hbs hcap7 fk (by omega))
                    have T7 := Lib.hid (HT.out.keep hb7)
                    have A7 := Lib.hid (KA.out.keep hb7)
                    have O7 := Lib.hid (KT.out.keep hb7)
                    have B7 := Lib.hid (KB.out.trans (hb7.mono KB.out.size))
                    obtain ⟨L7, hL7⟩ : ∃ n, n = (encN (f j)).length := ⟨_, rfl⟩
                    rw [← hL7] at hde ⊢
                    clear hen hbs hcap7 hb7 HT KA KT KB hL7 c0
                    go_wp2_with fail
                    refine hde.out.mono ?_
                    rintro e w8 ⟨bx, rfl, hbx, hax, hb8⟩
                    have T8 := Lib.hid (T7.out.keep hb8)
                    have A8 := Lib.hid (A7.out.keep hb8)
                    have O8 := Lib.hid (O7.out.keep hb8)
                    have B8 := Lib.hid (B7.out.trans (hb8.mono B7.out.size))
                    have X8 := Lib.hid hax
                    have c0 := T8.out.cell j hkk
                    have hsa := Lib.hid (same_true X8.out (T8.out.acc j hkk) fk.ok.V)
                    clear hde hax hb8 T7 A7 O7 B7
                    go_wp2_with fail
                    refine hsa.out.mono ?_
                    rintro e w9 ⟨rfl, hb9⟩
                    have T9 := Lib.hid (T8.out.keep hb9)
                    have A9 := Lib.hid (A8.out.keep hb9)
                    have O9 := Lib.hid (O8.out.keep hb9)
                    have B9 := Lib.hid (B8.out.trans (hb9.mono B8.out.size))
                    have X9 := Lib.hid (X8.out.keep hb9)
                    have ht4 := T4_ok hG9.out r j (by omega) (by omega)
                    have hme := Lib.hid (merge_ok O9.out X9.out ht4.1 fk.ok ht4.2 fk.lim (by have : j * N ≤ 4 * 60 := Nat.mul_le_mul (by omega) h60; omega))
                    clear hsa hb9 T8 A8 O8 B8 X8 c0 ht4
                    go_wp2_with fail
                    refine hme.out.mono ?_
                    rintro e w10 ⟨rfl, hO, hs⟩
                    have TT := Lib.hid (T9.out.sole hs (by have := HTB.out; omega) (fun j hj => by have := HTB2.out j hj; omega))
                    have AA := Lib.hid (hs.keepA A9.out (by have := HTB.out; omega))
                    have OO : Hid (AAt w10 TB (T4 f r (j + 1))) := by show AAt _ _ _; rw [← HTS.out] at hO; exact hO
                    have BB := Lib.hid (B9.out.trans (hs.below (show w.heap.size ≤ TB by have := HTB.out; omega) B9.out.size))
                    clear hme hO hs T9 A9 O9 B9 X9
                    go_wp2_with fail
                    go_round
                    case rel => exact ⟨j + 1, by omega, by go_num, TT, OO, AA, BB⟩
                    case measure => simp [intOf]; omega
                  · have e4 : decide ((0 : Int) < (q.length : Int)) = true := decide_eq_true (by omega)
                    obtain ⟨gq, oq, hcq, hqc⟩ := (HQ.out.keep KB.out).at_ (by intro e; rw [e] at hq9; exact hq9 rfl)
                    have x0 := hqc 0 (by omega)
                    rw [Nat.add_zero] at x0
                    have hrq : r = q[0] := by rw [HRR.out]; simp [List.getD, show 0 < q.length by omega]
                    rw [← hrq] at x0
                    have hr256 : r < 256 := by rw [hrq]; exact HQ.out.small _ (List.getElem_mem _)
                    obtain ⟨kk, hkd⟩ : ∃ k, k = (j + r) % 4 := ⟨_, rfl⟩
                    have hkk : kk < 4 := by omega
                    have HTS : Hid (T4 f r (j + 1) = joinF (T4 f r j) (f kk)) := by show joinF (T4 f r j) (f ((j + r) % 4)) = _; rw [hkd]
                    have hmod : ((j : Int) + (r : Int)) % 4 = (kk : Int) := by omega
                    have hlq9 : 0 < q.length := by omega
                    subst hcq
                    clear hqc hrq hkd hq9
                    have fk := hfine kk hkk
                    have c0 := HT.out.cell kk hkk
                    have hen := Lib.hid (enc_part (HT.out.acc kk hkk) fk (by omega))
                    go_wp2_with fail
                    refine hen.out.mono ?_
                    rintro e w7 ⟨a7, c7, rfl, hbs, hcap7, hb7⟩
                    have hde := Lib.hid (dec_part hbs hcap7 fk (by omega))
                    have T7 := Lib.hid (HT.out.keep hb7)
                    have A7 := Lib.hid (KA.out.keep hb7)
                    have O7 := Lib.hid (KT.out.keep hb7)
                    have B7 := Lib.hid (KB.out.trans (hb7.mono KB.out.size))
                    obtain ⟨L7, hL7⟩ : ∃ n, n = (encN (f kk)).length := ⟨_, rfl⟩
                    rw [← hL7] at hde ⊢
                    clear hen hbs hcap7 hb7 HT KA KT KB hL7 c0
                    go_wp2_with fail
                    refine hde.out.mono ?_
                    rintro e w8 ⟨bx, rfl, hbx, hax, hb8⟩
                    have T8 := Lib.hid (T7.out.keep hb8)
                    have A8 := Lib.hid (A7.out.keep hb8)
                    have O8 := Lib.hid (O7.out.keep hb8)
                    have B8 := Lib.hid (B7.out.trans (hb8.mono B7.out.size))
                    have X8 := Lib.hid hax
                    have c0 := T8.out.cell kk hkk
                    have hsa := Lib.hid (same_true X8.out (T8.out.acc kk hkk) fk.ok.V)
                    clear hde hax hb8 T7 A7 O7 B7
                    go_wp2_with fail
                    refine hsa.out.mono ?_
                    rintro e w9 ⟨rfl, hb9⟩
                    have T9 := Lib.hid (T8.out.keep hb9)
                    have A9 := Lib.hid (A8.out.keep hb9)
                    have O9 := Lib.hid (O8.out.keep hb9)
                    have B9 := Lib.hid (B8.out.trans (hb9.mono B8.out.size))
                    have X9 := Lib.hid (X8.out.keep hb9)
                    have ht4 := T4_ok hG9.out r j (by omega) (by omega)
                    have hme := Lib.hid (merge_ok O9.out X9.out ht4.1 fk.ok ht4.2 fk.lim (by have : j * N ≤ 4 * 60 := Nat.mul_le_mul (by omega) h60; omega))
                    clear hsa hb9 T8 A8 O8 B8 X8 c0 ht4
                    go_wp2_with fail
                    refine hme.out.mono ?_
                    rintro e w10 ⟨rfl, hO, hs⟩
                    have TT := Lib.hid (T9.out.sole hs (by have := HTB.out; omega) (fun j hj => by have := HTB2.out j hj; omega))
                    have AA := Lib.hid (hs.keepA A9.out (by have := HTB.out; omega))
                    have OO : Hid (AAt w10 TB (T4 f r (j + 1))) := by show AAt _ _ _; rw [← HTS.out] at hO; exact hO
                    have BB := Lib.hid (B9.out.trans (hs.below (show w.heap.size ≤ TB by have := HTB.out; omega) B9.out.size))
                    clear hme hO hs T9 A9 O9 B9 X9
                    go_wp2_with fail
                    go_round
                    case rel => exact ⟨j + 1, by omega, by go_num, TT, OO, AA, BB⟩
                    case measure => simp [intOf]; omega
                · have hjn : j = 4 := by omega
                  have hT9 := KT.out
                  rw [hjn, T4_all f r (fun k hk => (hfine k hk).ok.V), hJl.out] at hT9
                  have OT := Lib.hid hT9
                  have e9 : decide ((j : Int) < 4) = false := decide_eq_false (by omega)
                  clear hT9 KT HT hjn
                  obtain ⟨wc, hwc⟩ : ∃ wo : World, wo = wr := ⟨_, rfl⟩
                  rw [← hwc] at OT KA KB
                  rw [← hwc]
                  clear hwc wr
                  go_wp2_with fail
                  go_loopw [20, 125] (fun v i wr => ∃ k : Nat, k ≤ N ∧ i = .int .i64 k ∧ Hid (NewVls wc.heap.size wr v ((List.range k).map fun i => v0 (l.getD ((i + q.length) % l.length) 0))) ∧ Hid (Below wc.heap.size wc wr)) (fun _ i _ => N - (intOf i).toNat)
                  case atStart => exact ⟨0, Nat.zero_le _, rfl, NewVls.nil _ _, Below.refl _ _⟩
                  case round =>
                    obtain ⟨k, hk, rfl, HV, HM⟩ := hrel
                    by_cases hlt : k < N
                    · obtain ⟨ga, oa, rfl, hca⟩ := (HL.out.keep (KB.out.trans (HM.out.mono KB.out.size))).at_ (by intro e; have := HN.out; rw [e] at this; simp at this; omega)
                      obtain ⟨ix, hix⟩ : ∃ i, i = (k + q.length) % l.length := ⟨_, rfl⟩
                      have hixl : ix < l.length := by rw [hix]; exact Nat.mod_lt _ (by have := HN.out; omega)
                      have c0 := hca ix hixl
                      have hmod : ((k : Int) + (q.length : Int)) % (N : Int) = (ix : Int) := by rw [HN.out, hix, Int.natCast_emod, Int.natCast_add]
                      have hsum : (k : Int) + (q.length : Int) < 9223372036854775808 := by omega
                      obtain ⟨x, hx⟩ : ∃ x, x = l[ix] := ⟨_, rfl⟩
                      rw [← hx] at c0
                      have hixN : (ix : Int) < (N : Int) := by have := HN.out; omega
                      have hx9 := heap_alloc_new wr (.cells #[.int .u64 (x : Nat), .int .i64 0] 54)
                      have hbx := (Below.refl wr.heap.size wr).alloc (Nat.le_refl _) (.cells #[.int .u64 (x : Nat), .int .i64 0] 54)
                      obtain ⟨v', w5, hr5, hn5, hg5⟩ := append_val (u := v0 x) ⟨HV.out.own.alloc (.cells #[.int .u64 (x : Nat), .int .i64 0] 54), HV.out.len⟩ (by simp; omega) hx9 (by have := HM.out.size; have := hbx.size; omega)
                      have HR5 := Lib.hid hr5
                      have hlow := fun k h => (HV.out.own.lt k h).1
                      have HM5 := Lib.hid ((HM.out.trans (hbx.mono HM.out.size)).trans (grown_below hg5 hlow (by have := HM.out.size; have := hbx.size; omega)))
                      have HV5 : Hid (NewVls wc.heap.size w5 v' ((List.range (k + 1)).map fun i => v0 (l.getD ((i + q.length) % l.length) 0))) := by
                        show NewVls _ _ _ _
                        rw [List.range_succ, List.map_append]
                        have e9 : l.getD ((k + q.length) % l.length) 0 = x := by rw [← hix, hx]; simp [List.getD, hixl]
                        simp only [List.map_cons, List.map_nil, e9]
                        exact hn5
                      clear hr5 hn5 hg5 hx9 hbx hlow HV HM hca hix hx hixl
                      go_wp2_with (at_builtin; refine Lib.wpList_append_run _ rfl (.tmp 128) (.tmp 140) 52 52 rfl _ _ rfl rfl _ _ HR5.out ?_)
                      clear hmod hsum hixN
                      go_round
                      case rel => exact ⟨k + 1, by omega, by go_num, HV5, HM5⟩
                      case measure => simp [intOf]; omega
                    · have hkn : k = N := by omega
                      subst hkn
                      have hsm := HL.out.small
                      have hl0 : 0 < l.length := by rw [← HN.out]; exact h0N
                      have hVV := HV.out
                      rw [show ((List.range k).map fun i => v0 (l.getD ((i + q.length) % l.length) 0)) = (rotL l q.length).map v0 by rw [HN.out]; unfold rotL; rw [List.map_map]; rfl] at hVV
                      have hrs := rotL_small q.length hl0 hsm
                      obtain ⟨aV, cV, rfl, hvls⟩ := hVV.vls (by intro u hu; obtain ⟨x, hx, rfl⟩ := List.mem_map.1 hu; exact ok0 (hrs x hx))
                      have hrg := red_good (op := 1) (kind := 2) (by decide) hvls (by intro e; have h9 := congrArg List.length e; rw [List.length_map, List.length_nil] at h9; unfold rotL at h9; rw [List.length_map, List.length_range] at h9; omega) (by unfold allowsL; rw [List.all_eq_true]; intro u hu; obtain ⟨x, _, rfl⟩ := List.mem_map.1 hu; simp [allowsB, v0]) cV
                      rw [show accV 1 2 ((rotL l q.length).map v0) = ⟨valueN (fF l), 0⟩ by unfold accV; rw [if_pos ⟨rfl, rfl⟩, foldF_fF hrs, rotL_fF l _ hl0 hsm]] at hrg
                      obtain ⟨VN, hVN⟩ : ∃ n, n = valueN (fF l) := ⟨_, rfl⟩
                      rw [← hVN] at hrg
                      have HVN := Lib.hid hVN
                      have HRG := Lib.hid hrg
                      have OT2 := Lib.hid (OT.out.keep HM.out)
                      have KA2 := Lib.hid (KA.out.keep HM.out)
                      have KB2 := Lib.hid (KB.out.trans (HM.out.mono KB.out.size))
                      have HFO := Lib.hid (fF_ok hsm)
                      have HFL := Lib.hid (fF_lim hsm (by have := HN.out; omega))
                      obtain ⟨LV, hLV⟩ : ∃ n, n = ((rotL l q.length).map v0).length := ⟨_, rfl⟩
                      rw [← hLV] at HRG ⊢
                      clear hsm hl0 hVV hrs hvls hrg hVN HV HM OT KA KB hLV
                      go_wp2_with fail
                      refine HRG.out.mono ?_
                      rintro e w7 ⟨rfl, hb7⟩
                      have hx9 := heap_alloc_new w7 (.cells #[.int .u64 VN, .int .i64 0] 54)
                      have hbx := (Below.refl w7.heap.size w7).alloc (Nat.le_refl _) (.cells #[.int .u64 VN, .int .i64 0] 54)
                      have OT3 := Lib.hid ((OT2.out.keep hb7).keep hbx)
                      have KA3 := Lib.hid ((KA2.out.keep hb7).keep hbx)
                      have KB3 := Lib.hid ((KB2.out.trans (hb7.mono KB2.out.size)).trans (hbx.mono (Nat.le_trans KB2.out.size hb7.size)))
                      have HX9 := Lib.hid hx9
                      clear HRG hb7 hbx hx9 OT2 KA2 KB2
                      go_wp2_with fail
                      generalize w7.alloc (.cells #[.int .u64 VN, .int .i64 0] 54) = XD at *
                      refine (wpIn_wide (n := 0)).1 ?_
                      refine region_det (by kernel_rfl) (I := fun listed a' w' => Hid (Below XD.heap.size XD w') ∧ a' = ⟨#[Value.slice a k ca, Value.slice b p.length cb, Value.slice c q.length cc, undef, undef, undef, (if listed.getD 29 false = true then Value.bool true else u6), Value.pointer (some ⟨w.heap.size, 0, none⟩), Value.bool true, Value.pointer (some ⟨w1.heap.size, 0, none⟩), u10, Value.int IntKind.i64 (-1), u12, Value.pointer (some ⟨TB, 0, none⟩), u14, u15, u16, u17, u18, u19, Value.slice aV LV cV, u21, Value.pointer (some ⟨w7.heap.size, 0, none⟩), Value.int IntKind.i64 0, Value.slice a k ca, Value.int IntKind.i64 ↑k, Value.bool false, Value.bool false, Value.slice a k ca, Value.int IntKind.i64 ↑k, Value.bool false, Value.bool false, undef, Value.tuple #[Value.pointer (some ⟨w.heap.size, 0, none⟩), Value.bool true], Value.slice a k ca, Value.tuple #[Value.pointer (some ⟨w.heap.size, 0, none⟩), Value.bool true], Value.pointer (some ⟨w.heap.size, 0, none⟩), Value.bool true, Value.bool true, Value.bool false, Value.int IntKind.i64 ↑k1, Value.bool false, u42, u43, u44, u45, u46, Value.slice a k ca, Value.int IntKind.i64 ↑k, Value.int IntKind.i64 (↑k - 1), Value.int IntKind.i64 (-1), Value.bool false, u52, u53, u54, u55, u56, u57, u58, u59, u60, u61, u62, u63, u64, u65, u66, u67, u68, u69, u70, u71, u72, u73, u74, Value.pointer (some ⟨TB, 0, none⟩), Value.int IntKind.i64 ↑j, Value.bool false, u78, u79, u80, u81, u82, u83, u84, u85, u86, u87, u88, u89, u90, u91, u92, u93, u94, u95, u96, u97, u98, u99, u100, u101, u102, u103, u104, u105, u106, u107, u108, u109, u110, u111, u112, u113, u114, u115, u116, u117, u118, u119, u120, u121, u122, Value.slice a k ca, Value.int IntKind.i64 ↑k, Value.int IntKind.i64 ↑k, Value.bool false, u127, u128, u129, u130, u131, u132, u133, u134, u135, u136, u137, u138, u139, u140, u141, u142, Value.tuple #[Value.agg #[Value.int IntKind.u64 ↑VN, Value.int IntKind.i64 0], Value.int IntKind.i64 0], Value.slice aV LV cV, Value.tuple #[Value.agg #[Value.int IntKind.u64 ↑VN, Value.int IntKind.i64 0], Value.int IntKind.i64 0], Value.agg #[Value.int IntKind.u64 ↑VN, Value.int IntKind.i64 0], Value.int IntKind.i64 0, (if listed.getD 0 false = true then Value.pointer (some ⟨TB, 0, none⟩) else undef), (if listed.getD 1 false = true then Value.pointer (some ⟨w.heap.size, 0, none⟩) else undef), (if listed.getD 2 false = true then Value.bool true else undef), (if listed.getD 3 false = true then Value.bool true else undef), (if listed.getD 4 false = true then Value.pointer (some ⟨w.heap.size, 0, none⟩) else undef), (if listed.getD 5 false = true then Value.pointer (some ⟨TB, 0, none⟩) else undef), (if listed.getD 6 false = true then Value.bool true else undef), (if listed.getD 7 false = true then Value.bool true else undef), (if listed.getD 8 false = true then Value.bool true else undef), (if listed.getD 9 false = true then Value.pointer (some ⟨TB, 0, none⟩) else undef), (if listed.getD 10 false = true then Value.int IntKind.u64 ↑VN else undef), (if listed.getD 11 false = true then Value.pointer (some ⟨w.heap.size, 0, none⟩) else undef), (if listed.getD 12 false = true then Value.int IntKind.u64 ↑VN else undef), (if listed.getD 13 false = true then Value.bool true else undef), (if listed.getD 14 false = true then Value.bool true else undef), (if listed.getD 15 false = true then Value.bool true else undef), (if listed.getD 16 false = true then Value.int IntKind.i64 0 else undef), (if listed.getD 17 false = true then Value.bool true else undef), (if listed.getD 18 false = true then Value.bool true else undef), (if listed.getD 19 false = true then Value.bool true else undef), (if listed.getD 20 false = true then Value.pointer (some ⟨w7.heap.size, 0, none⟩) else undef), (if listed.getD 21 false = true then Value.int IntKind.u64 ↑VN else undef), (if listed.getD 22 false = true then Value.pointer (some ⟨w.heap.size, 0, none⟩) else undef), (if listed.getD 23 false = true then Value.int IntKind.u64 ↑VN else undef), (if listed.getD 24 false = true then Value.bool true else undef), (if listed.getD 25 false = true then Value.bool true else undef), (if listed.getD 26 false = true then Value.bool true else undef), (if listed.getD 27 false = true then Value.bool true else undef), (if listed.getD 28 false = true then Value.bool true else undef)], []⟩) (hup_check (by kernel_rfl)) ?h0 ?step ?fin
                      case h0 => exact ⟨(Below.refl _ _).drew, rfl⟩
                      case step =>
                        intro listed a' w' i hs hbi hdep hi ⟨IB, ha⟩
                        obtain ⟨ls⟩ := listed
                        match ls, hs with
                        | [x0, x1, x2, x3, x4, x5, x6, x7, x8, x9, x10, x11, x12, x13, x14, x15, x16, x17, x18, x19, x20, x21, x22, x23, x24, x25, x26, x27, x28, x29], _ =>
                        subst ha
                        have hi' : i = 0 ∨ i = 1 ∨ i = 2 ∨ i = 3 ∨ i = 4 ∨ i = 5 ∨ i = 6 ∨ i = 7 ∨ i = 8 ∨ i = 9 ∨ i = 10 ∨ i = 11 ∨ i = 12 ∨ i = 13 ∨ i = 14 ∨ i = 15 ∨ i = 16 ∨ i = 17 ∨ i = 18 ∨ i = 19 ∨ i = 20 ∨ i = 21 ∨ i = 22 ∨ i = 23 ∨ i = 24 ∨ i = 25 ∨ i = 26 ∨ i = 27 ∨ i = 28 ∨ i = 29 := by simp at hi; omega
                        have hsz9 : XD.heap.size ≤ w'.heap.size := IB.out.size
                        have oT := OT3.out.keep IB.out
                        have oA := KA3.out.keep IB.out
                        rcases hi' with rfl | rfl | rfl | rfl | rfl | rfl | rfl | rfl | rfl | rfl | rfl | rfl | rfl | rfl | rfl | rfl | rfl | rfl | rfl | rfl | rfl | rfl | rfl | rfl | rfl | rfl | rfl | rfl | rfl | rfl
                        · obtain rfl : x0 = false := by simpa using hbi
                          refine wpOpIn_plain rfl rfl rfl ?_
                          exact ⟨IB, rfl⟩
                        · obtain rfl : x1 = false := by simpa using hbi
                          refine wpOpIn_plain rfl rfl rfl ?_
                          exact ⟨IB, rfl⟩
                        · obtain rfl : x2 = false := by simpa using hbi
                          obtain rfl : x0 = true := hdep _ rfl ⟨0, .data⟩ (by simp) rfl
                          obtain rfl : x1 = true := hdep _ rfl ⟨1, .data⟩ (by simp) rfl
                          refine wpOpIn_call (args := #[Value.pointer (some ⟨TB, 0, none⟩), Value.pointer (some ⟨w.heap.size, 0, none⟩)]) rfl rfl (sem_call2 rfl rfl rfl (enters_of Try.func20 (by kernel_rfl) rfl)) (same_true oT oA HFO.out.V) ?_
                          rintro e W ⟨rfl, hb9⟩
                          exact ⟨_, rfl, (IB.out.trans (hb9.mono hsz9)), rfl⟩
                        · obtain rfl : x3 = false := by simpa using hbi
                          obtain rfl : x2 = true := hdep _ rfl ⟨2, .data⟩ (by simp) rfl
                          refine wpOpIn_plain rfl rfl rfl ?_
                          exact ⟨IB, rfl⟩
                        · obtain rfl : x4 = false := by simpa using hbi
                          obtain rfl : x3 = true := hdep _ rfl ⟨3, .guard⟩ (by simp) rfl
                          refine wpOpIn_plainG rfl (by first | rfl | simp [Region.wanted, yielded]) rfl ?_
                          exact ⟨IB, rfl⟩
                        · obtain rfl : x5 = false := by simpa using hbi
                          obtain rfl : x3 = true := hdep _ rfl ⟨3, .guard⟩ (by simp) rfl
                          refine wpOpIn_plainG rfl (by first | rfl | simp [Region.wanted, yielded]) rfl ?_
                          exact ⟨IB, rfl⟩
                        · obtain rfl : x6 = false := by simpa using hbi
                          obtain rfl : x4 = true := hdep _ rfl ⟨4, .data⟩ (by simp) rfl
                          obtain rfl : x5 = true := hdep _ rfl ⟨5, .data⟩ (by simp) rfl
                          obtain rfl : x3 = true := hdep _ rfl ⟨3, .guard⟩ (by simp) rfl
                          refine wpOpIn_callG (args := #[Value.pointer (some ⟨w.heap.size, 0, none⟩), Value.pointer (some ⟨TB, 0, none⟩)]) rfl (by first | rfl | simp [Region.wanted, yielded]) (sem_call2 rfl rfl rfl (enters_of Try.func20 (by kernel_rfl) rfl)) (same_true oA oT HFO.out.V) ?_
                          rintro e W ⟨rfl, hb9⟩
                          exact ⟨_, rfl, (IB.out.trans (hb9.mono hsz9)), rfl⟩
                        · obtain rfl : x7 = false := by simpa using hbi
                          obtain rfl : x3 = true := hdep _ rfl ⟨3, .data⟩ (by simp) rfl
                          obtain rfl : x6 = true := hdep _ rfl ⟨6, .data⟩ (by simp) rfl
                          refine wpOpIn_plain (v := Value.bool true) (w' := w') rfl rfl (by simp [Oper.semAt, execOp, go_sem]) ?_
                          exact ⟨IB, rfl⟩
                        · obtain rfl : x8 = false := by simpa using hbi
                          obtain rfl : x7 = true := hdep _ rfl ⟨7, .data⟩ (by simp) rfl
                          refine wpOpIn_plain rfl rfl rfl ?_
                          exact ⟨IB, rfl⟩
                        · obtain rfl : x9 = false := by simpa using hbi
                          obtain rfl : x8 = true := hdep _ rfl ⟨8, .guard⟩ (by simp) rfl
                          refine wpOpIn_plainG rfl (by first | rfl | simp [Region.wanted, yielded]) rfl ?_
                          exact ⟨IB, rfl⟩
                        · obtain rfl : x10 = false := by simpa using hbi
                          obtain rfl : x9 = true := hdep _ rfl ⟨9, .data⟩ (by simp) rfl
                          obtain rfl : x8 = true := hdep _ rfl ⟨8, .guard⟩ (by simp) rfl
                          have hv9 := val_ok oT HFO.out HFL.out (by have := HN.out; omega)
                          rw [← HVN.out] at hv9
                          refine wpOpIn_callG (args := #[Value.pointer (some ⟨TB, 0, none⟩)]) rfl (by first | rfl | simp [Region.wanted, yielded]) (sem_call1 rfl rfl (enters_of Try.func15 (by kernel_rfl) rfl)) hv9 ?_
                          rintro e W ⟨rfl, hb9⟩
                          exact ⟨_, rfl, (IB.out.trans (hb9.mono hsz9)), rfl⟩
                        · obtain rfl : x11 = false := by simpa using hbi
                          obtain rfl : x8 = true := hdep _ rfl ⟨8, .guard⟩ (by simp) rfl
                          refine wpOpIn_plainG rfl (by first | rfl | simp [Region.wanted, yielded]) rfl ?_
                          exact ⟨IB, rfl⟩
                        · obtain rfl : x12 = false := by simpa using hbi
                          obtain rfl : x11 = true := hdep _ rfl ⟨11, .data⟩ (by simp) rfl
                          obtain rfl : x8 = true := hdep _ rfl ⟨8, .guard⟩ (by simp) rfl
                          have hv9 := val_ok oA HFO.out HFL.out (by have := HN.out; omega)
                          rw [← HVN.out] at hv9
                          refine wpOpIn_callG (args := #[Value.pointer (some ⟨w.heap.size, 0, none⟩)]) rfl (by first | rfl | simp [Region.wanted, yielded]) (sem_call1 rfl rfl (enters_of Try.func15 (by kernel_rfl) rfl)) hv9 ?_
                          rintro e W ⟨rfl, hb9⟩
                          exact ⟨_, rfl, (IB.out.trans (hb9.mono hsz9)), rfl⟩
                        · obtain rfl : x13 = false := by simpa using hbi
                          obtain rfl : x10 = true := hdep _ rfl ⟨10, .data⟩ (by simp) rfl
                          obtain rfl : x12 = true := hdep _ rfl ⟨12, .data⟩ (by simp) rfl
                          obtain rfl : x8 = true := hdep _ rfl ⟨8, .guard⟩ (by simp) rfl
                          refine wpOpIn_plainG (v := Value.bool true) (w' := w') rfl (by first | rfl | simp [Region.wanted, yielded]) (by simp [Oper.semAt, execOp, go_sem]) ?_
                          exact ⟨IB, rfl⟩
                        · obtain rfl : x14 = false := by simpa using hbi
                          obtain rfl : x8 = true := hdep _ rfl ⟨8, .data⟩ (by simp) rfl
                          obtain rfl : x13 = true := hdep _ rfl ⟨13, .data⟩ (by simp) rfl
                          refine wpOpIn_plain (v := Value.bool true) (w' := w') rfl rfl (by simp [Oper.semAt, execOp, go_sem]) ?_
                          exact ⟨IB, rfl⟩
                        · obtain rfl : x15 = false := by simpa using hbi
                          obtain rfl : x14 = true := hdep _ rfl ⟨14, .data⟩ (by simp) rfl
                          refine wpOpIn_plain rfl rfl rfl ?_
                          exact ⟨IB, rfl⟩
                        · obtain rfl : x16 = false := by simpa using hbi
                          obtain rfl : x15 = true := hdep _ rfl ⟨15, .guard⟩ (by simp) rfl
                          refine wpOpIn_plainG rfl (by first | rfl | simp [Region.wanted, yielded]) rfl ?_
                          exact ⟨IB, rfl⟩
                        · obtain rfl : x17 = false := by simpa using hbi
                          obtain rfl : x16 = true := hdep _ rfl ⟨16, .data⟩ (by simp) rfl
                          obtain rfl : x15 = true := hdep _ rfl ⟨15, .guard⟩ (by simp) rfl
                          refine wpOpIn_plainG (v := Value.bool true) (w' := w') rfl (by first | rfl | simp [Region.wanted, yielded]) (by simp [Oper.semAt, execOp, go_sem]) ?_
                          exact ⟨IB, rfl⟩
                        · obtain rfl : x18 = false := by simpa using hbi
                          obtain rfl : x15 = true := hdep _ rfl ⟨15, .data⟩ (by simp) rfl
                          obtain rfl : x17 = true := hdep _ rfl ⟨17, .data⟩ (by simp) rfl
                          refine wpOpIn_plain (v := Value.bool true) (w' := w') rfl rfl (by simp [Oper.semAt, execOp, go_sem]) ?_
                          exact ⟨IB, rfl⟩
                        · obtain rfl : x19 = false := by simpa using hbi
                          obtain rfl : x18 = true := hdep _ rfl ⟨18, .data⟩ (by simp) rfl
                          refine wpOpIn_plain rfl rfl rfl ?_
                          exact ⟨IB, rfl⟩
                        · obtain rfl : x20 = false := by simpa using hbi
                          obtain rfl : x19 = true := hdep _ rfl ⟨19, .guard⟩ (by simp) rfl
                          refine wpOpIn_plainG (v := Value.pointer (some ⟨w7.heap.size, 0, none⟩)) (w' := w') rfl (by first | rfl | simp [Region.wanted, yielded]) (by simp [Oper.semAt, execOp, go_sem]) ?_
                          exact ⟨IB, rfl⟩
                        · obtain rfl : x21 = false := by simpa using hbi
                          obtain rfl : x20 = true := hdep _ rfl ⟨20, .data⟩ (by simp) rfl
                          obtain rfl : x19 = true := hdep _ rfl ⟨19, .guard⟩ (by simp) rfl
                          have x9 := cellR 0 (heapB IB.out HX9.out) rfl
                          refine wpOpIn_plainG (v := Value.int IntKind.u64 ↑VN) (w' := w') rfl (by first | rfl | simp [Region.wanted, yielded]) (by simp [Oper.semAt, execOp, go_sem, x9]) ?_
                          exact ⟨IB, rfl⟩
                        · obtain rfl : x22 = false := by simpa using hbi
                          obtain rfl : x19 = true := hdep _ rfl ⟨19, .guard⟩ (by simp) rfl
                          refine wpOpIn_plainG rfl (by first | rfl | simp [Region.wanted, yielded]) rfl ?_
                          exact ⟨IB, rfl⟩
                        · obtain rfl : x23 = false := by simpa using hbi
                          obtain rfl : x22 = true := hdep _ rfl ⟨22, .data⟩ (by simp) rfl
                          obtain rfl : x19 = true := hdep _ rfl ⟨19, .guard⟩ (by simp) rfl
                          have hv9 := val_ok oA HFO.out HFL.out (by have := HN.out; omega)
                          rw [← HVN.out] at hv9
                          refine wpOpIn_callG (args := #[Value.pointer (some ⟨w.heap.size, 0, none⟩)]) rfl (by first | rfl | simp [Region.wanted, yielded]) (sem_call1 rfl rfl (enters_of Try.func15 (by kernel_rfl) rfl)) hv9 ?_
                          rintro e W ⟨rfl, hb9⟩
                          exact ⟨_, rfl, (IB.out.trans (hb9.mono hsz9)), rfl⟩
                        · obtain rfl : x24 = false := by simpa using hbi
                          obtain rfl : x21 = true := hdep _ rfl ⟨21, .data⟩ (by simp) rfl
                          obtain rfl : x23 = true := hdep _ rfl ⟨23, .data⟩ (by simp) rfl
                          obtain rfl : x19 = true := hdep _ rfl ⟨19, .guard⟩ (by simp) rfl
                          refine wpOpIn_plainG (v := Value.bool true) (w' := w') rfl (by first | rfl | simp [Region.wanted, yielded]) (by simp [Oper.semAt, execOp, go_sem]) ?_
                          exact ⟨IB, rfl⟩
                        · obtain rfl : x25 = false := by simpa using hbi
                          obtain rfl : x19 = true := hdep _ rfl ⟨19, .data⟩ (by simp) rfl
                          obtain rfl : x24 = true := hdep _ rfl ⟨24, .data⟩ (by simp) rfl
                          refine wpOpIn_plain (v := Value.bool true) (w' := w') rfl rfl (by simp [Oper.semAt, execOp, go_sem]) ?_
                          exact ⟨IB, rfl⟩
                        · obtain rfl : x26 = false := by simpa using hbi
                          obtain rfl : x25 = true := hdep _ rfl ⟨25, .data⟩ (by simp) rfl
                          refine wpOpIn_plain rfl rfl rfl ?_
                          exact ⟨IB, rfl⟩
                        · obtain rfl : x27 = false := by simpa using hbi
                          obtain rfl : x26 = true := hdep _ rfl ⟨26, .guard⟩ (by simp) rfl
                          refine wpOpIn_callG (args := #[]) rfl (by first | rfl | simp [Region.wanted, yielded]) (sem_call0 rfl (enters_of Try.func11 (by kernel_rfl) rfl)) (works_any w') ?_
                          rintro e W ⟨rfl, hb9⟩
                          exact ⟨_, rfl, (IB.out.trans (hb9.mono hsz9)), rfl⟩
                        · obtain rfl : x28 = false := by simpa using hbi
                          obtain rfl : x26 = true := hdep _ rfl ⟨26, .data⟩ (by simp) rfl
                          obtain rfl : x27 = true := hdep _ rfl ⟨27, .data⟩ (by simp) rfl
                          refine wpOpIn_plain (v := Value.bool true) (w' := w') rfl rfl (by simp [Oper.semAt, execOp, go_sem]) ?_
                          exact ⟨IB, rfl⟩
                        · obtain rfl : x29 = false := by simpa using hbi
                          obtain rfl : x28 = true := hdep _ rfl ⟨28, .data⟩ (by simp) rfl
                          refine wpOpIn_plain rfl rfl rfl ?_
                          exact ⟨IB, rfl⟩
                      case fin =>
                      intro listed a' wz hs hall ⟨IB, ha⟩
                      obtain ⟨ls⟩ := listed
                      match ls, hs with
                      | [x0, x1, x2, x3, x4, x5, x6, x7, x8, x9, x10, x11, x12, x13, x14, x15, x16, x17, x18, x19, x20, x21, x22, x23, x24, x25, x26, x27, x28, x29], _ =>
                      obtain rfl : x0 = true := hall 0 (by simp)
                      obtain rfl : x1 = true := hall 1 (by simp)
                      obtain rfl : x2 = true := hall 2 (by simp)
                      obtain rfl : x3 = true := hall 3 (by simp)
                      obtain rfl : x4 = true := hall 4 (by simp)
                      obtain rfl : x5 = true := hall 5 (by simp)
                      obtain rfl : x6 = true := hall 6 (by simp)
                      obtain rfl : x7 = true := hall 7 (by simp)
                      obtain rfl : x8 = true := hall 8 (by simp)
                      obtain rfl : x9 = true := hall 9 (by simp)
                      obtain rfl : x10 = true := hall 10 (by simp)
                      obtain rfl : x11 = true := hall 11 (by simp)
                      obtain rfl : x12 = true := hall 12 (by simp)
                      obtain rfl : x13 = true := hall 13 (by simp)
                      obtain rfl : x14 = true := hall 14 (by simp)
                      obtain rfl : x15 = true := hall 15 (by simp)
                      obtain rfl : x16 = true := hall 16 (by simp)
                      obtain rfl : x17 = true := hall 17 (by simp)
                      obtain rfl : x18 = true := hall 18 (by simp)
                      obtain rfl : x19 = true := hall 19 (by simp)
                      obtain rfl : x20 = true := hall 20 (by simp)
                      obtain rfl : x21 = true := hall 21 (by simp)
                      obtain rfl : x22 = true := hall 22 (by simp)
                      obtain rfl : x23 = true := hall 23 (by simp)
                      obtain rfl : x24 = true := hall 24 (by simp)
                      obtain rfl : x25 = true := hall 25 (by simp)
                      obtain rfl : x26 = true := hall 26 (by simp)
                      obtain rfl : x27 = true := hall 27 (by simp)
                      obtain rfl : x28 = true := hall 28 (by simp)
                      obtain rfl : x29 = true := hall 29 (by simp)
                      subst ha
                      have hfin := KB3.out.trans (IB.out.mono KB3.out.size)
                      clear IB hall hs OT3 KA3 KB3 HX9 HVN HFO HFL
                      dsimp only [Exit.then, Exit.inBlock]
                      go_wp2_with fail
                      go_ret
                      exact ⟨rfl, hfin⟩
            · obtain ⟨n, rfl⟩ : ∃ n, m = n + 1 := ⟨m - 1, by omega⟩
              obtain rfl : z = (n : Int) := by have := HZ.out; omega
              clear HZ hm0
              by_cases hp0 : p.length = 0
              · have e3 : decide ((0 : Int) < (p.length : Int)) = false := decide_eq_false (by omega)
                have e5 : decide (0 < p.length) = false := decide_eq_false (by omega)
                have e6 : ¬ 0 < p.length := by omega
                clear hp0
                have hnl : n < l.length := by have := HN.out; omega
                obtain ⟨ga, oa, rfl, hca⟩ := (HL.out.keep KB.out).at_ (ne_nilU hnl)
                have x0 := hca n hnl
                obtain ⟨x, hx⟩ : ∃ x, x = l[n] := ⟨_, rfl⟩
                have hxs : x < 18446744073709551616 := by rw [hx]; exact HL.out.small _ (List.getElem_mem hnl)
                have HXS := Lib.hid hxs
                have HDS : Hid (fF (l.drop n) = joinF (factsN x) (fF (l.drop (n + 1)))) := by show _ = _; rw [hx]; exact drop_step n hnl
                rw [← hx] at x0
                have HX0 := Lib.hid x0
                have hnN : (n : Int) < (N : Int) := by omega
                clear hnl hca x0 hx hxs
                go_wp2_with fail
                have hkk : 0 < 4 := by decide
                refine (wpIn_wide (n := 0)).1 ?_
                refine region_det (by kernel_rfl) (I := fun listed a' w' => Hid (listed.getD 7 false = false → Below wr.heap.size wr w') ∧ Hid (listed.getD 7 false = true → AAt w' (bs 0) (joinF (f 0) (factsN x)) ∧ Sole (bs 0) wr w') ∧ Hid (listed.getD 7 false = true → listed.getD 2 false = true ∧ listed.getD 6 false = true) ∧ a' = ⟨#[Value.slice (some ⟨ga, oa, none⟩) N ca, Value.slice b p.length cb, Value.slice c q.length cc, undef, undef, undef, u6, Value.pointer (some ⟨w.heap.size, 0, none⟩), Value.bool true, Value.pointer (some ⟨w1.heap.size, 0, none⟩), u10, Value.int IntKind.i64 ↑n, Value.int IntKind.i64 0, undef, undef, undef, undef, undef, undef, undef, undef, undef, undef, undef, Value.slice (some ⟨ga, oa, none⟩) N ca, Value.int IntKind.i64 ↑N, Value.bool false, Value.bool false, Value.slice (some ⟨ga, oa, none⟩) N ca, Value.int IntKind.i64 ↑N, Value.bool false, Value.bool false, undef, Value.tuple #[Value.pointer (some ⟨w.heap.size, 0, none⟩), Value.bool true], Value.slice (some ⟨ga, oa, none⟩) N ca, Value.tuple #[Value.pointer (some ⟨w.heap.size, 0, none⟩), Value.bool true], Value.pointer (some ⟨w.heap.size, 0, none⟩), Value.bool true, Value.bool true, Value.bool false, Value.int IntKind.i64 ↑k1, Value.bool false, u42, u43, u44, u45, u46, Value.slice (some ⟨ga, oa, none⟩) N ca, Value.int IntKind.i64 ↑N, Value.int IntKind.i64 (↑N - 1), Value.int IntKind.i64 ↑n, Value.bool true, u52, u53, Value.slice b p.length cb, Value.int IntKind.i64 ↑p.length, Value.bool false, u57, u58, u59, u60, u61, u62, u63, u64, u65, (if listed.getD 0 false = true then Value.int IntKind.i64 0 else u66), (if listed.getD 1 false = true then Value.pointer (some ⟨w1.heap.size, 0, none⟩) else u67), (if listed.getD 2 false = true then Value.pointer (some ⟨(bs 0), 0, none⟩) else u68), (if listed.getD 3 false = true then Value.slice (some ⟨ga, oa, none⟩) N ca else u69), (if listed.getD 4 false = true then Value.int IntKind.i64 ↑n else u70), (if listed.getD 5 false = true then Value.pointer (some ⟨ga, (oa + n), none⟩) else u71), (if listed.getD 6 false = true then Value.int IntKind.u64 ↑x else u72), (if listed.getD 7 false = true then Value.int IntKind.i64 0 else u73), (if listed.getD 8 false = true then Value.bool false else u74), undef, undef, undef, undef, undef, undef, undef, undef, undef, undef, undef, undef, undef, undef, undef, undef, undef, undef, undef, undef, undef, undef, undef, undef, undef, undef, undef, undef, undef, undef, undef, undef, undef, undef, undef, undef, undef, undef, undef, undef, undef, undef, undef, undef, undef, undef, undef, undef, undef, undef, undef, undef, undef, undef, undef, undef, undef, undef, undef, undef, undef, undef, undef, undef, undef, undef, undef, undef, undef, undef, undef, undef, undef, undef, undef, undef, undef, undef, undef, undef, undef, undef, undef, undef, undef, undef, undef, undef, undef, undef, undef, undef, undef, undef, undef, undef, undef, undef, undef, undef, undef, undef], []⟩) (hup_check (by kernel_rfl)) ?h0 ?step ?fin
                case h0 => exact ⟨(fun _ => (Below.refl _ _).drew), (fun h => by simp at h), (fun h => by simp at h), rfl⟩
                case step =>
                  intro listed a' w' i hs hbi hdep hi ⟨IB, IC, J7, ha⟩
                  obtain ⟨ls⟩ := listed
                  match ls, hs with
                  | [x0, x1, x2, x3, x4, x5, x6, x7, x8], _ =>
                  subst ha
                  have hi' : i = 0 ∨ i = 1 ∨ i = 2 ∨ i = 3 ∨ i = 4 ∨ i = 5 ∨ i = 6 ∨ i = 7 ∨ i = 8 := by simp at hi; omega
                  rcases hi' with rfl | rfl | rfl | rfl | rfl | rfl | rfl | rfl | rfl
                  · obtain rfl : x0 = false := by simpa using hbi
                    refine wpOpIn_plain rfl rfl rfl ?_
                    exact ⟨IB, IC, J7, rfl⟩
                  · obtain rfl : x1 = false := by simpa using hbi
                    obtain rfl : x0 = true := hdep _ rfl ⟨0, .data⟩ (by simp) rfl
                    refine wpOpIn_plain (v := Value.pointer (some ⟨w1.heap.size, 0, none⟩)) (w' := w') rfl rfl (by simp [Oper.semAt, execOp, go_sem]) ?_
                    exact ⟨IB, IC, J7, rfl⟩
                  · obtain rfl : x2 = false := by simpa using hbi
                    obtain rfl : x1 = true := hdep _ rfl ⟨1, .data⟩ (by simp) rfl
                    obtain rfl : x7 = false := Bool.eq_false_iff.2 fun h => by have := (J7.out h).1; cases this
                    have bx := IB.out rfl
                    have c0 := kcell bx (HT.out.cell 0 hkk)
                    refine wpOpIn_plain (v := Value.pointer (some ⟨(bs 0), 0, none⟩)) (w' := w') rfl rfl (by simp [Oper.semAt, execOp, go_sem, c0]) ?_
                    exact ⟨IB, IC, (fun h => ⟨rfl, (J7.out h).2⟩), rfl⟩
                  · obtain rfl : x3 = false := by simpa using hbi
                    refine wpOpIn_plain rfl rfl rfl ?_
                    exact ⟨IB, IC, J7, rfl⟩
                  · obtain rfl : x4 = false := by simpa using hbi
                    refine wpOpIn_plain rfl rfl rfl ?_
                    exact ⟨IB, IC, J7, rfl⟩
                  · obtain rfl : x5 = false := by simpa using hbi
                    obtain rfl : x3 = true := hdep _ rfl ⟨3, .data⟩ (by simp) rfl
                    obtain rfl : x4 = true := hdep _ rfl ⟨4, .data⟩ (by simp) rfl
                    refine wpOpIn_plain (v := Value.pointer (some ⟨ga, (oa + n), none⟩)) (w' := w') rfl rfl (by simp [Oper.semAt, execOp, go_sem, hnN]) ?_
                    exact ⟨IB, IC, J7, rfl⟩
                  · obtain rfl : x6 = false := by simpa using hbi
                    obtain rfl : x5 = true := hdep _ rfl ⟨5, .data⟩ (by simp) rfl
                    obtain rfl : x7 = false := Bool.eq_false_iff.2 fun h => by have := (J7.out h).2; cases this
                    have bx := IB.out rfl
                    have x0 := kcell bx HX0.out
                    refine wpOpIn_plain (v := Value.int IntKind.u64 ↑x) (w' := w') rfl rfl (by simp [Oper.semAt, execOp, go_sem, x0]) ?_
                    exact ⟨IB, IC, (fun h => ⟨(J7.out h).1, rfl⟩), rfl⟩
                  · obtain rfl : x7 = false := by simpa using hbi
                    obtain rfl : x2 = true := hdep _ rfl ⟨2, .data⟩ (by simp) rfl
                    obtain rfl : x6 = true := hdep _ rfl ⟨6, .data⟩ (by simp) rfl
                    have bx := IB.out rfl
                    have hfk := HG.out 0 hkk
                    have ad := add_ok ((HT.out.acc 0 hkk).keep bx) hfk.1 HXS.out hfk.2.2 (by omega)
                    refine wpOpIn_call (args := #[Value.pointer (some ⟨(bs 0), 0, none⟩), Value.int IntKind.u64 ↑x]) rfl rfl (sem_call2 rfl rfl rfl (enters_of Try.func18 (by kernel_rfl) rfl)) ad ?_
                    rintro e W ⟨rfl, hA9, hS9⟩
                    exact ⟨_, rfl, (fun h => by cases h), (fun _ => ⟨hA9, (Sole.of_below bx).trans hS9⟩), (fun _ => ⟨rfl, rfl⟩), rfl⟩
                  · obtain rfl : x8 = false := by simpa using hbi
                    obtain rfl : x7 = true := hdep _ rfl ⟨7, .data⟩ (by simp) rfl
                    refine wpOpIn_plain (v := Value.bool false) (w' := w') rfl rfl (by simp [Oper.semAt, execOp, go_sem]) ?_
                    exact ⟨IB, IC, J7, rfl⟩
                case fin =>
                intro listed a' wz hs hall ⟨IB, IC, J7, ha⟩
                obtain ⟨ls⟩ := listed
                match ls, hs with
                | [x0, x1, x2, x3, x4, x5, x6, x7, x8], _ =>
                obtain rfl : x0 = true := hall 0 (by simp)
                obtain rfl : x1 = true := hall 1 (by simp)
                obtain rfl : x2 = true := hall 2 (by simp)
                obtain rfl : x3 = true := hall 3 (by simp)
                obtain rfl : x4 = true := hall 4 (by simp)
                obtain rfl : x5 = true := hall 5 (by simp)
                obtain rfl : x6 = true := hall 6 (by simp)
                obtain rfl : x7 = true := hall 7 (by simp)
                obtain rfl : x8 = true := hall 8 (by simp)
                subst ha
                have hfin := IC.out rfl
                have HT9 := Lib.hid (HT.out.up hkk hfin.2 hfin.1)
                have HJ9 : Hid (J4 (up f 0 (factsN x)) = fF (l.drop n)) := by show _ = _; rw [J4_up f 0 hkk, HJ.out, HDS.out]
                have HG9 : Hid (Good4 (up f 0 (factsN x)) (N - n)) := by show Good4 _ _; rw [show N - n = N - (n + 1) + 1 by omega]; exact good_up HG.out HXS.out (by omega)
                have HA9 := Lib.hid (hfin.2.keepA KA.out (by have := HT.out.lo 0 hkk; omega))
                have HB9 := Lib.hid (KB.out.trans (hfin.2.below (by have := HT.out.lo 0 hkk; omega) KB.out.size))
                clear IB IC J7 hfin hall hs HT HJ HG KA KB HXS HDS HX0
                dsimp only [Exit.then, Exit.inBlock]
                go_wp2_with fail
                go_round
                case rel => exact ⟨n, (n : Int) - 1, by omega, rfl, (by show _ = _; omega), _, HT9, HJ9, HG9, HA9, HB9⟩
                case measure => first | (simp [intOf]; done) | (simp [intOf]; omega)
              · have e3 : decide ((0 : Int) < (p.length : Int)) = true := decide_eq_true (by omega)
                have e6 : 0 < p.length := by omega
                have e7 : (0 : Int) < (p.length : Int) := by omega
                have e5 : decide (0 < p.length) = true := decide_eq_true e6
                have e5 : decide (0 < p.length) = true := decide_eq_true (by omega)
                have hpl : n % p.length < p.length := Nat.mod_lt _ (by omega)
                obtain ⟨gp, op, hcp, hpc⟩ := (HP.out.keep KB.out).at_ (by intro e; rw [e] at e6; exact absurd e6 (Nat.lt_irrefl 0))
                have y0 := hpc (n % p.length) hpl
                obtain ⟨iy, hiy⟩ : ∃ i, i = n % p.length := ⟨_, rfl⟩
                obtain ⟨y, hy⟩ : ∃ y, y = p[n % p.length] := ⟨_, rfl⟩
                have hy256 : y < 256 := by rw [hy]; exact HP.out.small _ (List.getElem_mem _)
                rw [← hy, ← hiy] at y0
                have hmod : (n : Int) % (p.length : Int) = (iy : Int) := by rw [hiy, Int.natCast_emod]
                have hiyl : (iy : Int) < (p.length : Int) := by omega
                obtain ⟨kk, hkd⟩ : ∃ k, k = y % 4 := ⟨_, rfl⟩
                have hkk : kk < 4 := by omega
                have hmod4 : (y : Int) % 4 = (kk : Int) := by omega
                have hkki : (kk : Int) < 4 := by omega
                subst hcp
                clear hpc hy hiy hpl hkd hp0
                have hnl : n < l.length := by have := HN.out; omega
                obtain ⟨ga, oa, rfl, hca⟩ := (HL.out.keep KB.out).at_ (ne_nilU hnl)
                have x0 := hca n hnl
                obtain ⟨x, hx⟩ : ∃ x, x = l[n] := ⟨_, rfl⟩
                have hxs : x < 18446744073709551616 := by rw [hx]; exact HL.out.small _ (List.getElem_mem hnl)
                have HXS := Lib.hid hxs
                have HDS : Hid (fF (l.drop n) = joinF (factsN x) (fF (l.drop (n + 1)))) := by show _ = _; rw [hx]; exact drop_step n hnl
                rw [← hx] at x0
                have HX0 := Lib.hid x0
                have hnN : (n : Int) < (N : Int) := by omega
                clear hnl hca x0 hx hxs
                go_wp2_with fail
                refine (wpIn_wide (n := 0)).1 ?_
                refine region_det (by kernel_rfl) (I := fun listed a' w' => Hid (listed.getD 7 false = false → Below wr.heap.size wr w') ∧ Hid (listed.getD 7 false = true → AAt w' (bs kk) (joinF (f kk) (factsN x)) ∧ Sole (bs kk) wr w') ∧ Hid (listed.getD 7 false = true → listed.getD 2 false = true ∧ listed.getD 6 false = true) ∧ a' = ⟨#[Value.slice (some ⟨ga, oa, none⟩) N ca, Value.slice (some ⟨gp, op, none⟩) p.length cb, Value.slice c q.length cc, undef, undef, undef, u6, Value.pointer (some ⟨w.heap.size, 0, none⟩), Value.bool true, Value.pointer (some ⟨w1.heap.size, 0, none⟩), u10, Value.int IntKind.i64 ↑n, Value.int IntKind.i64 ↑kk, undef, undef, undef, undef, undef, undef, undef, undef, undef, undef, undef, Value.slice (some ⟨ga, oa, none⟩) N ca, Value.int IntKind.i64 ↑N, Value.bool false, Value.bool false, Value.slice (some ⟨ga, oa, none⟩) N ca, Value.int IntKind.i64 ↑N, Value.bool false, Value.bool false, undef, Value.tuple #[Value.pointer (some ⟨w.heap.size, 0, none⟩), Value.bool true], Value.slice (some ⟨ga, oa, none⟩) N ca, Value.tuple #[Value.pointer (some ⟨w.heap.size, 0, none⟩), Value.bool true], Value.pointer (some ⟨w.heap.size, 0, none⟩), Value.bool true, Value.bool true, Value.bool false, Value.int IntKind.i64 ↑k1, Value.bool false, u42, u43, u44, u45, u46, Value.slice (some ⟨ga, oa, none⟩) N ca, Value.int IntKind.i64 ↑N, Value.int IntKind.i64 (↑N - 1), Value.int IntKind.i64 ↑n, Value.bool true, u52, u53, Value.slice (some ⟨gp, op, none⟩) p.length cb, Value.int IntKind.i64 ↑p.length, Value.bool true, Value.slice (some ⟨gp, op, none⟩) p.length cb, Value.int IntKind.i64 ↑n, Value.slice (some ⟨gp, op, none⟩) p.length cb, Value.int IntKind.i64 ↑p.length, Value.int IntKind.i64 (↑n % ↑p.length), Value.pointer (some ⟨gp, (op + iy), none⟩), Value.int IntKind.u8 ↑y, Value.int IntKind.u8 (↑y % 4), Value.int IntKind.i64 ↑kk, (if listed.getD 0 false = true then Value.int IntKind.i64 ↑kk else u66), (if listed.getD 1 false = true then Value.pointer (some ⟨w1.heap.size, kk, none⟩) else u67), (if listed.getD 2 false = true then Value.pointer (some ⟨(bs kk), 0, none⟩) else u68), (if listed.getD 3 false = true then Value.slice (some ⟨ga, oa, none⟩) N ca else u69), (if listed.getD 4 false = true then Value.int IntKind.i64 ↑n else u70), (if listed.getD 5 false = true then Value.pointer (some ⟨ga, (oa + n), none⟩) else u71), (if listed.getD 6 false = true then Value.int IntKind.u64 ↑x else u72), (if listed.getD 7 false = true then Value.int IntKind.i64 0 else u73), (if listed.getD 8 false = true then Value.bool false else u74), undef, undef, undef, undef, undef, undef, undef, undef, undef, undef, undef, undef, undef, undef, undef, undef, undef, undef, undef, undef, undef, undef, undef, undef, undef, undef, undef, undef, undef, undef, undef, undef, undef, undef, undef, undef, undef, undef, undef, undef, undef, undef, undef, undef, undef, undef, undef, undef, undef, undef, undef, undef, undef, undef, undef, undef, undef, undef, undef, undef, undef, undef, undef, undef, undef, undef, undef, undef, undef, undef, undef, undef, undef, undef, undef, undef, undef, undef, undef, undef, undef, undef, undef, undef, undef, undef, undef, undef, undef, undef, undef, undef, undef, undef, undef, undef, undef, undef, undef, undef, undef, undef], []⟩) (hup_check (by kernel_rfl)) ?h0 ?step ?fin
                case h0 => exact ⟨(fun _ => (Below.refl _ _).drew), (fun h => by simp at h), (fun h => by simp at h), rfl⟩
                case step =>
                  intro listed a' w' i hs hbi hdep hi ⟨IB, IC, J7, ha⟩
                  obtain ⟨ls⟩ := listed
                  match ls, hs with
                  | [x0, x1, x2, x3, x4, x5, x6, x7, x8], _ =>
                  subst ha
                  have hi' : i = 0 ∨ i = 1 ∨ i = 2 ∨ i = 3 ∨ i = 4 ∨ i = 5 ∨ i = 6 ∨ i = 7 ∨ i = 8 := by simp at hi; omega
                  rcases hi' with rfl | rfl | rfl | rfl | rfl | rfl | rfl | rfl | rfl
                  · obtain rfl : x0 = false := by simpa using hbi
                    refine wpOpIn_plain rfl rfl rfl ?_
                    exact ⟨IB, IC, J7, rfl⟩
                  · obtain rfl : x1 = false := by simpa using hbi
                    obtain rfl : x0 = true := hdep _ rfl ⟨0, .data⟩ (by simp) rfl
                    refine wpOpIn_plain (v := Value.pointer (some ⟨w1.heap.size, kk, none⟩)) (w' := w') rfl rfl (by simp [Oper.semAt, execOp, go_sem, hkki]) ?_
                    exact ⟨IB, IC, J7, rfl⟩
                  · obtain rfl : x2 = false := by simpa using hbi
                    obtain rfl : x1 = true := hdep _ rfl ⟨1, .data⟩ (by simp) rfl
                    obtain rfl : x7 = false := Bool.eq_false_iff.2 fun h => by have := (J7.out h).1; cases this
                    have bx := IB.out rfl
                    have c0 := kcell bx (HT.out.cell kk hkk)
                    refine wpOpIn_plain (v := Value.pointer (some ⟨(bs kk), 0, none⟩)) (w' := w') rfl rfl (by simp [Oper.semAt, execOp, go_sem, c0]) ?_
                    exact ⟨IB, IC, (fun h => ⟨rfl, (J7.out h).2⟩), rfl⟩
                  · obtain rfl : x3 = false := by simpa using hbi
                    refine wpOpIn_plain rfl rfl rfl ?_
                    exact ⟨IB, IC, J7, rfl⟩
                  · obtain rfl : x4 = false := by simpa using hbi
                    refine wpOpIn_plain rfl rfl rfl ?_
                    exact ⟨IB, IC, J7, rfl⟩
                  · obtain rfl : x5 = false := by simpa using hbi
                    obtain rfl : x3 = true := hdep _ rfl ⟨3, .data⟩ (by simp) rfl
                    obtain rfl : x4 = true := hdep _ rfl ⟨4, .data⟩ (by simp) rfl
                    refine wpOpIn_plain (v := Value.pointer (some ⟨ga, (oa + n), none⟩)) (w' := w') rfl rfl (by simp [Oper.semAt, execOp, go_sem, hnN]) ?_
                    exact ⟨IB, IC, J7, rfl⟩
                  · obtain rfl : x6 = false := by simpa using hbi
                    obtain rfl : x5 = true := hdep _ rfl ⟨5, .data⟩ (by simp) rfl
                    obtain rfl : x7 = false := Bool.eq_false_iff.2 fun h => by have := (J7.out h).2; cases this
                    have bx := IB.out rfl
                    have x0 := kcell bx HX0.out
                    refine wpOpIn_plain (v := Value.int IntKind.u64 ↑x) (w' := w') rfl rfl (by simp [Oper.semAt, execOp, go_sem, x0]) ?_
                    exact ⟨IB, IC, (fun h => ⟨(J7.out h).1, rfl⟩), rfl⟩
                  · obtain rfl : x7 = false := by simpa using hbi
                    obtain rfl : x2 = true := hdep _ rfl ⟨2, .data⟩ (by simp) rfl
                    obtain rfl : x6 = true := hdep _ rfl ⟨6, .data⟩ (by simp) rfl
                    have bx := IB.out rfl
                    have hfk := HG.out kk hkk
                    have ad := add_ok ((HT.out.acc kk hkk).keep bx) hfk.1 HXS.out hfk.2.2 (by omega)
                    refine wpOpIn_call (args := #[Value.pointer (some ⟨(bs kk), 0, none⟩), Value.int IntKind.u64 ↑x]) rfl rfl (sem_call2 rfl rfl rfl (enters_of Try.func18 (by kernel_rfl) rfl)) ad ?_
                    rintro e W ⟨rfl, hA9, hS9⟩
                    exact ⟨_, rfl, (fun h => by cases h), (fun _ => ⟨hA9, (Sole.of_below bx).trans hS9⟩), (fun _ => ⟨rfl, rfl⟩), rfl⟩
                  · obtain rfl : x8 = false := by simpa using hbi
                    obtain rfl : x7 = true := hdep _ rfl ⟨7, .data⟩ (by simp) rfl
                    refine wpOpIn_plain (v := Value.bool false) (w' := w') rfl rfl (by simp [Oper.semAt, execOp, go_sem]) ?_
                    exact ⟨IB, IC, J7, rfl⟩
                case fin =>
                intro listed a' wz hs hall ⟨IB, IC, J7, ha⟩
                obtain ⟨ls⟩ := listed
                match ls, hs with
                | [x0, x1, x2, x3, x4, x5, x6, x7, x8], _ =>
                obtain rfl : x0 = true := hall 0 (by simp)
                obtain rfl : x1 = true := hall 1 (by simp)
                obtain rfl : x2 = true := hall 2 (by simp)
                obtain rfl : x3 = true := hall 3 (by simp)
                obtain rfl : x4 = true := hall 4 (by simp)
                obtain rfl : x5 = true := hall 5 (by simp)
                obtain rfl : x6 = true := hall 6 (by simp)
                obtain rfl : x7 = true := hall 7 (by simp)
                obtain rfl : x8 = true := hall 8 (by simp)
                subst ha
                have hfin := IC.out rfl
                have HT9 := Lib.hid (HT.out.up hkk hfin.2 hfin.1)
                have HJ9 : Hid (J4 (up f kk (factsN x)) = fF (l.drop n)) := by show _ = _; rw [J4_up f kk hkk, HJ.out, HDS.out]
                have HG9 : Hid (Good4 (up f kk (factsN x)) (N - n)) := by show Good4 _ _; rw [show N - n = N - (n + 1) + 1 by omega]; exact good_up HG.out HXS.out (by omega)
                have HA9 := Lib.hid (hfin.2.keepA KA.out (by have := HT.out.lo kk hkk; omega))
                have HB9 := Lib.hid (KB.out.trans (hfin.2.below (by have := HT.out.lo kk hkk; omega) KB.out.size))
                clear IB IC J7 hfin hall hs HT HJ HG KA KB HXS HDS HX0
                dsimp only [Exit.then, Exit.inBlock]
                go_wp2_with fail
                go_round
                case rel => exact ⟨n, (n : Int) - 1, by omega, rfl, (by show _ = _; omega), _, HT9, HJ9, HG9, HA9, HB9⟩
                case measure => first | (simp [intOf]; done) | (simp [intOf]; omega)
end Go.Proofs.Ytjcdnaandbockaa

namespace Go.Proofs.Ytjcdnaandbockaa
open Go.ChangeShapes Go.WideShapes Go.ChangeAt Go.RowKit
set_option maxRecDepth 100000

theorem uls_of_trod {H : Type} {enc : TypeId × Value → H} {W : World} {x : Option Addr} {len cap : Nat} {d : DataW H} {ps : List MemPlace} (h : DataW.Trod enc Try.prog W 0 (fun _ => true) true 48 (.slice x len cap) d ps) :
    ∃ l : List Nat, l.length = len ∧ len ≤ cap ∧ Uls W x l := by
  obtain ⟨fuel, hf⟩ := h
  rcases open_ints Try.underlying48 Try.underlying33 (show Try.prog.cellsOf 33 = 1 by kernel_rfl) hf with ⟨hcs, hx⟩ | ⟨a, len', cap', zs, hcs, _, hl, hm, hz, hx, hcell, hwz⟩
  · have e : (Value.slice x len cap) = .slice none 0 0 := by simpa [Value.cells] using hcs
    cases e
    exact ⟨[], rfl, Nat.le_refl _, ⟨by simp, (fun y hy => by cases hy), fun hl => absurd rfl hl⟩⟩
  · have e : (Value.slice x len cap) = .slice (some a) len' cap' := by simpa [Value.cells] using hcs
    cases e
    simp only [if_true] at hz
    have hpos : ∀ z ∈ zs, 0 ≤ z ∧ z < 18446744073709551616 := by
      intro z hz9
      have := hwz z hz9
      simp only [Lit.wf, Bool.and_eq_true, decide_eq_true_eq] at this
      have h1 : IntKind.u64.min = 0 := by decide
      have h2 : IntKind.u64.max = 18446744073709551616 - 1 := by decide
      omega
    refine ⟨(zs.take len).map Int.toNat, by simp; omega, hl, ⟨by simp; unfold maxLen at hm; omega, fun y hy => ?_, fun hne => ?_⟩⟩
    · obtain ⟨z, hz9, rfl⟩ := List.mem_map.1 hy
      have := hpos z (List.mem_of_mem_take hz9)
      omega
    · have hp : 0 < zs.length := by
        cases zs with
        | nil => simp at hne
        | cons _ _ => simp
      obtain ⟨b, off, rfl, hc⟩ := ints_at hcell hp
      refine ⟨b, off, rfl, fun j hj => ?_⟩
      have hj2 : j < zs.length := by simp at hj; omega
      have := hpos _ (List.getElem_mem hj2)
      rw [hc j hj2]
      simp [List.getD, hj2]
      omega

theorem u8l_of_trod {H : Type} {enc : TypeId × Value → H} {W : World} {x : Option Addr} {len cap : Nat} {d : DataW H} {ps : List MemPlace} (h : DataW.Trod enc Try.prog W 0 (fun _ => true) true 22 (.slice x len cap) d ps)
    (hs : ∀ es sp, d = .slice es sp → (es.length + sp.length) * Try.prog.bytesOf 5 ≤ reachBytes) :
    ∃ l : List Nat, l.length = len ∧ len ≤ cap ∧ U8l W x l := by
  obtain ⟨fuel, hf⟩ := h
  rcases open_ints Try.underlying22 Try.underlying5 (show Try.prog.cellsOf 5 = 1 by kernel_rfl) hf with ⟨hcs, hx⟩ | ⟨a, len', cap', zs, hcs, _, hl, hm, hz, hx, hcell, hwz⟩
  · have e : (Value.slice x len cap) = .slice none 0 0 := by simpa [Value.cells] using hcs
    cases e
    exact ⟨[], rfl, Nat.le_refl _, ⟨by simp, (fun y hy => by cases hy), fun hl => absurd rfl hl⟩⟩
  · have e : (Value.slice x len cap) = .slice (some a) len' cap' := by simpa [Value.cells] using hcs
    cases e
    simp only [if_true] at hz
    have hd := hs (lits .u8 (zs.take len)) (lits .u8 (zs.drop len)) (by simpa using congrArg Prod.fst hx)
    rw [show Try.prog.bytesOf 5 = 1 by kernel_rfl] at hd
    simp only [lits, List.length_map, List.length_take, List.length_drop, reachBytes] at hd
    have hpos : ∀ z ∈ zs, 0 ≤ z ∧ z < 256 := by
      intro z hz9
      have := hwz z hz9
      simp only [Lit.wf, Bool.and_eq_true, decide_eq_true_eq] at this
      have h1 : IntKind.u8.min = 0 := by decide
      have h2 : IntKind.u8.max = 256 - 1 := by decide
      omega
    refine ⟨(zs.take len).map Int.toNat, by simp; omega, hl, ⟨by simp; omega, fun y hy => ?_, fun hne => ?_⟩⟩
    · obtain ⟨z, hz9, rfl⟩ := List.mem_map.1 hy
      have := hpos z (List.mem_of_mem_take hz9)
      omega
    · have hp : 0 < zs.length := by
        cases zs with
        | nil => simp at hne
        | cons _ _ => simp
      obtain ⟨b, off, rfl, hc⟩ := ints_at hcell hp
      refine ⟨b, off, rfl, fun j hj => ?_⟩
      have hj2 : j < zs.length := by simp at hj; omega
      have := hpos _ (List.getElem_mem hj2)
      rw [hc j hj2]
      simp [List.getD, hj2]
      omega
end Go.Proofs.Ytjcdnaandbockaa
