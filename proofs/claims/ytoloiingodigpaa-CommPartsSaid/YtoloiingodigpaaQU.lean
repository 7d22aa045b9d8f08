import Derived.Test.YtoloiingodigpaaPC
import Derived.Test.YtoloiingodigpaaQI
import Derived.Test.YtoloiingodigpaaGD
import Derived.MapKept
import Derived.Test.YtoloiingodigpaaQN
import Derived.Test.YtoloiingodigpaaPD
namespace Go.Proofs.Ytoloiingodigpaa
open Go.RowKit Go.Shelf

/-- how many of the i places from o on are picked -/
def cntP (p : Nat → Bool) : Nat → Nat → Nat
  | _, 0 => 0
  | o, i + 1 => (if p o then 1 else 0) + cntP p (o + 1) i
theorem cntP_succ (p : Nat → Bool) : ∀ (i o : Nat), cntP p o (i + 1) = cntP p o i + if p (o + i) then 1 else 0
  | 0, o => by simp [cntP]
  | i + 1, o => by
    have := cntP_succ p i (o + 1)
    rw [cntP, this, cntP]
    rw [show o + 1 + i = o + (i + 1) by omega]
    omega
theorem cntP_le (p : Nat → Bool) : ∀ (o i : Nat), cntP p o i ≤ i
  | _, 0 => Nat.le_refl _
  | o, i + 1 => by
    have := cntP_le p (o + 1) i
    unfold cntP
    split <;> omega
theorem pick_get (p : Nat → Bool) : ∀ (xs : List Int) (o i : Nat), i < xs.length → p (o + i) = true → cntP p o i < (pickF p o xs).length ∧ (pickF p o xs).getD (cntP p o i) 0 = xs.getD i 0
  | [], o, i, h, _ => by simp at h
  | x :: xs, o, 0, _, hp => by
    have hp : p o = true := hp
    simp [pickF, cntP, hp]
  | x :: xs, o, i + 1, h, hp => by
    obtain ⟨h1, h2⟩ := pick_get p xs (o + 1) i (by simpa using h) (by rw [show o + 1 + i = o + (i + 1) by omega]; exact hp)
    unfold pickF cntP
    cases hq : p o with
    | true => simp only [if_true]; rw [Nat.add_comm 1]; exact ⟨by simpa using h1, by simpa using h2⟩
    | false => simp only [Bool.false_eq_true, if_false, Nat.zero_add]; exact ⟨h1, by simpa using h2⟩
theorem pickB_get (p : Nat → Bool) : ∀ (xs : List Bool) (o i : Nat), i < xs.length → p (o + i) = true → (pickB p o xs).getD (cntP p o i) false = xs.getD i false
  | [], o, i, h, _ => by simp at h
  | x :: xs, o, 0, _, hp => by
    have hp : p o = true := hp
    simp [pickB, cntP, hp]
  | x :: xs, o, i + 1, h, hp => by
    have h2 := pickB_get p xs (o + 1) i (by simpa using h) (by rw [show o + 1 + i = o + (i + 1) by omega]; exact hp)
    unfold pickB cntP
    cases hq : p o with
    | true => simp only [if_true]; rw [Nat.add_comm 1]; simpa using h2
    | false => simp only [Bool.false_eq_true, if_false, Nat.zero_add]; simpa using h2
theorem pick_set_in (p : Nat → Bool) : ∀ (xs : List Int) (o i : Nat) (y : Int), p (o + i) = true → pickF p o (xs.set i y) = (pickF p o xs).set (cntP p o i) y
  | [], o, i, y, _ => by simp [pickF]
  | x :: xs, o, 0, y, hp => by
    have hp : p o = true := hp
    simp [pickF, cntP, hp]
  | x :: xs, o, i + 1, y, hp => by
    have h2 := pick_set_in p xs (o + 1) i y (by rw [show o + 1 + i = o + (i + 1) by omega]; exact hp)
    rw [List.set_cons_succ]
    unfold pickF cntP
    cases hq : p o with
    | true => simp only [if_true]; rw [Nat.add_comm 1, List.set_cons_succ, h2]
    | false => simp only [Bool.false_eq_true, if_false, Nat.zero_add]; exact h2
theorem pick_set_out (p : Nat → Bool) : ∀ (xs : List Int) (o i : Nat) (y : Int), p (o + i) = false → pickF p o (xs.set i y) = pickF p o xs
  | [], o, i, y, _ => by simp
  | x :: xs, o, 0, y, hp => by
    have hp : p o = false := hp
    simp [pickF, hp]
  | x :: xs, o, i + 1, y, hp => by
    have h2 := pick_set_out p xs (o + 1) i y (by rw [show o + 1 + i = o + (i + 1) by omega]; exact hp)
    rw [List.set_cons_succ, pickF, pickF, h2]
theorem pick_digits (p : Nat → Bool) : ∀ (sz xs : List Int) (o : Nat), Digits sz xs → Digits (pickF p o sz) (pickF p o xs)
  | [], [], _, _ => trivial
  | s :: sz, x :: xs, o, h => by
    have := pick_digits p sz xs (o + 1) h.2
    unfold pickF
    split
    · exact ⟨h.1, this⟩
    · exact this
theorem pick_prod (p q : Nat → Bool) (hq : ∀ i, q i = !p i) : ∀ (l : List Int) (o : Nat), prodL (pickF p o l) * prodL (pickF q o l) = prodL l
  | [], _ => by simp [pickF, prodL]
  | s :: l, o => by
    have := pick_prod p q hq l (o + 1)
    unfold pickF
    rw [hq]
    cases p o with
    | true => simp only [Bool.not_true, if_true, Bool.false_eq_true, if_false, prodL]; rw [Int.mul_assoc, this]
    | false => simp only [Bool.not_false, if_true, Bool.false_eq_true, if_false, prodL]; rw [Int.mul_left_comm, this]
theorem pick_inj (p q : Nat → Bool) (hq : ∀ i, q i = !p i) : ∀ (xs ys : List Int) (o : Nat), xs.length = ys.length → pickF p o xs = pickF p o ys → pickF q o xs = pickF q o ys → xs = ys
  | [], [], _, _, _, _ => rfl
  | [], y :: ys, _, h, _, _ => by simp at h
  | x :: xs, [], _, h, _, _ => by simp at h
  | x :: xs, y :: ys, o, h, h1, h2 => by
    have hl : xs.length = ys.length := by simpa using h
    unfold pickF at h1 h2
    rw [hq] at h2
    cases hp : p o with
    | true =>
      simp only [hp, Bool.not_true, if_true, Bool.false_eq_true, if_false, List.cons.injEq] at h1 h2
      rw [h1.1, pick_inj p q hq xs ys (o + 1) hl h1.2 h2]
    | false =>
      simp only [hp, Bool.not_false, if_true, Bool.false_eq_true, if_false, List.cons.injEq] at h1 h2
      rw [h2.1, pick_inj p q hq xs ys (o + 1) hl h1 h2.2]

theorem pick_pos {p : Nat → Bool} {sizes : List Int} (h : ∀ s ∈ sizes, 1 ≤ s) : ∀ s ∈ pickF p 0 sizes, 1 ≤ s := fun s hs => h s (pickF_mem p sizes 0 s hs)
theorem PGrid.sub {sizes : List Int} {wrap : List Bool} {n : Int} (g : PGrid sizes wrap n) (p : Nat → Bool) : PGrid (pickF p 0 sizes) (pickB p 0 wrap) (prodL (pickF p 0 sizes)) := by
  refine ⟨pick_pos g.pos, rfl, ?_, (pick_len_eq p sizes wrap 0 g.wl.symm).symm⟩
  have h1 := pick_prod p (fun i => !p i) (fun _ => rfl) sizes 0
  have h2 := prodL_pos _ (pick_pos (p := p) g.pos)
  have h3 := prodL_pos _ (pick_pos (p := fun i => !p i) g.pos)
  have h4 := Int.mul_le_mul_of_nonneg_left h3 (show 0 ≤ prodL (pickF p 0 sizes) by omega)
  have := g.prod
  have := g.le
  omega
theorem PGrid.part {sizes : List Int} {wrap : List Bool} {n : Int} (g : PGrid sizes wrap n) (p : Nat → Bool) {r : Nat} (hr : (r : Int) < n) :
    Digits (pickF p 0 sizes) (pickF p 0 (coordsL sizes r)) ∧ partR p sizes wrap r = rankV 0 (pickF p 0 sizes) (pickF p 0 (coordsL sizes r)) := by
  have hd := (g.coords (r := r) (by omega) hr).1
  have hd2 := pick_digits p sizes _ 0 hd
  refine ⟨hd2, ?_⟩
  have gs := g.sub p
  unfold partR
  exact rankL_digits _ _ _ 0 hd2 gs.wl (Int.le_refl _) (by have := gs.le; omega) gs.pos
theorem PGrid.part_bd {sizes : List Int} {wrap : List Bool} {n : Int} (g : PGrid sizes wrap n) (p : Nat → Bool) {r : Nat} (hr : (r : Int) < n) :
    0 ≤ partR p sizes wrap r ∧ partR p sizes wrap r < prodL (pickF p 0 sizes) := by
  obtain ⟨hd, e⟩ := g.part p hr
  rw [e]
  exact (g.sub p).rankV_lt hd
theorem PGrid.part_inj {sizes : List Int} {wrap : List Bool} {n : Int} (g : PGrid sizes wrap n) (p q : Nat → Bool) (hq : ∀ i, q i = !p i) {r s : Nat} (hr : (r : Int) < n) (hs : (s : Int) < n)
    (h1 : partR p sizes wrap r = partR p sizes wrap s) (h2 : partR q sizes wrap r = partR q sizes wrap s) : r = s := by
  obtain ⟨a1, a2⟩ := g.part p hr
  obtain ⟨b1, b2⟩ := g.part p hs
  obtain ⟨c1, c2⟩ := g.part q hr
  obtain ⟨d1, d2⟩ := g.part q hs
  rw [a2, b2] at h1
  rw [c2, d2] at h2
  have e1 : pickF p 0 (coordsL sizes r) = pickF p 0 (coordsL sizes s) := by rw [← (g.sub p).coordsV a1, ← (g.sub p).coordsV b1, h1]
  have e2 : pickF q 0 (coordsL sizes r) = pickF q 0 (coordsL sizes s) := by rw [← (g.sub q).coordsV c1, ← (g.sub q).coordsV d1, h2]
  have e3 := pick_inj p q hq _ _ 0 (by rw [coordsL_len, coordsL_len]) e1 e2
  have f1 := (g.coords (r := r) (by omega) hr).2
  have f2 := (g.coords (r := s) (by omega) hs).2
  rw [e3, f2] at f1
  omega
theorem part_shift {sizes : List Int} {wrap : List Bool} {n : Int} (g : PGrid sizes wrap n) (p q : Nat → Bool) (hq : ∀ i, q i = !p i) {r : Nat} (hr : (r : Int) < n) (i : Nat) (hi : i < sizes.length) (hp : p i = true) :
    (shiftQ sizes wrap r i 1 = -2 ∧ shiftQ (pickF p 0 sizes) (pickB p 0 wrap) (partR p sizes wrap r) (cntP p 0 i) 1 = -2) ∨
    (∃ j : Nat, shiftQ sizes wrap r i 1 = j ∧ (j : Int) < n ∧ shiftQ (pickF p 0 sizes) (pickB p 0 wrap) (partR p sizes wrap r) (cntP p 0 i) 1 = partR p sizes wrap j ∧ 0 ≤ partR p sizes wrap j ∧ partR q sizes wrap j = partR q sizes wrap r) := by
  obtain ⟨hd, hv⟩ := g.coords (r := r) (by omega) hr
  obtain ⟨a1, a2⟩ := g.part p hr
  have gs := g.sub p
  have hp' : p (0 + i) = true := by rw [Nat.zero_add]; exact hp
  obtain ⟨k1, k2⟩ := pick_get p sizes 0 i hi hp'
  obtain ⟨k3, k4⟩ := pick_get p (coordsL sizes r) 0 i (by rw [coordsL_len]; exact hi) hp'
  have k5 := pickB_get p wrap 0 i (by rw [g.wl]; exact hi) hp'
  have s1 := g.shiftQ hd i hi 1
  rw [hv] at s1
  have s2 := gs.shiftQ a1 (cntP p 0 i) k1 1
  rw [← a2] at s2
  have hnear : nearL (pickF p 0 sizes) (pickB p 0 wrap) (cntP p 0 i) 1 = nearL sizes wrap i 1 := by unfold nearL; rw [k2, k5]
  rw [hnear, k2, k4, k5] at s2
  cases hn : nx (wrap.getD i false) (sizes.getD i 0) ((coordsL sizes r).getD i 0 + nearL sizes wrap i 1) with
  | none =>
    rw [hn] at s1 s2
    exact .inl ⟨s1, s2⟩
  | some y =>
    rw [hn] at s1 s2
    have hs := (g.size_le i hi).1
    have hy : 0 ≤ y ∧ y < sizes.getD i 0 := by
      unfold nx at hn
      split at hn
      · have := Option.some.inj hn; subst this
        exact ⟨Int.emod_nonneg _ (by omega), Int.emod_lt_of_pos _ (by omega)⟩
      · split at hn
        · have := Option.some.inj hn; subst this; assumption
        · cases hn
    have hd2 := hd.set i y hy.1 hy.2
    obtain ⟨v0, v1⟩ := g.rankV_lt hd2
    obtain ⟨j, hj⟩ := Int.eq_ofNat_of_zero_le v0
    have hjn : (j : Int) < n := by omega
    have hc := g.coordsV hd2
    rw [hj] at hc
    obtain ⟨b1, b2⟩ := g.part p hjn
    obtain ⟨c1, c2⟩ := g.part q hjn
    obtain ⟨d1, d2⟩ := g.part q hr
    rw [hc] at b2 c2
    refine .inr ⟨j, by rw [s1]; exact hj, hjn, ?_, (g.part_bd p hjn).1, ?_⟩
    · rw [s2, b2, pick_set_in p _ 0 i y hp']
    · rw [c2, d2, pick_set_out q _ 0 i y (by rw [Nat.zero_add, hq, hp]; rfl)]
attribute [local go_sem] Oper.semAt_some litE
set_option maxRecDepth 100000
set_option maxHeartbeats 4000000

theorem Try.und78 : Try.prog.underlying 78 = some (.array 2 3) := by kernel_rfl
theorem Try.und77 : Try.prog.underlying 77 = some (.map 78 4) := by kernel_rfl
theorem Try.cells3 : Try.prog.cellsOf 3 = 1 := by kernel_rfl
theorem Try.info3s : (Try.prog.info? 3).map (fun i => i.size) = some 1 := by kernel_rfl
theorem size3 (w : World) : (sizeOf 3).run Try.prog w = .ok 1 w := by
  cases h : Try.prog.info? 3 with
  | none => have := Try.info3s; rw [h] at this; simp at this
  | some i => rw [run_sizeOf w h, Try.cells3]

/-- a pair as a key -/
def key2 (a b : Int) : Value := .agg #[.int .i64 a, .int .i64 b]
theorem part0 (a b : Int) (w : World) : (part 3 #[.int .i64 a, .int .i64 b] 0).run Try.prog w = .ok (.int .i64 a) w := by
  simp [part, isAgg, run_underlying Try.underlying3]
theorem part1 (a b : Int) (w : World) : (part 3 #[.int .i64 a, .int .i64 b] 1).run Try.prog w = .ok (.int .i64 b) w := by
  simp [part, isAgg, run_underlying Try.underlying3]
theorem eq_int (d : Nat) (a b : Int) (w : World) : (Op.equalIn (d + 1) 3 (.int .i64 a) (.int .i64 b)).run Try.prog w = .ok (a == b) w := by
  rw [Op.equalIn]
  simp [run_underlying Try.underlying3]
theorem eq_key2 (a b c d : Int) (w : World) : (Op.equal 78 (key2 a b) (key2 c d)).run Try.prog w = .ok (a == c && b == d) w := by
  unfold Op.equal key2
  rw [show Op.maxDepth = 9998 + 1 + 1 from rfl, Op.equalIn]
  simp only [Sem.run_bind, run_underlying Try.und78, Result.andThen_ok, size3, Std.Legacy.Range.forIn_eq_forIn_range', Std.Legacy.Range.size, Nat.sub_zero, Nat.add_sub_cancel, Nat.div_one]
  rw [show List.range' 0 2 1 = [0, 1] from rfl]
  simp only [List.forIn_cons, List.forIn_nil, Sem.run_bind, Nat.zero_mul, Nat.one_mul, part0, part1, eq_int, Result.andThen_ok]
  cases h1 : (a == c)
  · simp
  · cases h2 : (b == d)
    · simp [part0, part1, eq_int, h2, Sem.run_bind]
    · simp [part0, part1, eq_int, h2, Sem.run_bind]
theorem check_gen (n : Nat) (e : Bool) (a b : Int) (w : World) : (Instr.checkKey e (n + 1 + 1) 78 (key2 a b)).run Try.prog w = .ok () w := by
  have hi : ∀ x : Int, (Instr.checkKey e (n + 1) 3 (.int .i64 x)).run Try.prog w = .ok () w := fun x => MapKept.run_checkKey (w := w) (show Try.prog.underlying 3 = some (.int .i64) from Try.underlying3) (show MapKept.IsKey (.int .i64) (.int .i64 x) from rfl) e n
  unfold key2
  rw [Instr.checkKey]
  simp only [Sem.run_bind, run_underlying Try.und78, Result.andThen_ok, Std.Legacy.Range.forIn_eq_forIn_range', Std.Legacy.Range.size, Nat.sub_zero, Nat.add_sub_cancel, Nat.div_one]
  rw [show List.range' 0 2 1 = [0, 1] from rfl]
  simp only [List.forIn_cons, List.forIn_nil, Sem.run_bind, size3, part0, part1, hi, Result.andThen_ok, Nat.zero_mul, Nat.one_mul, Sem.run_pure]
theorem check_key2 (e : Bool) (a b : Int) (w : World) : (Instr.checkKey e 10000 78 (key2 a b)).run Try.prog w = .ok () w := check_gen 9998 e a b w

/-- none of these entries has the key -/
def NoKey (a b : Int) (es : List MapEntry) : Prop := ∀ e ∈ es, ∃ c d : Int, e.key = key2 c d ∧ (a == c && b == d) = false
theorem ask_none (a b : Int) : ∀ (es : List MapEntry) (i : Nat) (w : World), NoKey a b es → (Instr.findAsking 78 (key2 a b) es i).run Try.prog w = .ok none w
  | [], _, _, _ => rfl
  | e :: es, i, w, h => by
    obtain ⟨c, d, hk, hne⟩ := h e (by simp)
    have ih := ask_none a b es (i + 1) w (fun e he => h e (by simp [he]))
    rw [Instr.findAsking]
    simp only [Sem.run_bind, hk, eq_key2, hne, Result.andThen_ok, Bool.false_eq_true, if_false]
    exact ih
theorem find_none2 (a b : Int) (es : List MapEntry) (w : World) (h : NoKey a b es) : (Instr.findKey 78 (key2 a b) es).run Try.prog w = .ok none w := by
  unfold Instr.findKey
  cases es with
  | nil => simp [Sem.run_bind, run_underlying Try.und78, Instr.findNow]
  | cons e es =>
    have := ask_none a b (e :: es) 0 w h
    simp only [Sem.run_bind, run_underlying Try.und78, Result.andThen_ok, Instr.findNow, Instr.sameNow]
    exact this
theorem lookup_no {w : World} {m n : Nat} {es : Array MapEntry} (hm : w.heap[m]? = some (.map es n)) (a b : Int) (h : NoKey a b es.toList) : (Instr.lookup 77 (.map (some m)) (key2 a b) false).run Try.prog w = .ok (.bool false) w := by
  have hg := MapKept.run_getObj_map (P := Try.prog) hm
  have hf := find_none2 a b es.toList w h
  have hc := fun e => check_key2 e a b w
  unfold Instr.lookup
  simp [Sem.run_bind, run_underlying Try.und77, hg, hc, hf, Result.andThen, go_sem]
theorem insert_no {w : World} {m n : Nat} {es : Array MapEntry} (hm : w.heap[m]? = some (.map es n)) (a b : Int) (h : NoKey a b es.toList) :
    (Instr.mapUpdate 77 (.map (some m)) (key2 a b) (.bool true)).run Try.prog w = .ok () (w.putObj m (.map (es.push { key := key2 a b, val := .bool true, born := n }) (n + 1))) := by
  have hg := MapKept.run_getObj_map (P := Try.prog) hm
  have hf := find_none2 a b es.toList w h
  have hc := check_key2 false a b w
  have hs := MapKept.run_setObj_map (P := Try.prog) (.map (es.push { key := key2 a b, val := .bool true, born := n }) (n + 1)) hm
  unfold Instr.mapUpdate
  simp only [Sem.run_bind, run_underlying Try.und77, hg, hc, hf, Result.andThen]
  exact hs
theorem put_facts {w : World} {m B : Nat} {o o' : Obj} (hm : w.heap[m]? = some o) (hB : B ≤ m) : (w.putObj m o').heap[m]? = some o' ∧ Below B w (w.putObj m o') ∧ (w.putObj m o').heap.size = w.heap.size ∧ ∀ k, k ≠ m → (w.putObj m o').heap[k]? = w.heap[k]? := by
  have hlt : m < w.heap.size := (Array.getElem?_eq_some_iff.1 hm).1
  exact ⟨World.putObj_heap_same hlt, ⟨rfl, rfl, rfl, by simp [World.putObj], fun k hk => World.putObj_heap_other (by omega)⟩, by simp [World.putObj], fun k hk => World.putObj_heap_other hk⟩


theorem append1b {w : World} {B : Nat} {v : Value} {R : List Bool} {s : Bool} {b : Nat} (hN : NewBools B w v R) (hR : R.length + 1 ≤ 1000) (hb : w.heap[b]? = some (.cells #[.bool s] 4 (0, 0))) (hB : B ≤ w.heap.size) :
    ∃ v' w1, (Builtin.append_ #[40, 40] 40 #[v, .slice (some ⟨b, 0, none⟩) 1 1]).run Try.prog w = .ok v' w1 ∧ NewBools B w1 v' (R ++ [s]) ∧ w.grownBy w1 v.ownBlock ∧ (v'.ownBlock = v.ownBlock ∨ v'.ownBlock = some w.heap.size) := by
  obtain ⟨i0, hi, hz0, hz1, hz2⟩ := info_parts Try.infob
  obtain ⟨v', w', h1, h2, h3, _, h5⟩ := run_append_own_at (P := Try.prog) w B 40 40 4 i0 (.bool false) 1 1 Try.underlying40 hi hz0 hz1 hz2 rfl (by decide) v R.length (R.map Value.bool) hN.own ⟨b, 0, none⟩ 1 1 [.bool s] (by simp)
    (World.news_of_block (cs := #[.bool s]) hb) (by intro u hu; simp at hu; subst hu; rfl) (by unfold maxLen; omega) (by omega) hB
  refine ⟨v', w', h1, ⟨by simpa using h2, by simp; omega⟩, h3, ?_⟩
  rcases h5 with h5 | h5
  · exact .inl h5
  · exact .inr h5

theorem CommParts_walk (n : Int) (hn : (Lit.int .u8 n).wf = true) (m : Int) (hm : (Lit.int .u8 m).wf = true) (rg : Int) (hrg : (Lit.int .u8 rg).wf = true) (kg : Int) (hkg : (Lit.int .u8 kg).wf = true) {w : World} :
    Calls Try.prog 12 #[.int .u8 n, .int .u8 m, .int .u8 rg, .int .u8 kg] w fun e w' => e = .returned (.bool true) ∧ Below w.heap.size w w' := by
  have hn' : 0 ≤ n ∧ n ≤ 255 := by simp only [Lit.wf, Bool.and_eq_true, decide_eq_true_eq] at hn; exact hn
  have hm' : 0 ≤ m ∧ m ≤ 255 := by simp only [Lit.wf, Bool.and_eq_true, decide_eq_true_eq] at hm; exact hm
  have hr' : 0 ≤ rg ∧ rg ≤ 255 := by simp only [Lit.wf, Bool.and_eq_true, decide_eq_true_eq] at hrg; exact hrg
  have hk' : 0 ≤ kg ∧ kg ≤ 255 := by simp only [Lit.wf, Bool.and_eq_true, decide_eq_true_eq] at hkg; exact hkg
  obtain ⟨n0, n1⟩ := hn'
  obtain ⟨m0, m1⟩ := hm'
  obtain ⟨r0, r1⟩ := hr'
  obtain ⟨g0, g1⟩ := hk'
  obtain ⟨sz, hsz⟩ : ∃ sz : Int, sz = 1 + n % 64 := ⟨_, rfl⟩
  obtain ⟨dn, hdn⟩ : ∃ dn : Nat, (dn : Int) = 1 + m % 4 := ⟨(1 + m % 4).toNat, by omega⟩
  have s1 : 1 ≤ sz ∧ sz ≤ 64 := by omega
  have d1 : 1 ≤ dn ∧ dn ≤ 4 := by omega
  have HSZ := Lib.hid hsz
  have HDN := Lib.hid hdn
  obtain ⟨s1, s2⟩ := s1
  obtain ⟨d1, d2⟩ := d1
  clear hn hm hrg hkg hsz hdn
  go_enter Try.func12, Try.ntmps12
  go_wp2_with fail
  rw [← HSZ.out, ← HDN.out]
  obtain ⟨f1, f2, f3, f4, f5⟩ := factor_facts sz dn s1 s2 d1 d2
  refine (Factor_any sz dn w).mono ?_
  rintro e W1 ⟨v, rfl, n1', b1⟩
  rw [f1]
  obtain ⟨a, c, rfl, i1⟩ := n1'.ints
  obtain ⟨L, hL⟩ : ∃ L, L = factorR sz dn := ⟨_, rfl⟩
  rw [← hL] at f2 f3 f4 f5 i1 ⊢
  rw [f2]
  have HI := Lib.hid i1
  have HF2 := Lib.hid f2
  have HF3 := Lib.hid f3
  have HF4 := Lib.hid f4
  have HB1 := Lib.hid b1
  clear n1' i1 f1 f2 f3 f4 f5 hL b1 HSZ HDN
  go_wp2_with fail
  have hb2 : Below W1.heap.size W1 (W1.alloc (.cells #[.slice a dn c, .slice none 0 0] 42)) := (Below.refl _ _).alloc (Nat.le_refl _) _
  have hbox : (W1.alloc (.cells #[.slice a dn c, .slice none 0 0] 42)).heap[W1.heap.size]? = some (.cells #[.slice a dn c, .slice none 0 0] 42 (0, 0)) := heap_alloc_new W1 _
  have hz2 : (W1.alloc (.cells #[.slice a dn c, .slice none 0 0] 42)).heap.size = W1.heap.size + 1 := by simp
  generalize W1.alloc (.cells #[.slice a dn c, .slice none 0 0] 42) = W2 at *
  have HBOX := Lib.hid hbox
  have HB2 := Lib.hid hb2
  have HZ2 := Lib.hid hz2
  clear hbox hb2 hz2
  go_loopw [14, 57] (fun p i wr => ∃ (k : Nat) (v : Value) (bl kl : List Bool), k ≤ dn ∧ i = .int .i64 k ∧ Hid (bl.length = k) ∧ Hid (kl.length = k) ∧ Hid (wr.heap[W1.heap.size]? = some (.cells #[.slice a dn c, v] 42 (0, 0))) ∧ Hid (NewBools (W1.heap.size + 1) wr v bl) ∧ Hid (NewBools (W1.heap.size + 1) wr p kl) ∧ Hid (Apart v p) ∧ Hid (Below W1.heap.size W1 wr)) (fun _ i _ => dn - (intOf i).toNat)
  case atStart => exact ⟨0, .slice none 0 0, [], [], Nat.zero_le _, rfl, rfl, rfl, HBOX.out, ⟨World.ownsRow_nil _ _ _ _, by simp⟩, ⟨World.ownsRow_nil _ _ _ _, by simp⟩, (fun b hb => by cases hb), HB2.out⟩
  case round =>
    obtain ⟨k, v, bl, kl, hk, rfl, HBL, HKL, HBX, NV, NP, AP, HBW⟩ := hrel
    have hzr := HBW.out.size
    have hzr2 : W1.heap.size < wr.heap.size := (Array.getElem?_eq_some_iff.1 HBX.out).1
    by_cases hlt : k < dn
    · have hltz : (k : Int) < (dn : Int) := by omega
      have hk8 : k < 8 := by omega
      go_wp2_with fail
      refine (wpIn_wide (n := 0)).1 ?_
      refine region_det (by kernel_rfl) (I := fun listed a' w' => ∃ (bA bB : Nat) (q1 q2 : Value), Hid (Below W1.heap.size W1 w') ∧ Hid (w'.heap[W1.heap.size]? = some (.cells #[.slice a dn c, if listed.getD 18 false = true then q1 else v] 42 (0, 0))) ∧ Hid (NewBools (W1.heap.size + 1) w' (if listed.getD 8 false = true then q1 else v) (if listed.getD 8 false = true then bl ++ [((bits BinOp.and IntKind.u8 (rg / 2 ^ k) 1) == 1)] else bl)) ∧ Hid (NewBools (W1.heap.size + 1) w' (if listed.getD 16 false = true then q2 else u14) (if listed.getD 16 false = true then kl ++ [((bits BinOp.and IntKind.u8 (kg / 2 ^ k) 1) == 1)] else kl)) ∧ Hid (Apart (if listed.getD 8 false = true then q1 else v) (if listed.getD 16 false = true then q2 else u14)) ∧ Hid (listed.getD 7 false = true → listed.getD 8 false = true ∨ (w'.heap[bA]? = some (.cells #[.bool ((bits BinOp.and IntKind.u8 (rg / 2 ^ k) 1) == 1)] 4 (0, 0)) ∧ (W1.heap.size + 1) ≤ bA ∧ (if listed.getD 16 false = true then q2 else u14).ownBlock ≠ some bA)) ∧ Hid (listed.getD 15 false = true → listed.getD 16 false = true ∨ (w'.heap[bB]? = some (.cells #[.bool ((bits BinOp.and IntKind.u8 (kg / 2 ^ k) 1) == 1)] 4 (0, 0)) ∧ (W1.heap.size + 1) ≤ bB ∧ (if listed.getD 8 false = true then q1 else v).ownBlock ≠ some bB)) ∧ Hid (listed.getD 8 false = true → listed.getD 1 false = true ∧ listed.getD 7 false = true) ∧ Hid (listed.getD 16 false = true → listed.getD 9 false = true ∧ listed.getD 15 false = true) ∧ Hid (listed.getD 18 false = true → listed.getD 8 false = true) ∧ Hid (listed.getD 19 false = true → listed.getD 16 false = true) ∧ a' = ⟨#[Value.int IntKind.u8 n, Value.int IntKind.u8 m, Value.int IntKind.u8 rg, Value.int IntKind.u8 kg, undef, undef, undef, undef, Value.bool false, Value.int IntKind.i64 sz, Value.int IntKind.i64 ↑dn, Value.slice a dn c, Value.int IntKind.i64 0, Value.pointer (some (Addr.mk W1.heap.size 0 none)), (if listed.getD 19 false = true then q2 else u14), Value.int IntKind.i64 ↑k, undef, undef, undef, undef, undef, undef, undef, undef, undef, undef, undef, undef, undef, undef, undef, undef, Value.int IntKind.u8 n, Value.int IntKind.i64 n, Value.int IntKind.i64 (n % 64), Value.int IntKind.i64 sz, Value.int IntKind.u8 m, Value.int IntKind.i64 m, Value.int IntKind.i64 (m % 4), Value.int IntKind.i64 ↑dn, Value.tuple #[Value.slice a dn c, Value.int IntKind.i64 0], Value.int IntKind.i64 sz, Value.int IntKind.i64 ↑dn, Value.tuple #[Value.slice a dn c, Value.int IntKind.i64 0], Value.slice a dn c, Value.int IntKind.i64 0, Value.int IntKind.i64 0, Value.bool false, Value.bool false, Value.slice a dn c, Value.int IntKind.i64 ↑dn, Value.int IntKind.i64 ↑dn, Value.bool false, Value.bool false, Value.slice a dn c, Value.agg #[Value.slice a dn c, Value.slice none 0 0], Value.int IntKind.i64 ↑dn, Value.int IntKind.i64 ↑k, Value.bool true, Value.int IntKind.i64 ↑k, (if listed.getD 0 false = true then Value.pointer (some ⟨W1.heap.size, 1, none⟩) else u60), (if listed.getD 1 false = true then v else u61), (if listed.getD 2 false = true then Value.int IntKind.u8 rg else u62), (if listed.getD 3 false = true then Value.int IntKind.i64 ↑k else u63), (if listed.getD 4 false = true then Value.int IntKind.u8 (rg / 2 ^ k) else u64), (if listed.getD 5 false = true then Value.int IntKind.u8 (bits BinOp.and IntKind.u8 (rg / 2 ^ k) 1) else u65), (if listed.getD 6 false = true then Value.bool ((bits BinOp.and IntKind.u8 (rg / 2 ^ k) 1) == 1) else u66), (if listed.getD 7 false = true then Value.slice (some ⟨bA, 0, none⟩) 1 1 else u67), (if listed.getD 8 false = true then q1 else u68), (if listed.getD 9 false = true then u14 else u69), (if listed.getD 10 false = true then Value.int IntKind.u8 kg else u70), (if listed.getD 11 false = true then Value.int IntKind.i64 ↑k else u71), (if listed.getD 12 false = true then Value.int IntKind.u8 (kg / 2 ^ k) else u72), (if listed.getD 13 false = true then Value.int IntKind.u8 (bits BinOp.and IntKind.u8 (kg / 2 ^ k) 1) else u73), (if listed.getD 14 false = true then Value.bool ((bits BinOp.and IntKind.u8 (kg / 2 ^ k) 1) == 1) else u74), (if listed.getD 15 false = true then Value.slice (some ⟨bB, 0, none⟩) 1 1 else u75), (if listed.getD 16 false = true then q2 else u76), (if listed.getD 17 false = true then Value.pointer (some ⟨W1.heap.size, 1, none⟩) else u77), u78, undef, undef, undef, undef, undef, undef, undef, undef, undef, undef, undef, undef, undef, undef, undef, undef, undef, undef, undef, undef, undef, undef, undef, undef, undef, undef, undef, undef, undef, undef, undef, undef, undef, undef, undef, undef, undef, undef, undef, undef, undef, undef, undef, undef, undef, undef, undef, undef, undef, undef, undef, undef, undef, undef, undef, undef, undef, undef, undef, undef, undef, undef, undef, undef, undef, undef, undef, undef, undef, undef, undef, undef, undef, undef, undef, undef, undef, undef, undef, undef, undef, undef, undef, undef, undef, undef, undef, undef, undef, undef, undef, undef, undef, undef, undef, undef, undef, undef, undef, undef, undef, undef, undef, undef, undef, undef, undef, undef, undef, undef, undef, undef, undef, undef, undef, undef, undef, undef, undef, undef, undef, undef, undef, undef, undef, undef, undef, undef, undef, undef, undef, undef, undef, undef, undef, undef, undef, undef, undef, undef, undef, undef, undef, undef, undef, undef, undef, undef, undef, undef, undef, undef, undef, undef, undef, undef, undef, undef, undef, undef, undef, undef, undef, undef, undef, undef, undef, undef, undef, undef, undef, undef, undef, undef, undef, undef, undef, undef, undef, undef, undef, undef, undef, undef, undef, undef, undef, undef, undef, undef, undef, undef, undef, undef, undef, undef, undef, undef, undef], []⟩) (hup_check (by kernel_rfl)) ?h0 ?step ?fin
      have N1d : NewBools (W1.heap.size + 1) wr.drew v bl := ⟨NV.out.own, NV.out.len⟩
      have N2d : NewBools (W1.heap.size + 1) wr.drew u14 kl := ⟨NP.out.own, NP.out.len⟩
      case h0 => exact ⟨0, 0, v, u14, Lib.hid HBW.out.drew, HBX.out, (by show NewBools _ _ _ _; simpa using N1d), (by show NewBools _ _ _ _; simpa using N2d), (by show Apart _ _; simpa using AP.out), fun h => by simp at h, fun h => by simp at h, fun h => by simp at h, fun h => by simp at h, fun h => by simp at h, fun h => by simp at h, rfl⟩
      case step =>
        intro listed a' w' i hs hbi hdep hi ⟨bA, bB, q1, q2, IB, IR, I1, I2, IP, IA, IC, J8, J16, J18, J19, ha⟩
        obtain ⟨ls⟩ := listed
        match ls, hs with
        | [x0, x1, x2, x3, x4, x5, x6, x7, x8, x9, x10, x11, x12, x13, x14, x15, x16, x17, x18, x19], _ =>
        subst ha
        have hi' : i = 0 ∨ i = 1 ∨ i = 2 ∨ i = 3 ∨ i = 4 ∨ i = 5 ∨ i = 6 ∨ i = 7 ∨ i = 8 ∨ i = 9 ∨ i = 10 ∨ i = 11 ∨ i = 12 ∨ i = 13 ∨ i = 14 ∨ i = 15 ∨ i = 16 ∨ i = 17 ∨ i = 18 ∨ i = 19 := by simp at hi; omega
        have hsz := IB.out.size
        have hlR := (Array.getElem?_eq_some_iff.1 IR.out).1
        rcases hi' with rfl | rfl | rfl | rfl | rfl | rfl | rfl | rfl | rfl | rfl | rfl | rfl | rfl | rfl | rfl | rfl | rfl | rfl | rfl | rfl
        · obtain rfl : x0 = false := by simpa using hbi
          refine wpOpIn_plain (v := Value.pointer (some ⟨W1.heap.size, 1, none⟩)) (w' := w') rfl rfl (by simp [Oper.semAt, execOp, go_sem, *]) ?_
          exact ⟨bA, bB, q1, q2, IB, IR, I1, I2, IP, IA, IC, J8, J16, J18, J19, rfl⟩
        · obtain rfl : x1 = false := by simpa using hbi
          obtain rfl : x0 = true := hdep _ rfl ⟨0, .data⟩ (by simp) rfl
          obtain rfl : x8 = false := Bool.eq_false_iff.2 fun h => by have := (J8.out h).1; cases this
          obtain rfl : x18 = false := Bool.eq_false_iff.2 fun h => by have := J18.out h; cases this
          have cr := (cell_of_row _ W1.heap.size 1 _ _ _ IR.out).trans rfl
          refine wpOpIn_plain (v := v) (w' := w') rfl rfl (by simp [Oper.semAt, execOp, go_sem, *]) ?_
          exact ⟨bA, bB, q1, q2, IB, IR, I1, I2, IP, IA, IC, (fun h => by cases h), J16, J18, J19, rfl⟩
        · obtain rfl : x2 = false := by simpa using hbi
          refine wpOpIn_plain rfl rfl rfl ?_
          exact ⟨bA, bB, q1, q2, IB, IR, I1, I2, IP, IA, IC, J8, J16, J18, J19, rfl⟩
        · obtain rfl : x3 = false := by simpa using hbi
          refine wpOpIn_plain rfl rfl rfl ?_
          exact ⟨bA, bB, q1, q2, IB, IR, I1, I2, IP, IA, IC, J8, J16, J18, J19, rfl⟩
        · obtain rfl : x4 = false := by simpa using hbi
          obtain rfl : x2 = true := hdep _ rfl ⟨2, .data⟩ (by simp) rfl
          obtain rfl : x3 = true := hdep _ rfl ⟨3, .data⟩ (by simp) rfl
          refine wpOpIn_plain (v := Value.int IntKind.u8 (rg / 2 ^ k)) (w' := w') rfl rfl (by simp [Oper.semAt, execOp, go_sem, *]) ?_
          exact ⟨bA, bB, q1, q2, IB, IR, I1, I2, IP, IA, IC, J8, J16, J18, J19, rfl⟩
        · obtain rfl : x5 = false := by simpa using hbi
          obtain rfl : x4 = true := hdep _ rfl ⟨4, .data⟩ (by simp) rfl
          refine wpOpIn_plain (v := Value.int IntKind.u8 (bits BinOp.and IntKind.u8 (rg / 2 ^ k) 1)) (w' := w') rfl rfl (by simp [Oper.semAt, execOp, go_sem, *]) ?_
          exact ⟨bA, bB, q1, q2, IB, IR, I1, I2, IP, IA, IC, J8, J16, J18, J19, rfl⟩
        · obtain rfl : x6 = false := by simpa using hbi
          obtain rfl : x5 = true := hdep _ rfl ⟨5, .data⟩ (by simp) rfl
          refine wpOpIn_plain (v := Value.bool ((bits BinOp.and IntKind.u8 (rg / 2 ^ k) 1) == 1)) (w' := w') rfl rfl (by simp [Oper.semAt, execOp, go_sem, *]) ?_
          exact ⟨bA, bB, q1, q2, IB, IR, I1, I2, IP, IA, IC, J8, J16, J18, J19, rfl⟩
        · obtain rfl : x7 = false := by simpa using hbi
          obtain rfl : x6 = true := hdep _ rfl ⟨6, .data⟩ (by simp) rfl
          obtain rfl : x8 = false := Bool.eq_false_iff.2 fun h => by have := (J8.out h).2; cases this
          have hal := (Below.refl w'.heap.size w').alloc (Nat.le_refl _) (.cells #[Value.bool ((bits BinOp.and IntKind.u8 (rg / 2 ^ k) 1) == 1)] 4)
          refine wpOpIn_plain (v := Value.slice (some ⟨w'.heap.size, 0, none⟩) 1 1) (w' := w'.alloc (.cells #[Value.bool ((bits BinOp.and IntKind.u8 (rg / 2 ^ k) 1) == 1)] 4)) rfl rfl (by simp [Oper.semAt, execOp, go_sem, *]) ?_
          exact ⟨w'.heap.size, bB, q1, q2, (IB.out.alloc (by omega) _), ((hal.block _ hlR).trans IR.out), (I1.out.keep hal), (I2.out.keep hal), IP, (fun _ => .inr ⟨heap_alloc_new w' _, by omega, fun e => by have := (I2.out.own.lt _ e).2; omega⟩), (fun h => (IC.out h).imp id fun q => ⟨(hal.block _ (Array.getElem?_eq_some_iff.1 q.1).1).trans q.1, q.2⟩), (fun h => by cases h), J16, J18, J19, rfl⟩
        · obtain rfl : x8 = false := by simpa using hbi
          obtain rfl : x1 = true := hdep _ rfl ⟨1, .data⟩ (by simp) rfl
          obtain rfl : x7 = true := hdep _ rfl ⟨7, .data⟩ (by simp) rfl
          obtain rfl : x18 = false := Bool.eq_false_iff.2 fun h => by have := J18.out h; cases this
          have i1 : NewBools (W1.heap.size + 1) w' v bl := I1.out
          have hA := (IA.out rfl).resolve_left (fun h => by cases h)
          obtain ⟨v', w1, hrun, n1, hgrow, hor⟩ := append1b i1 (by have := HBL.out; omega) hA.1 (by omega)
          refine wpOpIn_append rfl rfl _ _ 40 rfl (vs := v) (vx := Value.slice (some ⟨bA, 0, none⟩) 1 1) rfl rfl hrun ?_
          have hlt9 : ∀ {b : Nat} {o : Obj}, w'.heap[b]? = some o → b < w'.heap.size := fun h => (Array.getElem?_eq_some_iff.1 h).1
          exact ⟨bA, bB, v', q2, (IB.out.grown hgrow (by omega) (fun kk hkk => by have := (i1.own.lt kk hkk).1; omega)), ((hgrow.block _ hlR (fun e => by have := (i1.own.lt _ e.symm).1; omega)).trans IR.out), n1, ⟨own_grownE I2.out.own hgrow (fun b hb e0 => IP.out b e0.symm hb), I2.out.len⟩, (apart_grow_l IP.out hor I2.out.own), (fun _ => .inl rfl), (fun h => (IC.out h).imp id fun q => ⟨(hgrow.block _ (hlt9 q.1) (fun e => q.2.2 e.symm)).trans q.1, q.2.1, own_grow_ne q.2.2 hor q.1⟩), (fun _ => ⟨rfl, rfl⟩), J16, (fun h => by cases h), J19, rfl⟩
        · obtain rfl : x9 = false := by simpa using hbi
          obtain rfl : x16 = false := Bool.eq_false_iff.2 fun h => by have := (J16.out h).1; cases this
          obtain rfl : x19 = false := Bool.eq_false_iff.2 fun h => by have := J19.out h; cases this
          refine wpOpIn_plain rfl rfl rfl ?_
          exact ⟨bA, bB, q1, q2, IB, IR, I1, I2, IP, IA, IC, J8, (fun h => by cases h), J18, J19, rfl⟩
        · obtain rfl : x10 = false := by simpa using hbi
          refine wpOpIn_plain rfl rfl rfl ?_
          exact ⟨bA, bB, q1, q2, IB, IR, I1, I2, IP, IA, IC, J8, J16, J18, J19, rfl⟩
        · obtain rfl : x11 = false := by simpa using hbi
          refine wpOpIn_plain rfl rfl rfl ?_
          exact ⟨bA, bB, q1, q2, IB, IR, I1, I2, IP, IA, IC, J8, J16, J18, J19, rfl⟩
        · obtain rfl : x12 = false := by simpa using hbi
          obtain rfl : x10 = true := hdep _ rfl ⟨10, .data⟩ (by simp) rfl
          obtain rfl : x11 = true := hdep _ rfl ⟨11, .data⟩ (by simp) rfl
          refine wpOpIn_plain (v := Value.int IntKind.u8 (kg / 2 ^ k)) (w' := w') rfl rfl (by simp [Oper.semAt, execOp, go_sem, *]) ?_
          exact ⟨bA, bB, q1, q2, IB, IR, I1, I2, IP, IA, IC, J8, J16, J18, J19, rfl⟩
        · obtain rfl : x13 = false := by simpa using hbi
          obtain rfl : x12 = true := hdep _ rfl ⟨12, .data⟩ (by simp) rfl
          refine wpOpIn_plain (v := Value.int IntKind.u8 (bits BinOp.and IntKind.u8 (kg / 2 ^ k) 1)) (w' := w') rfl rfl (by simp [Oper.semAt, execOp, go_sem, *]) ?_
          exact ⟨bA, bB, q1, q2, IB, IR, I1, I2, IP, IA, IC, J8, J16, J18, J19, rfl⟩
        · obtain rfl : x14 = false := by simpa using hbi
          obtain rfl : x13 = true := hdep _ rfl ⟨13, .data⟩ (by simp) rfl
          refine wpOpIn_plain (v := Value.bool ((bits BinOp.and IntKind.u8 (kg / 2 ^ k) 1) == 1)) (w' := w') rfl rfl (by simp [Oper.semAt, execOp, go_sem, *]) ?_
          exact ⟨bA, bB, q1, q2, IB, IR, I1, I2, IP, IA, IC, J8, J16, J18, J19, rfl⟩
        · obtain rfl : x15 = false := by simpa using hbi
          obtain rfl : x14 = true := hdep _ rfl ⟨14, .data⟩ (by simp) rfl
          obtain rfl : x16 = false := Bool.eq_false_iff.2 fun h => by have := (J16.out h).2; cases this
          have hal := (Below.refl w'.heap.size w').alloc (Nat.le_refl _) (.cells #[Value.bool ((bits BinOp.and IntKind.u8 (kg / 2 ^ k) 1) == 1)] 4)
          refine wpOpIn_plain (v := Value.slice (some ⟨w'.heap.size, 0, none⟩) 1 1) (w' := w'.alloc (.cells #[Value.bool ((bits BinOp.and IntKind.u8 (kg / 2 ^ k) 1) == 1)] 4)) rfl rfl (by simp [Oper.semAt, execOp, go_sem, *]) ?_
          exact ⟨bA, w'.heap.size, q1, q2, (IB.out.alloc (by omega) _), ((hal.block _ hlR).trans IR.out), (I1.out.keep hal), (I2.out.keep hal), IP, (fun h => (IA.out h).imp id fun q => ⟨(hal.block _ (Array.getElem?_eq_some_iff.1 q.1).1).trans q.1, q.2⟩), (fun _ => .inr ⟨heap_alloc_new w' _, by omega, fun e => by have := (I1.out.own.lt _ e).2; omega⟩), J8, (fun h => by cases h), J18, J19, rfl⟩
        · obtain rfl : x16 = false := by simpa using hbi
          obtain rfl : x9 = true := hdep _ rfl ⟨9, .data⟩ (by simp) rfl
          obtain rfl : x15 = true := hdep _ rfl ⟨15, .data⟩ (by simp) rfl
          obtain rfl : x19 = false := Bool.eq_false_iff.2 fun h => by have := J19.out h; cases this
          have i1 : NewBools (W1.heap.size + 1) w' u14 kl := I2.out
          have hA := (IC.out rfl).resolve_left (fun h => by cases h)
          obtain ⟨v', w1, hrun, n1, hgrow, hor⟩ := append1b i1 (by have := HKL.out; omega) hA.1 (by omega)
          refine wpOpIn_append rfl rfl _ _ 40 rfl (vs := u14) (vx := Value.slice (some ⟨bB, 0, none⟩) 1 1) rfl rfl hrun ?_
          have hlt9 : ∀ {b : Nat} {o : Obj}, w'.heap[b]? = some o → b < w'.heap.size := fun h => (Array.getElem?_eq_some_iff.1 h).1
          exact ⟨bA, bB, q1, v', (IB.out.grown hgrow (by omega) (fun kk hkk => by have := (i1.own.lt kk hkk).1; omega)), ((hgrow.block _ hlR (fun e => by have := (i1.own.lt _ e.symm).1; omega)).trans IR.out), ⟨own_grownE I1.out.own hgrow (fun b hb e0 => IP.out b hb e0.symm), I1.out.len⟩, n1, (apart_grow_r IP.out hor I1.out.own), (fun h => (IA.out h).imp id fun q => ⟨(hgrow.block _ (hlt9 q.1) (fun e => q.2.2 e.symm)).trans q.1, q.2.1, own_grow_ne q.2.2 hor q.1⟩), (fun _ => .inl rfl), J8, (fun _ => ⟨rfl, rfl⟩), J18, (fun h => by cases h), rfl⟩
        · obtain rfl : x17 = false := by simpa using hbi
          refine wpOpIn_plain (v := Value.pointer (some ⟨W1.heap.size, 1, none⟩)) (w' := w') rfl rfl (by simp [Oper.semAt, execOp, go_sem, *]) ?_
          exact ⟨bA, bB, q1, q2, IB, IR, I1, I2, IP, IA, IC, J8, J16, J18, J19, rfl⟩
        · obtain rfl : x18 = false := by simpa using hbi
          obtain rfl : x17 = true := hdep _ rfl ⟨17, .data⟩ (by simp) rfl
          obtain rfl : x8 = true := hdep _ rfl ⟨8, .data⟩ (by simp) rfl
          have i1 : NewBools (W1.heap.size + 1) w' q1 (bl ++ [((bits BinOp.and IntKind.u8 (rg / 2 ^ k) 1) == 1)]) := I1.out
          obtain ⟨ua, uc, eu, _⟩ := i1.bools
          subst eu
          clear i1
          have cr := (cell_of_row _ W1.heap.size 1 _ _ _ IR.out).trans rfl
          have fz := frozen_of_row _ W1.heap.size 1 _ _ IR.out
          refine wpOpIn_skip (w' := w'.setCell ⟨W1.heap.size, 1, none⟩ (Value.slice ua (bl ++ [((bits BinOp.and IntKind.u8 (rg / 2 ^ k) 1) == 1)]).length uc)) rfl rfl (by simp [Oper.semAt, execOp, go_sem, *]) ?_
          exact ⟨bA, bB, (Value.slice ua (bl ++ [((bits BinOp.and IntKind.u8 (rg / 2 ^ k) 1) == 1)]).length uc), q2, (IB.out.setCell (p := ⟨W1.heap.size, 1, none⟩) (Nat.le_refl _) _), ((heap_setCell_same w' W1.heap.size 1 _ 42 _ IR.out).trans rfl), (I1.out.set W1.heap.size 1 _ (by omega)), (I2.out.set W1.heap.size 1 _ (by omega)), IP, (fun h => (IA.out h).imp id fun q => ⟨(heap_setCell_other _ _ _ _ (show bA ≠ W1.heap.size by have := q.2.1; omega)).trans q.1, q.2⟩), (fun h => (IC.out h).imp id fun q => ⟨(heap_setCell_other _ _ _ _ (show bB ≠ W1.heap.size by have := q.2.1; omega)).trans q.1, q.2⟩), J8, J16, (fun _ => rfl), J19, rfl⟩
        · obtain rfl : x19 = false := by simpa using hbi
          obtain rfl : x16 = true := hdep _ rfl ⟨16, .data⟩ (by simp) rfl
          refine wpOpIn_plain rfl rfl rfl ?_
          exact ⟨bA, bB, q1, q2, IB, IR, I1, I2, IP, IA, IC, J8, J16, J18, (fun _ => rfl), rfl⟩
      case fin =>
      intro listed a' w' hs hall ⟨bA, bB, q1, q2, IB, IR, I1, I2, IP, IA, IC, J8, J16, J18, J19, ha⟩
      obtain ⟨ls⟩ := listed
      match ls, hs with
      | [x0, x1, x2, x3, x4, x5, x6, x7, x8, x9, x10, x11, x12, x13, x14, x15, x16, x17, x18, x19], _ =>
      obtain rfl : x0 = true := hall 0 (by simp)
      obtain rfl : x1 = true := hall 1 (by simp)
      obtain rfl : x2 = true := hall 2 (by simp)
      obtain rfl : x3 = true := hall 3 (by simp)
      obtain rfl : x4 = true := hall 4 (by simp)
      obtain rfl : x5 = true := hall 5 (by simp)
      obtain rfl : x6 = true := hall 6 (by simp)
      obtain rfl : x7 = true := hall 7 (by simp)
      obtain rfl : x8 = true := hall 8 (by simp)
      obtain rfl : x9 = true := hall 9 (by simp)
      obtain rfl : x10 = true := hall 10 (by simp)
      obtain rfl : x11 = true := hall 11 (by simp)
      obtain rfl : x12 = true := hall 12 (by simp)
      obtain rfl : x13 = true := hall 13 (by simp)
      obtain rfl : x14 = true := hall 14 (by simp)
      obtain rfl : x15 = true := hall 15 (by simp)
      obtain rfl : x16 = true := hall 16 (by simp)
      obtain rfl : x17 = true := hall 17 (by simp)
      obtain rfl : x18 = true := hall 18 (by simp)
      obtain rfl : x19 = true := hall 19 (by simp)
      subst ha
      have i1 : Hid (NewBools (W1.heap.size + 1) w' q1 (bl ++ [((bits BinOp.and IntKind.u8 (rg / 2 ^ k) 1) == 1)])) := I1
      have i2 : Hid (NewBools (W1.heap.size + 1) w' q2 (kl ++ [((bits BinOp.and IntKind.u8 (kg / 2 ^ k) 1) == 1)])) := I2
      have ip : Hid (Apart q1 q2) := IP
      have ir : Hid (w'.heap[W1.heap.size]? = some (.cells #[.slice a dn c, q1] 42 (0, 0))) := IR
      generalize ((bits BinOp.and IntKind.u8 (rg / 2 ^ k) 1) == 1) = bitA at *
      generalize ((bits BinOp.and IntKind.u8 (kg / 2 ^ k) 1) == 1) = bitB at *
      have e1 : Hid ((bl ++ [bitA]).length = k + 1) := by show _ = _; have := HBL.out; simp; omega
      have e2 : Hid ((kl ++ [bitB]).length = k + 1) := by show _ = _; have := HKL.out; simp; omega
      clear IR I1 I2 IP IA IC J8 J16 J18 J19 hall hs
      dsimp only [Exit.then, Exit.inBlock]
      go_wp2_with fail
      go_roundw
      case rel => exact ⟨k + 1, q1, _, _, by omega, by go_num, e1, e2, ir, i1, i2, ip, IB⟩
      case measure => simp [intOf]; omega
    · have hkd : k = dn := by omega
      subst hkd
      obtain ⟨N, rfl⟩ : ∃ N : Nat, sz = (N : Int) := ⟨sz.toNat, by omega⟩
      have PG : PGrid L bl (N : Int) := ⟨HF3.out, HF4.out, s2, by rw [HBL.out, HF2.out]⟩
      have hL1 : 1 ≤ L.length := by rw [HF2.out]; exact d1
      have hL4 : L.length ≤ 4 := by rw [HF2.out]; exact d2
      have hcnt : countL L bl.length = (N : Int) := PG.count hL1 hL4
      have hse : subE L bl.length kl = 0 := by unfold subE; rw [hcnt, if_neg (by omega), if_neg (by rw [HKL.out, HF2.out]; omega)]
      have hrowl : ∀ p, (subRow p L bl).length = N := fun p => by unfold subRow; rw [hcnt]; simp
      have hrowat : ∀ p r, (hr : r < N) → (subRow p L bl)[r]? = some (partR p L bl r) := fun p r hr => by unfold subRow; rw [hcnt]; simp [hr]
      obtain ⟨av, cv, rfl, jb⟩ := NV.out.bools
      obtain ⟨ap, cp, rfl, jk⟩ := NP.out.bools
      have hi1 := HI.out.keep HBW.out
      have hsub := Sub_any hi1 jb jk c cv cp
      rw [hse, HF2.out, HBL.out, HKL.out] at hsub
      simp only [if_true] at hsub
      rw [HBL.out] at HBX
      rw [HKL.out]
      have hKp := (PG.sub (keptP kl)).pos
      have hprod := pick_prod (keptP kl) (leftP kl) (fun _ => rfl) L 0
      rw [PG.prod] at hprod
      have hM1 := prodL_pos _ hKp
      have hQ1 := prodL_pos _ (PG.sub (leftP kl)).pos
      have hswl : (subW L bl kl).length = (subS L kl).length := by
        unfold subW subS
        split
        · rfl
        · exact (pick_len_eq (keptP kl) L bl 0 PG.wl.symm).symm
      have hsl : 1 ≤ (subS L kl).length := by
        unfold subS
        split
        · simp
        · rename_i h9; exact List.length_pos_iff.2 h9
      have hsp : prodL (subS L kl) = prodL (pickF (keptP kl) 0 L) := by
        unfold subS
        split
        · rename_i h9; rw [h9]; rfl
        · rfl
      have hse1 : ∀ s ∈ subS L kl, 1 ≤ s := by
        unfold subS
        split
        · intro s hs; simp at hs; omega
        · exact hKp
      have hrowl1 := hrowl (leftP kl)
      have hrowl2 := hrowl (keptP kl)
      have hpa1 := hrowat (leftP kl)
      have hpa2 := hrowat (keptP kl)
      obtain ⟨S, hS⟩ : ∃ S, S = subS L kl := ⟨_, rfl⟩
      obtain ⟨SW, hSW⟩ : ∃ S, S = subW L bl kl := ⟨_, rfl⟩
      obtain ⟨PR, hPR⟩ : ∃ S, S = subRow (leftP kl) L bl := ⟨_, rfl⟩
      obtain ⟨KR, hKR⟩ : ∃ S, S = subRow (keptP kl) L bl := ⟨_, rfl⟩
      obtain ⟨M, hM⟩ : ∃ M, M = prodL (pickF (keptP kl) 0 L) := ⟨_, rfl⟩
      obtain ⟨Q, hQ⟩ : ∃ Q, Q = prodL (pickF (leftP kl) 0 L) := ⟨_, rfl⟩
      rw [← hS, ← hSW, ← hPR, ← hKR] at hsub
      rw [← hS, ← hSW] at hswl
      rw [← hS] at hsl hse1
      rw [← hS, ← hM] at hsp
      rw [← hPR] at hrowl1 hpa1
      rw [← hKR] at hrowl2 hpa2
      rw [← hM, ← hQ] at hprod
      rw [← hM] at hM1
      rw [← hQ] at hQ1
      have hMN : M ≤ N := by
        have := Int.mul_le_mul_of_nonneg_left hQ1 (show 0 ≤ M by omega)
        omega
      have HS := Lib.hid hS
      have HSW := Lib.hid hSW
      have HPA1 := Lib.hid hpa1
      have HPA2 := Lib.hid hpa2
      have HPG := Lib.hid PG
      have HMQ := Lib.hid hM
      have HQQ := Lib.hid hQ
      have HPROD := Lib.hid hprod
      have HSP := Lib.hid hsp
      have HSE := Lib.hid hse1
      have HSWL := Lib.hid hswl
      have cb0 := (cell_of_row _ W1.heap.size 0 _ _ _ HBX.out).trans rfl
      have cb1 := (cell_of_row _ W1.heap.size 1 _ _ _ HBX.out).trans rfl
      have HI1 := Lib.hid hi1
      have HJB := Lib.hid jb
      have HJK := Lib.hid jk
      clear hi1 jb jk hL1 hL4 hcnt hse hrowl hrowat hKp hprod hsp hse1 hpa1 hpa2 PG hS hSW hPR hKR hM hQ NV NP AP
      go_wp2_with fail
      refine hsub.mono ?_
      rintro e V1 ⟨v1, v2, v3, v4, rfl, n1, n2, n3, n4, b1⟩
      obtain ⟨a1, c1, rfl, j1⟩ := n1.ints
      obtain ⟨a2, c2, rfl, j2⟩ := n2.bools
      obtain ⟨a3, c3, rfl, j3⟩ := n3.ints
      obtain ⟨a4, c4, rfl, j4⟩ := n4.ints
      rw [hswl, hrowl1, hrowl2]
      have hal : Below V1.heap.size V1 (V1.alloc (.cells #[.slice a1 S.length c1, .slice a2 S.length c2] 42)) := (Below.refl _ _).alloc (Nat.le_refl _) _
      have hrow := heap_alloc_new V1 (.cells #[.slice a1 S.length c1, .slice a2 S.length c2] 42)
      have hzV : (V1.alloc (.cells #[.slice a1 S.length c1, .slice a2 S.length c2] 42)).heap.size = V1.heap.size + 1 := by simp
      have ball := b1.trans (hal.mono b1.size)
      have HBV := Lib.hid (HB1.out.trans (HBW.out.mono HB1.out.size))
      have HBV2 := Lib.hid (HBV.out.trans (ball.mono HBV.out.size))
      have IL := Lib.hid (HI1.out.keep ball)
      have IB9 := Lib.hid (HJB.out.keep ball)
      have IK := Lib.hid (HJK.out.keep ball)
      have I1 := Lib.hid (j1.keep hal)
      have I2 := Lib.hid (j2.keep hal)
      have I3 := Lib.hid (j3.keep hal)
      have I4 := Lib.hid (j4.keep hal)
      have R13 := Lib.hid (below_heapAt ball ⟨hzr2, HBX.out⟩)
      have hlV : V1.heap.size < V1.heap.size + 1 := Nat.lt_succ_self _
      have hSl : decide ((S.length : Int) < 1) = false := decide_eq_false (by omega)
      have hb1s := b1.size
      clear hsub n1 n2 n3 n4 j1 j2 j3 j4 cb0 cb1 HI1 HJB HJK HBX b1
      have HRL1 := Lib.hid hrowl1
      have HRL2 := Lib.hid hrowl2
      have HAL := Lib.hid hal
      have HROW := Lib.hid hrow
      have HZV := Lib.hid hzV
      clear hswl hrowl1 hrowl2 hal hrow hzV
      go_wp2_with fail
      generalize V1.alloc (.cells #[.slice a1 S.length c1, .slice a2 S.length c2] 42) = V2 at *
      clear hSl hlV
      have hM64 : M ≤ 64 := by omega
      have hSlen := I1.out.len
      go_loopw [19, 119] (fun p i wr2 => ∃ (k2 : Nat) (pr : Int), k2 ≤ S.length ∧ p = .int .i64 pr ∧ i = .int .i64 k2 ∧ Hid (pr * prodL (S.drop k2) = M) ∧ 1 ≤ pr ∧ pr ≤ 64 ∧ Hid (Below V2.heap.size V2 wr2)) (fun _ i _ => S.length - (intOf i).toNat)
      case atStart => exact ⟨0, 1, Nat.zero_le _, rfl, rfl, by show _ = _; rw [List.drop_zero, HSP.out]; omega, by omega, by omega, Below.refl _ _⟩
      case round =>
      obtain ⟨k2, pr, hk2, rfl, rfl, HPR, p1, p2, HBW2⟩ := hrel
      by_cases hlt2 : k2 < S.length
      · obtain ⟨g, o, rfl, hc⟩ := (I1.out.keep HBW2.out).at_ (ne_nil_of_lt hlt2)
        have q0 := hc k2 hlt2
        have hx1 := HSE.out S[k2] (List.getElem_mem hlt2)
        have HPN : Hid (pr * S[k2] * prodL (S.drop (k2 + 1)) = M) := by
          show _ = _
          rw [← HPR.out, List.drop_eq_getElem_cons hlt2, Int.mul_assoc]; rfl
        have hpp := prodL_pos (S.drop (k2 + 1)) (fun y hy => HSE.out y (List.mem_of_mem_drop hy))
        have hpl : 1 ≤ pr * S[k2] ∧ pr * S[k2] ≤ M := by
          have h5 : 1 * 1 ≤ pr * S[k2] := Int.mul_le_mul p1 hx1 (by omega) (by omega)
          have h6 := Int.mul_le_mul_of_nonneg_left hpp (show 0 ≤ pr * S[k2] by omega)
          have h7 := HPN.out
          omega
        have hxs : S[k2] ≤ N := by
          have h8 := Int.mul_le_mul_of_nonneg_right p1 (show 0 ≤ S[k2] by omega)
          omega
        generalize S[k2] = x at *
        have hx9 : ¬ x < 1 := by omega
        have hx8 : ¬ (N : Int) < x := by omega
        have hx7 : wrap64 (pr * x) = pr * x := wrap_small (by omega) (by omega)
        have HX6 := Lib.hid hpl
        clear hc
        go_wp2_with fail
        go_roundw
        case rel => exact ⟨k2 + 1, pr * x, by omega, rfl, by go_num, HPN, HX6.out.1, (by have := HX6.out.2; omega), HBW2⟩
        case measure => simp [intOf]; omega
      · have hpr : pr = M := by
          have := HPR.out
          rw [List.drop_of_length_le (by omega)] at this
          show pr = M
          unfold prodL at this
          omega
        subst hpr
        have hp9 : ¬ pr < 1 := by omega
        have hmod : (N : Int) % pr = 0 := by rw [← HPROD.out]; exact Int.mul_emod_right _ _
        have hmod2 : (N : Int).tmod pr = 0 := by rw [Int.tmod_eq_emod_of_nonneg (by omega)]; exact hmod
        have hp0 : pr ≠ 0 := by omega
        clear HPR
        have hmm : (Instr.makeMap 77 none).run Try.prog wr = .ok (.map (some wr.heap.size)) (wr.alloc (.map #[] 0)) := rfl
        go_wp2_with fail
        clear hmm hmod hmod2 hp0 hp9 hSlen hk2 hlt2
        have hma := heap_alloc_new wr (.map #[] 0)
        have hmz : (wr.alloc (.map #[] 0)).heap.size = wr.heap.size + 1 := by simp
        have hmb : Below V2.heap.size V2 (wr.alloc (.map #[] 0)) := HBW2.out.alloc HBW2.out.size _
        have hbm := HBW2.out.size
        obtain ⟨bm, hbme⟩ : ∃ bm, bm = wr.heap.size := ⟨_, rfl⟩
        rw [← hbme] at hma hmz hbm ⊢
        have HMA := Lib.hid hma
        have HMZ := Lib.hid hmz
        have HMB := Lib.hid hmb
        clear hma hmz hmb hbme HBW2
        generalize wr.alloc (.map #[] 0) = V3 at *
        clear wr
        have HBVN : Hid (Below w.heap.size w V3) := HBV2.out.trans (HMB.out.mono HBV2.out.size)
        have hz23 := HMB.out.size
        go_loopw [144] (fun i wr => ∃ (r : Nat) (es : Array MapEntry) (cl : Nat), r ≤ N ∧ i = .int .i64 r ∧ Hid (wr.heap[bm]? = some (.map es cl)) ∧ Hid (∀ e ∈ es.toList, ∃ j : Nat, j < r ∧ e.key = key2 (partR (leftP kl) L bl j) (partR (keptP kl) L bl j)) ∧ Hid (Below V2.heap.size V2 wr)) (fun i _ => N - (intOf i).toNat)
        case atStart => exact ⟨0, #[], 0, Nat.zero_le _, rfl, HMA.out, (fun e he => by simp at he), HMB.out⟩
        case round =>
        obtain ⟨r, es, cl, hr, rfl, ME, MK, HBr⟩ := hrel
        by_cases hltr : r < N
        · have hltz : (r : Int) < (N : Int) := by omega
          have hPl : r < PR.length := by rw [HRL1.out]; exact hltr
          have hKl : r < KR.length := by rw [HRL2.out]; exact hltr
          obtain ⟨g3, o3, rfl, hc3⟩ := I3.out.at_ (ne_nil_of_lt hPl)
          obtain ⟨g4, o4, rfl, hc4⟩ := I4.out.at_ (ne_nil_of_lt hKl)
          have x3 := hc3 r hPl
          have x4 := hc4 r hKl
          rw [show PR[r] = partR (leftP kl) L bl r from Option.some.inj ((List.getElem?_eq_getElem hPl).symm.trans (HPA1.out r hltr))] at x3
          rw [show KR[r] = partR (keptP kl) L bl r from Option.some.inj ((List.getElem?_eq_getElem hKl).symm.trans (HPA2.out r hltr))] at x4
          obtain ⟨b10, b11⟩ := HPG.out.part_bd (leftP kl) hltz
          obtain ⟨b20, b21⟩ := HPG.out.part_bd (keptP kl) hltz
          rw [← HQQ.out] at b11
          rw [← HMQ.out] at b21
          have HNK : Hid (NoKey (partR (leftP kl) L bl r) (partR (keptP kl) L bl r) es.toList) := fun e he => by
            obtain ⟨j, hj, hkey⟩ := MK.out e he
            refine ⟨_, _, hkey, ?_⟩
            cases hb : (partR (leftP kl) L bl r == partR (leftP kl) L bl j && partR (keptP kl) L bl r == partR (keptP kl) L bl j) with
            | false => rfl
            | true =>
              simp only [Bool.and_eq_true, beq_iff_eq] at hb
              have := HPG.out.part_inj (keptP kl) (leftP kl) (fun _ => rfl) hltz (show (j : Int) < N by omega) hb.2 hb.1
              omega
          obtain ⟨x, hx⟩ : ∃ x, x = partR (leftP kl) L bl r := ⟨_, rfl⟩
          obtain ⟨y, hy⟩ : ∃ y, y = partR (keptP kl) L bl r := ⟨_, rfl⟩
          rw [← hx] at x3 b10 b11 HNK
          rw [← hy] at x4 b20 b21 HNK
          have HX := Lib.hid hx
          have HY := Lib.hid hy
          have hquo : (N : Int).tdiv pr = Q := by rw [← HPROD.out, Int.tdiv_eq_ediv_of_nonneg (Int.mul_nonneg (by omega) (by omega)), Int.mul_ediv_cancel_left _ (by omega)]
          have hquo2 : (N : Int) / pr = Q := by rw [← HPROD.out, Int.mul_ediv_cancel_left _ (by omega)]
          have hp0 : pr ≠ 0 := by omega
          have i1 : decide (x < 0) = false := decide_eq_false (by omega)
          have hQN : Q ≤ N := by
            have h5 := Int.mul_le_mul_of_nonneg_right hM1 (show 0 ≤ Q by omega)
            have h6 := HPROD.out
            omega
          have i2 : decide (Q ≤ x) = false := decide_eq_false (by omega)
          have i3 : decide (y < 0) = false := decide_eq_false (by omega)
          have i4 : decide (pr ≤ y) = false := decide_eq_false (by omega)
          have hlook : ∀ q, (Instr.lookup 77 (.map (some bm)) (.agg #[.int .i64 x, .int .i64 y]) false).run Try.prog (wr.drewN q) = .ok (.bool false) (wr.drewN q) := fun q => lookup_no (w := wr.drewN q) ME.out x y HNK.out
          have X3 := Lib.hid x3
          have X4 := Lib.hid x4
          have HC3 := Lib.hid hc3
          have HC4 := Lib.hid hc4
          have hg3 := block_lt_of_cell x3
          have hg4 := block_lt_of_cell x4
          replace x3 := (HBr.out.cell (p := ⟨g3, o3 + r, none⟩) hg3).trans x3
          replace x4 := (HBr.out.cell (p := ⟨g4, o4 + r, none⟩) hg4).trans x4
          clear hc3 hc4 hx hy hPl hKl
          go_wp2_with fail
          go_quiet (fail)
          go_wp2_with fail
          refine (wpIn_wide (n := 0)).1 ?_
          refine region_det (by kernel_rfl) (I := fun listed a' w' => Hid (Below V2.heap.size V2 w') ∧ Hid (w'.heap[bm]? = some (.map (if listed.getD 10 false = true then es.push { key := key2 x y, val := .bool true, born := cl } else es) (if listed.getD 10 false = true then cl + 1 else cl))) ∧ a' = ⟨#[Value.int IntKind.u8 n, Value.int IntKind.u8 m, Value.int IntKind.u8 rg, Value.int IntKind.u8 kg, undef, undef, undef, undef, u8, Value.int IntKind.i64 ↑N, Value.int IntKind.i64 ↑k, Value.slice a k c, Value.int IntKind.i64 0, Value.pointer (some (Addr.mk W1.heap.size 0 none)), Value.slice ap k cp, u15, Value.pointer (some (Addr.mk V1.heap.size 0 none)), Value.slice (some (Addr.mk g3 o3 none)) N c3, Value.slice (some (Addr.mk g4 o4 none)) N c4, Value.int IntKind.i64 pr, undef, u21, Value.map (some bm), Value.int IntKind.i64 ↑r, u24, u25, u26, u27, u28, u29, u30, u31, Value.int IntKind.u8 n, Value.int IntKind.i64 n, Value.int IntKind.i64 (n % 64), Value.int IntKind.i64 ↑N, Value.int IntKind.u8 m, Value.int IntKind.i64 m, Value.int IntKind.i64 (m % 4), Value.int IntKind.i64 ↑k, Value.tuple #[Value.slice a k c, Value.int IntKind.i64 0], Value.int IntKind.i64 ↑N, Value.int IntKind.i64 ↑k, Value.tuple #[Value.slice a k c, Value.int IntKind.i64 0], Value.slice a k c, Value.int IntKind.i64 0, Value.int IntKind.i64 0, Value.bool false, Value.bool false, Value.slice a k c, Value.int IntKind.i64 ↑k, Value.int IntKind.i64 ↑k, Value.bool false, Value.bool false, Value.slice a k c, Value.agg #[Value.slice a k c, Value.slice none 0 0], Value.int IntKind.i64 ↑k, Value.int IntKind.i64 ↑k, Value.bool false, u59, u60, u61, u62, u63, u64, u65, u66, u67, u68, u69, u70, u71, u72, u73, u74, u75, u76, u77, u78, Value.tuple #[Value.agg #[Value.slice a1 S.length c1, Value.slice a2 S.length c2], Value.slice (some (Addr.mk g3 o3 none)) N c3, Value.slice (some (Addr.mk g4 o4 none)) N c4, Value.int IntKind.i64 0], Value.agg #[Value.slice a k c, Value.slice av k cv], Value.slice ap k cp, Value.tuple #[Value.agg #[Value.slice a1 S.length c1, Value.slice a2 S.length c2], Value.slice (some (Addr.mk g3 o3 none)) N c3, Value.slice (some (Addr.mk g4 o4 none)) N c4, Value.int IntKind.i64 0], Value.agg #[Value.slice a1 S.length c1, Value.slice a2 S.length c2], Value.slice (some (Addr.mk g3 o3 none)) N c3, Value.slice (some (Addr.mk g4 o4 none)) N c4, Value.int IntKind.i64 0, Value.int IntKind.i64 0, Value.bool false, Value.bool false, Value.slice (some (Addr.mk g3 o3 none)) N c3, Value.int IntKind.i64 ↑N, Value.int IntKind.i64 ↑N, Value.bool false, Value.bool false, Value.bool false, Value.slice (some (Addr.mk g4 o4 none)) N c4, Value.int IntKind.i64 ↑N, Value.int IntKind.i64 ↑N, Value.bool false, Value.bool false, Value.bool false, Value.pointer (some (Addr.mk V1.heap.size 0 none)), Value.slice a1 S.length c1, Value.int IntKind.i64 ↑S.length, Value.bool false, Value.bool false, Value.bool false, Value.pointer (some (Addr.mk V1.heap.size 1 none)), Value.slice a2 S.length c2, Value.int IntKind.i64 ↑S.length, Value.pointer (some (Addr.mk V1.heap.size 0 none)), Value.slice a1 S.length c1, Value.int IntKind.i64 ↑S.length, Value.bool false, Value.bool false, Value.pointer (some (Addr.mk V1.heap.size 0 none)), Value.slice a1 S.length c1, Value.int IntKind.i64 ↑S.length, Value.int IntKind.i64 ↑k2, Value.bool false, u121, u122, u123, u124, u125, u126, u127, u128, u129, u130, u131, u132, u133, Value.int IntKind.i64 pr, Value.bool false, Value.bool false, Value.int IntKind.i64 ↑N, Value.int IntKind.i64 pr, Value.int IntKind.i64 0, Value.bool false, Value.bool false, Value.map (some bm), Value.int IntKind.i64 ↑N, Value.int IntKind.i64 ↑r, Value.bool true, Value.int IntKind.i64 ↑r, Value.slice (some (Addr.mk g3 o3 none)) N c3, Value.int IntKind.i64 ↑r, Value.pointer (some (Addr.mk g3 (o3 + r) none)), Value.int IntKind.i64 x, Value.bool false, Value.bool false, Value.slice (some (Addr.mk g3 o3 none)) N c3, Value.int IntKind.i64 ↑r, Value.pointer (some (Addr.mk g3 (o3 + r) none)), Value.int IntKind.i64 x, Value.int IntKind.i64 ↑N, Value.int IntKind.i64 pr, Value.int IntKind.i64 Q, Value.bool false, Value.bool false, Value.bool false, Value.slice (some (Addr.mk g4 o4 none)) N c4, Value.int IntKind.i64 ↑r, Value.pointer (some (Addr.mk g4 (o4 + r) none)), Value.int IntKind.i64 y, Value.bool false, Value.bool false, Value.bool false, Value.slice (some (Addr.mk g4 o4 none)) N c4, Value.int IntKind.i64 ↑r, Value.pointer (some (Addr.mk g4 (o4 + r) none)), Value.int IntKind.i64 y, Value.int IntKind.i64 pr, Value.bool false, Value.bool false, Value.bool false, Value.map (some bm), Value.slice (some (Addr.mk g3 o3 none)) N c3, Value.int IntKind.i64 ↑r, Value.pointer (some (Addr.mk g3 (o3 + r) none)), Value.int IntKind.i64 x, Value.slice (some (Addr.mk g4 o4 none)) N c4, Value.int IntKind.i64 ↑r, Value.pointer (some (Addr.mk g4 (o4 + r) none)), Value.int IntKind.i64 y, Value.agg #[Value.int IntKind.i64 x, Value.int IntKind.i64 y], Value.bool false, Value.bool false, (if listed.getD 0 false = true then Value.map (some bm) else u190), (if listed.getD 1 false = true then Value.slice (some ⟨g3, o3, none⟩) N c3 else u191), (if listed.getD 2 false = true then Value.int IntKind.i64 ↑r else u192), (if listed.getD 3 false = true then Value.pointer (some ⟨g3, o3 + r, none⟩) else u193), (if listed.getD 4 false = true then Value.int IntKind.i64 x else u194), (if listed.getD 5 false = true then Value.slice (some ⟨g4, o4, none⟩) N c4 else u195), (if listed.getD 6 false = true then Value.int IntKind.i64 ↑r else u196), (if listed.getD 7 false = true then Value.pointer (some ⟨g4, o4 + r, none⟩) else u197), (if listed.getD 8 false = true then Value.int IntKind.i64 y else u198), (if listed.getD 9 false = true then Value.agg #[Value.int IntKind.i64 x, Value.int IntKind.i64 y] else u199), u200, u201, u202, u203, u204, u205, u206, u207, u208, u209, u210, u211, u212, u213, u214, u215, u216, u217, u218, u219, u220, u221, u222, u223, u224, u225, u226, u227, u228, u229, u230, u231, u232, u233, u234, u235, u236, u237, u238, u239, u240, u241, u242, u243, u244, u245, u246, u247, u248, u249, u250, u251, u252, u253, u254, u255, u256, u257, u258, u259, u260, u261, u262, u263, u264, u265, u266, u267, u268, u269, u270, u271, u272, u273, u274, u275, u276, undef], []⟩) (hup_check (by kernel_rfl)) ?h0 ?step ?fin
          case h0 => exact ⟨Lib.hid (below_drewN HBr.out _).drew, ME.out, rfl⟩
          case step =>
            intro listed a' w' i hs hbi hdep hi ⟨IB, IM, ha⟩
            obtain ⟨ls⟩ := listed
            match ls, hs with
            | [x0, x1, x2, x3, x4, x5, x6, x7, x8, x9, x10], _ =>
            subst ha
            have hi' : i = 0 ∨ i = 1 ∨ i = 2 ∨ i = 3 ∨ i = 4 ∨ i = 5 ∨ i = 6 ∨ i = 7 ∨ i = 8 ∨ i = 9 ∨ i = 10 := by simp at hi; omega
            have y3 : w'.cell? ⟨g3, o3 + r, none⟩ = some (.int .i64 x) := (IB.out.cell (p := ⟨g3, o3 + r, none⟩) hg3).trans X3.out
            have y4 : w'.cell? ⟨g4, o4 + r, none⟩ = some (.int .i64 y) := (IB.out.cell (p := ⟨g4, o4 + r, none⟩) hg4).trans X4.out
            rcases hi' with rfl | rfl | rfl | rfl | rfl | rfl | rfl | rfl | rfl | rfl | rfl
            · obtain rfl : x0 = false := by simpa using hbi
              refine wpOpIn_plain rfl rfl rfl ?_
              exact ⟨IB, IM, rfl⟩
            · obtain rfl : x1 = false := by simpa using hbi
              refine wpOpIn_plain rfl rfl rfl ?_
              exact ⟨IB, IM, rfl⟩
            · obtain rfl : x2 = false := by simpa using hbi
              refine wpOpIn_plain rfl rfl rfl ?_
              exact ⟨IB, IM, rfl⟩
            · obtain rfl : x3 = false := by simpa using hbi
              obtain rfl : x1 = true := hdep _ rfl ⟨1, .data⟩ (by simp) rfl
              obtain rfl : x2 = true := hdep _ rfl ⟨2, .data⟩ (by simp) rfl
              refine wpOpIn_plain (v := Value.pointer (some ⟨g3, o3 + r, none⟩)) (w' := w') rfl rfl (by simp [Oper.semAt, execOp, go_sem, *]) ?_
              exact ⟨IB, IM, rfl⟩
            · obtain rfl : x4 = false := by simpa using hbi
              obtain rfl : x3 = true := hdep _ rfl ⟨3, .data⟩ (by simp) rfl
              refine wpOpIn_plain (v := Value.int IntKind.i64 x) (w' := w') rfl rfl (by simp [Oper.semAt, execOp, go_sem, *]) ?_
              exact ⟨IB, IM, rfl⟩
            · obtain rfl : x5 = false := by simpa using hbi
              refine wpOpIn_plain rfl rfl rfl ?_
              exact ⟨IB, IM, rfl⟩
            · obtain rfl : x6 = false := by simpa using hbi
              refine wpOpIn_plain rfl rfl rfl ?_
              exact ⟨IB, IM, rfl⟩
            · obtain rfl : x7 = false := by simpa using hbi
              obtain rfl : x5 = true := hdep _ rfl ⟨5, .data⟩ (by simp) rfl
              obtain rfl : x6 = true := hdep _ rfl ⟨6, .data⟩ (by simp) rfl
              refine wpOpIn_plain (v := Value.pointer (some ⟨g4, o4 + r, none⟩)) (w' := w') rfl rfl (by simp [Oper.semAt, execOp, go_sem, *]) ?_
              exact ⟨IB, IM, rfl⟩
            · obtain rfl : x8 = false := by simpa using hbi
              obtain rfl : x7 = true := hdep _ rfl ⟨7, .data⟩ (by simp) rfl
              refine wpOpIn_plain (v := Value.int IntKind.i64 y) (w' := w') rfl rfl (by simp [Oper.semAt, execOp, go_sem, *]) ?_
              exact ⟨IB, IM, rfl⟩
            · obtain rfl : x9 = false := by simpa using hbi
              obtain rfl : x4 = true := hdep _ rfl ⟨4, .data⟩ (by simp) rfl
              obtain rfl : x8 = true := hdep _ rfl ⟨8, .data⟩ (by simp) rfl
              refine wpOpIn_plain (v := key2 x y) (w' := w') rfl rfl (by first | rfl | simp [Oper.semAt, execOp, go_sem, key2, *]) ?_
              exact ⟨IB, IM, rfl⟩
            · obtain rfl : x10 = false := by simpa using hbi
              obtain rfl : x0 = true := hdep _ rfl ⟨0, .data⟩ (by simp) rfl
              obtain rfl : x9 = true := hdep _ rfl ⟨9, .data⟩ (by simp) rfl
              have im : w'.heap[bm]? = some (.map es cl) := IM.out
              have hins := insert_no im x y HNK.out
              have hpf := put_facts (o' := .map (es.push { key := key2 x y, val := .bool true, born := cl }) (cl + 1)) im hbm
              refine wpOpIn_skip (w' := w'.putObj bm (.map (es.push { key := key2 x y, val := .bool true, born := cl }) (cl + 1))) rfl rfl (by simp only [key2] at hins; simp [Oper.semAt, execOp, go_sem, hins, Result.andThen, key2]) ?_
              exact ⟨(IB.out.trans hpf.2.1), hpf.1, rfl⟩
          case fin =>
          intro listed a' Wm hs hall ⟨IB, IM, ha⟩
          obtain ⟨ls⟩ := listed
          match ls, hs with
          | [x0, x1, x2, x3, x4, x5, x6, x7, x8, x9, x10], _ =>
          obtain rfl : x0 = true := hall 0 (by simp)
          obtain rfl : x1 = true := hall 1 (by simp)
          obtain rfl : x2 = true := hall 2 (by simp)
          obtain rfl : x3 = true := hall 3 (by simp)
          obtain rfl : x4 = true := hall 4 (by simp)
          obtain rfl : x5 = true := hall 5 (by simp)
          obtain rfl : x6 = true := hall 6 (by simp)
          obtain rfl : x7 = true := hall 7 (by simp)
          obtain rfl : x8 = true := hall 8 (by simp)
          obtain rfl : x9 = true := hall 9 (by simp)
          obtain rfl : x10 = true := hall 10 (by simp)
          subst ha
          have im : Hid (Wm.heap[bm]? = some (.map (es.push { key := key2 x y, val := .bool true, born := cl }) (cl + 1))) := IM
          have MK' : Hid (∀ e ∈ (es.push { key := key2 x y, val := .bool true, born := cl }).toList, ∃ j : Nat, j < r + 1 ∧ e.key = key2 (partR (leftP kl) L bl j) (partR (keptP kl) L bl j)) := fun e he => by
            simp only [Array.toList_push, List.mem_append, List.mem_singleton] at he
            rcases he with he | rfl
            · obtain ⟨j, hj, hkey⟩ := MK.out e he
              exact ⟨j, by omega, hkey⟩
            · exact ⟨r, by omega, by show key2 x y = _; rw [HX.out, HY.out]⟩
          obtain ⟨es', hes⟩ : ∃ e, e = es.push { key := key2 x y, val := .bool true, born := cl } := ⟨_, rfl⟩
          rw [← hes] at im MK'
          clear IM hall hs hlook hes ME MK HNK
          dsimp only [Exit.then, Exit.inBlock]
          go_wp2_with fail
          go_loopw [24, 201] (fun kk i wr4 => ∃ i4 : Nat, i4 ≤ k ∧ i = .int .i64 i4 ∧ kk = .int .i64 (cntP (keptP kl) 0 i4) ∧ Hid (wr4.heap[bm]? = some (.map es' (cl + 1))) ∧ Hid (Below V2.heap.size V2 wr4)) (fun _ i _ => k - (intOf i).toNat)
          case atStart => exact ⟨0, Nat.zero_le _, rfl, rfl, im, IB⟩
          case round =>
          obtain ⟨i4, hi4, rfl, rfl, ME4, HB4⟩ := hrel
          by_cases hlt4 : i4 < k
          · have hltz4 : (i4 : Int) < (k : Int) := by omega
            have hkl4 : i4 < kl.length := by rw [HKL.out]; exact hlt4
            obtain ⟨gk, ok, rfl, hck⟩ := (IK.out.keep HB4.out).at_ (ne_nil_of_lt hkl4)
            have ck := hck i4 hkl4
            have hcs := cntP_succ (keptP kl) i4 0
            have hcl : cntP (keptP kl) 0 i4 ≤ i4 := cntP_le _ _ _
            have hkp : keptP kl (0 + i4) = kl[i4] := by unfold keptP; rw [Nat.zero_add]; simp [List.getD, hkl4]
            rw [hkp] at hcs
            clear hck
            cases hq : kl[i4] with
            | false =>
              rw [hq] at ck hcs
              have HCS := Lib.hid hcs
              clear hcs hkp hq hkl4
              go_wp2_with fail
              go_roundw
              case rel => exact ⟨i4 + 1, by omega, by go_num, by rw [HCS.out]; rfl, ME4, HB4⟩
              case measure => simp [intOf]; omega
            | true =>
              rw [hq] at ck hcs
              rw [hq, Nat.zero_add] at hkp
              have HCS := Lib.hid hcs
              have HKP := Lib.hid hkp
              clear hcs hkp hq hkl4
              have hi4L : i4 < L.length := by rw [HF2.out]; exact hlt4
              have hgk := pick_get (keptP kl) L 0 i4 hi4L (by rw [Nat.zero_add]; exact HKP.out)
              have hne : pickF (keptP kl) 0 L ≠ [] := fun e => by
                have h9 := hgk.1
                rw [e] at h9
                simp at h9
              have hSe : S = pickF (keptP kl) 0 L := by rw [HS.out]; unfold subS; rw [if_neg hne]
              have hSWe : SW = pickB (keptP kl) 0 bl := by rw [HSW.out]; unfold subW; rw [if_neg hne]
              have hps := part_shift HPG.out (keptP kl) (leftP kl) (fun _ => rfl) hltz i4 hi4L HKP.out
              have hS4 : S.length ≤ 4 := by
                rw [hSe]
                exact Nat.le_trans (pickF_len _ _ _) (by rw [HF2.out]; exact d2)
              have hsE1 : shiftE L bl.length r i4 = 0 := HPG.out.serr (by rw [HF2.out]; exact d1) (by rw [HF2.out]; exact d2) (by omega) hltz i4 hi4L
              have hsubG : PGrid S SW pr := by rw [hSe, hSWe, HMQ.out]; exact HPG.out.sub _
              have hsE2 : shiftE S SW.length y (cntP (keptP kl) 0 i4 : Nat) = 0 := hsubG.serr hsl hS4 b20 b21 _ (by rw [hSe]; exact hgk.1)
              rw [← hSe, ← hSWe, ← HY.out, ← HX.out] at hps
              have hs1 : ∀ W, Below V2.heap.size V2 W → Calls Try.prog 40 #[.agg #[.slice a k c, .slice av k cv], .int .i64 r, .int .i64 i4, .int .i64 1] W fun e w' => e = .returned (.tuple #[.int .i64 (shiftP L bl r i4 1), .int .i64 (shiftQ L bl r i4 1), .int .i64 0]) ∧ Below W.heap.size W w' := fun W hW => by
                have h9 := Shift_any (IL.out.keep hW) (IB9.out.keep hW) c cv r i4 1
                rw [hsE1] at h9
                simp only [if_true, Int.toNat_natCast] at h9
                rw [HF2.out, HBL.out] at h9
                exact h9
              have hs2 : ∀ W, Below V2.heap.size V2 W → Calls Try.prog 40 #[.agg #[.slice a1 S.length c1, .slice a2 S.length c2], .int .i64 y, .int .i64 (cntP (keptP kl) 0 i4 : Nat), .int .i64 1] W fun e w' => e = .returned (.tuple #[.int .i64 (shiftP S SW y (cntP (keptP kl) 0 i4) 1), .int .i64 (shiftQ S SW y (cntP (keptP kl) 0 i4) 1), .int .i64 0]) ∧ Below W.heap.size W w' := fun W hW => by
                have h9 := Shift_any (I1.out.keep hW) (I2.out.keep hW) c1 c2 y (cntP (keptP kl) 0 i4 : Nat) 1
                rw [hsE2] at h9
                simp only [if_true, Int.toNat_natCast] at h9
                rw [HSWL.out] at h9
                exact h9
              have HPS := Lib.hid hps
              clear hgk hne hSe hSWe hps hsE1 hsubG hsE2 hS4 hi4L
              generalize shiftP L bl r i4 1 = p0 at *
              generalize shiftQ L bl r i4 1 = q1 at *
              generalize shiftP S SW y (cntP (keptP kl) 0 i4) 1 = p0' at *
              generalize shiftQ S SW y (cntP (keptP kl) 0 i4) 1 = q2 at *
              have hlt13 : W1.heap.size < V2.heap.size := by have := HZV.out; omega
              have hlt16 : V1.heap.size < V2.heap.size := by have := HZV.out; omega
              have k0 := (cell_of_row _ W1.heap.size 0 _ _ _ (below_heapAt HB4.out ⟨hlt13, R13.out⟩)).trans rfl
              have k1 := (cell_of_row _ W1.heap.size 1 _ _ _ (below_heapAt HB4.out ⟨hlt13, R13.out⟩)).trans rfl
              have hlm := (Array.getElem?_eq_some_iff.1 ME4.out).1
              generalize hcn : cntP (keptP kl) 0 i4 = cn at *
              go_wp2_with fail
              refine (hs1 _ HB4.out).mono ?_
              rintro e W5 ⟨rfl, b5⟩
              have HB5 := Lib.hid (HB4.out.trans (b5.mono HB4.out.size))
              have ME5 := Lib.hid (below_heapAt b5 ⟨hlm, ME4.out⟩)
              clear hs1 k0 k1 b5 hlm
              go_wp2_with fail
              refine (wpIn_wide (n := 0)).1 ?_
              refine region_det (by kernel_rfl) (I := fun listed a' w' => Hid (Below V2.heap.size V2 w') ∧ Hid (w'.heap[bm]? = some (.map es' (cl + 1))) ∧ a' = ⟨#[Value.int IntKind.u8 n, Value.int IntKind.u8 m, Value.int IntKind.u8 rg, Value.int IntKind.u8 kg, undef, undef, undef, undef, u8, Value.int IntKind.i64 ↑N, Value.int IntKind.i64 ↑k, Value.slice a k c, Value.int IntKind.i64 0, Value.pointer (some (Addr.mk W1.heap.size 0 none)), Value.slice (some (Addr.mk gk ok none)) k cp, u15, Value.pointer (some (Addr.mk V1.heap.size 0 none)), Value.slice (some (Addr.mk g3 o3 none)) N c3, Value.slice (some (Addr.mk g4 o4 none)) N c4, Value.int IntKind.i64 pr, undef, u21, Value.map (some bm), Value.int IntKind.i64 ↑r, Value.int IntKind.i64 ↑cn, Value.int IntKind.i64 ↑i4, Value.int IntKind.i64 p0, Value.int IntKind.i64 q1, Value.int IntKind.i64 0, (if listed.getD 11 false = true then Value.int IntKind.i64 p0' else u29), (if listed.getD 12 false = true then Value.int IntKind.i64 q2 else u30), (if listed.getD 13 false = true then Value.int IntKind.i64 0 else u31), Value.int IntKind.u8 n, Value.int IntKind.i64 n, Value.int IntKind.i64 (n % 64), Value.int IntKind.i64 ↑N, Value.int IntKind.u8 m, Value.int IntKind.i64 m, Value.int IntKind.i64 (m % 4), Value.int IntKind.i64 ↑k, Value.tuple #[Value.slice a k c, Value.int IntKind.i64 0], Value.int IntKind.i64 ↑N, Value.int IntKind.i64 ↑k, Value.tuple #[Value.slice a k c, Value.int IntKind.i64 0], Value.slice a k c, Value.int IntKind.i64 0, Value.int IntKind.i64 0, Value.bool false, Value.bool false, Value.slice a k c, Value.int IntKind.i64 ↑k, Value.int IntKind.i64 ↑k, Value.bool false, Value.bool false, Value.slice a k c, Value.agg #[Value.slice a k c, Value.slice none 0 0], Value.int IntKind.i64 ↑k, Value.int IntKind.i64 ↑k, Value.bool false, u59, u60, u61, u62, u63, u64, u65, u66, u67, u68, u69, u70, u71, u72, u73, u74, u75, u76, u77, u78, Value.tuple #[Value.agg #[Value.slice a1 S.length c1, Value.slice a2 S.length c2], Value.slice (some (Addr.mk g3 o3 none)) N c3, Value.slice (some (Addr.mk g4 o4 none)) N c4, Value.int IntKind.i64 0], Value.agg #[Value.slice a k c, Value.slice av k cv], Value.slice (some (Addr.mk gk ok none)) k cp, Value.tuple #[Value.agg #[Value.slice a1 S.length c1, Value.slice a2 S.length c2], Value.slice (some (Addr.mk g3 o3 none)) N c3, Value.slice (some (Addr.mk g4 o4 none)) N c4, Value.int IntKind.i64 0], Value.agg #[Value.slice a1 S.length c1, Value.slice a2 S.length c2], Value.slice (some (Addr.mk g3 o3 none)) N c3, Value.slice (some (Addr.mk g4 o4 none)) N c4, Value.int IntKind.i64 0, Value.int IntKind.i64 0, Value.bool false, Value.bool false, Value.slice (some (Addr.mk g3 o3 none)) N c3, Value.int IntKind.i64 ↑N, Value.int IntKind.i64 ↑N, Value.bool false, Value.bool false, Value.bool false, Value.slice (some (Addr.mk g4 o4 none)) N c4, Value.int IntKind.i64 ↑N, Value.int IntKind.i64 ↑N, Value.bool false, Value.bool false, Value.bool false, Value.pointer (some (Addr.mk V1.heap.size 0 none)), Value.slice a1 S.length c1, Value.int IntKind.i64 ↑S.length, Value.bool false, Value.bool false, Value.bool false, Value.pointer (some (Addr.mk V1.heap.size 1 none)), Value.slice a2 S.length c2, Value.int IntKind.i64 ↑S.length, Value.pointer (some (Addr.mk V1.heap.size 0 none)), Value.slice a1 S.length c1, Value.int IntKind.i64 ↑S.length, Value.bool false, Value.bool false, Value.pointer (some (Addr.mk V1.heap.size 0 none)), Value.slice a1 S.length c1, Value.int IntKind.i64 ↑S.length, Value.int IntKind.i64 ↑k2, Value.bool false, u121, u122, u123, u124, u125, u126, u127, u128, u129, u130, u131, u132, u133, Value.int IntKind.i64 pr, Value.bool false, Value.bool false, Value.int IntKind.i64 ↑N, Value.int IntKind.i64 pr, Value.int IntKind.i64 0, Value.bool false, Value.bool false, Value.map (some bm), Value.int IntKind.i64 ↑N, Value.int IntKind.i64 ↑r, Value.bool true, Value.int IntKind.i64 ↑r, Value.slice (some (Addr.mk g3 o3 none)) N c3, Value.int IntKind.i64 ↑r, Value.pointer (some (Addr.mk g3 (o3 + r) none)), Value.int IntKind.i64 x, Value.bool false, Value.bool false, Value.slice (some (Addr.mk g3 o3 none)) N c3, Value.int IntKind.i64 ↑r, Value.pointer (some (Addr.mk g3 (o3 + r) none)), Value.int IntKind.i64 x, Value.int IntKind.i64 ↑N, Value.int IntKind.i64 pr, Value.int IntKind.i64 Q, Value.bool false, Value.bool false, Value.bool false, Value.slice (some (Addr.mk g4 o4 none)) N c4, Value.int IntKind.i64 ↑r, Value.pointer (some (Addr.mk g4 (o4 + r) none)), Value.int IntKind.i64 y, Value.bool false, Value.bool false, Value.bool false, Value.slice (some (Addr.mk g4 o4 none)) N c4, Value.int IntKind.i64 ↑r, Value.pointer (some (Addr.mk g4 (o4 + r) none)), Value.int IntKind.i64 y, Value.int IntKind.i64 pr, Value.bool false, Value.bool false, Value.bool false, Value.map (some bm), Value.slice (some (Addr.mk g3 o3 none)) N c3, Value.int IntKind.i64 ↑r, Value.pointer (some (Addr.mk g3 (o3 + r) none)), Value.int IntKind.i64 x, Value.slice (some (Addr.mk g4 o4 none)) N c4, Value.int IntKind.i64 ↑r, Value.pointer (some (Addr.mk g4 (o4 + r) none)), Value.int IntKind.i64 y, Value.agg #[Value.int IntKind.i64 x, Value.int IntKind.i64 y], Value.bool false, Value.bool false, Value.map (some bm), Value.slice (some (Addr.mk g3 o3 none)) N c3, Value.int IntKind.i64 ↑r, Value.pointer (some (Addr.mk g3 (o3 + r) none)), Value.int IntKind.i64 x, Value.slice (some (Addr.mk g4 o4 none)) N c4, Value.int IntKind.i64 ↑r, Value.pointer (some (Addr.mk g4 (o4 + r) none)), Value.int IntKind.i64 y, Value.agg #[Value.int IntKind.i64 x, Value.int IntKind.i64 y], Value.int IntKind.i64 ↑k, Value.int IntKind.i64 ↑i4, Value.bool true, Value.int IntKind.i64 ↑i4, Value.slice (some (Addr.mk gk ok none)) k cp, Value.int IntKind.i64 ↑i4, Value.pointer (some (Addr.mk gk (ok + i4) none)), Value.bool true, Value.bool false, Value.tuple #[Value.int IntKind.i64 p0, Value.int IntKind.i64 q1, Value.int IntKind.i64 0], Value.agg #[Value.slice a k c, Value.slice av k cv], Value.int IntKind.i64 ↑r, Value.int IntKind.i64 ↑i4, Value.tuple #[Value.int IntKind.i64 p0, Value.int IntKind.i64 q1, Value.int IntKind.i64 0], Value.int IntKind.i64 p0, Value.int IntKind.i64 q1, Value.int IntKind.i64 0, (if listed.getD 7 false = true then Value.tuple #[Value.int IntKind.i64 p0', Value.int IntKind.i64 q2, Value.int IntKind.i64 0] else u217), (if listed.getD 0 false = true then Value.agg #[Value.slice a1 S.length c1, Value.slice a2 S.length c2] else u218), (if listed.getD 1 false = true then Value.slice (some ⟨g4, o4, none⟩) N c4 else u219), (if listed.getD 2 false = true then Value.int IntKind.i64 ↑r else u220), (if listed.getD 3 false = true then Value.pointer (some ⟨g4, o4 + r, none⟩) else u221), (if listed.getD 4 false = true then Value.int IntKind.i64 y else u222), (if listed.getD 5 false = true then Value.int IntKind.i64 ↑cn else u223), (if listed.getD 6 false = true then Value.tuple #[Value.int IntKind.i64 p0', Value.int IntKind.i64 q2, Value.int IntKind.i64 0] else u224), (if listed.getD 8 false = true then Value.int IntKind.i64 p0' else u225), (if listed.getD 9 false = true then Value.int IntKind.i64 q2 else u226), (if listed.getD 10 false = true then Value.int IntKind.i64 0 else u227), u228, u229, u230, u231, u232, u233, u234, u235, u236, u237, u238, u239, u240, u241, u242, u243, u244, u245, u246, u247, u248, u249, u250, u251, u252, u253, u254, u255, u256, u257, u258, u259, u260, u261, u262, u263, u264, u265, u266, u267, u268, u269, u270, u271, u272, u273, u274, u275, u276, undef], []⟩) (hup_check (by kernel_rfl)) ?h0 ?step ?fin
              case h0 => exact ⟨HB5.out.drew, ME5.out, rfl⟩
              case step =>
                intro listed a' w' i hs hbi hdep hi ⟨IB, IM, ha⟩
                obtain ⟨ls⟩ := listed
                match ls, hs with
                | [x0, x1, x2, x3, x4, x5, x6, x7, x8, x9, x10, x11, x12, x13], _ =>
                subst ha
                have hi' : i = 0 ∨ i = 1 ∨ i = 2 ∨ i = 3 ∨ i = 4 ∨ i = 5 ∨ i = 6 ∨ i = 7 ∨ i = 8 ∨ i = 9 ∨ i = 10 ∨ i = 11 ∨ i = 12 ∨ i = 13 := by simp at hi; omega
                have y4 : w'.cell? ⟨g4, o4 + r, none⟩ = some (.int .i64 y) := (IB.out.cell (p := ⟨g4, o4 + r, none⟩) hg4).trans X4.out
                have hrow := below_heapAt IB.out ⟨hlt16, HROW.out⟩
                rcases hi' with rfl | rfl | rfl | rfl | rfl | rfl | rfl | rfl | rfl | rfl | rfl | rfl | rfl | rfl
                · obtain rfl : x0 = false := by simpa using hbi
                  refine wpOpIn_load_row rfl rfl 42 _ rfl V1.heap.size rfl 42 _ _ _ hrow Try.underlying42 rfl Try.info42 ?_
                  exact ⟨IB, IM, rfl⟩
                · obtain rfl : x1 = false := by simpa using hbi
                  refine wpOpIn_plain rfl rfl rfl ?_
                  exact ⟨IB, IM, rfl⟩
                · obtain rfl : x2 = false := by simpa using hbi
                  refine wpOpIn_plain rfl rfl rfl ?_
                  exact ⟨IB, IM, rfl⟩
                · obtain rfl : x3 = false := by simpa using hbi
                  obtain rfl : x1 = true := hdep _ rfl ⟨1, .data⟩ (by simp) rfl
                  obtain rfl : x2 = true := hdep _ rfl ⟨2, .data⟩ (by simp) rfl
                  refine wpOpIn_plain (v := Value.pointer (some ⟨g4, o4 + r, none⟩)) (w' := w') rfl rfl (by simp [Oper.semAt, execOp, go_sem, *]) ?_
                  exact ⟨IB, IM, rfl⟩
                · obtain rfl : x4 = false := by simpa using hbi
                  obtain rfl : x3 = true := hdep _ rfl ⟨3, .data⟩ (by simp) rfl
                  refine wpOpIn_plain (v := Value.int IntKind.i64 y) (w' := w') rfl rfl (by simp [Oper.semAt, execOp, go_sem, *]) ?_
                  exact ⟨IB, IM, rfl⟩
                · obtain rfl : x5 = false := by simpa using hbi
                  refine wpOpIn_plain rfl rfl rfl ?_
                  exact ⟨IB, IM, rfl⟩
                · obtain rfl : x6 = false := by simpa using hbi
                  obtain rfl : x0 = true := hdep _ rfl ⟨0, .data⟩ (by simp) rfl
                  obtain rfl : x4 = true := hdep _ rfl ⟨4, .data⟩ (by simp) rfl
                  obtain rfl : x5 = true := hdep _ rfl ⟨5, .data⟩ (by simp) rfl
                  refine wpOpIn_call (args := #[Value.agg #[Value.slice a1 S.length c1, Value.slice a2 S.length c2], Value.int IntKind.i64 y, Value.int IntKind.i64 ↑cn, Value.int IntKind.i64 1]) rfl rfl (sem_call4 rfl rfl rfl rfl rfl (enters_of Try.func40 (by kernel_rfl) rfl)) (hs2 _ IB.out) ?_
                  rintro e V ⟨rfl, hb⟩
                  exact ⟨_, rfl, (IB.out.trans (hb.mono IB.out.size)), (below_heapAt hb ⟨(Array.getElem?_eq_some_iff.1 IM.out).1, IM.out⟩), rfl⟩
                · obtain rfl : x7 = false := by simpa using hbi
                  obtain rfl : x6 = true := hdep _ rfl ⟨6, .data⟩ (by simp) rfl
                  refine wpOpIn_plain rfl rfl rfl ?_
                  exact ⟨IB, IM, rfl⟩
                · obtain rfl : x8 = false := by simpa using hbi
                  obtain rfl : x7 = true := hdep _ rfl ⟨7, .data⟩ (by simp) rfl
                  refine wpOpIn_plain (v := Value.int IntKind.i64 p0') (w' := w') rfl rfl (by first | rfl | simp [Oper.semAt, execOp, go_sem]) ?_
                  exact ⟨IB, IM, rfl⟩
                · obtain rfl : x9 = false := by simpa using hbi
                  obtain rfl : x7 = true := hdep _ rfl ⟨7, .data⟩ (by simp) rfl
                  refine wpOpIn_plain (v := Value.int IntKind.i64 q2) (w' := w') rfl rfl (by first | rfl | simp [Oper.semAt, execOp, go_sem]) ?_
                  exact ⟨IB, IM, rfl⟩
                · obtain rfl : x10 = false := by simpa using hbi
                  obtain rfl : x7 = true := hdep _ rfl ⟨7, .data⟩ (by simp) rfl
                  refine wpOpIn_plain (v := Value.int IntKind.i64 0) (w' := w') rfl rfl (by first | rfl | simp [Oper.semAt, execOp, go_sem]) ?_
                  exact ⟨IB, IM, rfl⟩
                · obtain rfl : x11 = false := by simpa using hbi
                  obtain rfl : x8 = true := hdep _ rfl ⟨8, .data⟩ (by simp) rfl
                  refine wpOpIn_plain rfl rfl rfl ?_
                  exact ⟨IB, IM, rfl⟩
                · obtain rfl : x12 = false := by simpa using hbi
                  obtain rfl : x9 = true := hdep _ rfl ⟨9, .data⟩ (by simp) rfl
                  refine wpOpIn_plain rfl rfl rfl ?_
                  exact ⟨IB, IM, rfl⟩
                · obtain rfl : x13 = false := by simpa using hbi
                  obtain rfl : x10 = true := hdep _ rfl ⟨10, .data⟩ (by simp) rfl
                  refine wpOpIn_plain rfl rfl rfl ?_
                  exact ⟨IB, IM, rfl⟩
              case fin =>
              intro listed a' Y6 hs hall ⟨IB, IM, ha⟩
              obtain ⟨ls⟩ := listed
              match ls, hs with
              | [x0, x1, x2, x3, x4, x5, x6, x7, x8, x9, x10, x11, x12, x13], _ =>
              obtain rfl : x0 = true := hall 0 (by simp)
              obtain rfl : x1 = true := hall 1 (by simp)
              obtain rfl : x2 = true := hall 2 (by simp)
              obtain rfl : x3 = true := hall 3 (by simp)
              obtain rfl : x4 = true := hall 4 (by simp)
              obtain rfl : x5 = true := hall 5 (by simp)
              obtain rfl : x6 = true := hall 6 (by simp)
              obtain rfl : x7 = true := hall 7 (by simp)
              obtain rfl : x8 = true := hall 8 (by simp)
              obtain rfl : x9 = true := hall 9 (by simp)
              obtain rfl : x10 = true := hall 10 (by simp)
              obtain rfl : x11 = true := hall 11 (by simp)
              obtain rfl : x12 = true := hall 12 (by simp)
              obtain rfl : x13 = true := hall 13 (by simp)
              subst ha
              clear hall hs hs2
              dsimp only [Exit.then, Exit.inBlock]
              rcases HPS.out with ⟨rfl, rfl⟩ | ⟨j, rfl, hj, hqz, hz0, hxj⟩
              · clear HPS
                go_wp2_with fail
                go_quiet (fail)
                go_wp2_with fail
                have e9 : ((cntP (keptP kl) 0 (i4 + 1) : Nat) : Int) = (cn : Int) + 1 := by rw [HCS.out]; simp
                go_roundw
                case rel => exact ⟨i4 + 1, by omega, by go_num, by rw [e9], IM.out, below_drewN IB.out _⟩
                case measure => simp [intOf]; omega
              · clear HPS
                have hjN : j < N := by omega
                have hk9 : j < KR.length := by rw [HRL2.out]; exact hjN
                have hp9 : j < PR.length := by rw [HRL1.out]; exact hjN
                have e3 := HC3.out j hp9
                have e4 := HC4.out j hk9
                rw [show PR[j] = partR (leftP kl) L bl j from Option.some.inj ((List.getElem?_eq_getElem hp9).symm.trans (HPA1.out j hjN)), hxj] at e3
                rw [show KR[j] = partR (keptP kl) L bl j from Option.some.inj ((List.getElem?_eq_getElem hk9).symm.trans (HPA2.out j hjN)), ← hqz] at e4
                rw [← hqz] at hz0
                clear hqz hxj hk9 hp9
                have z3 : Y6.cell? ⟨g3, o3 + j, none⟩ = some (.int .i64 x) := (IB.out.cell (p := ⟨g3, o3 + j, none⟩) hg3).trans e3
                have z4 : Y6.cell? ⟨g4, o4 + j, none⟩ = some (.int .i64 q2) := (IB.out.cell (p := ⟨g4, o4 + j, none⟩) hg4).trans e4
                have z5 : Y6.cell? ⟨g3, o3 + r, none⟩ = some (.int .i64 x) := (IB.out.cell (p := ⟨g3, o3 + r, none⟩) hg3).trans X3.out
                clear e3 e4
                have n1 : ((j : Int) == -2) = false := beq_eq_false_iff_ne.2 (by omega)
                have n2 : (q2 == -2) = false := beq_eq_false_iff_ne.2 (by omega)
                have n5 : ((j : Int) != -2) = true := by rw [bne_iff_ne]; omega
                have n3 : decide ((j : Int) < 0) = false := decide_eq_false (by omega)
                have n4 : decide ((N : Int) ≤ (j : Int)) = false := decide_eq_false (by omega)
                go_wp2_with fail
                go_quiet (fail)
                go_wp2_with fail
                have e9 : ((cntP (keptP kl) 0 (i4 + 1) : Nat) : Int) = (cn : Int) + 1 := by rw [HCS.out]; simp
                go_roundw
                case rel => exact ⟨i4 + 1, by omega, by go_num, by rw [e9], IM.out, below_drewN IB.out _⟩
                case measure => simp [intOf]; omega
          · have hi4k : i4 = k := by omega
            subst hi4k
            go_wp2_with fail
            go_roundw
            case rel => exact ⟨r + 1, es', cl + 1, by omega, by go_num, ME4, MK', HB4⟩
            case measure => simp [intOf]; omega
        · have hrN : r = N := by omega
          have HBF : Hid (Below w.heap.size w wr) := HBV2.out.trans (HBr.out.mono HBV2.out.size)
          subst hrN
          go_wp2_with fail
          refine (works_true wr).mono ?_
          rintro e w9 ⟨rfl, b9⟩
          go_wp2_with fail
          go_ret
          exact ⟨rfl, HBF.out.trans (b9.mono HBF.out.size)⟩
end Go.Proofs.Ytoloiingodigpaa
