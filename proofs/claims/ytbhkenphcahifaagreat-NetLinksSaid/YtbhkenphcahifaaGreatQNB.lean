import Derived.Test.YtbhkenphcahifaaGreatQNA
import Init
import Derived.Test.YtbhkenphcahifaaGreatPG
namespace Go.Proofs.YtbhkenphcahifaaGreat
open Go.RowKit Go.Shelf
attribute [local go_sem] Oper.semAt_some
set_option maxRecDepth 100000
set_option maxHeartbeats 4000000

theorem cutL_snoc (bs : List Bool) (L : List (Int × Int)) (p : Int × Int) : cutL bs (L ++ [p]) = cutL bs L + (if (bs.getD p.1.toNat false != bs.getD p.2.toNat false) = true then 1 else 0) := by
  unfold cutL
  rw [List.filter_append, List.length_append]
  congr 1
  by_cases h : (bs.getD p.1.toNat false != bs.getD p.2.toNat false) = true
  · simp only [h, List.filter_cons, List.filter_nil, if_true, List.length_singleton]
  · simp only [h, List.filter_cons, List.filter_nil, if_false, List.length_nil]
    simp
theorem cutL_le (bs : List Bool) (L : List (Int × Int)) : cutL bs L ≤ L.length := List.length_filter_le _ _
theorem Across_ok {w : World} {sa ba : Option Addr} {l : List Int} {bs : List Bool} (h : Ints w sa l) (hB : Bls w ba bs) (sc bc0 : Nat) (kind hosts : Int) (hv : vOk kind l hosts) (hlen : (bs.length : Int) = swI kind l) {L : List (Int × Int)} (hL : L = lkL (nbS kind l) (swI kind l).toNat) (hLn : L.length ≤ 1000000)
    (hin : ∀ p ∈ L, 0 ≤ p.1 ∧ p.1 < swI kind l ∧ 0 ≤ p.2 ∧ p.2 < swI kind l) :
    Calls Tryz.prog 22 #[.agg #[.int .i64 kind, .slice sa l.length sc, .int .i64 hosts], .slice ba bs.length bc0] w fun e w' => e = .returned (.tuple #[.int .i64 (cutL bs L : Nat), .int .i64 0]) ∧ Below w.heap.size w w' := by
  obtain ⟨hba, q0, q1, hz⟩ := twoN w (.cells #[.int .i64 kind, .slice sa l.length sc, .int .i64 hosts] 24) (.cells #[.slice ba bs.length bc0] 49)
  obtain ⟨ty, fs, fn, rcv, sw, hnv, hse, hsl, hnk⟩ := netK (h.keep hba) sc hv
  have HO : Hid (∀ W, Below w.heap.size w W → Calls Tryz.prog 47 #[.agg #[.int .i64 kind, .slice sa l.length sc, .int .i64 hosts]] W fun e w' => e = .returned (.tuple #[.iface ty rcv, .int .i64 0]) ∧ Below W.heap.size W w') := fun W hb => by
    refine (networkOf_any (h.keep hb) sc kind hosts).mono ?_
    rintro e w' ⟨h1, ⟨_, rfl⟩ | ⟨h2, _⟩⟩
    · exact ⟨by rw [hnv], h1⟩
    · exact absurd hv h2
  have hsn : (swI kind l).toNat = sw := by omega
  rw [hsn] at hL
  rw [← hse] at hlen hin
  have hbl : bs.length = sw := by omega
  obtain ⟨X, hX⟩ : ∃ X, X = (w.alloc (.cells #[.int .i64 kind, .slice sa l.length sc, .int .i64 hosts] 24)).alloc (.cells #[.slice ba bs.length bc0] 49) := ⟨_, rfl⟩
  have HXE := Lib.hid hX
  rw [← hX] at hnk hba q0 q1 hz
  have HNK := Lib.hid hnk
  have HBA := Lib.hid hba
  have HQ0 := Lib.hid q0
  have HQ1 := Lib.hid q1
  have HZ := Lib.hid hz
  have HBS := Lib.hid hB
  have HIN := Lib.hid hin
  have HL := Lib.hid hL
  have HLN := Lib.hid hLn
  have c0 := cellR 0 q0 rfl
  have c1 := cellR 1 q0 rfl
  have c2 := cellR 2 q0 rfl
  have HSL := Lib.hid hsl
  rw [hX] at c0 c1 c2
  rw [hbl]
  rw [hbl] at c0 c1 c2 hX
  have HBL := Lib.hid hbl
  have HX2 := Lib.hid hX
  have hes := hnk.es
  have hms := hnk.ms
  clear h hv hlen hin hL hnk hba q0 q1 hz hB hnv hse hsn hbl hX hLn hsl
  generalize l.length = N at *
  generalize hM : cutL bs L = M at *
  have HM := Lib.hid hM
  clear hM
  refine (callsIn_wide (n := 4)).1 ?_
  refine callsIn_of_wp_marks Tryz.func22 rfl trivial ?_ rfl
  simp only [Tryz.ntmps22, List.size_toArray, List.length_cons, List.length_nil, Nat.reduceAdd, Nat.reduceSub, Array.replicate_succ, Array.replicate_zero, List.push_toArray, List.append_toArray, List.nil_append, List.cons_append]
  gi_wp2
  clear c0 c1 c2
  rw [← HX2.out]
  refine ⟨trivial, callsIn_wide.2 ((HO.out X HBA.out).mono ?_)⟩
  rintro e w1 ⟨rfl, hb1⟩
  have HB1 := Lib.hid hb1
  clear HO hb1
  gi_wp2
  refine ⟨trivial, callsIn_wide.2 ((HNK.out.sz w1 HB1.out).mono ?_)⟩
  rintro e w2 ⟨rfl, hb2⟩
  have HB2 : Hid (Below X.heap.size X w2) := HB1.out.trans (hb2.mono HB1.out.size)
  have q3 : w2.heap[w.heap.size + 1]? = some (.cells #[.slice ba sw bc0] 49 (0, 0)) := by
    have h7 := (HB2.out.block (w.heap.size + 1) (by rw [HZ.out]; omega)).trans HQ1.out
    rw [h7, HBL.out]
  have c3 := cellR 0 q3 rfl
  have hmm : ((sw : Int) != (sw : Int)) = false := by simp
  have k3 := kcell ((Below.refl w2.heap.size w2).alloc (Nat.le_refl _) (.cells #[.int .i64 0] 3)) c3
  clear HB1 hb2 hes hms
  gi_wp2
  clear c3 hmm
  obtain ⟨bc, hbc⟩ : ∃ bc, bc = w2.heap.size := ⟨_, rfl⟩
  have qc : (w2.alloc (.cells #[.int .i64 0] 3)).heap[w2.heap.size]? = some (.cells #[.int .i64 0] 3 (0, 0)) := heap_alloc_new w2 _
  have hbd : Below w2.heap.size w2 (w2.alloc (.cells #[.int .i64 0] 3)) := (Below.refl _ _).alloc (Nat.le_refl _) _
  have HY : Hid ((w2.alloc (.cells #[.int .i64 0] 3)).heap[bc]? = some (.cells #[.int .i64 0] 3 (0, 0)) ∧ (w2.alloc (.cells #[.int .i64 0] 3)).heap[w.heap.size + 1]? = some (.cells #[.slice ba sw bc0] 49 (0, 0)) ∧ Below X.heap.size X (w2.alloc (.cells #[.int .i64 0] 3)) ∧ bc < (w2.alloc (.cells #[.int .i64 0] 3)).heap.size ∧ w.heap.size + 1 < bc) :=
    ⟨by rw [hbc]; exact qc, heapB hbd q3, HB2.out.trans (hbd.mono HB2.out.size), by rw [hbc]; simp, by rw [hbc]; have h7 := HB2.out.size; rw [HZ.out] at h7; omega⟩
  clear qc hbd q3 k3 HB2
  rw [← hbc]
  clear hbc
  generalize w2.alloc (.cells #[.int .i64 0] 3) = Y at *
  have HLK := Lib.hid (links_any (lo := X.heap.size) HY.out.2.2.1.size HSL.out (HNK.out.later HY.out.2.2.1))
  rw [← HL.out] at HLK
  refine ⟨trivial, callsIn_wide.2 (HLK.out.mono ?_)⟩
  rintro e w3 ⟨gf, lb, rfl, hli, hb3⟩
  obtain ⟨heg, Nd, hNd, hSq⟩ := hli
  have HY3 : Hid (w3.heap[bc]? = some (.cells #[.int .i64 0] 3 (0, 0)) ∧ w3.heap[w.heap.size + 1]? = some (.cells #[.slice ba sw bc0] 49 (0, 0)) ∧ Below X.heap.size X w3 ∧ bc < w3.heap.size ∧ w.heap.size + 1 < bc) := by
    obtain ⟨a1, a2, a3, a4, a5⟩ := HY.out
    exact ⟨heapB hb3 a1, heapB hb3 a2, a3.trans (hb3.mono a3.size), Nat.lt_of_lt_of_le a4 hb3.size, a5⟩
  have HNF : Hid (∀ b ∈ Nd, (∃ ob, w3.heap[b]? = some ob ∧ ob.isCells = true) ∧ bc < b) := fun b hb => ⟨(hNd b hb).2, by have := (hNd b hb).1; have := HY.out.2.2.2.1; omega⟩
  have HSQ := Lib.hid hSq
  have HZX : Hid (X.heap.size ≤ bc) := by have h7 := HY.out.2.2.2.2; show _ ≤ _; rw [HZ.out]; omega
  clear HY HLK hNd hSq hb3
  gi_wp2
  refine range_x (L := L) (Nd := Nd) (lo := X.heap.size) (Fr := fun b W => (∃ ob, W.heap[b]? = some ob ∧ ob.isCells = true) ∧ bc < b) (by omega) rfl heg (HSQ.out _) HNF.out HY3.out.2.2.1.size (fun _ => rfl) (fun pre W => W.heap[bc]? = some (.cells #[.int .i64 ((cutL bs pre : Nat) : Int)] 3 (0, 0)) ∧ W.heap[w.heap.size + 1]? = some (.cells #[.slice ba sw bc0] 49 (0, 0)) ∧ Below X.heap.size X W ∧ bc < W.heap.size) ?hG ⟨HY3.out.1, HY3.out.2.1, HY3.out.2.2.1, HY3.out.2.2.2.1⟩ (fun p a' W => ∃ bl, a' = ⟨#[Value.agg #[Value.int IntKind.i64 kind, Value.slice sa N sc, Value.int IntKind.i64 hosts], Value.slice ba sw bc0, Value.pointer (some ⟨w.heap.size, 0, none⟩), Value.pointer (some (Addr.mk (w.heap.size + 1) 0 none)), Value.int IntKind.i64 0, Value.int IntKind.i64 0, Value.iface ty rcv, Value.int IntKind.i64 0, Value.int IntKind.i64 ↑sw, Value.int IntKind.i64 (hoI kind l), Value.pointer (some (Addr.mk bc 0 none)), Value.pointer (some ⟨bl, 0, none⟩), Value.tuple #[Value.iface ty rcv, Value.int IntKind.i64 0], Value.agg #[Value.int IntKind.i64 kind, Value.slice sa N sc, Value.int IntKind.i64 hosts], Value.tuple #[Value.iface ty rcv, Value.int IntKind.i64 0], Value.iface ty rcv, Value.int IntKind.i64 0, Value.int IntKind.i64 0, Value.bool false, undef, Value.tuple #[Value.int IntKind.i64 ↑sw, Value.int IntKind.i64 (hoI kind l)], Value.iface ty rcv, Value.tuple #[Value.int IntKind.i64 ↑sw, Value.int IntKind.i64 (hoI kind l)], Value.int IntKind.i64 ↑sw, Value.int IntKind.i64 (hoI kind l), Value.slice ba sw bc0, Value.int IntKind.i64 ↑sw, Value.int IntKind.i64 ↑sw, Value.bool false, Value.iface ty rcv, Value.func (Fn.func gf) #[] lb, Value.agg #[Value.int IntKind.i64 p.1, Value.int IntKind.i64 p.2], undef, undef, undef, undef, undef, undef, undef, undef, undef, undef, undef, undef, undef, undef], []⟩ ∧ W.heap[bl]? = some (.cells #[.int .i64 p.1, .int .i64 p.2] 38 (0, 0)) ∧ bc < bl) ?hAx ?assign ?body ?done
  case hG =>
    intro pre
    refine ⟨fun W b hj hf => hf.1, fun W W2 b hj hb hs hc => ⟨hc, by have := hj.2.2.2; omega⟩, fun W W2 b hj hf hb => ⟨(by obtain ⟨ob, h1, h2⟩ := hf.1; exact ⟨ob, heapB hb h1, h2⟩), hf.2⟩, fun W W2 hj hb => ⟨heapB hb hj.1, heapB hb hj.2.1, hj.2.2.1.trans (hb.mono hj.2.2.1.size), Nat.lt_of_lt_of_le hj.2.2.2 hb.size⟩, fun W b o o' hj hb ho hc => ?_, fun W b c o o' hj hf hb ho hc => ?_⟩
    · have h7 := HY3.out.2.2.2
      have h8 := HY3.out.2.2.1.size
      exact ⟨(World.putObj_heap_other (by omega)).trans hj.1, (World.putObj_heap_other (by omega)).trans hj.2.1, hj.2.2.1.trans ⟨rfl, rfl, rfl, by simp [World.putObj], fun k hk => World.putObj_heap_other (by omega)⟩, by simpa [World.putObj] using hj.2.2.2⟩
    · obtain ⟨ob, h1, h2⟩ := hf.1
      have hne : c ≠ b := by rintro rfl; rw [ho] at h1; cases h1; rw [hc] at h2; cases h2
      exact ⟨⟨ob, (World.putObj_heap_other hne).trans h1, h2⟩, hf.2⟩
  case hAx =>
    rintro p a' s A B row ⟨bl, h1, h2, h3⟩ hg hr
    exact ⟨bl, h1, own_blk (β := Unit) w3.heap.size bl (fun _ => .cells #[.int .i64 p.1, .int .i64 p.2] 38 (0, 0)) (fun _ => rfl) () A B row h2 hg hr, h3⟩
  case assign =>
    rintro q pre p W K ⟨i1, i2, i3, i4⟩ hpre hK
    have hal : Below W.heap.size W (W.alloc (.cells #[.int .i64 p.1, .int .i64 p.2] 38)) := (Below.refl _ _).alloc (Nat.le_refl _) _
    have hlo : X.heap.size ≤ W.heap.size := i3.size
    gi_wp2
    refine hK _ _ ((KeepsOthers.alloc W _).from _) ⟨hal.mono hlo, fun b hb => ⟨?_, ?_⟩⟩ ⟨heapB hal i1, heapB hal i2, i3.trans (hal.mono hlo), Nat.lt_of_lt_of_le i4 hal.size⟩ ⟨W.heap.size, rfl, heap_alloc_new W _, i4⟩
    · obtain ⟨⟨ob, h1, h2⟩, _⟩ := hb
      rw [heapB hal h1, h1]
    · obtain ⟨⟨ob, h1, h2⟩, h3⟩ := hb
      exact ⟨⟨ob, heapB hal h1, h2⟩, h3⟩
  case body =>
    rintro q pre p a' W ⟨i1, i2, i3, i4⟩ ⟨bl, rfl, h2, h3⟩ hpre
    have hpm : p ∈ L := by obtain ⟨r, hr⟩ := hpre; rw [← hr]; simp
    obtain ⟨n1, n2, n3, n4⟩ := HIN.out p hpm
    obtain ⟨p1, p2⟩ := p
    obtain ⟨i, rfl⟩ := Int.eq_ofNat_of_zero_le n1
    obtain ⟨j, rfl⟩ := Int.eq_ofNat_of_zero_le n3
    simp only at n2 n4
    have hi : i < sw := by omega
    have hj : j < sw := by omega
    have hib : i < bs.length := by rw [HBL.out]; exact hi
    have hjb : j < bs.length := by rw [HBL.out]; exact hj
    obtain ⟨gb, ob, rfl, hcb⟩ := (HBS.out.keep (HBA.out.trans (i3.mono HBA.out.size))).at_ (ne_nil_of_lt hib)
    have e1 := hcb i hib
    have e2 := hcb j hjb
    have HCS : Hid (cutL bs (pre ++ [((i : Int), (j : Int))]) = cutL bs pre + (if (bs[i] != bs[j]) = true then 1 else 0)) := by
      show _ = _
      rw [cutL_snoc]
      simp [List.getD, hib, hjb]
    generalize bs[i] = b1 at *
    generalize bs[j] = b2 at *
    have HMC : Hid (cutL bs pre < 1000000) := by
      show _ < _
      have h7 := cutL_le bs pre
      have h8 := hpre.length_le
      have h9 := HLN.out
      simp at h8
      omega
    have cc : W.cell? ⟨bc, 0, none⟩ = some (.int .i64 ((cutL bs pre : Nat) : Int)) := cellR 0 i1 rfl
    have fc : W.frozen? ⟨bc, 0, none⟩ = false := frozen_of_row W bc 0 _ _ i1
    have c3 : W.cell? ⟨w.heap.size + 1, 0, none⟩ = some (.slice (some ⟨gb, ob, none⟩) sw bc0) := cellR 0 i2 rfl
    have l1 : W.cell? ⟨bl, 0, none⟩ = some (.int .i64 (i : Int)) := cellR 0 h2 rfl
    have l2 : W.cell? ⟨bl, 1, none⟩ = some (.int .i64 (j : Int)) := cellR 1 h2 rfl
    have HI := Lib.hid (And.intro i1 (And.intro i2 (And.intro i3 i4)))
    have hlb : bc < W.heap.size := i4
    clear hcb hib hjb n1 n2 n3 n4 hpm hpre i1 i2 i3 i4 h2 h3
    generalize hcp : cutL bs pre = cp at *
    have HCP := Lib.hid hcp
    clear hcp
    gi_wp2
    refine region_det (by kernel_rfl) (I := fun listed a' w' => w' = W.drew ∧ a' = ⟨#[Value.agg #[Value.int IntKind.i64 kind, Value.slice sa N sc, Value.int IntKind.i64 hosts], Value.slice (some ⟨gb, ob, none⟩) sw bc0, Value.pointer (some ⟨w.heap.size, 0, none⟩), Value.pointer (some (Addr.mk (w.heap.size + 1) 0 none)), Value.int IntKind.i64 0, Value.int IntKind.i64 0, Value.iface ty rcv, Value.int IntKind.i64 0, Value.int IntKind.i64 ↑sw, Value.int IntKind.i64 (hoI kind l), Value.pointer (some (Addr.mk bc 0 none)), Value.pointer (some ⟨bl, 0, none⟩), Value.tuple #[Value.iface ty rcv, Value.int IntKind.i64 0], Value.agg #[Value.int IntKind.i64 kind, Value.slice sa N sc, Value.int IntKind.i64 hosts], Value.tuple #[Value.iface ty rcv, Value.int IntKind.i64 0], Value.iface ty rcv, Value.int IntKind.i64 0, Value.int IntKind.i64 0, Value.bool false, undef, Value.tuple #[Value.int IntKind.i64 ↑sw, Value.int IntKind.i64 (hoI kind l)], Value.iface ty rcv, Value.tuple #[Value.int IntKind.i64 ↑sw, Value.int IntKind.i64 (hoI kind l)], Value.int IntKind.i64 ↑sw, Value.int IntKind.i64 (hoI kind l), Value.slice (some ⟨gb, ob, none⟩) sw bc0, Value.int IntKind.i64 ↑sw, Value.int IntKind.i64 ↑sw, Value.bool false, Value.iface ty rcv, Value.func (Fn.func gf) #[] lb, Value.agg #[Value.int IntKind.i64 (i : Int), Value.int IntKind.i64 (j : Int)], (if listed.getD 0 false = true then Value.slice (some ⟨gb, ob, none⟩) sw bc0 else undef), (if listed.getD 1 false = true then Value.pointer (some ⟨bl, 0, none⟩) else undef), (if listed.getD 2 false = true then Value.int IntKind.i64 ((i : Int)) else undef), (if listed.getD 3 false = true then Value.pointer (some ⟨gb, ob + i, none⟩) else undef), (if listed.getD 4 false = true then Value.bool b1 else undef), (if listed.getD 5 false = true then Value.slice (some ⟨gb, ob, none⟩) sw bc0 else undef), (if listed.getD 6 false = true then Value.pointer (some ⟨bl, 1, none⟩) else undef), (if listed.getD 7 false = true then Value.int IntKind.i64 ((j : Int)) else undef), (if listed.getD 8 false = true then Value.pointer (some ⟨gb, ob + j, none⟩) else undef), (if listed.getD 9 false = true then Value.bool b2 else undef), (if listed.getD 10 false = true then Value.bool (b1 != b2) else undef), undef, undef, undef], []⟩) (hup_check (by kernel_rfl)) ?h0 ?step ?fin
    case h0 => exact ⟨rfl, rfl⟩
    case step => as_aux_lemma =>
      intro listed a' w' i hs hbi hdep hi ⟨IW, ha⟩
      obtain ⟨ls⟩ := listed
      match ls, hs with
      | [x0, x1, x2, x3, x4, x5, x6, x7, x8, x9, x10], _ =>
      subst ha
      have hi' : i = 0 ∨ i = 1 ∨ i = 2 ∨ i = 3 ∨ i = 4 ∨ i = 5 ∨ i = 6 ∨ i = 7 ∨ i = 8 ∨ i = 9 ∨ i = 10 := by simp at hi; omega
      subst IW
      rcases hi' with rfl | rfl | rfl | rfl | rfl | rfl | rfl | rfl | rfl | rfl | rfl
      · obtain rfl : x0 = false := by simpa using hbi
        refine wpOpIn_step rfl (fun K' hK => ?_)
        rw [if_pos (by rfl)]
        refine wpInF_plain (fun _ _ => trivial) (v := Value.slice (some ⟨gb, ob, none⟩) sw bc0) (w' := W.drew) ?_ (hK _ _ ?_)
        · go_simp <;> first | rfl | (cases b1 <;> cases b2 <;> rfl)
        exact ⟨rfl, rfl⟩
      · obtain rfl : x1 = false := by simpa using hbi
        refine wpOpIn_step rfl (fun K' hK => ?_)
        rw [if_pos (by rfl)]
        refine wpInF_plain (fun _ _ => trivial) (v := Value.pointer (some ⟨bl, 0, none⟩)) (w' := W.drew) ?_ (hK _ _ ?_)
        · go_simp <;> first | rfl | (cases b1 <;> cases b2 <;> rfl)
        exact ⟨rfl, rfl⟩
      · obtain rfl : x2 = false := by simpa using hbi
        obtain rfl : x1 = true := hdep _ rfl ⟨1, .data⟩ (by simp) rfl
        refine wpOpIn_step rfl (fun K' hK => ?_)
        rw [if_pos (by rfl)]
        refine wpInF_plain (fun _ _ => trivial) (v := Value.int IntKind.i64 ((i : Int))) (w' := W.drew) ?_ (hK _ _ ?_)
        · go_simp <;> first | rfl | (cases b1 <;> cases b2 <;> rfl)
        exact ⟨rfl, rfl⟩
      · obtain rfl : x3 = false := by simpa using hbi
        obtain rfl : x0 = true := hdep _ rfl ⟨0, .data⟩ (by simp) rfl
        obtain rfl : x2 = true := hdep _ rfl ⟨2, .data⟩ (by simp) rfl
        refine wpOpIn_step rfl (fun K' hK => ?_)
        rw [if_pos (by rfl)]
        refine wpInF_plain (fun _ _ => trivial) (v := Value.pointer (some ⟨gb, ob + i, none⟩)) (w' := W.drew) ?_ (hK _ _ ?_)
        · go_simp <;> first | rfl | (cases b1 <;> cases b2 <;> rfl)
        exact ⟨rfl, rfl⟩
      · obtain rfl : x4 = false := by simpa using hbi
        obtain rfl : x3 = true := hdep _ rfl ⟨3, .data⟩ (by simp) rfl
        refine wpOpIn_step rfl (fun K' hK => ?_)
        rw [if_pos (by rfl)]
        refine wpInF_plain (fun _ _ => trivial) (v := Value.bool b1) (w' := W.drew) ?_ (hK _ _ ?_)
        · go_simp <;> first | rfl | (cases b1 <;> cases b2 <;> rfl)
        exact ⟨rfl, rfl⟩
      · obtain rfl : x5 = false := by simpa using hbi
        refine wpOpIn_step rfl (fun K' hK => ?_)
        rw [if_pos (by rfl)]
        refine wpInF_plain (fun _ _ => trivial) (v := Value.slice (some ⟨gb, ob, none⟩) sw bc0) (w' := W.drew) ?_ (hK _ _ ?_)
        · go_simp <;> first | rfl | (cases b1 <;> cases b2 <;> rfl)
        exact ⟨rfl, rfl⟩
      · obtain rfl : x6 = false := by simpa using hbi
        refine wpOpIn_step rfl (fun K' hK => ?_)
        rw [if_pos (by rfl)]
        refine wpInF_plain (fun _ _ => trivial) (v := Value.pointer (some ⟨bl, 1, none⟩)) (w' := W.drew) ?_ (hK _ _ ?_)
        · go_simp <;> first | rfl | (cases b1 <;> cases b2 <;> rfl)
        exact ⟨rfl, rfl⟩
      · obtain rfl : x7 = false := by simpa using hbi
        obtain rfl : x6 = true := hdep _ rfl ⟨6, .data⟩ (by simp) rfl
        refine wpOpIn_step rfl (fun K' hK => ?_)
        rw [if_pos (by rfl)]
        refine wpInF_plain (fun _ _ => trivial) (v := Value.int IntKind.i64 ((j : Int))) (w' := W.drew) ?_ (hK _ _ ?_)
        · go_simp <;> first | rfl | (cases b1 <;> cases b2 <;> rfl)
        exact ⟨rfl, rfl⟩
      · obtain rfl : x8 = false := by simpa using hbi
        obtain rfl : x5 = true := hdep _ rfl ⟨5, .data⟩ (by simp) rfl
        obtain rfl : x7 = true := hdep _ rfl ⟨7, .data⟩ (by simp) rfl
        refine wpOpIn_step rfl (fun K' hK => ?_)
        rw [if_pos (by rfl)]
        refine wpInF_plain (fun _ _ => trivial) (v := Value.pointer (some ⟨gb, ob + j, none⟩)) (w' := W.drew) ?_ (hK _ _ ?_)
        · go_simp <;> first | rfl | (cases b1 <;> cases b2 <;> rfl)
        exact ⟨rfl, rfl⟩
      · obtain rfl : x9 = false := by simpa using hbi
        obtain rfl : x8 = true := hdep _ rfl ⟨8, .data⟩ (by simp) rfl
        refine wpOpIn_step rfl (fun K' hK => ?_)
        rw [if_pos (by rfl)]
        refine wpInF_plain (fun _ _ => trivial) (v := Value.bool b2) (w' := W.drew) ?_ (hK _ _ ?_)
        · go_simp <;> first | rfl | (cases b1 <;> cases b2 <;> rfl)
        exact ⟨rfl, rfl⟩
      · obtain rfl : x10 = false := by simpa using hbi
        obtain rfl : x4 = true := hdep _ rfl ⟨4, .data⟩ (by simp) rfl
        obtain rfl : x9 = true := hdep _ rfl ⟨9, .data⟩ (by simp) rfl
        refine wpOpIn_step rfl (fun K' hK => ?_)
        rw [if_pos (by rfl)]
        refine wpInF_plain (fun _ _ => trivial) (v := Value.bool (b1 != b2)) (w' := W.drew) ?_ (hK _ _ ?_)
        · go_simp <;> first | rfl | (cases b1 <;> cases b2 <;> rfl)
        exact ⟨rfl, rfl⟩
    case fin =>
    intro listed a' Z hs hall ⟨IW, ha⟩
    obtain ⟨ls⟩ := listed
    match ls, hs with
    | [x0, x1, x2, x3, x4, x5, x6, x7, x8, x9, x10], _ =>
    obtain rfl : x0 = true := hall 0 (by simp)
    obtain rfl : x1 = true := hall 1 (by simp)
    obtain rfl : x2 = true := hall 2 (by simp)
    obtain rfl : x3 = true := hall 3 (by simp)
    obtain rfl : x4 = true := hall 4 (by simp)
    obtain rfl : x5 = true := hall 5 (by simp)
    obtain rfl : x6 = true := hall 6 (by simp)
    obtain rfl : x7 = true := hall 7 (by simp)
    obtain rfl : x8 = true := hall 8 (by simp)
    obtain rfl : x9 = true := hall 9 (by simp)
    obtain rfl : x10 = true := hall 10 (by simp)
    subst ha
    subst IW
    clear hall hs
    dsimp only [Exit.then, Exit.inBlock]
    cases hbb : (b1 != b2) with
    | false =>
      have HI2 : Hid (W.drew.heap[bc]? = some (.cells #[.int .i64 ((cutL bs (pre ++ [((i : Int), (j : Int))]) : Nat) : Int)] 3 (0, 0))) := by
        show _ = _
        rw [HCS.out, hbb, if_neg (by decide), Nat.add_zero]; exact HI.out.1
      clear HCS hbb
      gi_wp2
      exact ⟨(KeepsOthers.drew W).from _, ⟨(Below.refl _ _).drew, fun b hb => ⟨rfl, hb⟩⟩, HI2.out, HI.out.2.1, HI.out.2.2.1.drew, HI.out.2.2.2⟩
    | true =>
      have hwc : wrap64 ((cp : Int) + 1) = (cp : Int) + 1 := wrap_small _ (by omega) (by have := HMC.out; omega)
      have HWC := Lib.hid hwc
      clear hwc
      have HI2 : Hid ((W.drew.setCell ⟨bc, 0, none⟩ (.int .i64 ((cp : Int) + 1))).heap[bc]? = some (.cells #[.int .i64 ((cutL bs (pre ++ [((i : Int), (j : Int))]) : Nat) : Int)] 3 (0, 0))) := by
        show _ = _
        rw [HCS.out, hbb, if_pos rfl, heap_setCell_same W.drew bc 0 _ 3 _ HI.out.1]
        simp
      clear HCS hbb
      have hwc := HWC.out
      gi_wp2
      have hx9 := HZX.out
      refine ⟨((KeepsOthers.drew W).trans (KeepsOthers.setCell _ _ _)).from _, ⟨(Below.refl _ _).drew.setCell (p := ⟨bc, 0, none⟩) hx9 _, fun b hb => ?_⟩, HI2.out, ?_, HI.out.2.2.1.drew.setCell (p := ⟨bc, 0, none⟩) hx9 _, by simpa [World.setCell] using HI.out.2.2.2⟩
      · have hne : b ≠ bc := by have := hb.2; omega
        have he : (W.drew.setCell ⟨bc, 0, none⟩ (.int .i64 ((cp : Int) + 1))).heap[b]? = W.heap[b]? := heap_setCell_other W.drew ⟨bc, 0, none⟩ _ _ hne
        refine ⟨he, ?_, hb.2⟩
        obtain ⟨ob2, h1, h2⟩ := hb.1
        exact ⟨ob2, he.trans h1, h2⟩
      · have h8 := HY3.out.2.2.2.2
        exact (heap_setCell_other W.drew ⟨bc, 0, none⟩ _ _ (show w.heap.size + 1 ≠ bc by omega)).trans HI.out.2.1
  case done =>
    rintro D W hD ⟨i1, i2, i3, i4⟩ hK
    have cc := cellR 0 i1 rfl
    gi_wp2
    refine ⟨by simp, .inl ⟨_, _, rfl, run_takeDeferred hK, ?_⟩⟩
    have hs1 := HBA.out.size
    have hs2 := HY3.out.2.2.1.size
    refine ⟨.tuple #[.int .i64 ((cutL bs L : Nat) : Int), .int .i64 0], ?_, by rw [HM.out], (HBA.out.trans (i3.mono hs1)).trans ⟨rfl, rfl, rfl, by simp [World.putObj], fun k hk => World.putObj_heap_other (by omega)⟩⟩
    simp [results, Tryz.results22, go_sem]
end Go.Proofs.YtbhkenphcahifaaGreat

namespace Go.Proofs.YtbhkenphcahifaaGreat
open Go.RowKit Go.Shelf
set_option maxRecDepth 100000
set_option maxHeartbeats 4000000

/-- how many of a switch's links to those behind it are across a side -/
def cutX (bs : List Bool) (x : Nat) (l : List Int) : Nat := (l.filter fun y => decide ((x : Int) < y) && (bs.getD x false != bs.getD y.toNat false)).length
def cutN (bs : List Bool) (NB : Int → List Int) : Nat → Nat
  | 0 => 0
  | x + 1 => cutN bs NB x + cutX bs x (NB (x : Int))
theorem cutL_append (bs : List Bool) (A B : List (Int × Int)) : cutL bs (A ++ B) = cutL bs A + cutL bs B := by
  unfold cutL; rw [List.filter_append, List.length_append]
theorem cutL_sel (bs : List Bool) (x : Nat) (l : List Int) : cutL bs (selL (x : Int) l) = cutX bs x l := by
  unfold cutL selL cutX
  rw [List.filter_map, List.length_map, List.filter_filter]
  congr 1
  refine List.filter_congr fun y _ => ?_
  simp [Bool.and_comm]
theorem cutL_eq (bs : List Bool) (NB : Int → List Int) : ∀ n, cutL bs (lkL NB n) = cutN bs NB n
  | 0 => rfl
  | n + 1 => by rw [lkL, cutL_append, cutL_eq bs NB n, cutL_sel, cutN]
theorem cutX_perm (bs : List Bool) (x : Nat) {l l' : List Int} (h : l.Perm l') : cutX bs x l = cutX bs x l' := (h.filter _).length_eq
theorem cutN_perm (bs : List Bool) {NB NB' : Int → List Int} : ∀ n, (∀ x : Nat, x < n → (NB (x : Int)).Perm (NB' (x : Int))) → cutN bs NB n = cutN bs NB' n
  | 0, _ => rfl
  | n + 1, h => by rw [cutN, cutN, cutN_perm bs n (fun x hx => h x (by omega)), cutX_perm bs n (h n (by omega))]
theorem cutX_not (bs : List Bool) (x : Nat) (l : List Int) (hx : x < bs.length) (hl : ∀ y ∈ l, 0 ≤ y ∧ y.toNat < bs.length) : cutX (bs.map (!·)) x l = cutX bs x l := by
  unfold cutX
  congr 1
  refine List.filter_congr fun y hy => ?_
  have h1 := (hl y hy).2
  simp [List.getD, List.getElem?_map, hx, h1]
/-- as many links are across a side as across its complement -/
theorem cutN_not (bs : List Bool) {NB : Int → List Int} : ∀ n, n ≤ bs.length → (∀ x : Nat, x < n → ∀ y ∈ NB (x : Int), 0 ≤ y ∧ y.toNat < bs.length) → cutN (bs.map (!·)) NB n = cutN bs NB n
  | 0, _, _ => rfl
  | n + 1, hn, h => by rw [cutN, cutN, cutN_not bs n (by omega) (fun x hx => h x (by omega)), cutX_not bs n _ (by omega) (h n (by omega))]

/-- dragonflies: the standard sides -/
def nbD0 (a h : Nat) (x : Int) : List Int := dgA a (x / a) (x % a) a ++ dgB a h ((a : Int) * h + 1) (x / a) (x % a) h
def sdD (a n g : Nat) : List Bool := (List.range n).map fun x => x / a == g
def chkD (a h : Nat) : Bool := (List.range (a * h + 1)).all (fun g => cutN (sdD a (a * (a * h + 1)) g) (nbD0 a h) (a * (a * h + 1)) == a * h) && (List.range (a * (a * h + 1))).all (fun x => (nbD0 a h (x : Int)).all fun y => decide (0 ≤ y) && decide (y.toNat < a * (a * h + 1)))
theorem chkD_all : ((List.range 8).all fun a => (List.range 5).all fun h => a == 0 || h == 0 || !decide (a * (a * h + 1) ≤ 64) || chkD a h) = true := by decide +kernel
theorem chkD_at {a h : Nat} (ha : 1 ≤ a) (hh : 1 ≤ h) (ha2 : a < 8) (hh2 : h < 5) (hn : a * (a * h + 1) ≤ 64) : chkD a h = true := by
  have h1 := List.all_eq_true.1 chkD_all a (List.mem_range.2 ha2)
  have h2 := List.all_eq_true.1 h1 h (List.mem_range.2 hh2)
  simp only [Bool.or_eq_true, beq_iff_eq, Bool.not_eq_true', decide_eq_false_iff_not] at h2
  rcases h2 with ((h2 | h2) | h2) | h2
  · omega
  · omega
  · exact absurd hn h2
  · exact h2
theorem cutD_all {a h : Nat} (ha : 1 ≤ a) (hh : 1 ≤ h) (ha2 : a < 8) (hh2 : h < 5) (hn : a * (a * h + 1) ≤ 64) {g : Nat} (hg : g < a * h + 1) : cutN (sdD a (a * (a * h + 1)) g) (nbD0 a h) (a * (a * h + 1)) = a * h := by
  have h1 := chkD_at ha hh ha2 hh2 hn
  unfold chkD at h1
  rw [Bool.and_eq_true] at h1
  simpa using List.all_eq_true.1 h1.1 g (List.mem_range.2 hg)
theorem nbD_in {a h : Nat} (ha : 1 ≤ a) (hh : 1 ≤ h) (ha2 : a < 8) (hh2 : h < 5) (hn : a * (a * h + 1) ≤ 64) {x : Nat} (hx : x < a * (a * h + 1)) : ∀ y ∈ nbD0 a h (x : Int), 0 ≤ y ∧ y.toNat < a * (a * h + 1) := by
  intro y hy
  have h1 := chkD_at ha hh ha2 hh2 hn
  unfold chkD at h1
  rw [Bool.and_eq_true] at h1
  have h2 := List.all_eq_true.1 (List.all_eq_true.1 h1.2 x (List.mem_range.2 hx)) y hy
  simpa using h2
/-- trees: the standard sides -/
def sdT (k lv level v : Nat) : List Bool := (List.range (lv * k ^ (lv - 1))).map fun x => decide (x / k ^ (lv - 1) < level) && (x % k ^ (lv - 1) / k ^ (level - 1) == v)
def chkT (k lv : Nat) : Bool := (List.range lv).all (fun level => level == 0 || (List.range (k ^ (lv - level))).all fun v => cutN (sdT k lv level v) (nbT k lv) (lv * k ^ (lv - 1)) == k ^ level) && (List.range (lv * k ^ (lv - 1))).all (fun x => (nbT k lv (x : Int)).all fun y => decide (0 ≤ y) && decide (y.toNat < lv * k ^ (lv - 1)))
theorem chkT_all : ((List.range 9).all fun k => (List.range 5).all fun lv => decide (k < 2) || lv == 0 || !decide (lv * k ^ (lv - 1) ≤ 64) || chkT k lv) = true := by decide +kernel
theorem chkT_at {k lv : Nat} (hk : 2 ≤ k) (hl : 1 ≤ lv) (hk2 : k < 9) (hl2 : lv < 5) (hn : lv * k ^ (lv - 1) ≤ 64) : chkT k lv = true := by
  have h1 := List.all_eq_true.1 chkT_all k (List.mem_range.2 hk2)
  have h2 := List.all_eq_true.1 h1 lv (List.mem_range.2 hl2)
  simp only [Bool.or_eq_true, beq_iff_eq, Bool.not_eq_true', decide_eq_false_iff_not, decide_eq_true_eq] at h2
  rcases h2 with ((h2 | h2) | h2) | h2
  · omega
  · omega
  · exact absurd hn h2
  · exact h2
theorem cutT_all {k lv : Nat} (hk : 2 ≤ k) (hl : 1 ≤ lv) (hk2 : k < 9) (hl2 : lv < 5) (hn : lv * k ^ (lv - 1) ≤ 64) {level v : Nat} (h0 : 1 ≤ level) (h1 : level < lv) (hv : v < k ^ (lv - level)) : cutN (sdT k lv level v) (nbT k lv) (lv * k ^ (lv - 1)) = k ^ level := by
  have h3 := chkT_at hk hl hk2 hl2 hn
  unfold chkT at h3
  rw [Bool.and_eq_true] at h3
  have h4 := List.all_eq_true.1 h3.1 level (List.mem_range.2 h1)
  rw [Bool.or_eq_true] at h4
  rcases h4 with h4 | h4
  · simp at h4; omega
  · simpa using List.all_eq_true.1 h4 v (List.mem_range.2 hv)
theorem nbT_in {k lv : Nat} (hk : 2 ≤ k) (hl : 1 ≤ lv) (hk2 : k < 9) (hl2 : lv < 5) (hn : lv * k ^ (lv - 1) ≤ 64) {x : Nat} (hx : x < lv * k ^ (lv - 1)) : ∀ y ∈ nbT k lv (x : Int), 0 ≤ y ∧ y.toNat < lv * k ^ (lv - 1) := by
  intro y hy
  have h1 := chkT_at hk hl hk2 hl2 hn
  unfold chkT at h1
  rw [Bool.and_eq_true] at h1
  have h2 := List.all_eq_true.1 (List.all_eq_true.1 h1.2 x (List.mem_range.2 hx)) y hy
  simpa using h2
end Go.Proofs.YtbhkenphcahifaaGreat

namespace Go.Proofs.YtbhkenphcahifaaGreat
open Go.RowKit Go.Shelf
set_option maxRecDepth 100000
set_option maxHeartbeats 4000000

/-- how many numbers below n -/
def cntN (p : Nat → Bool) : Nat → Nat
  | 0 => 0
  | n + 1 => cntN p n + (if p n = true then 1 else 0)
theorem cntN_add (p : Nat → Bool) (a : Nat) : ∀ r, cntN p (a + r) = cntN p a + cntN (fun j => p (a + j)) r
  | 0 => rfl
  | r + 1 => by rw [← Nat.add_assoc, cntN, cntN_add p a r, cntN, Nat.add_assoc]
theorem cntN_congr {p q : Nat → Bool} : ∀ n, (∀ x, x < n → p x = q x) → cntN p n = cntN q n
  | 0, _ => rfl
  | n + 1, h => by rw [cntN, cntN, cntN_congr n (fun x hx => h x (by omega)), h n (by omega)]
theorem cnt_block {T : Nat} (hT : 1 ≤ T) (v : Nat) : ∀ r, cntN (fun j => decide (j / T = v)) r = if r ≤ v * T then 0 else if r ≤ v * T + T then r - v * T else T
  | 0 => by simp [cntN]
  | r + 1 => by
    rw [cntN, cnt_block hT v r]
    have h : r / T = v ↔ v * T ≤ r ∧ r < v * T + T := by
      rw [Nat.div_eq_iff (by omega), Nat.mul_comm]
      omega
    have hif : (if decide (r / T = v) = true then 1 else 0) = if v * T ≤ r ∧ r < v * T + T then 1 else 0 := by
      by_cases hr : r / T = v
      · rw [if_pos (by simpa using hr), if_pos (h.1 hr)]
      · rw [if_neg (by simpa using hr), if_neg (fun e => hr (h.2 e))]
    show (if r ≤ v * T then 0 else if r ≤ v * T + T then r - v * T else T) + (if decide (r / T = v) = true then 1 else 0) = _
    rw [hif]
    generalize v * T = A
    clear hif h
    repeat' split
    all_goals omega
theorem cnt_total {T m v : Nat} (hT : 1 ≤ T) (hv : v < m) : ∀ H, cntN (fun x => decide (x / T % m = v)) (T * m * H) = T * H
  | 0 => by simp [cntN]
  | H + 1 => by
    rw [Nat.mul_succ, cntN_add, cnt_total hT hv H, Nat.mul_succ]
    congr 1
    have h1 : cntN (fun j => decide ((T * m * H + j) / T % m = v)) (T * m) = cntN (fun j => decide (j / T = v)) (T * m) := by
      refine cntN_congr _ fun x hx => ?_
      have e1 : (T * m * H + x) / T = m * H + x / T := by
        rw [Nat.mul_assoc, Nat.add_comm, Nat.add_mul_div_left _ _ (by omega), Nat.add_comm]
      have e2 : x / T < m := Nat.div_lt_of_lt_mul hx
      have e3 : (m * H + x / T) % m = x / T := by rw [Nat.mul_add_mod, Nat.mod_eq_of_lt e2]
      rw [e1, e3]
    rw [h1, cnt_block hT]
    have h2 : v * T + T ≤ T * m := by
      have : (v + 1) * T ≤ m * T := Nat.mul_le_mul_right T hv
      rw [Nat.add_mul, Nat.one_mul] at this
      rw [Nat.mul_comm T m]; exact this
    rw [if_neg (by omega)]
    split <;> omega
theorem cutN_sum (bs : List Bool) (NB : Int → List Int) (p q : Nat → Bool) : ∀ n, (∀ x, x < n → cutX bs x (NB (x : Int)) = (if p x = true then 1 else 0) + (if q x = true then 1 else 0)) → cutN bs NB n = cntN p n + cntN q n
  | 0, _ => rfl
  | n + 1, h => by
    rw [cutN, cutN_sum bs NB p q n (fun x hx => h x (by omega)), h n (by omega), cntN, cntN]
    omega
end Go.Proofs.YtbhkenphcahifaaGreat

namespace Go.Proofs.YtbhkenphcahifaaGreat
open Go.RowKit Go.Shelf
set_option maxRecDepth 100000
set_option maxHeartbeats 4000000

/-- every number below the product is that of coordinates -/
theorem num_onto {l : List Int} (hb : ∀ i, i < l.length → 2 ≤ l.getD i 0 ∧ l.getD i 0 ≤ 16) : ∀ k, k ≤ l.length → ∀ y, 0 ≤ y → y < prodI (l.take k) → ∃ d : List Int, d.length = l.length ∧ (∀ j, j < k → 0 ≤ d.getD j 0 ∧ d.getD j 0 < l.getD j 0) ∧ numK l d k = y
  | 0, _, y, h0, h1 => ⟨List.replicate l.length 0, by simp, fun j hj => by omega, by simp [prodI] at h1; rw [numK]; omega⟩
  | k + 1, hk, y, h0, h1 => by
    obtain ⟨b1, b2⟩ := hb k (by omega)
    rw [List.take_succ_eq_append_getElem (by omega), prodI_snoc, show l[k] = l.getD k 0 by simp [List.getD, show k < l.length by omega]] at h1
    obtain ⟨d, hd, hi, hn⟩ := num_onto hb k (by omega) (y / l.getD k 0) (Int.ediv_nonneg h0 (by omega)) (Int.ediv_lt_of_lt_mul (by omega) h1)
    refine ⟨d.set k (y % l.getD k 0), by rw [List.length_set, hd], fun j hj => ?_, ?_⟩
    · by_cases hjk : k = j
      · subst hjk
        rw [getD_set_same _ _ _ _ (by omega)]
        exact ⟨Int.emod_nonneg _ (by omega), Int.emod_lt_of_pos _ (by omega)⟩
      · rw [getD_set_other _ _ _ _ _ hjk]; exact hi j (by omega)
    · rw [numK, numK_set k (Nat.le_refl _), hn, getD_set_same _ _ _ _ (by omega), Int.mul_comm]
      exact Int.mul_ediv_add_emod y _
theorem num_of {l : List Int} (hb : ∀ i, i < l.length → 2 ≤ l.getD i 0 ∧ l.getD i 0 ≤ 16) {x : Int} (h0 : 0 ≤ x) (h1 : x < prodI l) : ∃ d, InT l d ∧ numI l d = x := by
  obtain ⟨d, hd, hi, hn⟩ := num_onto hb l.length (Nat.le_refl _) x h0 (by rw [List.take_length]; exact h1)
  exact ⟨d, ⟨hd, hi⟩, hn⟩
theorem nbK_iff {l : List Int} {x y : Int} : ∀ k, y ∈ nbK l x k ↔ ∃ i, i < k ∧ (y = nbA l x i 1 ∨ y = nbA l x i (-1))
  | 0 => by simp [nbK]
  | k + 1 => by
    rw [nbK, List.mem_append, nbK_iff k]
    constructor
    · rintro (⟨i, hi, h⟩ | h)
      · exact ⟨i, by omega, h⟩
      · exact ⟨k, by omega, by simpa using h⟩
    · rintro ⟨i, hi, h⟩
      by_cases hik : i = k
      · subst hik; exact .inr (by simpa using h)
      · exact .inl ⟨i, by omega, h⟩
/-- a neighbor by its coordinates -/
theorem nbA_num {l d : List Int} (hd : InT l d) {i : Nat} (hi : i < l.length) (s : Int) : nbA l (numI l d) i s = numI l (d.set i ((d.getD i 0 + s) % l.getD i 0)) := by
  unfold nbA
  rw [num_digit hd hi, num_set hi (by rw [hd.1]; exact hi)]
theorem emod_in {a m : Int} (hm : 2 ≤ m) : 0 ≤ a % m ∧ a % m < m := ⟨Int.emod_nonneg _ (by omega), Int.emod_lt_of_pos _ (by omega)⟩
theorem nbA_in {l : List Int} (hb : ∀ i, i < l.length → 2 ≤ l.getD i 0 ∧ l.getD i 0 ≤ 16) {x : Int} (h0 : 0 ≤ x) (h1 : x < prodI l) {i : Nat} (hi : i < l.length) (s : Int) : 0 ≤ nbA l x i s ∧ nbA l x i s < prodI l := by
  obtain ⟨d, hd, rfl⟩ := num_of hb h0 h1
  rw [nbA_num hd hi]
  obtain ⟨e1, e2⟩ := emod_in (a := d.getD i 0 + s) (hb i hi).1
  exact num_lt (hd.set hi e1 e2)
/-- a sorted list without what is twice -/
theorem sort_sorted (l : List Int) : (sortL l).Pairwise (· ≤ ·) := by
  have h := List.pairwise_mergeSort (le := fun x y : Int => decide (x ≤ y)) (fun a b c h1 h2 => by simp at *; omega) (fun a b => by simp; omega) l
  exact h.imp fun h => by simpa using h
theorem compact_nodup {l : List Int} (h : l.Pairwise (· ≤ ·)) : (Lib.compact l).Nodup := by
  unfold Lib.compact Lib.compactUpTo
  refine List.pairwise_map.2 ?_
  have hr : (List.range l.length).Pairwise (· < ·) := List.pairwise_lt_range
  refine (hr.filter _).imp_of_mem ?_
  intro a b ha hb hab he
  have hbl : b < l.length := List.mem_range.1 (List.mem_filter.1 hb).1
  have hk := (List.mem_filter.1 hb).2
  unfold Lib.keeps at hk
  simp only [decide_eq_true_eq] at hk
  rcases hk with hk | hk
  · omega
  · have hp : ∀ i j (hi : i < l.length) (hj : j < l.length), i < j → l[i] ≤ l[j] := fun i j hi hj hij => (List.pairwise_iff_getElem.1 h) i j hi hj hij
    simp only [List.getElem!_toArray, getElem!_pos, show a < l.length by omega, hbl, show b - 1 < l.length by omega] at he hk
    by_cases hab1 : a = b - 1
    · subst hab1; exact hk he.symm
    · have h1 := hp a (b - 1) (by omega) (by omega) (by omega)
      have h2 := hp (b - 1) b (by omega) hbl (by omega)
      exact hk (by omega)
theorem compactUpTo_sub (d : Array Int) : ∀ (m : Nat), m ≤ d.size → ∀ y ∈ Lib.compactUpTo d m, y ∈ d.toList := by
  intro m hm y hy
  unfold Lib.compactUpTo at hy
  obtain ⟨j, hj, rfl⟩ := List.mem_map.1 hy
  have hj2 := List.mem_range.1 (List.mem_filter.1 hj).1
  rw [getElem!_pos d j (by omega)]
  simp
theorem nbL_iff {l : List Int} {x y : Int} : y ∈ nbL l x ↔ y ∈ nbK l x l.length := by
  constructor
  · intro h
    have h1 := compactUpTo_sub _ _ (by simp) y h
    have h2 : y ∈ sortL (nbK l x l.length) := by simpa using h1
    unfold sortL at h2
    exact (List.mergeSort_perm _ _).mem_iff.1 h2
  · exact nbL_mem
theorem nbL_nodup (l : List Int) (x : Int) : (nbL l x).Nodup := compact_nodup (sort_sorted _)
theorem nbL_in {l : List Int} (hb : ∀ i, i < l.length → 2 ≤ l.getD i 0 ∧ l.getD i 0 ≤ 16) {x : Int} (h0 : 0 ≤ x) (h1 : x < prodI l) : ∀ y ∈ nbL l x, 0 ≤ y ∧ y < prodI l := by
  intro y hy
  obtain ⟨i, hi, h | h⟩ := (nbK_iff _).1 (nbL_iff.1 hy)
  · rw [h]; exact nbA_in hb h0 h1 hi _
  · rw [h]; exact nbA_in hb h0 h1 hi _
/-- which links are across the half of a ring -/
theorem cross_torus {l : List Int} (hb : ∀ i, i < l.length → 2 ≤ l.getD i 0 ∧ l.getD i 0 ≤ 16) {d : List Int} (hd : InT l d) {i : Nat} (hi : i < l.length) :
    ((nbL l (numI l d)).filter fun y => decide (numI l d < y) && (decide (d.getD i 0 < l.getD i 0 / 2) != decide (y / strI l i % l.getD i 0 < l.getD i 0 / 2))).length = (if d.getD i 0 + 1 = l.getD i 0 / 2 then 1 else 0) + (if d.getD i 0 = 0 ∧ 2 < l.getD i 0 then 1 else 0) := by
  obtain ⟨b1, b2⟩ := hb i hi
  obtain ⟨c1, c2⟩ := hd.2 i hi
  have hT : 1 ≤ strI l i := drop_pos hb (i + 1) (by omega)
  have hdi : i < d.length := by rw [hd.1]; exact hi
  have hdig : ∀ k, k < l.length → ∀ s, nbA l (numI l d) k s / strI l i % l.getD i 0 = if k = i then (d.getD i 0 + s) % l.getD i 0 else d.getD i 0 := fun k hk s => by
    obtain ⟨e1, e2⟩ := emod_in (a := d.getD k 0 + s) (hb k hk).1
    rw [nbA_num hd hk, num_digit (hd.set hk e1 e2) hi]
    by_cases hki : k = i
    · subst hki; rw [if_pos rfl, getD_set_same _ _ _ _ (by rw [hd.1]; exact hk)]
    · rw [if_neg hki, getD_set_other _ _ _ _ _ hki]
  have hval : ∀ s, nbA l (numI l d) i s = numI l d + strI l i * ((d.getD i 0 + s) % l.getD i 0 - d.getD i 0) := fun s => by unfold nbA; rw [num_digit hd hi]
  have hG : ((nbL l (numI l d)).filter fun y => decide (numI l d < y) && (decide (d.getD i 0 < l.getD i 0 / 2) != decide (y / strI l i % l.getD i 0 < l.getD i 0 / 2))).Perm ((if d.getD i 0 + 1 = l.getD i 0 / 2 then [numI l d + strI l i] else []) ++ (if d.getD i 0 = 0 ∧ 2 < l.getD i 0 then [numI l d + strI l i * (l.getD i 0 - 1)] else [])) := by
    refine (List.perm_ext_iff_of_nodup ((nbL_nodup l _).filter _) ?_).2 fun y => ?_
    · have hne : 2 < l.getD i 0 → numI l d + strI l i ≠ numI l d + strI l i * (l.getD i 0 - 1) := fun h e => by
        have h1 : strI l i * 2 ≤ strI l i * (l.getD i 0 - 1) := Int.mul_le_mul_of_nonneg_left (by omega) (by omega)
        omega
      split <;> split <;> simp_all
    · rw [List.mem_filter, nbL_iff, nbK_iff]
      constructor
      · rintro ⟨⟨k, hk, hy⟩, hc⟩
        simp only [Bool.and_eq_true, decide_eq_true_eq, bne_iff_ne, ne_eq, decide_eq_decide] at hc
        obtain ⟨hlt, hdiff⟩ := hc
        have hki : k = i := by
          by_cases h : k = i
          · exact h
          · exfalso
            apply hdiff
            rcases hy with rfl | rfl
            · rw [hdig k hk, if_neg h]
            · rw [hdig k hk, if_neg h]
        subst hki
        rcases hy with rfl | rfl
        · rw [hdig k hk, if_pos rfl] at hdiff
          rw [hval] at hlt ⊢
          by_cases hcm : d.getD k 0 + 1 < l.getD k 0
          · rw [Int.emod_eq_of_lt (by omega) hcm] at hdiff hlt ⊢
            have : d.getD k 0 + 1 = l.getD k 0 / 2 := by omega
            rw [if_pos this]
            rw [show d.getD k 0 + 1 - d.getD k 0 = 1 by omega, Int.mul_one]
            simp
          · exfalso
            have e : d.getD k 0 + 1 = l.getD k 0 := by omega
            rw [e, Int.emod_self] at hlt
            have h1 : strI l k * (0 - d.getD k 0) ≤ strI l k * 0 := Int.mul_le_mul_of_nonneg_left (by omega) (by omega)
            omega
        · rw [hdig k hk, if_pos rfl] at hdiff
          rw [hval] at hlt ⊢
          by_cases hc0 : d.getD k 0 = 0
          · rw [hc0] at hdiff hlt ⊢
            have e : ((0 : Int) + -1) % l.getD k 0 = l.getD k 0 - 1 := by
              rw [← Int.add_emod_right, Int.emod_eq_of_lt (by omega) (by omega)]; omega
            rw [e]
            by_cases hm2 : 2 < l.getD k 0
            · rw [if_pos (show (0 : Int) = 0 ∧ 2 < l.getD k 0 from ⟨rfl, hm2⟩), Int.sub_zero]
              simp
            · have hm : l.getD k 0 = 2 := by omega
              rw [hm, if_pos (by decide)]
              simp
          · exfalso
            rw [Int.emod_eq_of_lt (by omega) (by omega)] at hlt
            have h1 : strI l k * (d.getD k 0 + -1 - d.getD k 0) ≤ strI l k * 0 := Int.mul_le_mul_of_nonneg_left (by omega) (by omega)
            omega
      · intro hy
        rcases List.mem_append.1 hy with hy | hy
        · by_cases h1 : d.getD i 0 + 1 = l.getD i 0 / 2
          · rw [if_pos h1] at hy
            have hcm : d.getD i 0 + 1 < l.getD i 0 := by omega
            have e : nbA l (numI l d) i 1 = numI l d + strI l i := by rw [hval, Int.emod_eq_of_lt (by omega) hcm, show d.getD i 0 + 1 - d.getD i 0 = 1 by omega, Int.mul_one]
            obtain rfl : y = nbA l (numI l d) i 1 := by rw [e]; simpa using hy
            refine ⟨⟨i, hi, .inl rfl⟩, ?_⟩
            rw [hdig i hi, if_pos rfl, Int.emod_eq_of_lt (by omega) hcm, e]
            have g1 : decide (d.getD i 0 < l.getD i 0 / 2) = true := decide_eq_true (by omega)
            have g2 : decide (d.getD i 0 + 1 < l.getD i 0 / 2) = false := decide_eq_false (by omega)
            rw [g1, g2, Bool.and_eq_true]
            exact ⟨decide_eq_true (by omega), rfl⟩
          · rw [if_neg h1] at hy; simp at hy
        · by_cases h1 : d.getD i 0 = 0 ∧ 2 < l.getD i 0
          · rw [if_pos h1] at hy
            obtain ⟨hc0, hm2⟩ := h1
            have e0 : (d.getD i 0 + -1) % l.getD i 0 = l.getD i 0 - 1 := by
              rw [hc0, ← Int.add_emod_right, Int.emod_eq_of_lt (by omega) (by omega)]; omega
            have e : nbA l (numI l d) i (-1) = numI l d + strI l i * (l.getD i 0 - 1) := by rw [hval, e0, hc0, Int.sub_zero]
            obtain rfl : y = nbA l (numI l d) i (-1) := by rw [e]; simpa using hy
            refine ⟨⟨i, hi, .inr rfl⟩, ?_⟩
            rw [hdig i hi, if_pos rfl, e0, e]
            have g1 : decide (d.getD i 0 < l.getD i 0 / 2) = true := decide_eq_true (by omega)
            have g2 : decide (l.getD i 0 - 1 < l.getD i 0 / 2) = false := decide_eq_false (by omega)
            rw [g1, g2]
            have h1 : strI l i * 1 ≤ strI l i * (l.getD i 0 - 1) := Int.mul_le_mul_of_nonneg_left (by omega) (by omega)
            rw [Bool.and_eq_true]
            exact ⟨decide_eq_true (by omega), rfl⟩
          · rw [if_neg h1] at hy; simp at hy
  rw [hG.length_eq, List.length_append]
  split <;> split <;> rfl
end Go.Proofs.YtbhkenphcahifaaGreat

namespace Go.Proofs.YtbhkenphcahifaaGreat
set_option maxRecDepth 100000

/-- a walk of so many steps -/
inductive Walk (nb : Int → List Int) (y : Int) : Int → Nat → Prop
  | here : Walk nb y y 0
  | step {x z : Int} {k : Nat} : Walk nb y x k → z ∈ nb x → Walk nb y z (k + 1)
/-- the distance of x from y; -1: there is no walk -/
def DistAt (nb : Int → List Int) (y x d : Int) : Prop := (d = -1 ∧ ∀ k, ¬ Walk nb y x k) ∨ ∃ k : Nat, d = (k : Int) ∧ Walk nb y x k ∧ ∀ j, Walk nb y x j → k ≤ j
theorem DistAt.unique {nb : Int → List Int} {y x d e : Int} (h : DistAt nb y x d) (g : DistAt nb y x e) : d = e := by
  rcases h with ⟨h1, h2⟩ | ⟨k, h1, h2, h3⟩ <;> rcases g with ⟨g1, g2⟩ | ⟨j, g1, g2, g3⟩
  · rw [h1, g1]
  · exact absurd g2 (h2 _)
  · exact absurd h2 (g2 _)
  · have := h3 _ g2; have := g3 _ h2; omega
/-- a place that is met is put at the end, if it is new -/
def ext (s : Nat) (L : List (Int × Nat)) (z : Int) : List (Int × Nat) := if z ∈ L.map (·.1) then L else L ++ [(z, s + 1)]
/-- what a search has found: all that was put, and how many of it were taken -/
structure BInv (nb : Int → List Int) (N : Nat) (y : Int) (L : List (Int × Nat)) (t : Nat) : Prop where
  le : t ≤ L.length
  nodup : (L.map (·.1)).Nodup
  rng : ∀ e ∈ L, 0 ≤ e.1 ∧ e.1 < (N : Int)
  walk : ∀ e ∈ L, Walk nb y e.1 e.2
  start : (y, 0) ∈ L
  mono : L.Pairwise fun a b => a.2 ≤ b.2
  near : ∀ a, L[t]? = some a → ∀ e ∈ L, e.2 ≤ a.2 + 1
  closed : ∀ i, i < t → ∀ a, L[i]? = some a → ∀ z ∈ nb a.1, ∃ s, (z, s) ∈ L ∧ s ≤ a.2 + 1
  idx : ∀ (i : Nat) (a : Int × Nat), L[i]? = some a → a.2 ≤ i
theorem BInv.init (nb : Int → List Int) {N : Nat} {y : Int} (h0 : 0 ≤ y) (h1 : y < (N : Int)) : BInv nb N y [(y, 0)] 0 where
  le := by simp
  nodup := by simp
  rng := by intro e he; obtain rfl : e = (y, 0) := by simpa using he
            exact ⟨h0, h1⟩
  walk := by intro e he; obtain rfl : e = (y, 0) := by simpa using he
             exact .here
  start := by simp
  mono := by simp
  near := by intro a ha e he; obtain rfl : e = (y, 0) := by simpa using he
             simp
  closed := by intro i hi; omega
  idx := by intro i a ha; have := List.mem_of_getElem? ha; obtain rfl : a = (y, 0) := by simpa using this
            exact Nat.zero_le _
theorem ext_pre (s : Nat) (L : List (Int × Nat)) (z : Int) : L <+: ext s L z := by
  unfold ext; split
  · exact List.prefix_refl _
  · exact List.prefix_append _ _
theorem ext_at {s : Nat} {L : List (Int × Nat)} {z : Int} {t : Nat} {a : Int × Nat} (h : L[t]? = some a) : (ext s L z)[t]? = some a := by
  obtain ⟨r, hr⟩ := ext_pre s L z
  rw [← hr, List.getElem?_append_left (List.getElem?_eq_some_iff.1 h).1]; exact h
theorem BInv.ext {nb : Int → List Int} {N : Nat} {y : Int} {L : List (Int × Nat)} {t : Nat} (h : BInv nb N y L t) {a : Int × Nat} (ha : L[t]? = some a) {z : Int} (hz : z ∈ nb a.1) (h0 : 0 ≤ z) (h1 : z < (N : Int)) :
    BInv nb N y (ext a.2 L z) t ∧ ∃ s, (z, s) ∈ ext a.2 L z ∧ s ≤ a.2 + 1 := by
  have hlt := (List.getElem?_eq_some_iff.1 ha).1
  by_cases hm : z ∈ L.map (·.1)
  · have e : Go.Proofs.YtbhkenphcahifaaGreat.ext a.2 L z = L := by unfold Go.Proofs.YtbhkenphcahifaaGreat.ext; rw [if_pos hm]
    rw [e]
    refine ⟨h, ?_⟩
    obtain ⟨⟨z', s⟩, hp, rfl⟩ := List.mem_map.1 hm
    exact ⟨s, hp, h.near a ha _ hp⟩
  · have e : Go.Proofs.YtbhkenphcahifaaGreat.ext a.2 L z = L ++ [(z, a.2 + 1)] := by unfold Go.Proofs.YtbhkenphcahifaaGreat.ext; rw [if_neg hm]
    rw [e]
    have hat : ∀ i, i ≤ t → (L ++ [(z, a.2 + 1)])[i]? = L[i]? := fun i hi => List.getElem?_append_left (by omega)
    have hmem : ∀ e ∈ L ++ [(z, a.2 + 1)], e ∈ L ∨ e = (z, a.2 + 1) := fun e he => by simpa using he
    refine ⟨⟨by simp; omega, ?_, ?_, ?_, by simp [h.start], ?_, ?_, ?_, ?_⟩, a.2 + 1, by simp, Nat.le_refl _⟩
    · rw [List.map_append, List.nodup_append]
      exact ⟨h.nodup, by simp, fun x hx b hb => by
        obtain rfl : b = z := by simpa using hb
        rintro rfl; exact hm hx⟩
    · intro e he
      rcases hmem e he with he | rfl
      · exact h.rng e he
      · exact ⟨h0, h1⟩
    · intro e he
      rcases hmem e he with he | rfl
      · exact h.walk e he
      · exact .step (h.walk a (List.mem_of_getElem? ha)) hz
    · rw [List.pairwise_append]
      refine ⟨h.mono, by simp, fun x hx b hb => ?_⟩
      obtain rfl : b = (z, a.2 + 1) := by simpa using hb
      exact h.near a ha x hx
    · intro b hb e he
      rw [hat t (Nat.le_refl _), ha] at hb
      cases hb
      rcases hmem e he with he | rfl
      · exact h.near a ha e he
      · exact Nat.le_refl _
    · intro i hi b hb z' hz'
      rw [hat i (by omega)] at hb
      obtain ⟨s, hs, hle⟩ := h.closed i hi b hb z' hz'
      exact ⟨s, by simp [hs], hle⟩
    · intro i b hb
      by_cases hil : i < L.length
      · rw [List.getElem?_append_left hil] at hb; exact h.idx i b hb
      · have hi2 := (List.getElem?_eq_some_iff.1 hb).1
        obtain rfl : i = L.length := by simp at hi2; omega
        obtain rfl : (z, a.2 + 1) = b := by simpa using hb
        have := h.idx t a ha
        show a.2 + 1 ≤ _
        omega
theorem BInv.next {nb : Int → List Int} {N : Nat} {y : Int} {L : List (Int × Nat)} {t : Nat} (h : BInv nb N y L t) {a : Int × Nat} (ha : L[t]? = some a) (hc : ∀ z ∈ nb a.1, ∃ s, (z, s) ∈ L ∧ s ≤ a.2 + 1) : BInv nb N y L (t + 1) where
  le := (List.getElem?_eq_some_iff.1 ha).1
  nodup := h.nodup
  rng := h.rng
  walk := h.walk
  start := h.start
  mono := h.mono
  near := by
    intro b hb e he
    obtain ⟨i1, i2⟩ := List.getElem?_eq_some_iff.1 ha
    obtain ⟨j1, j2⟩ := List.getElem?_eq_some_iff.1 hb
    have h1 := List.pairwise_iff_getElem.1 h.mono t (t + 1) i1 j1 (by omega)
    rw [i2, j2] at h1
    have h2 := h.near a ha e he
    omega
  closed := by
    intro i hi b hb z hz
    by_cases e : i = t
    · subst e; rw [ha] at hb; cases hb; exact hc z hz
    · exact h.closed i (by omega) b hb z hz
  idx := h.idx
theorem pigeon : ∀ (n : Nat) (l : List Int), l.Nodup → (∀ x ∈ l, 0 ≤ x ∧ x < (n : Int)) → l.length ≤ n
  | 0, l, _, h => by
    cases l with
    | nil => simp
    | cons x l => have := h x (by simp); omega
  | n + 1, l, hn, h => by
    have h1 := pigeon n (l.filter (fun x => x != (n : Int))) (hn.sublist (List.filter_sublist)) (fun x hx => by
      obtain ⟨a, b⟩ := List.mem_filter.1 hx
      have := h x a
      have : x ≠ (n : Int) := by simpa using b
      omega)
    have h2 : l.length ≤ (l.filter (fun x => x != (n : Int))).length + 1 := by
      clear h h1
      induction l with
      | nil => simp
      | cons y l ih =>
        obtain ⟨hy, hl⟩ := List.nodup_cons.1 hn
        by_cases e : y = (n : Int)
        · subst e
          have : l.filter (fun x => x != (n : Int)) = l := List.filter_eq_self.2 fun x hx => by
            simp; intro e; subst e; exact hy hx
          simp [this]
        · have := ih hl
          simp [e]
          omega
    omega
theorem BInv.len {nb : Int → List Int} {N : Nat} {y : Int} {L : List (Int × Nat)} {t : Nat} (h : BInv nb N y L t) : L.length ≤ N := by
  have := pigeon N (L.map (·.1)) h.nodup (fun x hx => by
    obtain ⟨e, he, rfl⟩ := List.mem_map.1 hx
    exact h.rng e he)
  simpa using this
/-- what a list of places with their steps says of a place -/
def valL (L : List (Int × Nat)) (x : Int) : Int := match L.find? (fun e => e.1 == x) with
  | some e => (e.2 : Int)
  | none => -1
theorem valL_mem {L : List (Int × Nat)} (hn : (L.map (·.1)).Nodup) {x : Int} {s : Nat} (h : (x, s) ∈ L) : valL L x = (s : Int) := by
  unfold valL
  cases hf : L.find? (fun e => e.1 == x) with
  | none =>
    have h2 := List.find?_eq_none.1 hf (x, s) h
    simp at h2
  | some e =>
    have h1 := List.mem_of_find?_eq_some hf
    have h2 : e.1 = x := by simpa using List.find?_some hf
    obtain ⟨e1, e2⟩ := e
    simp only at h2
    subst h2
    obtain ⟨i, hi, hie⟩ := List.getElem_of_mem h
    obtain ⟨j, hj, hje⟩ := List.getElem_of_mem h1
    by_cases hij : i = j
    · subst hij
      rw [hie] at hje
      cases hje; rfl
    · exfalso
      have hne := List.pairwise_iff_getElem.1 hn
      rcases Nat.lt_or_gt_of_ne hij with hlt | hlt
      · refine hne i j (by simpa using hi) (by simpa using hj) hlt ?_
        simp [hie, hje]
      · refine hne j i (by simpa using hj) (by simpa using hi) hlt ?_
        simp [hie, hje]
theorem valL_none {L : List (Int × Nat)} {x : Int} (h : x ∉ L.map (·.1)) : valL L x = -1 := by
  unfold valL
  rw [List.find?_eq_none.2 (fun e he => by
    simp only [beq_iff_eq]
    rintro rfl
    exact h (List.mem_map.2 ⟨e, he, rfl⟩))]
theorem valL_snoc {L : List (Int × Nat)} {e : Int × Nat} (hn : e.1 ∉ L.map (·.1)) (x : Int) : valL (L ++ [e]) x = if x = e.1 then (e.2 : Int) else valL L x := by
  by_cases hx : x = e.1
  · subst hx
    rw [if_pos rfl]
    unfold valL
    rw [List.find?_append, List.find?_eq_none.2 (fun c hc => by
      simp only [beq_iff_eq]
      intro h
      exact hn (List.mem_map.2 ⟨c, hc, h⟩))]
    simp
  · rw [if_neg hx]
    unfold valL
    rw [List.find?_append]
    cases h : L.find? (fun e => e.1 == x) with
    | some c => simp
    | none =>
      have : (e.1 == x) = false := by simpa using fun h => hx h.symm
      simp [this]
/-- the search is at its end: it has found the distances -/
theorem BInv.done {nb : Int → List Int} {N : Nat} {y : Int} {L : List (Int × Nat)} (h : BInv nb N y L L.length) (x : Int) : DistAt nb y x (valL L x) := by
  have hmin : ∀ x k, Walk nb y x k → ∃ s, (x, s) ∈ L ∧ s ≤ k := by
    intro x k hw
    induction hw with
    | here => exact ⟨0, h.start, Nat.le_refl _⟩
    | step hw hz ih =>
      obtain ⟨s, hs, hle⟩ := ih
      obtain ⟨i, hi, hie⟩ := List.getElem_of_mem hs
      obtain ⟨s', hs', hle'⟩ := h.closed i hi _ (by rw [List.getElem?_eq_getElem hi, hie]) _ hz
      exact ⟨s', hs', by simp at hle'; omega⟩
  by_cases hx : x ∈ L.map (·.1)
  · obtain ⟨⟨x', s⟩, hp, rfl⟩ := List.mem_map.1 hx
    refine .inr ⟨s, valL_mem h.nodup hp, h.walk _ hp, fun j hj => ?_⟩
    obtain ⟨s', hs', hle⟩ := hmin _ j hj
    have e1 := valL_mem h.nodup hp
    have e2 := valL_mem h.nodup hs'
    simp only at e1 e2
    omega
  · refine .inl ⟨valL_none hx, fun k hk => ?_⟩
    obtain ⟨s, hs, _⟩ := hmin x k hk
    exact hx (List.mem_map.2 ⟨_, hs, rfl⟩)
/-- distances by a potential -/
theorem dist_of {nb : Int → List Int} {y : Int} {P : Int → Prop} {f : Int → Nat} (hP : ∀ x, P x → ∀ z ∈ nb x, P z) (hy : P y) (h0 : f y = 0) (hl : ∀ x, P x → ∀ z ∈ nb x, f z ≤ f x + 1) (hd : ∀ x, P x → x ≠ y → ∃ z, P z ∧ x ∈ nb z ∧ f z + 1 = f x) (hz : ∀ x, P x → f x = 0 → x = y) {x : Int} (hx : P x) : DistAt nb y x (f x : Int) := by
  have h1 : ∀ x k, Walk nb y x k → P x ∧ f x ≤ k := by
    intro x k hw
    induction hw with
    | here => exact ⟨hy, by omega⟩
    | step hw hz ih => exact ⟨hP _ ih.1 _ hz, Nat.le_trans (hl _ ih.1 _ hz) (by omega)⟩
  have h2 : ∀ n x, P x → f x = n → Walk nb y x n := by
    intro n
    induction n with
    | zero => intro x hx hf; obtain rfl := hz x hx hf; exact .here
    | succ n ih =>
      intro x hx hf
      obtain ⟨z, hz1, hz2, hz3⟩ := hd x hx (by rintro rfl; omega)
      exact .step (ih z hz1 (by omega)) hz2
  exact .inr ⟨f x, rfl, h2 _ x hx rfl, fun j hj => (h1 x j hj).2⟩
end Go.Proofs.YtbhkenphcahifaaGreat

namespace Go.Proofs.YtbhkenphcahifaaGreat
open Go.RowKit Go.Shelf
set_option maxRecDepth 100000
set_option maxHeartbeats 4000000

/-- a path: its places behind the first one, and its end -/
def Chain (nb : Int → List Int) : Int → List Int → Int → Prop
  | x, [], y => x = y
  | x, z :: L, y => z ∈ nb x ∧ Chain nb z L y
/-- a path from a place is a walk to it, where links lead back -/
theorem Chain.back {nb : Int → List Int} {P : Int → Prop} (hs : ∀ x, P x → ∀ z ∈ nb x, P z ∧ x ∈ nb z) {y : Int} : ∀ (L : List Int) (x : Int), P x → Chain nb x L y → Walk nb y x L.length
  | [], x, _, h => by cases (show x = y from h); exact .here
  | z :: L, x, hx, h => .step (Chain.back hs L z (hs x hx z h.1).1 h.2) (hs x hx z h.1).2
theorem Walk.good {nb : Int → List Int} {P : Int → Prop} (hs : ∀ x, P x → ∀ z ∈ nb x, P z) {y : Int} (hy : P y) {x : Int} {k : Nat} (h : Walk nb y x k) : P x := by
  induction h with
  | here => exact hy
  | step _ hz ih => exact hs _ ih _ hz
/-- a walk, turned around -/
theorem Walk.cons {nb : Int → List Int} {y z x : Int} {k : Nat} (hz : z ∈ nb y) (h : Walk nb z x k) : Walk nb y x (k + 1) := by
  induction h with
  | here => exact .step .here hz
  | step _ hm ih => exact .step ih hm
theorem Walk.turn {nb : Int → List Int} {P : Int → Prop} (hs : ∀ x, P x → ∀ z ∈ nb x, P z ∧ x ∈ nb z) {y : Int} (hy : P y) {x : Int} {k : Nat} (h : Walk nb y x k) : Walk nb x y k := by
  induction h with
  | here => exact .here
  | step h1 hz ih => exact Walk.cons (hs _ (h1.good (fun x hx z hz => (hs x hx z hz).1) hy) _ hz).2 ih
theorem Walk.trans {nb : Int → List Int} {y z x : Int} {j k : Nat} (h1 : Walk nb y z j) (h2 : Walk nb z x k) : Walk nb y x (j + k) := by
  induction h2 with
  | here => exact h1
  | step _ hm ih => exact .step ih hm

/-! trees -/
theorem quot_add {P q e : Int} (hP : 1 ≤ P) (w : Int) (h : w / P = q) : (w + e * P) / P = q + e := by rw [Int.add_mul_ediv_right _ _ (by omega), h]
theorem wth_quot {k i : Nat} (hk : 1 ≤ k) (w d : Int) : wthI k i w d / ((k ^ i : Nat) : Int) = w / ((k ^ i : Nat) : Int) + (d - digI k i w) := by
  unfold wthI
  exact quot_add (by have := pow_pos' (i := i) hk; omega) w rfl
theorem wth_dig {k i : Nat} (hk : 1 ≤ k) (w : Int) {d : Int} (h0 : 0 ≤ d) (h1 : d < k) : digI k i (wthI k i w d) = d := by
  have h := wth_quot (i := i) hk w d
  unfold digI at h ⊢
  rw [h]
  generalize w / ((k ^ i : Nat) : Int) = q
  have e : q + (d - q % (k : Int)) = d + (k : Int) * (q / k) := by have := Int.mul_ediv_add_emod q k; omega
  rw [e, Int.add_mul_emod_self_left, Int.emod_eq_of_lt h0 h1]
theorem wth_own {k i : Nat} (w : Int) : wthI k i w (digI k i w) = w := by unfold wthI; simp
theorem wth_wth {k i : Nat} (hk : 1 ≤ k) (w : Int) {d : Int} (h0 : 0 ≤ d) (h1 : d < k) (e : Int) : wthI k i (wthI k i w d) e = wthI k i w e := by
  have h := wth_dig (i := i) hk w h0 h1
  generalize hv : wthI k i w d = v at h ⊢
  unfold wthI at hv ⊢
  rw [h, ← hv]
  have : (d - digI k i w) * ((k ^ i : Nat) : Int) + (e - d) * ((k ^ i : Nat) : Int) = (e - digI k i w) * ((k ^ i : Nat) : Int) := by rw [← Int.add_mul]; congr 1; omega
  omega
theorem pow_quot {k : Nat} (w : Int) (i j : Nat) : w / ((k ^ (i + j) : Nat) : Int) = w / ((k ^ i : Nat) : Int) / ((k ^ j : Nat) : Int) := by
  rw [Nat.pow_add, Int.natCast_mul]
  exact (Int.ediv_ediv_of_nonneg (Int.natCast_nonneg _)).symm
/-- digits above are not changed -/
theorem wth_above {k i : Nat} (hk : 1 ≤ k) (w : Int) {d : Int} (h0 : 0 ≤ d) (h1 : d < k) {j : Nat} (hj : i < j) : wthI k i w d / ((k ^ j : Nat) : Int) = w / ((k ^ j : Nat) : Int) := by
  have e1 : wthI k i w d / ((k ^ (i + 1) : Nat) : Int) = w / ((k ^ (i + 1) : Nat) : Int) := by
    rw [pow_quot, pow_quot, wth_quot hk]
    unfold digI
    rw [Nat.pow_one]
    generalize w / ((k ^ i : Nat) : Int) = q
    have e : q + (d - q % (k : Int)) = d + (k : Int) * (q / k) := by have := Int.mul_ediv_add_emod q k; omega
    rw [e, Int.add_mul_ediv_left _ _ (by omega), Int.ediv_eq_zero_of_lt h0 h1, Int.zero_add]
  obtain ⟨m, rfl⟩ : ∃ m, j = i + 1 + m := ⟨j - i - 1, by omega⟩
  rw [pow_quot _ (i + 1) m, e1, ← pow_quot]
/-- how far up a route goes -/
def UpT (k : Nat) (y : Int) (l : Nat) (wd : Int) (u : Nat) : Prop := wd / ((k ^ (l + u) : Nat) : Int) = y / ((k ^ (l + u) : Nat) : Int) ∧ ∀ j, j < u → wd / ((k ^ (l + j) : Nat) : Int) ≠ y / ((k ^ (l + j) : Nat) : Int)
theorem UpT.unique {k : Nat} {y : Int} {l : Nat} {wd : Int} {u v : Nat} (h : UpT k y l wd u) (g : UpT k y l wd v) : u = v := by
  rcases Nat.lt_trichotomy u v with h1 | h1 | h1
  · exact absurd h.1 (g.2 u h1)
  · exact h1
  · exact absurd g.1 (h.2 v h1)
theorem UpT.exists {k : Nat} {y : Int} {wd : Int} : ∀ (n l : Nat), wd / ((k ^ (l + n) : Nat) : Int) = y / ((k ^ (l + n) : Nat) : Int) → ∃ u, u ≤ n ∧ UpT k y l wd u
  | 0, l, h => ⟨0, Nat.le_refl _, h, fun j hj => by omega⟩
  | n + 1, l, h => by
    by_cases h0 : wd / ((k ^ l : Nat) : Int) = y / ((k ^ l : Nat) : Int)
    · exact ⟨0, by omega, h0, fun j hj => by omega⟩
    · obtain ⟨u, hu, h1, h2⟩ := UpT.exists (k := k) (y := y) (wd := wd) n (l + 1) (by rw [show l + 1 + n = l + (n + 1) by omega]; exact h)
      refine ⟨u + 1, by omega, by rw [show l + (u + 1) = l + 1 + u by omega]; exact h1, fun j hj => ?_⟩
      cases j with
      | zero => exact h0
      | succ j => rw [show l + (j + 1) = l + 1 + j by omega]; exact h2 j (by omega)
theorem UpT.lift {k : Nat} {y : Int} {l : Nat} {wd wd' : Int} {u : Nat} (hq : ∀ j, l < j → wd' / ((k ^ j : Nat) : Int) = wd / ((k ^ j : Nat) : Int)) (h : UpT k y l wd (u + 1)) : UpT k y (l + 1) wd' u := by
  refine ⟨?_, fun j hj => ?_⟩
  · rw [hq _ (by omega), show l + 1 + u = l + (u + 1) by omega]; exact h.1
  · rw [hq _ (by omega), show l + 1 + j = l + (j + 1) by omega]; exact h.2 _ (by omega)
/-- over a link the length of the way changes by one -/
theorem UpT.link {k : Nat} {y : Int} {l : Nat} {wd wd' : Int} {u u' : Nat} (hq : ∀ j, l < j → wd' / ((k ^ j : Nat) : Int) = wd / ((k ^ j : Nat) : Int)) (h : UpT k y (l + 1) wd u) (g : UpT k y l wd' u') : u' = u + 1 ∨ (u = 0 ∧ u' = 0) := by
  cases u' with
  | zero =>
    refine .inr ⟨?_, rfl⟩
    refine UpT.unique h ⟨?_, fun j hj => by omega⟩
    have e := g.1
    rw [Nat.add_zero] at e ⊢
    rw [← hq _ (by omega), pow_quot, pow_quot, e]
  | succ v => exact .inl (by rw [UpT.unique h (g.lift fun j hj => (hq j hj).symm)])
theorem mem_lvT {k lv : Nat} {ww : Int} {l : Nat} {wx z : Int} : z ∈ lvT k lv ww l wx ↔ (0 < l ∧ ∃ d : Nat, d < k ∧ z = ((l - 1 : Nat) : Int) * ww + wthI k (l - 1) wx d) ∨ (l < lv - 1 ∧ ∃ d : Nat, d < k ∧ z = ((l + 1 : Nat) : Int) * ww + wthI k l wx d) := by
  unfold lvT
  rw [List.mem_append]
  have e1 : z ∈ dnT k ww (l - 1) wx k ↔ ∃ d : Nat, d < k ∧ z = ((l - 1 : Nat) : Int) * ww + wthI k (l - 1) wx d := by
    unfold dnT; rw [List.mem_map]
    exact ⟨fun ⟨d, hd, e⟩ => ⟨d, List.mem_range.1 hd, e.symm⟩, fun ⟨d, hd, e⟩ => ⟨d, List.mem_range.2 hd, e.symm⟩⟩
  have e2 : z ∈ upT k ww l wx k ↔ ∃ d : Nat, d < k ∧ z = ((l + 1 : Nat) : Int) * ww + wthI k l wx d := by
    unfold upT; rw [List.mem_map]
    exact ⟨fun ⟨d, hd, e⟩ => ⟨d, List.mem_range.1 hd, e.symm⟩, fun ⟨d, hd, e⟩ => ⟨d, List.mem_range.2 hd, e.symm⟩⟩
  constructor
  · rintro (h | h)
    · by_cases h0 : 0 < l
      · rw [if_pos h0] at h; exact .inl ⟨h0, e1.1 h⟩
      · rw [if_neg h0] at h; simp at h
    · by_cases h0 : l < lv - 1
      · rw [if_pos h0] at h; exact .inr ⟨h0, e2.1 h⟩
      · rw [if_neg h0] at h; simp at h
  · rintro (⟨h0, h⟩ | ⟨h0, h⟩)
    · rw [if_pos h0]; exact .inl (e1.2 h)
    · rw [if_pos h0]; exact .inr (e2.2 h)
/-- a switch by its level and word -/
def InTr (k lv : Nat) (x : Int) (l : Nat) (wd : Int) : Prop := x = (l : Int) * ((k ^ (lv - 1) : Nat) : Int) + wd ∧ l ≤ lv - 1 ∧ 0 ≤ wd ∧ wd < ((k ^ (lv - 1) : Nat) : Int)
theorem InTr.of {k lv : Nat} (hk : 1 ≤ k) (hlv : 1 ≤ lv) {x : Int} (h0 : 0 ≤ x) (h1 : x < (lv : Int) * ((k ^ (lv - 1) : Nat) : Int)) : InTr k lv x (x / ((k ^ (lv - 1) : Nat) : Int)).toNat (x % ((k ^ (lv - 1) : Nat) : Int)) := by
  have hw : 1 ≤ k ^ (lv - 1) := pow_pos' hk
  have h2 : x / ((k ^ (lv - 1) : Nat) : Int) < lv := Int.ediv_lt_of_lt_mul (by omega) h1
  have h3 := Int.ediv_nonneg h0 (show (0 : Int) ≤ ((k ^ (lv - 1) : Nat) : Int) by omega)
  refine ⟨?_, by omega, Int.emod_nonneg _ (by omega), Int.emod_lt_of_pos _ (by omega)⟩
  rw [Int.toNat_of_nonneg h3, Int.mul_comm]
  exact (Int.mul_ediv_add_emod x _).symm
theorem InTr.rng {k lv : Nat} (hlv : 1 ≤ lv) {x : Int} {l : Nat} {wd : Int} (h : InTr k lv x l wd) : 0 ≤ x ∧ x < (lv : Int) * ((k ^ (lv - 1) : Nat) : Int) := by
  obtain ⟨rfl, h1, h2, h3⟩ := h
  have e1 : (l : Int) * ((k ^ (lv - 1) : Nat) : Int) ≤ ((lv - 1 : Nat) : Int) * ((k ^ (lv - 1) : Nat) : Int) := Int.mul_le_mul_of_nonneg_right (by omega) (by omega)
  have e2 : ((lv - 1 : Nat) : Int) * ((k ^ (lv - 1) : Nat) : Int) = (lv : Int) * ((k ^ (lv - 1) : Nat) : Int) - ((k ^ (lv - 1) : Nat) : Int) := by
    rw [show ((lv - 1 : Nat) : Int) = (lv : Int) - 1 by omega, Int.sub_mul, Int.one_mul]
  have e3 := Int.mul_nonneg (show (0 : Int) ≤ l by omega) (show (0 : Int) ≤ ((k ^ (lv - 1) : Nat) : Int) by omega)
  omega
theorem InTr.parts {k lv : Nat} {x : Int} {l : Nat} {wd : Int} (h : InTr k lv x l wd) : x / ((k ^ (lv - 1) : Nat) : Int) = l ∧ x % ((k ^ (lv - 1) : Nat) : Int) = wd := by
  obtain ⟨rfl, h1, h2, h3⟩ := h
  refine ⟨lvl_div l h2 h3, ?_⟩
  rw [Int.add_comm, Int.add_mul_emod_self_right, Int.emod_eq_of_lt h2 h3]
theorem InTr.nb {k lv : Nat} {x : Int} {l : Nat} {wd : Int} (h : InTr k lv x l wd) : nbT k lv x = lvT k lv ((k ^ (lv - 1) : Nat) : Int) l wd := by
  unfold nbT
  rw [h.parts.1, h.parts.2, Int.toNat_natCast]
theorem InTr.unique {k lv : Nat} {x : Int} {l l' : Nat} {wd wd' : Int} (h : InTr k lv x l wd) (g : InTr k lv x l' wd') : l = l' ∧ wd = wd' := by
  have h1 := h.parts; have h2 := g.parts
  exact ⟨by have := h1.1.symm.trans h2.1; omega, h1.2.symm.trans h2.2⟩
theorem InTr.with_ {k lv : Nat} (hk : 1 ≤ k) {i l' : Nat} {wd d : Int} (hi : i < lv - 1) (hl : l' ≤ lv - 1) (h2 : 0 ≤ wd) (h3 : wd < ((k ^ (lv - 1) : Nat) : Int)) (d0 : 0 ≤ d) (d1 : d < k) : InTr k lv ((l' : Int) * ((k ^ (lv - 1) : Nat) : Int) + wthI k i wd d) l' (wthI k i wd d) := by
  obtain ⟨a, b⟩ := wth_in hk hi h2 h3 d0 d1
  exact ⟨rfl, hl, a, b⟩
/-- links of a tree: one level up or down, another digit; they lead back -/
theorem tree_sym {k lv : Nat} (hk : 1 ≤ k) {x : Int} {l : Nat} {wd : Int} (h : InTr k lv x l wd) : ∀ z ∈ nbT k lv x, x ∈ nbT k lv z ∧ ∃ l' wd', InTr k lv z l' wd' ∧ ((l' + 1 = l ∧ ∀ j, l' < j → wd' / ((k ^ j : Nat) : Int) = wd / ((k ^ j : Nat) : Int)) ∨ (l' = l + 1 ∧ ∀ j, l < j → wd' / ((k ^ j : Nat) : Int) = wd / ((k ^ j : Nat) : Int))) := by
  intro z hz
  rw [h.nb, mem_lvT] at hz
  obtain ⟨rfl, h1, h2, h3⟩ := h
  rcases hz with ⟨h0, d, hd, rfl⟩ | ⟨h0, d, hd, rfl⟩
  · obtain ⟨m, rfl⟩ : ∃ m, l = m + 1 := ⟨l - 1, by omega⟩
    rw [Nat.add_sub_cancel]
    have g := InTr.with_ (lv := lv) (l' := m) hk (show m < lv - 1 by omega) (by omega) h2 h3 (show (0 : Int) ≤ (d : Int) by omega) (by omega)
    refine ⟨?_, m, _, g, .inl ⟨rfl, fun j hj => wth_above hk wd (by omega) (by omega) hj⟩⟩
    rw [g.nb, mem_lvT]
    obtain ⟨d0, d1⟩ := dig_bound (k := k) (i := m) (x := wd) hk
    refine .inr ⟨by omega, (digI k m wd).toNat, by omega, ?_⟩
    rw [Int.toNat_of_nonneg d0, wth_wth hk wd (by omega) (by omega), wth_own]
  · have g := InTr.with_ (lv := lv) (l' := l + 1) hk (show l < lv - 1 by omega) (by omega) h2 h3 (show (0 : Int) ≤ (d : Int) by omega) (by omega)
    refine ⟨?_, l + 1, _, g, .inr ⟨rfl, fun j hj => wth_above hk wd (by omega) (by omega) hj⟩⟩
    rw [g.nb, mem_lvT]
    obtain ⟨d0, d1⟩ := dig_bound (k := k) (i := l) (x := wd) hk
    refine .inl ⟨by omega, (digI k l wd).toNat, by omega, ?_⟩
    rw [Int.toNat_of_nonneg d0, Nat.add_sub_cancel, wth_wth hk wd (by omega) (by omega), wth_own]
theorem downL_chain {k lv : Nat} (hk : 1 ≤ k) {y : Int} (hy : 0 ≤ y) : ∀ (l : Nat) (x wd : Int), InTr k lv x l wd → wd / ((k ^ l : Nat) : Int) = y / ((k ^ l : Nat) : Int) → Chain (nbT k lv) x ((downL k ((k ^ (lv - 1) : Nat) : Int) y l wd).map (·.1)) y ∧ (downL k ((k ^ (lv - 1) : Nat) : Int) y l wd).length = l
  | 0, x, wd, h, hq => by
    refine ⟨?_, rfl⟩
    show x = y
    have := h.1
    simp at this hq
    omega
  | l + 1, x, wd, h, hq => by
    obtain ⟨d0, d1⟩ := dig_bound (k := k) (i := l) (x := y) hk
    have g := InTr.with_ (lv := lv) (l' := l) hk (show l < lv - 1 by have := h.2.1; omega) (by have := h.2.1; omega) h.2.2.1 h.2.2.2 d0 (by omega)
    have hq2 : wthI k l wd (digI k l y) / ((k ^ l : Nat) : Int) = y / ((k ^ l : Nat) : Int) := by
      rw [wth_quot hk]
      rw [pow_quot, pow_quot, Nat.pow_one] at hq
      unfold digI
      have h1 := Int.mul_ediv_add_emod (wd / ((k ^ l : Nat) : Int)) k
      have h2 := Int.mul_ediv_add_emod (y / ((k ^ l : Nat) : Int)) k
      rw [hq] at h1
      omega
    obtain ⟨i1, i2⟩ := downL_chain hk hy l _ _ g hq2
    rw [downL]
    refine ⟨⟨?_, i1⟩, by rw [List.length_cons, i2]⟩
    show _ ∈ nbT k lv x
    rw [h.nb, mem_lvT]
    exact .inl ⟨by omega, (digI k l y).toNat, by omega, by rw [Int.toNat_of_nonneg d0]; rfl⟩
theorem upL_chain {k lv : Nat} (hk : 1 ≤ k) {y : Int} (hy : 0 ≤ y) : ∀ (u f l : Nat) (x wd : Int), u ≤ f → l + u ≤ lv - 1 → InTr k lv x l wd → UpT k y l wd u → Chain (nbT k lv) x ((upL k ((k ^ (lv - 1) : Nat) : Int) y f l wd).map (·.1)) y ∧ (upL k ((k ^ (lv - 1) : Nat) : Int) y f l wd).length = l + 2 * u
  | 0, 0, l, x, wd, _, _, h, hu => by rw [upL]; exact downL_chain hk hy l x wd h (by simpa using hu.1)
  | 0, f + 1, l, x, wd, _, _, h, hu => by
    have h0 := hu.1
    rw [Nat.add_zero] at h0
    rw [upL, if_neg (by simpa using h0)]
    exact downL_chain hk hy l x wd h h0
  | u + 1, 0, l, x, wd, hf, _, _, _ => by omega
  | u + 1, f + 1, l, x, wd, hf, hl, h, hu => by
    have h0 := hu.2 0 (by omega)
    rw [Nat.add_zero] at h0
    rw [upL, if_pos h0]
    obtain ⟨d0, d1⟩ := dig_bound (k := k) (i := l) (x := y) hk
    have g := InTr.with_ (lv := lv) (l' := l + 1) hk (show l < lv - 1 by omega) (by omega) h.2.2.1 h.2.2.2 d0 (by omega)
    obtain ⟨i1, i2⟩ := upL_chain hk hy u f (l + 1) _ _ (by omega) (by omega) g (hu.lift fun j hj => wth_above hk wd d0 (by omega) hj)
    refine ⟨⟨?_, i1⟩, by rw [List.length_cons, i2]; omega⟩
    show _ ∈ nbT k lv x
    rw [h.nb, mem_lvT]
    exact .inr ⟨by omega, (digI k l y).toNat, by omega, by rw [Int.toNat_of_nonneg d0]⟩
/-- in a tree the route to a home is a path, and as long as the distance -/
theorem tree_route {k lv : Nat} (hk : 1 ≤ k) (hlv : 1 ≤ lv) {x y : Int} (hx : 0 ≤ x) (hx2 : x < (lv : Int) * ((k ^ (lv - 1) : Nat) : Int)) (hy : 0 ≤ y) (hy2 : y < ((k ^ (lv - 1) : Nat) : Int)) :
    Chain (nbT k lv) x ((treeL k lv x y).map (·.1)) y ∧ DistAt (nbT k lv) y x ((treeL k lv x y).length : Int) := by
  have hyT : InTr k lv y 0 y := ⟨by simp, by omega, hy, hy2⟩
  have hup : ∀ l wd, l ≤ lv - 1 → 0 ≤ wd → wd < ((k ^ (lv - 1) : Nat) : Int) → ∃ u, u ≤ lv - 1 - l ∧ UpT k y l wd u := fun l wd h1 h2 h3 => by
    refine UpT.exists (lv - 1 - l) l ?_
    rw [show l + (lv - 1 - l) = lv - 1 by omega, Int.ediv_eq_zero_of_lt h2 h3, Int.ediv_eq_zero_of_lt hy hy2]
  have hxT := InTr.of hk hlv hx hx2
  obtain ⟨u, hu1, hu2⟩ := hup _ _ hxT.2.1 hxT.2.2.1 hxT.2.2.2
  have hR := upL_chain (lv := lv) hk hy u lv _ x _ (by omega) (by have := hxT.2.1; omega) hxT hu2
  rw [show upL k ((k ^ (lv - 1) : Nat) : Int) y lv (x / ((k ^ (lv - 1) : Nat) : Int)).toNat (x % ((k ^ (lv - 1) : Nat) : Int)) = treeL k lv x y from rfl] at hR
  have hS : ∀ a, (∃ l wd, InTr k lv a l wd) → ∀ z ∈ nbT k lv a, (∃ l wd, InTr k lv z l wd) ∧ a ∈ nbT k lv z := fun a ⟨l, wd, h⟩ z hz => by
    obtain ⟨h1, l', wd', h2, _⟩ := tree_sym hk h z hz
    exact ⟨⟨l', wd', h2⟩, h1⟩
  refine ⟨hR.1, .inr ⟨_, rfl, ?_, ?_⟩⟩
  · have := Chain.back hS _ x ⟨_, _, hxT⟩ hR.1
    rwa [List.length_map] at this
  · have hlow : ∀ a j, Walk (nbT k lv) y a j → ∃ l wd u, InTr k lv a l wd ∧ UpT k y l wd u ∧ l + 2 * u ≤ j := by
      intro a j hw
      induction hw with
      | here => exact ⟨0, y, 0, hyT, ⟨rfl, fun j hj => by omega⟩, by omega⟩
      | step _ hz ih =>
        obtain ⟨l, wd, u, g1, g2, g3⟩ := ih
        obtain ⟨_, l', wd', g4, g5⟩ := tree_sym hk g1 _ hz
        obtain ⟨u', _, g6⟩ := hup l' wd' g4.2.1 g4.2.2.1 g4.2.2.2
        refine ⟨l', wd', u', g4, g6, ?_⟩
        rcases g5 with ⟨rfl, hq⟩ | ⟨rfl, hq⟩
        · have := UpT.link hq g2 g6; omega
        · have := UpT.link (fun j hj => (hq j hj).symm) g6 g2; omega
    intro j hj
    obtain ⟨l, wd, u', g1, g2, g3⟩ := hlow x j hj
    obtain ⟨rfl, rfl⟩ := g1.unique hxT
    rw [hR.2, UpT.unique hu2 g2]
    exact g3
end Go.Proofs.YtbhkenphcahifaaGreat

namespace Go.Proofs.YtbhkenphcahifaaGreat
open Go.RowKit Go.Shelf
set_option maxRecDepth 100000
set_option maxHeartbeats 4000000

/-- the lesser way around a ring -/
def rgI (m a b : Int) : Int := min (if a - b < 0 then -(a - b) else a - b) (m - (if a - b < 0 then -(a - b) else a - b))
theorem rg_step {m a b s : Int} (h0 : 0 ≤ a) (h1 : a < m) (b0 : 0 ≤ b) (b1 : b < m) (hs : s = 1 ∨ s = -1) : rgI m ((a + s) % m) b ≤ rgI m a b + 1 := by
  have e : (a + s) % m = if s = 1 then (if a + 1 = m then 0 else a + 1) else (if a = 0 then m - 1 else a - 1) := by
    rcases hs with rfl | rfl
    · rw [if_pos rfl]; split
      · rename_i h; rw [h, Int.emod_self]
      · exact Int.emod_eq_of_lt (by omega) (by omega)
    · rw [if_neg (by decide)]; split
      · rename_i h; subst h; rw [← Int.add_emod_right, Int.emod_eq_of_lt (by omega) (by omega)]; omega
      · rw [Int.emod_eq_of_lt (by omega) (by omega)]; omega
  rw [e]
  unfold rgI
  rcases hs with rfl | rfl
  · simp only [if_true]
    repeat' split
    all_goals omega
  · simp only [show ((-1 : Int) = 1) = False by decide, if_false]
    repeat' split
    all_goals omega
theorem rg_dst {m c t : Int} (h0 : 0 ≤ c) (h1 : c < m) (t0 : 0 ≤ t) (t1 : t < m) : dstI m (byI m c t) c t = rgI m c t := by
  have e : (t - c) % m = if c ≤ t then t - c else t - c + m := by
    split
    · exact Int.emod_eq_of_lt (by omega) (by omega)
    · rw [← Int.add_emod_right]; exact Int.emod_eq_of_lt (by omega) (by omega)
  unfold byI dstI rgI
  rw [e]
  repeat' split
  all_goals first | omega | (rename_i h; exact absurd h (by decide))
theorem rg_same (m a : Int) (hm : 0 ≤ m) : rgI m a a = 0 := by unfold rgI; simp; omega
theorem rg_nonneg {m a b : Int} (h0 : 0 ≤ a) (h1 : a < m) (b0 : 0 ≤ b) (b1 : b < m) : 0 ≤ rgI m a b ∧ rgI m a b ≤ m := by
  unfold rgI
  split <;> omega
/-- the lesser ways around the first rings, together -/
def sumR (l c e : List Int) : Nat → Int
  | 0 => 0
  | k + 1 => sumR l c e k + rgI (l.getD k 0) (c.getD k 0) (e.getD k 0)
theorem sumR_set {l c e : List Int} {i : Nat} {v : Int} (hi : i < c.length) : ∀ k, sumR l (c.set i v) e k = sumR l c e k + (if i < k then rgI (l.getD i 0) v (e.getD i 0) - rgI (l.getD i 0) (c.getD i 0) (e.getD i 0) else 0)
  | 0 => by simp [sumR]
  | k + 1 => by
    rw [sumR, sumR, sumR_set hi k]
    by_cases hik : i = k
    · subst hik
      rw [getD_set_same _ _ _ _ hi, if_neg (by omega), if_pos (by omega)]
      omega
    · rw [getD_set_other _ _ _ _ _ hik]
      by_cases h : i < k
      · rw [if_pos h, if_pos (by omega)]; omega
      · rw [if_neg h, if_neg (by omega)]; omega
theorem sumR_tail {l c c' e : List Int} {i : Nat} (h : ∀ j, i ≤ j → c'.getD j 0 = c.getD j 0) : ∀ k, i ≤ k → sumR l c' e k - sumR l c' e i = sumR l c e k - sumR l c e i
  | 0, hk => by obtain rfl : i = 0 := by omega
                omega
  | k + 1, hk => by
    by_cases hik : i = k + 1
    · subst hik; omega
    · have := sumR_tail (l := l) (e := e) h k (by omega)
      rw [sumR, sumR, h k (by omega)]
      omega
theorem sumR_bound {l c e : List Int} (hb : ∀ i, i < l.length → 2 ≤ l.getD i 0 ∧ l.getD i 0 ≤ 16) (hc : InT l c) (he : InT l e) : ∀ k, k ≤ l.length → 0 ≤ sumR l c e k ∧ sumR l c e k ≤ 16 * (k : Int)
  | 0, _ => by simp [sumR]
  | k + 1, hk => by
    have h1 := sumR_bound hb hc he k (by omega)
    have h2 := rg_nonneg (hc.2 k (by omega)).1 (hc.2 k (by omega)).2 (he.2 k (by omega)).1 (he.2 k (by omega)).2
    have h3 := hb k (by omega)
    rw [sumR]
    omega
theorem set_own {c : List Int} {i : Nat} (hi : i < c.length) : c.set i (c.getD i 0) = c := by
  refine List.ext_getElem (by simp) fun j h1 h2 => ?_
  rw [List.getElem_set]
  split
  · rename_i h; subst h; simp [List.getD, hi]
  · rfl
theorem mem_nbL {l d : List Int} (hd : InT l d) {z : Int} : z ∈ nbL l (numI l d) ↔ ∃ i s, i < l.length ∧ (s = 1 ∨ s = -1) ∧ z = numI l (d.set i ((d.getD i 0 + s) % l.getD i 0)) := by
  rw [nbL_iff, nbK_iff]
  constructor
  · rintro ⟨i, hi, h | h⟩
    · exact ⟨i, 1, hi, .inl rfl, by rw [h, nbA_num hd hi]⟩
    · exact ⟨i, -1, hi, .inr rfl, by rw [h, nbA_num hd hi]⟩
  · rintro ⟨i, s, hi, rfl | rfl, rfl⟩
    · exact ⟨i, hi, .inl (by rw [nbA_num hd hi])⟩
    · exact ⟨i, hi, .inr (by rw [nbA_num hd hi])⟩
theorem torus_sym {l : List Int} (hb : ∀ i, i < l.length → 2 ≤ l.getD i 0 ∧ l.getD i 0 ≤ 16) {d : List Int} (hd : InT l d) : ∀ z ∈ nbL l (numI l d), numI l d ∈ nbL l z := by
  intro z hz
  obtain ⟨i, s, hi, hs, rfl⟩ := (mem_nbL hd).1 hz
  obtain ⟨e1, e2⟩ := emod_in (a := d.getD i 0 + s) (hb i hi).1
  obtain ⟨c0, c1⟩ := hd.2 i hi
  refine (mem_nbL (hd.set hi e1 e2)).2 ⟨i, -s, hi, by omega, ?_⟩
  rw [getD_set_same _ _ _ _ (by rw [hd.1]; exact hi), List.set_set]
  have e : ((d.getD i 0 + s) % l.getD i 0 + -s) % l.getD i 0 = d.getD i 0 := by
    rw [Int.emod_add_emod, show d.getD i 0 + s + -s = d.getD i 0 by omega, Int.emod_eq_of_lt c0 c1]
  rw [e, set_own (by rw [hd.1]; exact hi)]
theorem nx_emod {s v : Int} (h : 0 < s) : nxI s v = v % s := by
  unfold nxI; split
  · rename_i h2; rw [Int.emod_eq_of_lt h2.1 (by omega)]
  · rfl
theorem mv_chain {l e : List Int} (hb : ∀ i, i < l.length → 2 ≤ l.getD i 0 ∧ l.getD i 0 ≤ 16) {i : Nat} (hi : i < l.length) {b t y : Int} (hbb : b = 1 ∨ b = -1) (t0 : 0 ≤ t) (t1 : t < l.getD i 0) (K : List Int → List (Int × Int)) (n : Int) (c0 : List Int)
    (hK : ∀ c, InT l c → c.getD i 0 = t → (∀ j, j ≠ i → c.getD j 0 = c0.getD j 0) → Chain (nbL l) (numI l c) ((K c).map (·.1)) y ∧ ((K c).length : Int) = n) :
    ∀ (f : Nat) (c : List Int) (cl : Int), InT l c → (∀ j, j ≠ i → c.getD j 0 = c0.getD j 0) → dstI (l.getD i 0) b (c.getD i 0) t ≤ (f : Int) → Chain (nbL l) (numI l c) ((mvK l i (l.getD i 0) b t K f c cl).map (·.1)) y ∧ ((mvK l i (l.getD i 0) b t K f c cl).length : Int) = dstI (l.getD i 0) b (c.getD i 0) t + n
  | 0, c, cl, hc, ho, hf => by
    replace hf : dstI (l.getD i 0) b (c.getD i 0) t ≤ 0 := hf
    obtain ⟨g0, g1⟩ := hc.2 i hi
    have hd := dst_in (b := b) g0 g1 t0 t1
    have : c.getD i 0 = t := by
      by_cases h : c.getD i 0 = t
      · exact h
      · have := hd.2.2 h; omega
    rw [mvK]
    obtain ⟨h1, h2⟩ := hK c hc this ho
    exact ⟨h1, by rw [h2]; have := hd.1; omega⟩
  | f + 1, c, cl, hc, ho, hf => by
    obtain ⟨g0, g1⟩ := hc.2 i hi
    rw [mvK]
    by_cases h : c.getD i 0 = t
    · rw [if_neg (by simpa using h)]
      obtain ⟨h1, h2⟩ := hK c hc h ho
      refine ⟨h1, ?_⟩
      rw [h2, h]
      unfold dstI
      rcases hbb with rfl | rfl
      · simp
      · simp
    · rw [if_pos h]
      have hs := dst_step hbb g0 g1 t0 t1 h
      obtain ⟨n0, n1⟩ := nx_in hbb g0 g1
      have hc2 := hc.set hi n0 n1
      have hil : i < c.length := by rw [hc.1]; exact hi
      obtain ⟨h1, h2⟩ := mv_chain (e := e) hb hi hbb t0 t1 K n c0 hK f _ (clI (l.getD i 0) (c.getD i 0 + b) cl) hc2 (fun j hj => by rw [getD_set_other _ _ _ _ _ (fun q => hj q.symm)]; exact ho j hj) (by rw [getD_set_same _ _ _ _ hil, hs]; omega)
      rw [getD_set_same _ _ _ _ hil, hs] at h2
      refine ⟨⟨?_, h1⟩, by rw [List.length_cons]; omega⟩
      exact (mem_nbL hc).2 ⟨i, b, hi, hbb, by rw [nx_emod (by have := hb i hi; omega)]⟩
theorem list_eq {c e : List Int} (h : c.length = e.length) (hj : ∀ j, j < c.length → c.getD j 0 = e.getD j 0) : c = e := by
  refine List.ext_getElem h fun j h1 h2 => ?_
  have := hj j h1
  simpa [List.getD, h1, h2] using this
theorem dim_chain {l e : List Int} (hb : ∀ i, i < l.length → 2 ≤ l.getD i 0 ∧ l.getD i 0 ≤ 16) (he : InT l e) : ∀ (r : Nat), r ≤ l.length → ∀ c, InT l c → (∀ j, j < l.length - r → c.getD j 0 = e.getD j 0) →
    Chain (nbL l) (numI l c) ((dimK l e r c).map (·.1)) (numI l e) ∧ ((dimK l e r c).length : Int) = sumR l c e l.length - sumR l c e (l.length - r)
  | 0, _, c, hc, hj => by
    rw [dimK]
    refine ⟨?_, by simp⟩
    show numI l c = numI l e
    rw [list_eq (hc.1.trans he.1.symm) (fun j hj2 => hj j (by rw [hc.1] at hj2; omega))]
  | r + 1, hr, c, hc, hj => by
    obtain ⟨i, hi⟩ : ∃ i, i = l.length - (r + 1) := ⟨_, rfl⟩
    have e1 : l.length - r = i + 1 := by omega
    rw [dimK, ← hi]
    rw [← hi] at hj
    have hil : i < l.length := by omega
    obtain ⟨g0, g1⟩ := hc.2 i hil
    obtain ⟨t0, t1⟩ := he.2 i hil
    have hd := dst_in (b := byI (l.getD i 0) (c.getD i 0) (e.getD i 0)) g0 g1 t0 t1
    have hb2 := hb i hil
    obtain ⟨h1, h2⟩ := mv_chain (e := e) (y := numI l e) hb hil (by_or (l.getD i 0) (c.getD i 0) (e.getD i 0)) t0 t1 (dimK l e r) (sumR l c e l.length - sumR l c e (i + 1)) c
      (fun c' hc' hq ho => by
        obtain ⟨k1, k2⟩ := dim_chain hb he r (by omega) c' hc' (fun j hj2 => by
          rw [e1] at hj2
          by_cases hji : j = i
          · subst hji; exact hq
          · rw [ho j hji]; exact hj j (by omega))
        refine ⟨k1, ?_⟩
        rw [k2, e1]
        exact sumR_tail (fun j hj2 => ho j (by omega)) l.length (by omega)) (l.getD i 0).toNat c 0 hc (fun _ _ => rfl) (by omega)
    refine ⟨h1, ?_⟩
    rw [h2, rg_dst g0 g1 t0 t1, sumR]
    omega
/-- in a torus the route is a path, as long as the distance, which is the sum of the lesser ways around -/
theorem torus_route {l : List Int} (hb : ∀ i, i < l.length → 2 ≤ l.getD i 0 ∧ l.getD i 0 ≤ 16) {x y : Int} (hx : 0 ≤ x) (hx2 : x < prodI l) (hy : 0 ≤ y) (hy2 : y < prodI l) :
    Chain (nbL l) x ((torusL l x y).map (·.1)) y ∧ ((torusL l x y).length : Int) = sumR l (coordsL l x) (coordsL l y) l.length ∧ DistAt (nbL l) y x ((torusL l x y).length : Int) := by
  obtain ⟨d, hd, rfl⟩ := num_of hb hx hx2
  obtain ⟨e, he, rfl⟩ := num_of hb hy hy2
  unfold torusL
  rw [coords_num hd, coords_num he]
  obtain ⟨h1, h2⟩ := dim_chain hb he l.length (Nat.le_refl _) d hd (fun j hj => by omega)
  rw [Nat.sub_self] at h2
  have h2' : ((dimK l e l.length d).length : Int) = sumR l d e l.length := by rw [h2]; simp [sumR]
  refine ⟨h1, h2', .inr ⟨_, rfl, ?_, ?_⟩⟩
  · have := Chain.back (P := fun a => ∃ c, InT l c ∧ numI l c = a) (fun a ⟨c, hc, hca⟩ z hz => by
      subst hca
      refine ⟨?_, torus_sym hb hc z hz⟩
      obtain ⟨i, s, hi, hs, rfl⟩ := (mem_nbL hc).1 hz
      obtain ⟨e1, e2⟩ := emod_in (a := c.getD i 0 + s) (hb i hi).1
      exact ⟨_, hc.set hi e1 e2, rfl⟩) _ _ ⟨d, hd, rfl⟩ h1
    rwa [List.length_map] at this
  · have hlow : ∀ a j, Walk (nbL l) (numI l e) a j → ∃ c, InT l c ∧ numI l c = a ∧ sumR l c e l.length ≤ (j : Int) := by
      intro a j hw
      induction hw with
      | here =>
        refine ⟨e, he, rfl, ?_⟩
        have : ∀ k, k ≤ l.length → sumR l e e k = 0 := by
          intro k
          induction k with
          | zero => intro _; rfl
          | succ k ih => intro hk; rw [sumR, ih (by omega), rg_same _ _ (by have := hb k (by omega); omega)]; rfl
        rw [this _ (Nat.le_refl _)]; simp
      | step _ hz ih =>
        obtain ⟨c, hc, rfl, hle⟩ := ih
        obtain ⟨i, s, hi, hs, rfl⟩ := (mem_nbL hc).1 hz
        obtain ⟨e1, e2⟩ := emod_in (a := c.getD i 0 + s) (hb i hi).1
        refine ⟨_, hc.set hi e1 e2, rfl, ?_⟩
        have hst := rg_step (hc.2 i hi).1 (hc.2 i hi).2 (he.2 i hi).1 (he.2 i hi).2 hs
        rw [sumR_set (by rw [hc.1]; exact hi), if_pos hi]
        omega
    intro j hj
    obtain ⟨c, hc, hce, hle⟩ := hlow _ j hj
    have : c = d := by rw [← coords_num hc, hce, coords_num hd]
    subst this
    omega
end Go.Proofs.YtbhkenphcahifaaGreat

namespace Go.Proofs.YtbhkenphcahifaaGreat
open Go.RowKit Go.Shelf
set_option maxRecDepth 100000
set_option maxHeartbeats 4000000

/-- a switch of a dragonfly by its group and place -/
def InDr (a g x gr pl : Int) : Prop := x = gr * a + pl ∧ 0 ≤ gr ∧ gr < g ∧ 0 ≤ pl ∧ pl < a
theorem InDr.parts {a g x gr pl : Int} (h : InDr a g x gr pl) : x / a = gr ∧ x % a = pl := by
  obtain ⟨rfl, h1, h2, h3, h4⟩ := h
  refine ⟨?_, ?_⟩
  · rw [Int.add_comm, Int.add_mul_ediv_right _ _ (by omega), Int.ediv_eq_zero_of_lt h3 h4, Int.zero_add]
  · rw [Int.add_comm, Int.add_mul_emod_self_right, Int.emod_eq_of_lt h3 h4]
theorem InDr.of {a g x : Int} (ha : 1 ≤ a) (h0 : 0 ≤ x) (h1 : x < a * g) : InDr a g x (x / a) (x % a) :=
  ⟨by rw [Int.mul_comm]; exact (Int.mul_ediv_add_emod x a).symm, Int.ediv_nonneg h0 (by omega), Int.ediv_lt_of_lt_mul (by omega) (by rw [Int.mul_comm]; exact h1), Int.emod_nonneg _ (by omega), Int.emod_lt_of_pos _ (by omega)⟩
theorem InDr.rng {a g x gr pl : Int} (h : InDr a g x gr pl) : 0 ≤ x ∧ x < a * g := by
  obtain ⟨rfl, h1, h2, h3, h4⟩ := h
  have e1 : (gr + 1) * a ≤ g * a := Int.mul_le_mul_of_nonneg_right (by omega) (by omega)
  rw [Int.add_mul, Int.one_mul, Int.mul_comm g a] at e1
  have e2 := Int.mul_nonneg h1 (show 0 ≤ a by omega)
  omega
theorem sort_mem_iff {l : List Int} {y : Int} : y ∈ sortL l ↔ y ∈ l := by unfold sortL; exact (List.mergeSort_perm _ _).mem_iff
theorem mem_dgA {a gr pl z : Int} : ∀ m, z ∈ dgA a gr pl m ↔ ∃ i : Nat, i < m ∧ (i : Int) ≠ pl ∧ z = gr * a + i
  | 0 => by simp [dgA]
  | m + 1 => by
    rw [dgA, List.mem_append, mem_dgA m]
    constructor
    · rintro (⟨i, h1, h2⟩ | h)
      · exact ⟨i, by omega, h2⟩
      · split at h
        · rename_i hne; exact ⟨m, by omega, hne, by simpa using h⟩
        · simp at h
    · rintro ⟨i, h1, h2, rfl⟩
      by_cases hi : i = m
      · subst hi; rw [if_pos h2]; exact .inr (by simp)
      · exact .inl ⟨i, by omega, h2, rfl⟩
theorem mem_nbD {a h : Nat} {x gr pl z : Int} (hx : InDr a ((a : Int) * h + 1) x gr pl) : z ∈ nbD a h x ↔ (∃ i : Int, 0 ≤ i ∧ i < a ∧ i ≠ pl ∧ z = gr * a + i) ∨ ∃ p : Int, 0 ≤ p ∧ p < h ∧ z = (gr + (pl * h + p) + 1) % ((a : Int) * h + 1) * a + ((a : Int) * h + 1 - 2 - (pl * h + p)) / h := by
  unfold nbD
  rw [hx.parts.1, hx.parts.2, sort_mem_iff, List.mem_append, mem_dgA]
  refine or_congr ⟨fun ⟨i, h1, h2, h3⟩ => ⟨i, by omega, by omega, h2, h3⟩, fun ⟨i, h1, h2, h3, h4⟩ => ⟨i.toNat, by omega, by omega, by rw [h4]; congr 1; omega⟩⟩ ?_
  unfold dgB
  rw [List.mem_map]
  constructor
  · rintro ⟨p, hp, rfl⟩
    have := List.mem_range.1 hp
    exact ⟨p, by omega, by omega, rfl⟩
  · rintro ⟨p, h1, h2, rfl⟩
    obtain ⟨n, rfl⟩ := Int.eq_ofNat_of_zero_le h1
    exact ⟨n, List.mem_range.2 (by omega), rfl⟩
/-- the port of a group behind which another group is -/
theorem port_far {g gr P : Int} (h0 : 0 ≤ gr) (h1 : gr < g) (p0 : 0 ≤ P) (p1 : P ≤ g - 2) : 0 ≤ (gr + P + 1) % g ∧ (gr + P + 1) % g < g ∧ (gr + P + 1) % g ≠ gr ∧ ((gr + P + 1) % g + (g - 2 - P) + 1) % g = gr ∧ (gr - (gr + P + 1) % g - 1) % g = g - 2 - P := by
  have e : (gr + P + 1) % g = if gr + P + 1 < g then gr + P + 1 else gr + P + 1 - g := by
    split
    · exact Int.emod_eq_of_lt (by omega) (by omega)
    · rw [← Int.sub_emod_right]; exact Int.emod_eq_of_lt (by omega) (by omega)
  rw [e]
  refine ⟨by split <;> omega, by split <;> omega, by split <;> omega, ?_, ?_⟩
  · split
    · rw [show gr + P + 1 + (g - 2 - P) + 1 = gr + g by omega, Int.add_emod_right, Int.emod_eq_of_lt h0 h1]
    · rw [show gr + P + 1 - g + (g - 2 - P) + 1 = gr by omega, Int.emod_eq_of_lt h0 h1]
  · split
    · rw [← Int.add_emod_right, Int.emod_eq_of_lt (by omega) (by omega)]; omega
    · rw [Int.emod_eq_of_lt (by omega) (by omega)]; omega
theorem port_in {a h pl p : Int} (hh : 1 ≤ h) (l0 : 0 ≤ pl) (l1 : pl < a) (p0 : 0 ≤ p) (p1 : p < h) : 0 ≤ pl * h + p ∧ pl * h + p ≤ a * h + 1 - 2 ∧ (pl * h + p) / h = pl ∧ (pl * h + p) % h = p := by
  have e1 : (pl + 1) * h ≤ a * h := Int.mul_le_mul_of_nonneg_right (by omega) (by omega)
  rw [Int.add_mul, Int.one_mul] at e1
  have e2 := Int.mul_nonneg l0 (show 0 ≤ h by omega)
  refine ⟨by omega, by omega, ?_, ?_⟩
  · rw [Int.add_comm, Int.add_mul_ediv_right _ _ (by omega), Int.ediv_eq_zero_of_lt p0 p1, Int.zero_add]
  · rw [Int.add_comm, Int.add_mul_emod_self_right, Int.emod_eq_of_lt p0 p1]
theorem place_in {a h P : Int} (hh : 1 ≤ h) (p0 : 0 ≤ P) (p1 : P ≤ a * h + 1 - 2) : 0 ≤ P / h ∧ P / h < a ∧ 0 ≤ P % h ∧ P % h < h ∧ P / h * h + P % h = P :=
  ⟨Int.ediv_nonneg p0 (by omega), Int.ediv_lt_of_lt_mul (by omega) (by omega), Int.emod_nonneg _ (by omega), Int.emod_lt_of_pos _ (by omega), by rw [Int.mul_comm]; exact Int.mul_ediv_add_emod P h⟩
/-- links of a dragonfly lead back -/
theorem drag_sym {a h : Nat} (ha : 1 ≤ a) (hh : 1 ≤ h) {x gr pl : Int} (hx : InDr a ((a : Int) * h + 1) x gr pl) : ∀ z ∈ nbD a h x, x ∈ nbD a h z ∧ ∃ gr' pl', InDr a ((a : Int) * h + 1) z gr' pl' := by
  intro z hz
  obtain ⟨g0, g1, l0, l1⟩ := hx.2
  rcases (mem_nbD hx).1 hz with ⟨i, i0, i1, i2, rfl⟩ | ⟨p, p0, p1, rfl⟩
  · have hz2 : InDr a ((a : Int) * h + 1) (gr * a + i) gr i := ⟨rfl, g0, g1, i0, i1⟩
    exact ⟨(mem_nbD hz2).2 (.inl ⟨pl, l0, l1, fun e => i2 e.symm, hx.1⟩), _, _, hz2⟩
  · obtain ⟨q0, q1, q2, q3⟩ := port_in (a := a) (show 1 ≤ (h : Int) by omega) l0 l1 p0 p1
    generalize hP : pl * (h : Int) + p = P at *
    obtain ⟨f0, f1, _, f2, _⟩ := port_far g0 g1 q0 q1
    obtain ⟨r0, r1, r2, r3, r4⟩ := place_in (a := a) (h := h) (P := (a : Int) * h + 1 - 2 - P) (by omega) (by omega) (by omega)
    have hz2 : InDr a ((a : Int) * h + 1) ((gr + P + 1) % ((a : Int) * h + 1) * a + ((a : Int) * h + 1 - 2 - P) / h) ((gr + P + 1) % ((a : Int) * h + 1)) (((a : Int) * h + 1 - 2 - P) / h) := ⟨rfl, f0, f1, r0, r1⟩
    refine ⟨(mem_nbD hz2).2 (.inr ⟨((a : Int) * h + 1 - 2 - P) % h, r2, r3, ?_⟩), _, _, hz2⟩
    rw [r4, f2, show (a : Int) * h + 1 - 2 - ((a : Int) * h + 1 - 2 - P) = P by omega, q2]
    exact hx.1
/-- in a dragonfly the route is a path of at most three steps, and at most one longer than the distance -/
theorem drag_route {a h : Nat} (ha : 1 ≤ a) (hh : 1 ≤ h) {x y : Int} (hx0 : 0 ≤ x) (hx1 : x < (a : Int) * ((a : Int) * h + 1)) (hy0 : 0 ≤ y) (hy1 : y < (a : Int) * ((a : Int) * h + 1)) :
    Chain (nbD a h) x ((dragL a h x y).map (·.1)) y ∧ (dragL a h x y).length ≤ 3 ∧ ∀ k, Walk (nbD a h) y x k → (dragL a h x y).length ≤ k + 1 := by
  have hx := InDr.of (a := a) (g := (a : Int) * h + 1) (by omega) hx0 hx1
  have hy := InDr.of (a := a) (g := (a : Int) * h + 1) (by omega) hy0 hy1
  have hnear : ∀ u v gr, (∃ pu, InDr a ((a : Int) * h + 1) u gr pu) → (∃ pv, InDr a ((a : Int) * h + 1) v gr pv) → u ≠ v → v ∈ nbD a h u := fun u v gr ⟨pu, hu⟩ ⟨pv, hv⟩ hne => by
    refine (mem_nbD hu).2 (.inl ⟨pv, hv.2.2.2.1, hv.2.2.2.2, ?_, hv.1⟩)
    rintro rfl
    exact hne (hu.1.trans hv.1.symm)
  generalize hgx : x / (a : Int) = gx at *
  generalize hgy : y / (a : Int) = gy at *
  generalize hpx : x % (a : Int) = px at *
  generalize hpy : y % (a : Int) = py at *
  by_cases hg : gx = gy
  · have e : dragL a h x y = if x ≠ y then [(y, 0)] else [] := by
      unfold dragL
      rw [hgx, hgy, if_neg (by simpa using hg)]
    rw [e]
    by_cases hxy : x = y
    · rw [if_neg (by simpa using hxy)]
      exact ⟨hxy, by simp, fun k _ => by simp⟩
    · rw [if_pos hxy]
      refine ⟨⟨hnear x y gx ⟨_, hx⟩ ⟨_, by rw [hg]; exact hy⟩ hxy, rfl⟩, by simp, fun k _ => by simp⟩
  · obtain ⟨po, hpo⟩ : ∃ po, po = (gy - gx - 1) % ((a : Int) * h + 1) := ⟨_, rfl⟩
    obtain ⟨a0, a1, a2, a3⟩ := hx.2
    obtain ⟨b0, b1, b2, b3⟩ := hy.2
    have h5 : po = if gx < gy then gy - gx - 1 else gy - gx - 1 + ((a : Int) * h + 1) := by
      rw [hpo]
      split
      · exact Int.emod_eq_of_lt (by omega) (by omega)
      · rw [← Int.add_emod_right]; exact Int.emod_eq_of_lt (by omega) (by omega)
    have hp0 : 0 ≤ po := by rw [h5]; split <;> omega
    have hp1 : po ≤ (a : Int) * h + 1 - 2 := by rw [h5]; split <;> omega
    have h6 : (gx + po + 1) % ((a : Int) * h + 1) = gy := by
      rw [h5]
      split
      · rw [show gx + (gy - gx - 1) + 1 = gy by omega]; exact Int.emod_eq_of_lt b0 b1
      · rw [show gx + (gy - gx - 1 + ((a : Int) * h + 1)) + 1 = gy + ((a : Int) * h + 1) by omega, Int.add_emod_right]; exact Int.emod_eq_of_lt b0 b1
    have e : dragL a h x y = (if gx * a + po / h ≠ x then [(gx * a + po / h, 0)] else []) ++ (gy * a + ((a : Int) * h + 1 - 2 - po) / h, 0) :: (if gy * a + ((a : Int) * h + 1 - 2 - po) / h ≠ y then [(y, 1)] else []) := by
      unfold dragL
      rw [hgx, hgy, if_pos hg, ← hpo, h6]
    obtain ⟨q0, q1, q2, q3, q4⟩ := place_in (a := a) (h := h) (P := po) (by omega) hp0 hp1
    obtain ⟨r0, r1, r2, r3, r4⟩ := place_in (a := a) (h := h) (P := (a : Int) * h + 1 - 2 - po) (by omega) (by omega) (by omega)
    have hE1 : InDr a ((a : Int) * h + 1) (gx * a + po / h) gx (po / h) := ⟨rfl, a0, a1, q0, q1⟩
    have hE2 : InDr a ((a : Int) * h + 1) (gy * a + ((a : Int) * h + 1 - 2 - po) / h) gy (((a : Int) * h + 1 - 2 - po) / h) := ⟨rfl, b0, b1, r0, r1⟩
    have hlink : gy * a + ((a : Int) * h + 1 - 2 - po) / h ∈ nbD a h (gx * a + po / h) := by
      refine (mem_nbD hE1).2 (.inr ⟨po % h, q2, q3, ?_⟩)
      rw [q4, h6]
    rw [e]
    refine ⟨?_, by split <;> split <;> simp, ?_⟩
    · have hrest : Chain (nbD a h) (gx * a + po / h) ((((gy * a + ((a : Int) * h + 1 - 2 - po) / h, (0 : Int)) :: (if gy * a + ((a : Int) * h + 1 - 2 - po) / h ≠ y then [(y, (1 : Int))] else [])) : List (Int × Int)).map (·.1)) y := by
        refine ⟨hlink, ?_⟩
        by_cases h2 : gy * a + ((a : Int) * h + 1 - 2 - po) / h = y
        · rw [if_neg (by simpa using h2)]; exact h2
        · rw [if_pos h2]; exact ⟨hnear _ _ gy ⟨_, hE2⟩ ⟨_, hy⟩ h2, rfl⟩
      by_cases h1 : gx * a + po / h = x
      · rw [if_neg (by simpa using h1)]
        rw [h1] at hrest
        exact hrest
      · rw [if_pos h1]
        exact ⟨hnear _ _ gx ⟨_, hx⟩ ⟨_, hE1⟩ (fun q => h1 q.symm), hrest⟩
    · intro k hw
      match k, hw with
      | 0, hw =>
        exfalso
        cases hw
        exact hg (hgx.symm.trans hgy)
      | 1, hw =>
        cases hw with
        | step h0 hm =>
          cases h0
          rcases (mem_nbD hy).1 hm with ⟨i, i0, i1, i2, e2⟩ | ⟨p, p0, p1, e2⟩
          · exfalso
            have : InDr a ((a : Int) * h + 1) x gy i := ⟨e2, b0, b1, i0, i1⟩
            exact hg (by rw [← hgx, this.parts.1])
          · obtain ⟨t0, t1, t2, t3⟩ := port_in (a := a) (show 1 ≤ (h : Int) by omega) b2 b3 p0 p1
            generalize hP : py * (h : Int) + p = P at *
            obtain ⟨f0, f1, _, f2, f3⟩ := port_far b0 b1 t0 t1
            obtain ⟨s0, s1, s2, s3, s4⟩ := place_in (a := a) (h := h) (P := (a : Int) * h + 1 - 2 - P) (by omega) (by omega) (by omega)
            have hx2 : InDr a ((a : Int) * h + 1) x ((gy + P + 1) % ((a : Int) * h + 1)) (((a : Int) * h + 1 - 2 - P) / h) := ⟨e2, f0, f1, s0, s1⟩
            have hgx2 : gx = (gy + P + 1) % ((a : Int) * h + 1) := by rw [← hgx, hx2.parts.1]
            have hpo2 : po = (a : Int) * h + 1 - 2 - P := by rw [hpo, hgx2, f3]
            have k1 : gx * a + po / h = x := by rw [hpo2, hgx2]; exact e2.symm
            have k2 : gy * a + ((a : Int) * h + 1 - 2 - po) / h = y := by
              rw [hpo2, show (a : Int) * h + 1 - 2 - ((a : Int) * h + 1 - 2 - P) = P by omega, t2]
              exact hy.1.symm
            rw [if_neg (by simpa using k1), if_neg (by simpa using k2)]
            simp
      | k + 2, _ => split <;> split <;> simp <;> omega
end Go.Proofs.YtbhkenphcahifaaGreat
