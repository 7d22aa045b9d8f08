import Derived.Test.YtbhkenphcahifaaGreatNK
namespace Go.Proofs.YtbhkenphcahifaaGreat
open Go.RowKit Go.Shelf
attribute [local go_sem] Oper.semAt_some
set_option maxRecDepth 100000
set_option maxHeartbeats 4000000


theorem rCheck2_any {w : World} {sa : Option Addr} {l : List Int} (h : Ints w sa l) (sc : Nat) (hosts : Int) :
    Calls Tryz.prog 50 #[.agg #[.int .i64 2, .slice sa l.length sc, .int .i64 hosts]] w fun e w' => e = .returned (.int .i64 (errI 2 l hosts)) ∧ Below w.heap.size w w' := by
  have hlen := h.len
  have HL := Lib.hid h
  have HE0 : Hid (¬ rOk l hosts → errI 2 l hosts = 2) := fun h => by
    unfold errI; rw [if_neg]; rintro (⟨h0, h1⟩ | ⟨h0, h1⟩ | ⟨h0, h1⟩) <;> first | exact h h1 | cases h0
  have HE1 : Hid (rOk l hosts → errI 2 l hosts = 0) := fun h => by unfold errI; rw [if_pos (.inr (.inl ⟨rfl, h⟩))]
  generalize errI 2 l hosts = E at *
  by_cases hl2 : l.length = 2
  case neg =>
    have HV := Lib.hid (HE0.out (by unfold rOk; exact fun h => hl2 h.1))
    generalize l.length = N at *
    have hb1 : ((N : Int) == 2) = false := by rw [beq_eq_false_iff_ne]; omega
    have hb2 : decide ((N : Int) = 2) = false := decide_eq_false (by omega)
    have HB := Lib.hid ((Below.refl w.heap.size w).alloc (Nat.le_refl _) (.cells #[.int .i64 2, .slice sa N sc, .int .i64 hosts] 34))
    have q0 := heap_alloc_new w (.cells #[.int .i64 2, .slice sa N sc, .int .i64 hosts] 34)
    have c0 := cellR 0 q0 rfl
    have c1 := cellR 1 q0 rfl
    have c2 := cellR 2 q0 rfl
    clear h q0 HL HE0 HE1 hl2
    go_enter Tryz.func50, Tryz.ntmps50
    go_wp2_with fail
    generalize w.alloc (.cells #[.int .i64 2, .slice sa N sc, .int .i64 hosts] 34) = X at *
    go_quiet (fail)
    go_wp2_with fail
    go_ret
    exact ⟨by rw [HV.out]; rfl, below_drewN HB.out _⟩
  obtain ⟨a, b, rfl⟩ := two_of hl2
  have HB := Lib.hid ((Below.refl w.heap.size w).alloc (Nat.le_refl _) (.cells #[.int .i64 2, .slice sa 2 sc, .int .i64 hosts] 34))
  obtain ⟨g, o, rfl, hc⟩ := (HL.out.keep HB.out).at_ (by simp)
  have q0 := heap_alloc_new w (.cells #[.int .i64 2, .slice (some ⟨g, o, none⟩) 2 sc, .int .i64 hosts] 34)
  have c0 := cellR 0 q0 rfl
  have c1 := cellR 1 q0 rfl
  have c2 := cellR 2 q0 rfl
  have e0 := hc 0 (by simp)
  have e1 := hc 1 (by simp)
  rw [Nat.add_zero] at e0
  simp only [List.getElem_cons_zero, List.getElem_cons_succ] at e0 e1
  clear hc HL h q0 hl2 hlen
  show Calls Tryz.prog 50 #[.agg #[.int .i64 2, .slice (some ⟨g, o, none⟩) 2 sc, .int .i64 hosts]] w _
  by_cases hW1 : 2 ≤ a ∧ a ≤ 8
  case neg =>
    have HV := Lib.hid (HE0.out (by unfold rOk; exact fun h => hW1 h.2.1))
    have W1 := same_of (fun W => rwithin_any a 2 8 W)
    rw [show decide (2 ≤ a ∧ a ≤ 8) = false from decide_eq_false hW1] at W1
    clear HE0 HE1 hW1
    go_enter Tryz.func50, Tryz.ntmps50
    go_wp2_with fail
    generalize w.alloc (.cells #[.int .i64 2, .slice (some ⟨g, o, none⟩) 2 sc, .int .i64 hosts] 34) = X at *
    go_quiet (first | (go_at_call 94; first | (with_reducible refine Calls.quiet_of_same (W1.out _))))
    go_wp2_with fail
    go_ret
    exact ⟨by rw [HV.out]; rfl, below_drewN HB.out _⟩
  have W1 := same_of (fun W => rwithin_any a 2 8 W)
  rw [show decide (2 ≤ a ∧ a ≤ 8) = true from decide_eq_true hW1] at W1
  by_cases hW2 : 1 ≤ b ∧ b ≤ 4
  case neg =>
    have HV := Lib.hid (HE0.out (by unfold rOk; exact fun h => hW2 h.2.2.1))
    have W2 := same_of (fun W => rwithin_any b 1 4 W)
    rw [show decide (1 ≤ b ∧ b ≤ 4) = false from decide_eq_false hW2] at W2
    clear HE0 HE1 hW1 hW2
    go_enter Tryz.func50, Tryz.ntmps50
    go_wp2_with fail
    generalize w.alloc (.cells #[.int .i64 2, .slice (some ⟨g, o, none⟩) 2 sc, .int .i64 hosts] 34) = X at *
    go_quiet (first | (go_at_call 94; first | (with_reducible refine Calls.quiet_of_same (W1.out _)) | (with_reducible refine Calls.quiet_of_same (W2.out _))))
    go_wp2_with fail
    go_ret
    exact ⟨by rw [HV.out]; rfl, below_drewN HB.out _⟩
  have W2 := same_of (fun W => rwithin_any b 1 4 W)
  rw [show decide (1 ≤ b ∧ b ≤ 4) = true from decide_eq_true hW2] at W2
  obtain ⟨kn, rfl⟩ := Int.eq_ofNat_of_zero_le (show 0 ≤ a by omega)
  obtain ⟨ln, rfl⟩ := Int.eq_ofNat_of_zero_le (show 0 ≤ b by omega)
  have W3 := same_of (fun W => rpower_any kn ln (by omega) (by omega) W)
  have HRK : Hid (rOk [(kn : Int), (ln : Int)] hosts ↔ (kn ^ ln ≤ 256 ∧ hosts = kn)) := by
    show _ ↔ _
    unfold rOk
    simp only [List.length_cons, List.length_nil, List.getD_cons_zero, List.getD_cons_succ, Int.toNat_natCast]
    exact ⟨fun h => ⟨h.2.2.2.1, h.2.2.2.2⟩, fun h => ⟨by trivial, hW1, hW2, h.1, h.2⟩⟩
  obtain ⟨pw, hpw⟩ : ∃ pw, pw = kn ^ ln := ⟨_, rfl⟩
  rw [← hpw] at W3 HRK
  clear hpw hW1 hW2
  by_cases h256 : pw ≤ 256
  case neg =>
    have HV := Lib.hid (HE0.out (fun h => h256 (HRK.out.1 h).1))
    have hb1 : decide ((pw : Int) ≤ 256) = false := decide_eq_false (by omega)
    clear HE0 HE1 HRK h256
    go_enter Tryz.func50, Tryz.ntmps50
    go_wp2_with fail
    generalize w.alloc (.cells #[.int .i64 2, .slice (some ⟨g, o, none⟩) 2 sc, .int .i64 hosts] 34) = X at *
    go_quiet (first | (go_at_call 94; first | (with_reducible refine Calls.quiet_of_same (W1.out _)) | (with_reducible refine Calls.quiet_of_same (W2.out _))) | (go_at_call 63; first | (with_reducible refine Calls.quiet_of_same (W3.out _))))
    go_wp2_with fail
    go_ret
    exact ⟨by rw [HV.out]; rfl, below_drewN HB.out _⟩
  have hb1 : decide ((pw : Int) ≤ 256) = true := decide_eq_true (by omega)
  by_cases hho : hosts = kn
  case neg =>
    have HV := Lib.hid (HE0.out (fun h => hho (HRK.out.1 h).2))
    have hb2 : (hosts == (kn : Int)) = false := by rw [beq_eq_false_iff_ne]; exact hho
    have hb3 : decide (hosts = (kn : Int)) = false := decide_eq_false hho
    clear HE0 HE1 HRK h256 hho
    go_enter Tryz.func50, Tryz.ntmps50
    go_wp2_with fail
    generalize w.alloc (.cells #[.int .i64 2, .slice (some ⟨g, o, none⟩) 2 sc, .int .i64 hosts] 34) = X at *
    go_quiet (first | (go_at_call 94; first | (with_reducible refine Calls.quiet_of_same (W1.out _)) | (with_reducible refine Calls.quiet_of_same (W2.out _))) | (go_at_call 63; first | (with_reducible refine Calls.quiet_of_same (W3.out _))))
    go_wp2_with fail
    go_ret
    exact ⟨by rw [HV.out]; rfl, below_drewN HB.out _⟩
  have HV := Lib.hid (HE1.out (HRK.out.2 ⟨h256, hho⟩))
  clear HE0 HE1 HRK h256
  subst hho
  go_enter Tryz.func50, Tryz.ntmps50
  go_wp2_with fail
  generalize w.alloc (.cells #[.int .i64 2, .slice (some ⟨g, o, none⟩) 2 sc, .int .i64 (kn : Int)] 34) = X at *
  go_quiet (first | (go_at_call 94; first | (with_reducible refine Calls.quiet_of_same (W1.out _)) | (with_reducible refine Calls.quiet_of_same (W2.out _))) | (go_at_call 63; first | (with_reducible refine Calls.quiet_of_same (W3.out _))))
  go_wp2_with fail
  go_ret
  exact ⟨by rw [HV.out]; rfl, below_drewN HB.out _⟩

theorem rCheck3_any {w : World} {sa : Option Addr} {l : List Int} (h : Ints w sa l) (sc : Nat) (hosts : Int) :
    Calls Tryz.prog 50 #[.agg #[.int .i64 3, .slice sa l.length sc, .int .i64 hosts]] w fun e w' => e = .returned (.int .i64 (errI 3 l hosts)) ∧ Below w.heap.size w w' := by
  have hlen := h.len
  have HL := Lib.hid h
  have HE0 : Hid (¬ dOk l hosts → errI 3 l hosts = 2) := fun h => by
    unfold errI; rw [if_neg]; rintro (⟨h0, h1⟩ | ⟨h0, h1⟩ | ⟨h0, h1⟩) <;> first | exact h h1 | cases h0
  have HE1 : Hid (dOk l hosts → errI 3 l hosts = 0) := fun h => by unfold errI; rw [if_pos (.inr (.inr ⟨rfl, h⟩))]
  generalize errI 3 l hosts = E at *
  by_cases hl2 : l.length = 2
  case neg =>
    have HV := Lib.hid (HE0.out (by unfold dOk; exact fun h => hl2 h.1))
    generalize l.length = N at *
    have hb1 : ((N : Int) == 2) = false := by rw [beq_eq_false_iff_ne]; omega
    have hb2 : decide ((N : Int) = 2) = false := decide_eq_false (by omega)
    have HB := Lib.hid ((Below.refl w.heap.size w).alloc (Nat.le_refl _) (.cells #[.int .i64 3, .slice sa N sc, .int .i64 hosts] 34))
    have q0 := heap_alloc_new w (.cells #[.int .i64 3, .slice sa N sc, .int .i64 hosts] 34)
    have c0 := cellR 0 q0 rfl
    have c1 := cellR 1 q0 rfl
    have c2 := cellR 2 q0 rfl
    clear h q0 HL HE0 HE1 hl2
    go_enter Tryz.func50, Tryz.ntmps50
    go_wp2_with fail
    generalize w.alloc (.cells #[.int .i64 3, .slice sa N sc, .int .i64 hosts] 34) = X at *
    go_quiet (fail)
    go_wp2_with fail
    go_ret
    exact ⟨by rw [HV.out]; rfl, below_drewN HB.out _⟩
  obtain ⟨a, b, rfl⟩ := two_of hl2
  have HB := Lib.hid ((Below.refl w.heap.size w).alloc (Nat.le_refl _) (.cells #[.int .i64 3, .slice sa 2 sc, .int .i64 hosts] 34))
  obtain ⟨g, o, rfl, hc⟩ := (HL.out.keep HB.out).at_ (by simp)
  have q0 := heap_alloc_new w (.cells #[.int .i64 3, .slice (some ⟨g, o, none⟩) 2 sc, .int .i64 hosts] 34)
  have c0 := cellR 0 q0 rfl
  have c1 := cellR 1 q0 rfl
  have c2 := cellR 2 q0 rfl
  have e0 := hc 0 (by simp)
  have e1 := hc 1 (by simp)
  rw [Nat.add_zero] at e0
  simp only [List.getElem_cons_zero, List.getElem_cons_succ] at e0 e1
  clear hc HL h q0 hl2 hlen
  show Calls Tryz.prog 50 #[.agg #[.int .i64 3, .slice (some ⟨g, o, none⟩) 2 sc, .int .i64 hosts]] w _
  by_cases hW1 : 1 ≤ a ∧ a ≤ 16
  case neg =>
    have HV := Lib.hid (HE0.out (by unfold dOk; exact fun h => hW1 h.2.2.1))
    have W1 := same_of (fun W => rwithin_any a 1 16 W)
    rw [show decide (1 ≤ a ∧ a ≤ 16) = false from decide_eq_false hW1] at W1
    clear HE0 HE1 hW1
    go_enter Tryz.func50, Tryz.ntmps50
    go_wp2_with fail
    generalize w.alloc (.cells #[.int .i64 3, .slice (some ⟨g, o, none⟩) 2 sc, .int .i64 hosts] 34) = X at *
    go_quiet (first | (go_at_call 94; first | (with_reducible refine Calls.quiet_of_same (W1.out _))))
    go_wp2_with fail
    go_ret
    exact ⟨by rw [HV.out]; rfl, below_drewN HB.out _⟩
  have W1 := same_of (fun W => rwithin_any a 1 16 W)
  rw [show decide (1 ≤ a ∧ a ≤ 16) = true from decide_eq_true hW1] at W1
  by_cases hW2 : 1 ≤ b ∧ b ≤ 4
  case neg =>
    have HV := Lib.hid (HE0.out (by unfold dOk; exact fun h => hW2 h.2.2.2.1))
    have W2 := same_of (fun W => rwithin_any b 1 4 W)
    rw [show decide (1 ≤ b ∧ b ≤ 4) = false from decide_eq_false hW2] at W2
    clear HE0 HE1 hW1 hW2
    go_enter Tryz.func50, Tryz.ntmps50
    go_wp2_with fail
    generalize w.alloc (.cells #[.int .i64 3, .slice (some ⟨g, o, none⟩) 2 sc, .int .i64 hosts] 34) = X at *
    go_quiet (first | (go_at_call 94; first | (with_reducible refine Calls.quiet_of_same (W1.out _)) | (with_reducible refine Calls.quiet_of_same (W2.out _))))
    go_wp2_with fail
    go_ret
    exact ⟨by rw [HV.out]; rfl, below_drewN HB.out _⟩
  have W2 := same_of (fun W => rwithin_any b 1 4 W)
  rw [show decide (1 ≤ b ∧ b ≤ 4) = true from decide_eq_true hW2] at W2
  obtain ⟨b1, b2, b3, b4⟩ := drag_bound hW1.1 hW1.2 hW2.1 hW2.2
  have HDK : Hid (dOk [a, b] hosts ↔ a * (a * b + 1) ≤ 256 ∧ 1 ≤ hosts ∧ hosts ≤ 4) := by
    show _ ↔ _
    unfold dOk
    simp only [List.length_cons, List.length_nil, List.getD_cons_zero, List.getD_cons_succ]
    exact ⟨fun h => ⟨h.2.2.2.2, h.2.1⟩, fun h => ⟨by trivial, h.2, hW1, hW2, h.1⟩⟩
  have w1' : wrap64 (a * b) = a * b := by generalize a * b = z at *; unfold wrap64; omega
  have w2' : wrap64 (a * b + 1) = a * b + 1 := by generalize a * b = z at *; unfold wrap64; omega
  have w3' : wrap64 (a * (a * b + 1)) = a * (a * b + 1) := by generalize a * (a * b + 1) = z at *; unfold wrap64; omega
  clear hW1 hW2
  by_cases h256 : a * (a * b + 1) ≤ 256
  case neg =>
    have HV := Lib.hid (HE0.out (fun h => h256 (HDK.out.1 h).1))
    have hb1 : decide (a * (a * b + 1) ≤ 256) = false := decide_eq_false h256
    clear HE0 HE1 HDK b1 b2 b3 b4
    go_enter Tryz.func50, Tryz.ntmps50
    go_wp2_with fail
    generalize w.alloc (.cells #[.int .i64 3, .slice (some ⟨g, o, none⟩) 2 sc, .int .i64 hosts] 34) = X at *
    go_quiet (first | (go_at_call 94; first | (with_reducible refine Calls.quiet_of_same (W1.out _)) | (with_reducible refine Calls.quiet_of_same (W2.out _))))
    go_wp2_with fail
    go_ret
    exact ⟨by rw [HV.out]; rfl, below_drewN HB.out _⟩
  have hb1 : decide (a * (a * b + 1) ≤ 256) = true := decide_eq_true h256
  by_cases hho : 1 ≤ hosts ∧ hosts ≤ 4
  case neg =>
    have HV := Lib.hid (HE0.out (fun h => hho (HDK.out.1 h).2))
    have W3 := same_of (fun W => rwithin_any hosts 1 4 W)
    rw [show decide (1 ≤ hosts ∧ hosts ≤ 4) = false from decide_eq_false hho] at W3
    clear HE0 HE1 HDK hho b1 b2 b3 b4
    go_enter Tryz.func50, Tryz.ntmps50
    go_wp2_with fail
    generalize w.alloc (.cells #[.int .i64 3, .slice (some ⟨g, o, none⟩) 2 sc, .int .i64 hosts] 34) = X at *
    go_quiet (first | (go_at_call 94; first | (with_reducible refine Calls.quiet_of_same (W1.out _)) | (with_reducible refine Calls.quiet_of_same (W2.out _)) | (with_reducible refine Calls.quiet_of_same (W3.out _))))
    go_wp2_with fail
    go_ret
    exact ⟨by rw [HV.out]; rfl, below_drewN HB.out _⟩
  have HV := Lib.hid (HE1.out (HDK.out.2 ⟨h256, hho⟩))
  have W3 := same_of (fun W => rwithin_any hosts 1 4 W)
  rw [show decide (1 ≤ hosts ∧ hosts ≤ 4) = true from decide_eq_true hho] at W3
  clear HE0 HE1 HDK hho b1 b2 b3 b4
  go_enter Tryz.func50, Tryz.ntmps50
  go_wp2_with fail
  generalize w.alloc (.cells #[.int .i64 3, .slice (some ⟨g, o, none⟩) 2 sc, .int .i64 hosts] 34) = X at *
  go_quiet (first | (go_at_call 94; first | (with_reducible refine Calls.quiet_of_same (W1.out _)) | (with_reducible refine Calls.quiet_of_same (W2.out _)) | (with_reducible refine Calls.quiet_of_same (W3.out _))))
  go_wp2_with fail
  go_ret
  exact ⟨by rw [HV.out]; rfl, below_drewN HB.out _⟩

theorem rCheck_any {w : World} {sa : Option Addr} {l : List Int} (h : Ints w sa l) (sc : Nat) (kind hosts : Int) :
    Calls Tryz.prog 50 #[.agg #[.int .i64 kind, .slice sa l.length sc, .int .i64 hosts]] w fun e w' => e = .returned (.int .i64 (errI kind l hosts)) ∧ Below w.heap.size w w' := by
  by_cases h1 : kind = 1
  · subst h1; exact rCheck1_any h sc hosts
  by_cases h2 : kind = 2
  · subst h2; exact rCheck2_any h sc hosts
  by_cases h3 : kind = 3
  · subst h3; exact rCheck3_any h sc hosts
  have HV : Hid (errI kind l hosts = 2) := by
    show _ = _
    unfold errI; rw [if_neg]; rintro (⟨h0, _⟩ | ⟨h0, _⟩ | ⟨h0, _⟩)
    · exact h1 h0
    · exact h2 h0
    · exact h3 h0
  have hlen := h.len
  generalize errI kind l hosts = E at *
  generalize l.length = N at *
  have HB := Lib.hid ((Below.refl w.heap.size w).alloc (Nat.le_refl _) (.cells #[.int .i64 kind, .slice sa N sc, .int .i64 hosts] 34))
  have q0 := heap_alloc_new w (.cells #[.int .i64 kind, .slice sa N sc, .int .i64 hosts] 34)
  have c0 := cellR 0 q0 rfl
  have b1 : (kind == 1) = false := by rw [beq_eq_false_iff_ne]; exact h1
  have b2 : (kind == 2) = false := by rw [beq_eq_false_iff_ne]; exact h2
  have b3 : (kind == 3) = false := by rw [beq_eq_false_iff_ne]; exact h3
  clear h q0 h1 h2 h3
  go_enter Tryz.func50, Tryz.ntmps50
  go_wp2_with fail
  go_ret
  exact ⟨by rw [HV.out]; rfl, HB.out⟩
end Go.Proofs.YtbhkenphcahifaaGreat
