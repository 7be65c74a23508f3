/-
  What Right answers, of package inst and of the reference, for every instruction; neither changes memory that was there.
-/
import Derived.Test.YtfgkcjalfhbjjaaDoorS06WalkA
import Derived.Test.YtfgkcjalfhbjjaaDoorS06WalkB
import Derived.Test.YtfgkcjalfhbjjaaDoorS06WalkC
namespace Go.Proofs.YtfgkcjalfhbjjaaDoor.S06
open Go.RowKit S01
/-- The error by the parts that decide it. -/
def cod (f : Int) (g1 g2 g3 h4 : Bool) (m L H : Int) : Int :=
  if f = 0 then 9 else if g1 = false ∨ g2 = false ∨ g3 = false then 1 else if h4 = false then (if m = 0 then 0 else 1) else if m < L ∨ H < m then 3 else 0
theorem rc_cod (op d a b m : Int) : IM.rc op d a b m = cod (IM.fm op) (IM.rg (IM.hs (IM.fm op) 1) d) (IM.rg (IM.hs (IM.fm op) 2) a) (IM.rg (IM.hs (IM.fm op) 3) b) (IM.hs (IM.fm op) 4) m (IM.lo op) (IM.hi op) := rfl
set_option maxHeartbeats 400000 in
theorem right_none (op d a b m : Int) (w : World) (h : IM.fm op = 0) :
    Calls Tryd.prog 21 #[.agg #[.int .i64 op, .int .i64 d, .int .i64 a, .int .i64 b, .int .i64 m]] w fun e w' => e = .returned (.int .i64 9) ∧ Below w.heap.size w w' := by
  have HF := Lib.hid (fun W => form_any op W)
  rw [h] at HF
  clear h
  go_enter Tryd.func21, Tryd.ntmps21
  go_wp2_with (first | (go_at_call 23; (with_reducible refine (HF.out _).mono ?_); rintro e w1 ⟨rfl, rfl⟩))
  go_ret
  exact ⟨rfl, (Below.refl _ _).alloc (Nat.le_refl _) _⟩
set_option maxHeartbeats 1600000 in
theorem right_at (op d a b m f L H : Int) (h1 h2 h3 h4 g1 g2 g3 : Bool) (w : World) (hf : ¬ f = 0)
    (HF : Hid (∀ W, Calls Tryd.prog 23 #[.int .i64 op] W fun e w' => e = .returned (.int .i64 f) ∧ W = w'))
    (HA : Hid (∀ W, Calls Tryd.prog 37 #[.int .i64 f] W fun e w' => e = .returned (.agg #[.bool h1, .bool h2, .bool h3, .bool h4]) ∧ w' = W.alloc (.cells #[.bool h1, .bool h2, .bool h3, .bool h4] 58)))
    (H1 : Hid (∀ W, Calls Tryd.prog 38 #[.int .i64 d, .bool h1] W fun e w' => e = .returned (.bool g1) ∧ W = w'))
    (H2 : Hid (∀ W, Calls Tryd.prog 38 #[.int .i64 a, .bool h2] W fun e w' => e = .returned (.bool g2) ∧ W = w'))
    (H3 : Hid (∀ W, Calls Tryd.prog 38 #[.int .i64 b, .bool h3] W fun e w' => e = .returned (.bool g3) ∧ W = w'))
    (HI : Hid (∀ W, Calls Tryd.prog 39 #[.int .i64 op] W fun e w' => e = .returned (.tuple #[.int .i64 L, .int .i64 H]) ∧ W = w')) :
    Calls Tryd.prog 21 #[.agg #[.int .i64 op, .int .i64 d, .int .i64 a, .int .i64 b, .int .i64 m]] w fun e w' => e = .returned (.int .i64 (cod f g1 g2 g3 h4 m L H)) ∧ Below w.heap.size w w' := by
  have z : (f == 0) = false := by simpa using hf
  cases g1
  · have e : cod f false g2 g3 h4 m L H = 1 := by simp [cod, hf]
    rw [e]; clear e hf
    go_enter Tryd.func21, Tryd.ntmps21
    go_wp2_with (first | (go_at_call 23; (with_reducible refine (HF.out _).mono ?_); rintro e w1 ⟨rfl, rfl⟩) | (go_at_call 37; (with_reducible refine (HA.out _).mono ?_); rintro e w1 ⟨rfl, rfl⟩) | (go_at_call 38; (with_reducible refine (H1.out _).mono ?_); rintro e w1 ⟨rfl, rfl⟩))
    go_ret
    exact ⟨rfl, (((Below.refl _ _).alloc (Nat.le_refl _) _).alloc (by simp) _).alloc (by simp; omega) _⟩
  cases g2
  · have e : cod f true false g3 h4 m L H = 1 := by simp [cod, hf]
    rw [e]; clear e hf
    go_enter Tryd.func21, Tryd.ntmps21
    go_wp2_with (first | (go_at_call 23; (with_reducible refine (HF.out _).mono ?_); rintro e w1 ⟨rfl, rfl⟩) | (go_at_call 37; (with_reducible refine (HA.out _).mono ?_); rintro e w1 ⟨rfl, rfl⟩) | (go_at_call 38; (with_reducible refine (H1.out _).mono ?_); rintro e w1 ⟨rfl, rfl⟩) | (go_at_call 38; (with_reducible refine (H2.out _).mono ?_); rintro e w1 ⟨rfl, rfl⟩))
    go_ret
    exact ⟨rfl, (((Below.refl _ _).alloc (Nat.le_refl _) _).alloc (by simp) _).alloc (by simp; omega) _⟩
  cases g3
  · have e : cod f true true false h4 m L H = 1 := by simp [cod, hf]
    rw [e]; clear e hf
    go_enter Tryd.func21, Tryd.ntmps21
    go_wp2_with (first | (go_at_call 23; (with_reducible refine (HF.out _).mono ?_); rintro e w1 ⟨rfl, rfl⟩) | (go_at_call 37; (with_reducible refine (HA.out _).mono ?_); rintro e w1 ⟨rfl, rfl⟩) | (go_at_call 38; (with_reducible refine (H1.out _).mono ?_); rintro e w1 ⟨rfl, rfl⟩) | (go_at_call 38; (with_reducible refine (H2.out _).mono ?_); rintro e w1 ⟨rfl, rfl⟩) | (go_at_call 38; (with_reducible refine (H3.out _).mono ?_); rintro e w1 ⟨rfl, rfl⟩))
    go_ret
    exact ⟨rfl, (((Below.refl _ _).alloc (Nat.le_refl _) _).alloc (by simp) _).alloc (by simp; omega) _⟩
  cases h4
  · have e : cod f true true true false m L H = if m = 0 then 0 else 1 := by simp [cod, hf]
    rw [e]; clear e hf
    go_enter Tryd.func21, Tryd.ntmps21
    go_wp2_with (first | (go_at_call 23; (with_reducible refine (HF.out _).mono ?_); rintro e w1 ⟨rfl, rfl⟩) | (go_at_call 37; (with_reducible refine (HA.out _).mono ?_); rintro e w1 ⟨rfl, rfl⟩) | (go_at_call 38; (with_reducible refine (H1.out _).mono ?_); rintro e w1 ⟨rfl, rfl⟩) | (go_at_call 38; (with_reducible refine (H2.out _).mono ?_); rintro e w1 ⟨rfl, rfl⟩) | (go_at_call 38; (with_reducible refine (H3.out _).mono ?_); rintro e w1 ⟨rfl, rfl⟩))
    all_goals go_ret
    all_goals exact ⟨ret_int (by first | rfl | (exfalso; simp_all; done)), (((Below.refl _ _).alloc (Nat.le_refl _) _).alloc (by simp) _).alloc (by simp; omega) _⟩
  · have e : cod f true true true true m L H = if m < L ∨ H < m then 3 else 0 := by simp [cod, hf]
    rw [e]; clear e hf
    go_enter Tryd.func21, Tryd.ntmps21
    go_wp2_with (first | (go_at_call 23; (with_reducible refine (HF.out _).mono ?_); rintro e w1 ⟨rfl, rfl⟩) | (go_at_call 37; (with_reducible refine (HA.out _).mono ?_); rintro e w1 ⟨rfl, rfl⟩) | (go_at_call 38; (with_reducible refine (H1.out _).mono ?_); rintro e w1 ⟨rfl, rfl⟩) | (go_at_call 38; (with_reducible refine (H2.out _).mono ?_); rintro e w1 ⟨rfl, rfl⟩) | (go_at_call 38; (with_reducible refine (H3.out _).mono ?_); rintro e w1 ⟨rfl, rfl⟩) | (go_at_call 39; (with_reducible refine (HI.out _).mono ?_); rintro e w1 ⟨rfl, rfl⟩))
    all_goals go_ret
    all_goals exact ⟨ret_int (by first | rfl | omega | (split <;> omega)), (((Below.refl _ _).alloc (Nat.le_refl _) _).alloc (by simp) _).alloc (by simp; omega) _⟩
theorem right_any (op d a b m : Int) (w : World) :
    Calls Tryd.prog 21 #[.agg #[.int .i64 op, .int .i64 d, .int .i64 a, .int .i64 b, .int .i64 m]] w fun e w' => e = .returned (.int .i64 (IM.rc op d a b m)) ∧ Below w.heap.size w w' := by
  by_cases h : IM.fm op = 0
  · rw [(IM.rc_nine op d a b m).2 h]; exact right_none op d a b m w h
  · obtain ⟨f0, f1⟩ := IM.fm_bd op
    rw [rc_cod]
    exact right_at op d a b m (IM.fm op) (IM.lo op) (IM.hi op) _ _ _ _ _ _ _ w h (Lib.hid (fun W => form_any op W)) (Lib.hid (fun W => fields_any (IM.fm op) W (by omega)))
      (Lib.hid (fun W => reg_any d _ W)) (Lib.hid (fun W => reg_any a _ W)) (Lib.hid (fun W => reg_any b _ W)) (Lib.hid (fun W => range_any op W))

set_option maxHeartbeats 400000 in
theorem rright_none (op d a b m : Int) (w : World) (h : IM.fm op = 0) :
    Calls Tryd.prog 15 #[.agg #[.int .i64 op, .int .i64 d, .int .i64 a, .int .i64 b, .int .i64 m]] w fun e w' => e = .returned (.int .i64 9) ∧ Below w.heap.size w w' := by
  have HF := Lib.hid (fun W => rform_any op W)
  rw [h] at HF
  clear h
  go_enter Tryd.func15, Tryd.ntmps15
  go_wp2_with (first | (go_at_call 26; (with_reducible refine (HF.out _).mono ?_); rintro e w1 ⟨rfl, rfl⟩))
  go_ret
  exact ⟨rfl, (Below.refl _ _).alloc (Nat.le_refl _) _⟩
set_option maxHeartbeats 1600000 in
theorem rright_at (op d a b m f : Int) (h1 h2 h3 h4 g1 g2 g3 gi : Bool) (w : World) (hf : ¬ f = 0) (L H : Int) (hgi : gi = (decide (L ≤ m) && decide (m ≤ H)))
    (HF : Hid (∀ W, Calls Tryd.prog 26 #[.int .i64 op] W fun e w' => e = .returned (.int .i64 f) ∧ W = w'))
    (A1 : Hid (∀ W, Calls Tryd.prog 29 #[.int .i64 f, .int .i64 1] W fun e w' => e = .returned (.bool h1) ∧ W = w'))
    (A2 : Hid (∀ W, Calls Tryd.prog 29 #[.int .i64 f, .int .i64 2] W fun e w' => e = .returned (.bool h2) ∧ W = w'))
    (A3 : Hid (∀ W, Calls Tryd.prog 29 #[.int .i64 f, .int .i64 3] W fun e w' => e = .returned (.bool h3) ∧ W = w'))
    (A4 : Hid (∀ W, Calls Tryd.prog 29 #[.int .i64 f, .int .i64 4] W fun e w' => e = .returned (.bool h4) ∧ W = w'))
    (H1 : Hid (∀ W, Calls Tryd.prog 28 #[.bool h1, .int .i64 d] W fun e w' => e = .returned (.bool g1) ∧ W = w'))
    (H2 : Hid (∀ W, Calls Tryd.prog 28 #[.bool h2, .int .i64 a] W fun e w' => e = .returned (.bool g2) ∧ W = w'))
    (H3 : Hid (∀ W, Calls Tryd.prog 28 #[.bool h3, .int .i64 b] W fun e w' => e = .returned (.bool g3) ∧ W = w'))
    (HI : Hid (∀ W, Calls Tryd.prog 30 #[.int .i64 op, .int .i64 m] W fun e w' => e = .returned (.bool gi) ∧ W = w')) :
    Calls Tryd.prog 15 #[.agg #[.int .i64 op, .int .i64 d, .int .i64 a, .int .i64 b, .int .i64 m]] w fun e w' => e = .returned (.int .i64 (cod f g1 g2 g3 h4 m L H)) ∧ Below w.heap.size w w' := by
  have z : (f == 0) = false := by simpa using hf
  have hx : ¬ (m < L ∨ H < m) ↔ gi = true := by subst hgi; simp
  clear hgi
  cases g1
  · have e : cod f false g2 g3 h4 m L H = 1 := by simp [cod, hf]
    rw [e]; clear e hf
    go_enter Tryd.func15, Tryd.ntmps15
    go_wp2_with (first | (go_at_call 26; (with_reducible refine (HF.out _).mono ?_); rintro e w1 ⟨rfl, rfl⟩))
    go_quiet (first | (go_at_call 29; with_reducible exact q_same A1.out) | (go_at_call 29; with_reducible exact q_same A2.out) | (go_at_call 29; with_reducible exact q_same A3.out) | (go_at_call 29; with_reducible exact q_same A4.out) | (go_at_call 28; with_reducible exact q_same H1.out) | (go_at_call 28; with_reducible exact q_same H2.out) | (go_at_call 28; with_reducible exact q_same H3.out))
    go_wp2
    go_ret
    exact ⟨rfl, below_drewN ((Below.refl _ _).alloc (Nat.le_refl _) _) _⟩
  cases g2
  · have e : cod f true false g3 h4 m L H = 1 := by simp [cod, hf]
    rw [e]; clear e hf
    go_enter Tryd.func15, Tryd.ntmps15
    go_wp2_with (first | (go_at_call 26; (with_reducible refine (HF.out _).mono ?_); rintro e w1 ⟨rfl, rfl⟩))
    go_quiet (first | (go_at_call 29; with_reducible exact q_same A1.out) | (go_at_call 29; with_reducible exact q_same A2.out) | (go_at_call 29; with_reducible exact q_same A3.out) | (go_at_call 29; with_reducible exact q_same A4.out) | (go_at_call 28; with_reducible exact q_same H1.out) | (go_at_call 28; with_reducible exact q_same H2.out) | (go_at_call 28; with_reducible exact q_same H3.out))
    go_wp2
    go_ret
    exact ⟨rfl, below_drewN ((Below.refl _ _).alloc (Nat.le_refl _) _) _⟩
  cases g3
  · have e : cod f true true false h4 m L H = 1 := by simp [cod, hf]
    rw [e]; clear e hf
    go_enter Tryd.func15, Tryd.ntmps15
    go_wp2_with (first | (go_at_call 26; (with_reducible refine (HF.out _).mono ?_); rintro e w1 ⟨rfl, rfl⟩))
    go_quiet (first | (go_at_call 29; with_reducible exact q_same A1.out) | (go_at_call 29; with_reducible exact q_same A2.out) | (go_at_call 29; with_reducible exact q_same A3.out) | (go_at_call 29; with_reducible exact q_same A4.out) | (go_at_call 28; with_reducible exact q_same H1.out) | (go_at_call 28; with_reducible exact q_same H2.out) | (go_at_call 28; with_reducible exact q_same H3.out))
    go_wp2
    go_ret
    exact ⟨rfl, below_drewN ((Below.refl _ _).alloc (Nat.le_refl _) _) _⟩
  cases h4
  · have e : cod f true true true false m L H = if m = 0 then 0 else 1 := by simp [cod, hf]
    rw [e]; clear e hf hx
    by_cases hm : m = 0
    · rw [if_pos hm]
      have hz : (m == 0) = true := by simpa using hm
      go_enter Tryd.func15, Tryd.ntmps15
      go_wp2_with (first | (go_at_call 26; (with_reducible refine (HF.out _).mono ?_); rintro e w1 ⟨rfl, rfl⟩))
      go_quiet (first | (go_at_call 29; with_reducible exact q_same A1.out) | (go_at_call 29; with_reducible exact q_same A2.out) | (go_at_call 29; with_reducible exact q_same A3.out) | (go_at_call 29; with_reducible exact q_same A4.out) | (go_at_call 28; with_reducible exact q_same H1.out) | (go_at_call 28; with_reducible exact q_same H2.out) | (go_at_call 28; with_reducible exact q_same H3.out))
      go_wp2_with (first | (go_at_call 29; (with_reducible refine (A4.out _).mono ?_); rintro e w1 ⟨rfl, rfl⟩))
      go_ret
      exact ⟨rfl, below_drewN ((Below.refl _ _).alloc (Nat.le_refl _) _) _⟩
    · rw [if_neg hm]
      have hz : (m == 0) = false := by simpa using hm
      go_enter Tryd.func15, Tryd.ntmps15
      go_wp2_with (first | (go_at_call 26; (with_reducible refine (HF.out _).mono ?_); rintro e w1 ⟨rfl, rfl⟩))
      go_quiet (first | (go_at_call 29; with_reducible exact q_same A1.out) | (go_at_call 29; with_reducible exact q_same A2.out) | (go_at_call 29; with_reducible exact q_same A3.out) | (go_at_call 29; with_reducible exact q_same A4.out) | (go_at_call 28; with_reducible exact q_same H1.out) | (go_at_call 28; with_reducible exact q_same H2.out) | (go_at_call 28; with_reducible exact q_same H3.out))
      go_wp2
      go_ret
      exact ⟨rfl, below_drewN ((Below.refl _ _).alloc (Nat.le_refl _) _) _⟩
  · have e : cod f true true true true m L H = if gi = true then 0 else 3 := by
      simp only [cod, if_neg hf]
      cases gi
      · have : m < L ∨ H < m := by
          by_cases hh : m < L ∨ H < m
          · exact hh
          · exact absurd (hx.1 hh) (by decide)
        simp [this]
      · have := hx.2 rfl
        simp [this]
    rw [e]; clear e hf hx
    cases gi
    · go_enter Tryd.func15, Tryd.ntmps15
      go_wp2_with (first | (go_at_call 26; (with_reducible refine (HF.out _).mono ?_); rintro e w1 ⟨rfl, rfl⟩))
      go_quiet (first | (go_at_call 29; with_reducible exact q_same A1.out) | (go_at_call 29; with_reducible exact q_same A2.out) | (go_at_call 29; with_reducible exact q_same A3.out) | (go_at_call 29; with_reducible exact q_same A4.out) | (go_at_call 28; with_reducible exact q_same H1.out) | (go_at_call 28; with_reducible exact q_same H2.out) | (go_at_call 28; with_reducible exact q_same H3.out))
      go_wp2_with (first | (go_at_call 29; (with_reducible refine (A4.out _).mono ?_); rintro e w1 ⟨rfl, rfl⟩) | (go_at_call 30; (with_reducible refine (HI.out _).mono ?_); rintro e w1 ⟨rfl, rfl⟩))
      go_ret
      exact ⟨rfl, below_drewN ((Below.refl _ _).alloc (Nat.le_refl _) _) _⟩
    · go_enter Tryd.func15, Tryd.ntmps15
      go_wp2_with (first | (go_at_call 26; (with_reducible refine (HF.out _).mono ?_); rintro e w1 ⟨rfl, rfl⟩))
      go_quiet (first | (go_at_call 29; with_reducible exact q_same A1.out) | (go_at_call 29; with_reducible exact q_same A2.out) | (go_at_call 29; with_reducible exact q_same A3.out) | (go_at_call 29; with_reducible exact q_same A4.out) | (go_at_call 28; with_reducible exact q_same H1.out) | (go_at_call 28; with_reducible exact q_same H2.out) | (go_at_call 28; with_reducible exact q_same H3.out))
      go_wp2_with (first | (go_at_call 29; (with_reducible refine (A4.out _).mono ?_); rintro e w1 ⟨rfl, rfl⟩) | (go_at_call 30; (with_reducible refine (HI.out _).mono ?_); rintro e w1 ⟨rfl, rfl⟩))
      go_ret
      exact ⟨rfl, below_drewN ((Below.refl _ _).alloc (Nat.le_refl _) _) _⟩
theorem rright_any (op d a b m : Int) (w : World) :
    Calls Tryd.prog 15 #[.agg #[.int .i64 op, .int .i64 d, .int .i64 a, .int .i64 b, .int .i64 m]] w fun e w' => e = .returned (.int .i64 (IM.rc op d a b m)) ∧ Below w.heap.size w w' := by
  by_cases h : IM.fm op = 0
  · rw [(IM.rc_nine op d a b m).2 h]; exact rright_none op d a b m w h
  · obtain ⟨f0, f1⟩ := IM.fm_bd op
    rw [rc_cod]
    exact rright_at op d a b m (IM.fm op) _ _ _ _ _ _ _ _ w h (IM.lo op) (IM.hi op) rfl (Lib.hid (fun W => rform_any op W)) (Lib.hid (fun W => has_any (IM.fm op) 1 W (by omega) (by omega))) (Lib.hid (fun W => has_any (IM.fm op) 2 W (by omega) (by omega)))
      (Lib.hid (fun W => has_any (IM.fm op) 3 W (by omega) (by omega))) (Lib.hid (fun W => has_any (IM.fm op) 4 W (by omega) (by omega)))
      (Lib.hid (fun W => rreg_any d _ W)) (Lib.hid (fun W => rreg_any a _ W)) (Lib.hid (fun W => rreg_any b _ W)) (Lib.hid (fun W => rimm_any op m W))
end Go.Proofs.YtfgkcjalfhbjjaaDoor.S06
