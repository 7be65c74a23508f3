/-
  What an entry allows, of the reference.
-/
import Derived.Test.YtbeenmglgdhbjaaS12WalkC
namespace Go.Proofs.Ytbeenmglgdhbjaa.S12
open Go.RowKit S01 S10 S11
/-- May the access be, by the bits of its own? -/
def own (b a : Int) : Bool := if a = 1 then PT.bt b 3 else if a = 2 then PT.bt b 1 else if a = 3 then PT.bt b 2 && PT.bt b 6 else false
theorem al_own (b a : Int) (k : Bool) : PT.al b a k = ((PT.bt b 0 && (PT.bt b 5 && (k || PT.bt b 4))) && own b a) := rfl
set_option maxHeartbeats 1600000 in
theorem rallows_any (b g a : Int) (k : Bool) (w : World) (h0 : 0 ≤ b) (h1 : b < 4294967296) :
    Calls Try.prog 32 #[PV b g, .int .i64 a, .bool k] w fun e w' => e = .returned (.bool (PT.al b a k)) ∧ Below w.heap.size w w' := by
  have H0 := Lib.hid (fun W => bit_at b 0 0 W rfl h0 h1 (by omega))
  have H1 := Lib.hid (fun W => bit_at b 1 1 W rfl h0 h1 (by omega))
  have H2 := Lib.hid (fun W => bit_at b 2 2 W rfl h0 h1 (by omega))
  have H3 := Lib.hid (fun W => bit_at b 3 3 W rfl h0 h1 (by omega))
  have H4 := Lib.hid (fun W => bit_at b 4 4 W rfl h0 h1 (by omega))
  have H5 := Lib.hid (fun W => bit_at b 5 5 W rfl h0 h1 (by omega))
  have H6 := Lib.hid (fun W => bit_at b 6 6 W rfl h0 h1 (by omega))
  have HA := Lib.hid (al_own b a k)
  have HO := Lib.hid (show own b a = if a = 1 then PT.bt b 3 else if a = 2 then PT.bt b 1 else if a = 3 then PT.bt b 2 && PT.bt b 6 else false from rfl)
  generalize PT.al b a k = r at *
  generalize own b a = o at *
  generalize PT.bt b 0 = x0 at *
  generalize PT.bt b 1 = x1 at *
  generalize PT.bt b 2 = x2 at *
  generalize PT.bt b 3 = x3 at *
  generalize PT.bt b 4 = x4 at *
  generalize PT.bt b 5 = x5 at *
  generalize PT.bt b 6 = x6 at *
  have HB := Lib.hid (below_one w (.cells #[.int .u32 b, .int .i64 g] 26))
  unfold PV
  cases x0
  · go_enter Try.func32, Try.ntmps32
    go_wp2_with (first | (go_at_call 44; (with_reducible refine (H0.out _).mono ?_); rintro e w1 ⟨rfl, rfl⟩))
    go_ret
    exact ⟨ret_bool (by rw [HA.out]; rfl), HB.out⟩
  cases x5
  · go_enter Try.func32, Try.ntmps32
    go_wp2_with (first | (go_at_call 44; first | (with_reducible refine (H0.out _).mono ?_; rintro e w1 ⟨rfl, rfl⟩) | (with_reducible refine (H5.out _).mono ?_; rintro e w1 ⟨rfl, rfl⟩)))
    go_ret
    exact ⟨ret_bool (by rw [HA.out]; rfl), HB.out⟩
  obtain ⟨u, hu⟩ : ∃ u, (k || x4) = u := ⟨_, rfl⟩
  rw [hu] at HA
  cases u
  · obtain ⟨rfl, rfl⟩ : k = false ∧ x4 = false := by revert hu; cases k <;> cases x4 <;> simp
    go_enter Try.func32, Try.ntmps32
    go_wp2_with (first | (go_at_call 44; first | (with_reducible refine (H0.out _).mono ?_; rintro e w1 ⟨rfl, rfl⟩) | (with_reducible refine (H5.out _).mono ?_; rintro e w1 ⟨rfl, rfl⟩) | (with_reducible refine (H4.out _).mono ?_; rintro e w1 ⟨rfl, rfl⟩)))
    go_ret
    exact ⟨ret_bool (by rw [HA.out]; rfl), HB.out⟩
  have HR : r = o := by rw [HA.out]; simp
  subst HR
  clear HA
  have hk : k = true ∨ (k = false ∧ x4 = true) := by revert hu; cases k <;> cases x4 <;> simp
  clear hu
  by_cases a1 : a = 1
  · subst a1
    have HR := Lib.hid (show r = x3 from HO.out)
    clear HO
    rcases hk with rfl | ⟨rfl, rfl⟩
    all_goals (go_enter Try.func32, Try.ntmps32; go_wp2_with (first | (go_at_call 44; first | (with_reducible refine (H0.out _).mono ?_; rintro e w1 ⟨rfl, rfl⟩) | (with_reducible refine (H5.out _).mono ?_; rintro e w1 ⟨rfl, rfl⟩) | (with_reducible refine (H4.out _).mono ?_; rintro e w1 ⟨rfl, rfl⟩) | (with_reducible refine (H1.out _).mono ?_; rintro e w1 ⟨rfl, rfl⟩) | (with_reducible refine (H2.out _).mono ?_; rintro e w1 ⟨rfl, rfl⟩) | (with_reducible refine (H3.out _).mono ?_; rintro e w1 ⟨rfl, rfl⟩) | (with_reducible refine (H6.out _).mono ?_; rintro e w1 ⟨rfl, rfl⟩))); go_ret; exact ⟨ret_bool HR.out.symm, HB.out⟩)
  by_cases a2 : a = 2
  · subst a2
    have HR := Lib.hid (show r = x1 from HO.out)
    clear HO
    rcases hk with rfl | ⟨rfl, rfl⟩
    all_goals (go_enter Try.func32, Try.ntmps32; go_wp2_with (first | (go_at_call 44; first | (with_reducible refine (H0.out _).mono ?_; rintro e w1 ⟨rfl, rfl⟩) | (with_reducible refine (H5.out _).mono ?_; rintro e w1 ⟨rfl, rfl⟩) | (with_reducible refine (H4.out _).mono ?_; rintro e w1 ⟨rfl, rfl⟩) | (with_reducible refine (H1.out _).mono ?_; rintro e w1 ⟨rfl, rfl⟩) | (with_reducible refine (H2.out _).mono ?_; rintro e w1 ⟨rfl, rfl⟩) | (with_reducible refine (H3.out _).mono ?_; rintro e w1 ⟨rfl, rfl⟩) | (with_reducible refine (H6.out _).mono ?_; rintro e w1 ⟨rfl, rfl⟩))); go_ret; exact ⟨ret_bool HR.out.symm, HB.out⟩)
  by_cases a3 : a = 3
  · subst a3
    have HR := Lib.hid (show r = (x2 && x6) from HO.out)
    clear HO
    cases x2
    all_goals rcases hk with rfl | ⟨rfl, rfl⟩
    all_goals (go_enter Try.func32, Try.ntmps32; go_wp2_with (first | (go_at_call 44; first | (with_reducible refine (H0.out _).mono ?_; rintro e w1 ⟨rfl, rfl⟩) | (with_reducible refine (H5.out _).mono ?_; rintro e w1 ⟨rfl, rfl⟩) | (with_reducible refine (H4.out _).mono ?_; rintro e w1 ⟨rfl, rfl⟩) | (with_reducible refine (H1.out _).mono ?_; rintro e w1 ⟨rfl, rfl⟩) | (with_reducible refine (H2.out _).mono ?_; rintro e w1 ⟨rfl, rfl⟩) | (with_reducible refine (H3.out _).mono ?_; rintro e w1 ⟨rfl, rfl⟩) | (with_reducible refine (H6.out _).mono ?_; rintro e w1 ⟨rfl, rfl⟩))); go_ret; exact ⟨ret_bool (by rw [HR.out]; rfl), HB.out⟩)
  · have HR := Lib.hid (show r = false by rw [HO.out, if_neg a1, if_neg a2, if_neg a3])
    clear HO
    rcases hk with rfl | ⟨rfl, rfl⟩
    all_goals (go_enter Try.func32, Try.ntmps32; go_wp2_with (first | (go_at_call 44; first | (with_reducible refine (H0.out _).mono ?_; rintro e w1 ⟨rfl, rfl⟩) | (with_reducible refine (H5.out _).mono ?_; rintro e w1 ⟨rfl, rfl⟩) | (with_reducible refine (H4.out _).mono ?_; rintro e w1 ⟨rfl, rfl⟩) | (with_reducible refine (H1.out _).mono ?_; rintro e w1 ⟨rfl, rfl⟩) | (with_reducible refine (H2.out _).mono ?_; rintro e w1 ⟨rfl, rfl⟩) | (with_reducible refine (H3.out _).mono ?_; rintro e w1 ⟨rfl, rfl⟩) | (with_reducible refine (H6.out _).mono ?_; rintro e w1 ⟨rfl, rfl⟩))); go_ret; exact ⟨ret_bool HR.out.symm, HB.out⟩)
end Go.Proofs.Ytbeenmglgdhbjaa.S12
