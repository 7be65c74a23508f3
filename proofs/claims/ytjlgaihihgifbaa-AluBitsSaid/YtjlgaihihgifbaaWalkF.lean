/-
  The chapter's examples (awake) hold; the two laws that hold the package against the reference return true for every input, and leave all that was in memory as it was.
-/
import Derived.Test.YtjlgaihihgifbaaWalkE
namespace Go.Proofs.Ytjlgaihihgifbaa
open Go.RowKit S01
theorem ex1 : (AM.dv 8 2147483648 33 == 3221225472) = true := by decide +kernel
theorem ex2 : AM.dk 8 = true := by decide +kernel
theorem ex3 : AM.dk 11 = false := by decide +kernel
theorem ex4 : (AM.cz 1 == 31) = true := by decide +kernel
theorem ex5 : (AM.rv 16909060 == 67305985) = true := by decide +kernel
theorem ex6 : AM.tk 44 1 2 = true := by decide +kernel
set_option maxHeartbeats 800000 in
theorem awake_any (w : World) : Calls Try.prog 12 #[] w fun e w' => e = .returned (.bool true) ∧ ∃ n, w' = w.drewN n := by
  have e1 := ex1
  have e2 := ex2
  have e3 := ex3
  have e4 := ex4
  have e5 := ex5
  have e6 := ex6
  go_enter Try.func12, Try.ntmps12
  go_wp2_with (first | (go_at_call 8; refine (do_any _ _ _ _ (by decide) (by decide) (by decide) (by decide)).mono ?_; rintro e w' ⟨rfl, n, rfl⟩) | (go_at_call 13; refine (clz_any _ _ (by decide) (by decide)).mono ?_; rintro e w' ⟨rfl, rfl⟩) | (go_at_call 17; refine (rev_any _ _ (by decide) (by decide)).mono ?_; rintro e w' ⟨rfl, rfl⟩) | (go_at_call 10; refine (taken_any _ _ _ _ (by decide) (by decide) (by decide) (by decide)).mono ?_; rintro e w' ⟨rfl, rfl⟩))
  go_ret
  exact ⟨rfl, _, rfl⟩
theorem below_drew (w : World) (n : Nat) : Below w.heap.size w (w.drewN n) := ⟨rfl, rfl, rfl, Nat.le_refl _, fun _ _ => rfl⟩
set_option maxHeartbeats 800000 in
theorem does_walk (op a b : Int) (w : World) (a0 : 0 ≤ a) (a1 : a < 4294967296) (b0 : 0 ≤ b) (b1 : b < 4294967296) :
    Calls Try.prog 3 #[.int .i64 op, .int .u32 a, .int .u32 b] w fun e w' => e = .returned (.bool true) ∧ Below w.heap.size w w' := by
  go_enter Try.func3, Try.ntmps3
  go_wp2_with (fail)
  refine (do_any _ _ _ _ a0 a1 b0 b1).mono ?_
  rintro e w1 ⟨rfl, n, rfl⟩
  go_wp2_with (fail)
  refine (rdo_any _ _ _ _ a0 a1 b0 b1).mono ?_
  rintro e w1 ⟨rfl, hB⟩
  have HB := Lib.hid hB
  clear hB
  go_wp2_with (first | (go_at_call 10; refine (taken_any _ _ _ _ a0 a1 b0 b1).mono ?_; rintro e w' ⟨rfl, rfl⟩) | (go_at_call 11; refine (rtaken_any _ _ _ _ a0 a1 b0 b1).mono ?_; rintro e w' ⟨rfl, rfl⟩) | (go_at_call 12; refine (awake_any _).mono ?_; rintro e w' ⟨rfl, m, rfl⟩))
  go_ret
  exact ⟨rfl, (below_drew w n).trans (HB.out.trans ((below_drew w1 m).mono HB.out.size))⟩
set_option maxHeartbeats 800000 in
theorem bits_walk (x a b : Int) (w : World) (x0 : 0 ≤ x) (x1 : x < 4294967296) (_a0 : 0 ≤ a) (_a1 : a < 4294967296) (_b0 : 0 ≤ b) (_b1 : b < 4294967296) :
    Calls Try.prog 4 #[.int .u32 x, .int .u32 a, .int .u32 b] w fun e w' => e = .returned (.bool true) ∧ Below w.heap.size w w' := by
  go_enter Try.func4, Try.ntmps4
  go_wp2_with (first | (go_at_call 13; refine (clz_any _ _ x0 x1).mono ?_; rintro e w' ⟨rfl, rfl⟩) | (go_at_call 14; refine (rclz_any _ _ x0 x1).mono ?_; rintro e w' ⟨rfl, rfl⟩) | (go_at_call 15; refine (pop_any _ _ x0 x1).mono ?_; rintro e w' ⟨rfl, n, rfl⟩) | (go_at_call 16; refine (rpop_any _ _ x0 x1).mono ?_; rintro e w' ⟨rfl, rfl⟩) | (go_at_call 17; refine (rev_any _ _ x0 x1).mono ?_; rintro e w' ⟨rfl, rfl⟩) | (go_at_call 18; refine (rrev_any _ _ x0 x1).mono ?_; rintro e w' ⟨rfl, rfl⟩) | (go_at_call 19; refine (cmov_any _ _ _ _).mono ?_; rintro e w' ⟨rfl, rfl⟩) | (go_at_call 20; refine (rcmov_any _ _ _ _).mono ?_; rintro e w' ⟨rfl, rfl⟩) | (go_at_call 12; refine (awake_any _).mono ?_; rintro e w' ⟨rfl, m, rfl⟩))
  all_goals go_ret
  all_goals exact ⟨rfl, below_drew w _⟩
end Go.Proofs.Ytjlgaihihgifbaa
