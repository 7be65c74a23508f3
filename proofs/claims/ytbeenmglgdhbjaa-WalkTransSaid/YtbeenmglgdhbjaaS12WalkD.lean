/-
  What an entry allows: of package pte and of the reference.
-/
import Derived.Test.YtbeenmglgdhbjaaS12WalkC
namespace Go.Proofs.Ytbeenmglgdhbjaa.S12
open Go.RowKit S01 S10 S11
set_option maxHeartbeats 800000 in
theorem allows_none (b g a : Int) (k : Bool) (w : World) (ha : ¬ (a = 1 ∨ a = 2 ∨ a = 3)) :
    Calls Try.prog 31 #[PV b g, .int .i64 a, .bool k] w fun e w' => e = .returned (.bool (PT.al b a k)) ∧ Below w.heap.size w w' := by
  have HA := Lib.hid (PT.al_none b a k ha)
  have H := Lib.hid (needed_any a)
  rw [show PT.nd a = 0 by unfold PT.nd; rw [if_neg (by omega), if_neg (by omega), if_neg (by omega)]] at H
  have HB := Lib.hid (below_one w (.cells #[.int .u32 b, .int .i64 g] 26))
  clear ha
  unfold PV
  go_enter Try.func31, Try.ntmps31
  go_wp2_with (first | (go_at_call 45; (with_reducible refine (H.out _).mono ?_); rintro e w1 ⟨rfl, rfl⟩))
  go_ret
  exact ⟨ret_bool HA.out.symm, HB.out⟩
set_option maxHeartbeats 800000 in
theorem allows_mask (b g a n m : Int) (k : Bool) (w : World) (ha : a = 1 ∨ a = 2 ∨ a = 3) (h0 : 0 ≤ b) (h1 : b < 4294967296) (hn : PT.nd a = n) (hn0 : n ≠ 0) (hm : bits .or .u32 n 16 = m) (hk : ((PT.mask a k : Nat) : Int) = if k then n else m) :
    Calls Try.prog 31 #[PV b g, .int .i64 a, .bool k] w fun e w' => e = .returned (.bool (PT.al b a k)) ∧ Below w.heap.size w w' := by
  have HA := Lib.hid (PT.al_mask b a k ha h0 h1)
  have H := Lib.hid (needed_any a)
  rw [hn] at H
  have HB := Lib.hid (below_one w (.cells #[.int .u32 b, .int .i64 g] 26))
  clear ha hn
  unfold PV
  cases k
  · rw [if_neg (by decide)] at hk
    rw [hk] at HA
    clear hk
    go_enter Try.func31, Try.ntmps31
    go_wp2_with (first | (go_at_call 45; (with_reducible refine (H.out _).mono ?_); rintro e w1 ⟨rfl, rfl⟩))
    go_ret
    exact ⟨ret_bool HA.out, HB.out⟩
  · rw [if_pos rfl] at hk
    rw [hk] at HA
    clear hk
    go_enter Try.func31, Try.ntmps31
    go_wp2_with (first | (go_at_call 45; (with_reducible refine (H.out _).mono ?_); rintro e w1 ⟨rfl, rfl⟩))
    go_ret
    exact ⟨ret_bool HA.out, HB.out⟩
theorem allows_any (b g a : Int) (k : Bool) (w : World) (h0 : 0 ≤ b) (h1 : b < 4294967296) :
    Calls Try.prog 31 #[PV b g, .int .i64 a, .bool k] w fun e w' => e = .returned (.bool (PT.al b a k)) ∧ Below w.heap.size w w' := by
  by_cases ha : a = 1 ∨ a = 2 ∨ a = 3
  · rcases ha with rfl | rfl | rfl
    · exact allows_mask b g 1 41 57 k w (by omega) h0 h1 rfl (by decide) (by decide) (by cases k <;> rfl)
    · exact allows_mask b g 2 35 51 k w (by omega) h0 h1 rfl (by decide) (by decide) (by cases k <;> rfl)
    · exact allows_mask b g 3 101 117 k w (by omega) h0 h1 rfl (by decide) (by decide) (by cases k <;> rfl)
  · exact allows_none b g a k w ha
end Go.Proofs.Ytbeenmglgdhbjaa.S12
