/-
  What the small functions of package inst and of the reference answer: Priv, the fields of a form, a register's field, the range of Imm, fields of words; none changes memory that was there.
-/
import Derived.Test.YtfgkcjalfhbjjaaDoorS01WalkA
import Derived.Test.YtfgkcjalfhbjjaaDoorS06Math
namespace Go.Proofs.YtfgkcjalfhbjjaaDoor.S06
open Go.RowKit S01
set_option maxHeartbeats 1600000 in
theorem fields_any (f : Int) (w : World) (hf : 1 ≤ f ∧ f ≤ 11) : Calls Tryd.prog 37 #[.int .i64 f] w fun e w' => e = .returned (.agg #[.bool (IM.hs f 1), .bool (IM.hs f 2), .bool (IM.hs f 3), .bool (IM.hs f 4)]) ∧ w' = w.alloc (.cells #[.bool (IM.hs f 1), .bool (IM.hs f 2), .bool (IM.hs f 3), .bool (IM.hs f 4)] 58) := by
  have h : f = 1 ∨ f = 2 ∨ f = 3 ∨ f = 4 ∨ f = 5 ∨ f = 6 ∨ f = 7 ∨ f = 8 ∨ f = 9 ∨ f = 10 ∨ f = 11 := by omega
  clear hf
  rcases h with rfl | rfl | rfl | rfl | rfl | rfl | rfl | rfl | rfl | rfl | rfl
  all_goals
    go_enter Tryd.func37, Tryd.ntmps37
    go_wp2
  all_goals exact bodyPost_ret (by simp [results, Tryd.results37, go_sem]; decide) rfl ⟨rfl, rfl⟩
set_option maxHeartbeats 1600000 in
theorem has_any (f j : Int) (w : World) (hf : 1 ≤ f ∧ f ≤ 11) (hj : 1 ≤ j ∧ j ≤ 4) : Calls Tryd.prog 29 #[.int .i64 f, .int .i64 j] w fun e w' => e = .returned (.bool (IM.hs f j)) ∧ w = w' := by
  have h : f = 1 ∨ f = 2 ∨ f = 3 ∨ f = 4 ∨ f = 5 ∨ f = 6 ∨ f = 7 ∨ f = 8 ∨ f = 9 ∨ f = 10 ∨ f = 11 := by omega
  have h' : j = 1 ∨ j = 2 ∨ j = 3 ∨ j = 4 := by omega
  clear hf hj
  rcases h with rfl | rfl | rfl | rfl | rfl | rfl | rfl | rfl | rfl | rfl | rfl <;> rcases h' with rfl | rfl | rfl | rfl
  all_goals
    go_enter Tryd.func29, Tryd.ntmps29
    go_wp2
    go_ret
  all_goals exact ⟨rfl, rfl⟩
set_option maxHeartbeats 400000 in
theorem reg_any (n : Int) (h : Bool) (w : World) : Calls Tryd.prog 38 #[.int .i64 n, .bool h] w fun e w' => e = .returned (.bool (IM.rg h n)) ∧ w = w' := by
  cases h
  all_goals
    go_enter Tryd.func38, Tryd.ntmps38
    go_wp2
  all_goals go_ret
  all_goals exact ⟨ret_bool (by first | (simp_all [IM.rg]; done) | (rw [Bool.eq_iff_iff]; simp_all [IM.rg]; done) | (rw [Bool.eq_iff_iff]; simp_all [IM.rg]; omega) | (rw [Bool.eq_iff_iff]; simp [IM.rg]; omega)), rfl⟩
set_option maxHeartbeats 400000 in
theorem rreg_any (n : Int) (h : Bool) (w : World) : Calls Tryd.prog 28 #[.bool h, .int .i64 n] w fun e w' => e = .returned (.bool (IM.rg h n)) ∧ w = w' := by
  cases h
  all_goals
    go_enter Tryd.func28, Tryd.ntmps28
    go_wp2
  all_goals go_ret
  all_goals exact ⟨ret_bool (by first | (simp_all [IM.rg]; done) | (rw [Bool.eq_iff_iff]; simp_all [IM.rg]; done) | (rw [Bool.eq_iff_iff]; simp_all [IM.rg]; omega) | (rw [Bool.eq_iff_iff]; simp [IM.rg]; omega)), rfl⟩
theorem ret_ints {a b c d : Int} (h : a = b) (h' : c = d) : Ending.returned (.tuple #[.int .i64 a, .int .i64 c]) = .returned (.tuple #[.int .i64 b, .int .i64 d]) := by rw [h, h']
set_option maxHeartbeats 400000 in
theorem range_any (op : Int) (w : World) : Calls Tryd.prog 39 #[.int .i64 op] w fun e w' => e = .returned (.tuple #[.int .i64 (IM.lo op), .int .i64 (IM.hi op)]) ∧ w = w' := by
  go_enter Tryd.func39, Tryd.ntmps39
  go_wp2
  all_goals go_ret2
  all_goals exact ⟨ret_ints (by simp only [beq_iff_eq, beq_eq_false_iff_ne, ne_eq] at *; unfold IM.lo; (repeat' split) <;> omega) (by simp only [beq_iff_eq, beq_eq_false_iff_ne, ne_eq] at *; unfold IM.hi; (repeat' split) <;> omega), rfl⟩
set_option maxHeartbeats 400000 in
theorem rimm_any (op n : Int) (w : World) : Calls Tryd.prog 30 #[.int .i64 op, .int .i64 n] w fun e w' => e = .returned (.bool (decide (IM.lo op ≤ n) && decide (n ≤ IM.hi op))) ∧ w = w' := by
  go_enter Tryd.func30, Tryd.ntmps30
  go_wp2
  all_goals go_ret
  all_goals exact ⟨ret_bool (by unfold IM.lo IM.hi; (repeat' split) <;> (first | rfl | omega | (simp_all; done) | (simp_all; omega) | (rw [Bool.eq_iff_iff]; simp; omega))), rfl⟩
end Go.Proofs.YtfgkcjalfhbjjaaDoor.S06
