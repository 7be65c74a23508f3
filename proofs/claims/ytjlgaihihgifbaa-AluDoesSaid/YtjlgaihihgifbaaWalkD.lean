/-
  What alu.Do and alu.Taken answer, for every number of an operation and every two words; neither changes memory.
-/
import Derived.Test.YtjlgaihihgifbaaWalkA
import Derived.Test.YtjlgaihihgifbaaMathC
namespace Go.Proofs.Ytjlgaihihgifbaa
open Go.RowKit S01
theorem ret_pair {k : IntKind} {a b : Int} {c d : Bool} (h : a = b) (h' : c = d) : Ending.returned (.tuple #[.int k a, .bool c]) = .returned (.tuple #[.int k b, .bool d]) := by rw [h, h']
set_option maxHeartbeats 1600000 in
set_option maxRecDepth 100000 in
theorem do_1 (a b : Int) (w : World) (a0 : 0 ≤ a) (a1 : a < 4294967296) (b0 : 0 ≤ b) (b1 : b < 4294967296) :
    Calls Try.prog 8 #[.int .i64 1, .int .u32 a, .int .u32 b] w fun e w' => e = .returned (.tuple #[.int .u32 (AM.dv 1 a b), .bool (AM.dk 1)]) ∧ ∃ n, w' = w.drewN n := by
  have s0 : 0 ≤ b % 32 := by omega
  have s1 : b % 32 ≤ 31 := by omega
  have wa := AM.sv_wrap a a0 a1
  have wb := AM.sv_wrap b b0 b1
  go_enter Try.func8, Try.ntmps8
  go_wp2_with (first | (go_at_call 22; refine (low_any _ _ (by omega) (by omega)).mono ?_; rintro e w' ⟨rfl, rfl⟩) | (go_at_call 25; refine (rot_any _ _ _ (by omega) (by omega)).mono ?_; rintro e w' ⟨rfl, n, rfl⟩) | (go_at_call 15; refine (pop_any _ _ (by omega) (by omega)).mono ?_; rintro e w' ⟨rfl, n, rfl⟩) | (go_at_call 13; refine (clz_any _ _ (by omega) (by omega)).mono ?_; rintro e w' ⟨rfl, rfl⟩) | (go_at_call 17; refine (rev_any _ _ (by omega) (by omega)).mono ?_; rintro e w' ⟨rfl, rfl⟩) | (go_at_call 24; refine (less_any _ _ _ (by omega) (by omega) (by omega) (by omega)).mono ?_; rintro e w' ⟨rfl, rfl⟩) | (go_at_call 23; refine (word_any _ _).mono ?_; rintro e w' ⟨rfl, rfl⟩))
  all_goals go_ret2
  all_goals exact ⟨ret_pair (rfl) rfl, by first | exact ⟨0, rfl⟩ | exact ⟨_, rfl⟩⟩
set_option maxHeartbeats 1600000 in
set_option maxRecDepth 100000 in
theorem do_2 (a b : Int) (w : World) (a0 : 0 ≤ a) (a1 : a < 4294967296) (b0 : 0 ≤ b) (b1 : b < 4294967296) :
    Calls Try.prog 8 #[.int .i64 2, .int .u32 a, .int .u32 b] w fun e w' => e = .returned (.tuple #[.int .u32 (AM.dv 2 a b), .bool (AM.dk 2)]) ∧ ∃ n, w' = w.drewN n := by
  have s0 : 0 ≤ b % 32 := by omega
  have s1 : b % 32 ≤ 31 := by omega
  have wa := AM.sv_wrap a a0 a1
  have wb := AM.sv_wrap b b0 b1
  go_enter Try.func8, Try.ntmps8
  go_wp2_with (first | (go_at_call 22; refine (low_any _ _ (by omega) (by omega)).mono ?_; rintro e w' ⟨rfl, rfl⟩) | (go_at_call 25; refine (rot_any _ _ _ (by omega) (by omega)).mono ?_; rintro e w' ⟨rfl, n, rfl⟩) | (go_at_call 15; refine (pop_any _ _ (by omega) (by omega)).mono ?_; rintro e w' ⟨rfl, n, rfl⟩) | (go_at_call 13; refine (clz_any _ _ (by omega) (by omega)).mono ?_; rintro e w' ⟨rfl, rfl⟩) | (go_at_call 17; refine (rev_any _ _ (by omega) (by omega)).mono ?_; rintro e w' ⟨rfl, rfl⟩) | (go_at_call 24; refine (less_any _ _ _ (by omega) (by omega) (by omega) (by omega)).mono ?_; rintro e w' ⟨rfl, rfl⟩) | (go_at_call 23; refine (word_any _ _).mono ?_; rintro e w' ⟨rfl, rfl⟩))
  all_goals go_ret2
  all_goals exact ⟨ret_pair (rfl) rfl, by first | exact ⟨0, rfl⟩ | exact ⟨_, rfl⟩⟩
set_option maxHeartbeats 1600000 in
set_option maxRecDepth 100000 in
theorem do_3 (a b : Int) (w : World) (a0 : 0 ≤ a) (a1 : a < 4294967296) (b0 : 0 ≤ b) (b1 : b < 4294967296) :
    Calls Try.prog 8 #[.int .i64 3, .int .u32 a, .int .u32 b] w fun e w' => e = .returned (.tuple #[.int .u32 (AM.dv 3 a b), .bool (AM.dk 3)]) ∧ ∃ n, w' = w.drewN n := by
  have s0 : 0 ≤ b % 32 := by omega
  have s1 : b % 32 ≤ 31 := by omega
  have wa := AM.sv_wrap a a0 a1
  have wb := AM.sv_wrap b b0 b1
  go_enter Try.func8, Try.ntmps8
  go_wp2_with (first | (go_at_call 22; refine (low_any _ _ (by omega) (by omega)).mono ?_; rintro e w' ⟨rfl, rfl⟩) | (go_at_call 25; refine (rot_any _ _ _ (by omega) (by omega)).mono ?_; rintro e w' ⟨rfl, n, rfl⟩) | (go_at_call 15; refine (pop_any _ _ (by omega) (by omega)).mono ?_; rintro e w' ⟨rfl, n, rfl⟩) | (go_at_call 13; refine (clz_any _ _ (by omega) (by omega)).mono ?_; rintro e w' ⟨rfl, rfl⟩) | (go_at_call 17; refine (rev_any _ _ (by omega) (by omega)).mono ?_; rintro e w' ⟨rfl, rfl⟩) | (go_at_call 24; refine (less_any _ _ _ (by omega) (by omega) (by omega) (by omega)).mono ?_; rintro e w' ⟨rfl, rfl⟩) | (go_at_call 23; refine (word_any _ _).mono ?_; rintro e w' ⟨rfl, rfl⟩))
  all_goals go_ret2
  all_goals exact ⟨ret_pair (AM.and_end a b a0 a1 b0 b1) rfl, by first | exact ⟨0, rfl⟩ | exact ⟨_, rfl⟩⟩
set_option maxHeartbeats 1600000 in
set_option maxRecDepth 100000 in
theorem do_4 (a b : Int) (w : World) (a0 : 0 ≤ a) (a1 : a < 4294967296) (b0 : 0 ≤ b) (b1 : b < 4294967296) :
    Calls Try.prog 8 #[.int .i64 4, .int .u32 a, .int .u32 b] w fun e w' => e = .returned (.tuple #[.int .u32 (AM.dv 4 a b), .bool (AM.dk 4)]) ∧ ∃ n, w' = w.drewN n := by
  have s0 : 0 ≤ b % 32 := by omega
  have s1 : b % 32 ≤ 31 := by omega
  have wa := AM.sv_wrap a a0 a1
  have wb := AM.sv_wrap b b0 b1
  go_enter Try.func8, Try.ntmps8
  go_wp2_with (first | (go_at_call 22; refine (low_any _ _ (by omega) (by omega)).mono ?_; rintro e w' ⟨rfl, rfl⟩) | (go_at_call 25; refine (rot_any _ _ _ (by omega) (by omega)).mono ?_; rintro e w' ⟨rfl, n, rfl⟩) | (go_at_call 15; refine (pop_any _ _ (by omega) (by omega)).mono ?_; rintro e w' ⟨rfl, n, rfl⟩) | (go_at_call 13; refine (clz_any _ _ (by omega) (by omega)).mono ?_; rintro e w' ⟨rfl, rfl⟩) | (go_at_call 17; refine (rev_any _ _ (by omega) (by omega)).mono ?_; rintro e w' ⟨rfl, rfl⟩) | (go_at_call 24; refine (less_any _ _ _ (by omega) (by omega) (by omega) (by omega)).mono ?_; rintro e w' ⟨rfl, rfl⟩) | (go_at_call 23; refine (word_any _ _).mono ?_; rintro e w' ⟨rfl, rfl⟩))
  all_goals go_ret2
  all_goals exact ⟨ret_pair (AM.or_end a b a0 a1 b0 b1) rfl, by first | exact ⟨0, rfl⟩ | exact ⟨_, rfl⟩⟩
set_option maxHeartbeats 1600000 in
set_option maxRecDepth 100000 in
theorem do_5 (a b : Int) (w : World) (a0 : 0 ≤ a) (a1 : a < 4294967296) (b0 : 0 ≤ b) (b1 : b < 4294967296) :
    Calls Try.prog 8 #[.int .i64 5, .int .u32 a, .int .u32 b] w fun e w' => e = .returned (.tuple #[.int .u32 (AM.dv 5 a b), .bool (AM.dk 5)]) ∧ ∃ n, w' = w.drewN n := by
  have s0 : 0 ≤ b % 32 := by omega
  have s1 : b % 32 ≤ 31 := by omega
  have wa := AM.sv_wrap a a0 a1
  have wb := AM.sv_wrap b b0 b1
  go_enter Try.func8, Try.ntmps8
  go_wp2_with (first | (go_at_call 22; refine (low_any _ _ (by omega) (by omega)).mono ?_; rintro e w' ⟨rfl, rfl⟩) | (go_at_call 25; refine (rot_any _ _ _ (by omega) (by omega)).mono ?_; rintro e w' ⟨rfl, n, rfl⟩) | (go_at_call 15; refine (pop_any _ _ (by omega) (by omega)).mono ?_; rintro e w' ⟨rfl, n, rfl⟩) | (go_at_call 13; refine (clz_any _ _ (by omega) (by omega)).mono ?_; rintro e w' ⟨rfl, rfl⟩) | (go_at_call 17; refine (rev_any _ _ (by omega) (by omega)).mono ?_; rintro e w' ⟨rfl, rfl⟩) | (go_at_call 24; refine (less_any _ _ _ (by omega) (by omega) (by omega) (by omega)).mono ?_; rintro e w' ⟨rfl, rfl⟩) | (go_at_call 23; refine (word_any _ _).mono ?_; rintro e w' ⟨rfl, rfl⟩))
  all_goals go_ret2
  all_goals exact ⟨ret_pair (AM.xor_end a b a0 a1 b0 b1) rfl, by first | exact ⟨0, rfl⟩ | exact ⟨_, rfl⟩⟩
set_option maxHeartbeats 1600000 in
set_option maxRecDepth 100000 in
theorem do_6 (a b : Int) (w : World) (a0 : 0 ≤ a) (a1 : a < 4294967296) (b0 : 0 ≤ b) (b1 : b < 4294967296) :
    Calls Try.prog 8 #[.int .i64 6, .int .u32 a, .int .u32 b] w fun e w' => e = .returned (.tuple #[.int .u32 (AM.dv 6 a b), .bool (AM.dk 6)]) ∧ ∃ n, w' = w.drewN n := by
  have s0 : 0 ≤ b % 32 := by omega
  have s1 : b % 32 ≤ 31 := by omega
  have wa := AM.sv_wrap a a0 a1
  have wb := AM.sv_wrap b b0 b1
  go_enter Try.func8, Try.ntmps8
  go_wp2_with (first | (go_at_call 22; refine (low_any _ _ (by omega) (by omega)).mono ?_; rintro e w' ⟨rfl, rfl⟩) | (go_at_call 25; refine (rot_any _ _ _ (by omega) (by omega)).mono ?_; rintro e w' ⟨rfl, n, rfl⟩) | (go_at_call 15; refine (pop_any _ _ (by omega) (by omega)).mono ?_; rintro e w' ⟨rfl, n, rfl⟩) | (go_at_call 13; refine (clz_any _ _ (by omega) (by omega)).mono ?_; rintro e w' ⟨rfl, rfl⟩) | (go_at_call 17; refine (rev_any _ _ (by omega) (by omega)).mono ?_; rintro e w' ⟨rfl, rfl⟩) | (go_at_call 24; refine (less_any _ _ _ (by omega) (by omega) (by omega) (by omega)).mono ?_; rintro e w' ⟨rfl, rfl⟩) | (go_at_call 23; refine (word_any _ _).mono ?_; rintro e w' ⟨rfl, rfl⟩))
  all_goals go_ret2
  all_goals exact ⟨ret_pair (AM.sll_end a b a0) rfl, by first | exact ⟨0, rfl⟩ | exact ⟨_, rfl⟩⟩
set_option maxHeartbeats 1600000 in
set_option maxRecDepth 100000 in
theorem do_7 (a b : Int) (w : World) (a0 : 0 ≤ a) (a1 : a < 4294967296) (b0 : 0 ≤ b) (b1 : b < 4294967296) :
    Calls Try.prog 8 #[.int .i64 7, .int .u32 a, .int .u32 b] w fun e w' => e = .returned (.tuple #[.int .u32 (AM.dv 7 a b), .bool (AM.dk 7)]) ∧ ∃ n, w' = w.drewN n := by
  have s0 : 0 ≤ b % 32 := by omega
  have s1 : b % 32 ≤ 31 := by omega
  have wa := AM.sv_wrap a a0 a1
  have wb := AM.sv_wrap b b0 b1
  go_enter Try.func8, Try.ntmps8
  go_wp2_with (first | (go_at_call 22; refine (low_any _ _ (by omega) (by omega)).mono ?_; rintro e w' ⟨rfl, rfl⟩) | (go_at_call 25; refine (rot_any _ _ _ (by omega) (by omega)).mono ?_; rintro e w' ⟨rfl, n, rfl⟩) | (go_at_call 15; refine (pop_any _ _ (by omega) (by omega)).mono ?_; rintro e w' ⟨rfl, n, rfl⟩) | (go_at_call 13; refine (clz_any _ _ (by omega) (by omega)).mono ?_; rintro e w' ⟨rfl, rfl⟩) | (go_at_call 17; refine (rev_any _ _ (by omega) (by omega)).mono ?_; rintro e w' ⟨rfl, rfl⟩) | (go_at_call 24; refine (less_any _ _ _ (by omega) (by omega) (by omega) (by omega)).mono ?_; rintro e w' ⟨rfl, rfl⟩) | (go_at_call 23; refine (word_any _ _).mono ?_; rintro e w' ⟨rfl, rfl⟩))
  all_goals go_ret2
  all_goals exact ⟨ret_pair (AM.srl_end a b a0 a1) rfl, by first | exact ⟨0, rfl⟩ | exact ⟨_, rfl⟩⟩
set_option maxHeartbeats 1600000 in
set_option maxRecDepth 100000 in
theorem do_8 (a b : Int) (w : World) (a0 : 0 ≤ a) (a1 : a < 4294967296) (b0 : 0 ≤ b) (b1 : b < 4294967296) :
    Calls Try.prog 8 #[.int .i64 8, .int .u32 a, .int .u32 b] w fun e w' => e = .returned (.tuple #[.int .u32 (AM.dv 8 a b), .bool (AM.dk 8)]) ∧ ∃ n, w' = w.drewN n := by
  have s0 : 0 ≤ b % 32 := by omega
  have s1 : b % 32 ≤ 31 := by omega
  have wa := AM.sv_wrap a a0 a1
  have wb := AM.sv_wrap b b0 b1
  go_enter Try.func8, Try.ntmps8
  go_wp2_with (first | (go_at_call 22; refine (low_any _ _ (by omega) (by omega)).mono ?_; rintro e w' ⟨rfl, rfl⟩) | (go_at_call 25; refine (rot_any _ _ _ (by omega) (by omega)).mono ?_; rintro e w' ⟨rfl, n, rfl⟩) | (go_at_call 15; refine (pop_any _ _ (by omega) (by omega)).mono ?_; rintro e w' ⟨rfl, n, rfl⟩) | (go_at_call 13; refine (clz_any _ _ (by omega) (by omega)).mono ?_; rintro e w' ⟨rfl, rfl⟩) | (go_at_call 17; refine (rev_any _ _ (by omega) (by omega)).mono ?_; rintro e w' ⟨rfl, rfl⟩) | (go_at_call 24; refine (less_any _ _ _ (by omega) (by omega) (by omega) (by omega)).mono ?_; rintro e w' ⟨rfl, rfl⟩) | (go_at_call 23; refine (word_any _ _).mono ?_; rintro e w' ⟨rfl, rfl⟩))
  all_goals go_ret2
  all_goals exact ⟨ret_pair (AM.sra_end a b a0 a1) rfl, by first | exact ⟨0, rfl⟩ | exact ⟨_, rfl⟩⟩
set_option maxHeartbeats 1600000 in
set_option maxRecDepth 100000 in
theorem do_9 (a b : Int) (w : World) (a0 : 0 ≤ a) (a1 : a < 4294967296) (b0 : 0 ≤ b) (b1 : b < 4294967296) :
    Calls Try.prog 8 #[.int .i64 9, .int .u32 a, .int .u32 b] w fun e w' => e = .returned (.tuple #[.int .u32 (AM.dv 9 a b), .bool (AM.dk 9)]) ∧ ∃ n, w' = w.drewN n := by
  have s0 : 0 ≤ b % 32 := by omega
  have s1 : b % 32 ≤ 31 := by omega
  have wa := AM.sv_wrap a a0 a1
  have wb := AM.sv_wrap b b0 b1
  go_enter Try.func8, Try.ntmps8
  go_wp2_with (first | (go_at_call 22; refine (low_any _ _ (by omega) (by omega)).mono ?_; rintro e w' ⟨rfl, rfl⟩) | (go_at_call 25; refine (rot_any _ _ _ (by omega) (by omega)).mono ?_; rintro e w' ⟨rfl, n, rfl⟩) | (go_at_call 15; refine (pop_any _ _ (by omega) (by omega)).mono ?_; rintro e w' ⟨rfl, n, rfl⟩) | (go_at_call 13; refine (clz_any _ _ (by omega) (by omega)).mono ?_; rintro e w' ⟨rfl, rfl⟩) | (go_at_call 17; refine (rev_any _ _ (by omega) (by omega)).mono ?_; rintro e w' ⟨rfl, rfl⟩) | (go_at_call 24; refine (less_any _ _ _ (by omega) (by omega) (by omega) (by omega)).mono ?_; rintro e w' ⟨rfl, rfl⟩) | (go_at_call 23; refine (word_any _ _).mono ?_; rintro e w' ⟨rfl, rfl⟩))
  all_goals go_ret2
  all_goals exact ⟨ret_pair (rfl) rfl, by first | exact ⟨0, rfl⟩ | exact ⟨_, rfl⟩⟩
set_option maxHeartbeats 1600000 in
set_option maxRecDepth 100000 in
theorem do_10 (a b : Int) (w : World) (a0 : 0 ≤ a) (a1 : a < 4294967296) (b0 : 0 ≤ b) (b1 : b < 4294967296) :
    Calls Try.prog 8 #[.int .i64 10, .int .u32 a, .int .u32 b] w fun e w' => e = .returned (.tuple #[.int .u32 (AM.dv 10 a b), .bool (AM.dk 10)]) ∧ ∃ n, w' = w.drewN n := by
  have s0 : 0 ≤ b % 32 := by omega
  have s1 : b % 32 ≤ 31 := by omega
  have wa := AM.sv_wrap a a0 a1
  have wb := AM.sv_wrap b b0 b1
  go_enter Try.func8, Try.ntmps8
  go_wp2_with (first | (go_at_call 22; refine (low_any _ _ (by omega) (by omega)).mono ?_; rintro e w' ⟨rfl, rfl⟩) | (go_at_call 25; refine (rot_any _ _ _ (by omega) (by omega)).mono ?_; rintro e w' ⟨rfl, n, rfl⟩) | (go_at_call 15; refine (pop_any _ _ (by omega) (by omega)).mono ?_; rintro e w' ⟨rfl, n, rfl⟩) | (go_at_call 13; refine (clz_any _ _ (by omega) (by omega)).mono ?_; rintro e w' ⟨rfl, rfl⟩) | (go_at_call 17; refine (rev_any _ _ (by omega) (by omega)).mono ?_; rintro e w' ⟨rfl, rfl⟩) | (go_at_call 24; refine (less_any _ _ _ (by omega) (by omega) (by omega) (by omega)).mono ?_; rintro e w' ⟨rfl, rfl⟩) | (go_at_call 23; refine (word_any _ _).mono ?_; rintro e w' ⟨rfl, rfl⟩))
  all_goals go_ret2
  all_goals exact ⟨ret_pair (rfl) rfl, by first | exact ⟨0, rfl⟩ | exact ⟨_, rfl⟩⟩
set_option maxHeartbeats 1600000 in
set_option maxRecDepth 100000 in
theorem do_18 (a b : Int) (w : World) (a0 : 0 ≤ a) (a1 : a < 4294967296) (b0 : 0 ≤ b) (b1 : b < 4294967296) :
    Calls Try.prog 8 #[.int .i64 18, .int .u32 a, .int .u32 b] w fun e w' => e = .returned (.tuple #[.int .u32 (AM.dv 18 a b), .bool (AM.dk 18)]) ∧ ∃ n, w' = w.drewN n := by
  have s0 : 0 ≤ b % 32 := by omega
  have s1 : b % 32 ≤ 31 := by omega
  have wa := AM.sv_wrap a a0 a1
  have wb := AM.sv_wrap b b0 b1
  have ma := AM.sv_mod a a0 a1
  have mb := AM.sv_mod b b0 b1
  go_enter Try.func8, Try.ntmps8
  go_wp2_with (first | (go_at_call 22; refine (low_any _ _ (by omega) (by omega)).mono ?_; rintro e w' ⟨rfl, rfl⟩) | (go_at_call 25; refine (rot_any _ _ _ (by omega) (by omega)).mono ?_; rintro e w' ⟨rfl, n, rfl⟩) | (go_at_call 15; refine (pop_any _ _ (by omega) (by omega)).mono ?_; rintro e w' ⟨rfl, n, rfl⟩) | (go_at_call 13; refine (clz_any _ _ (by omega) (by omega)).mono ?_; rintro e w' ⟨rfl, rfl⟩) | (go_at_call 17; refine (rev_any _ _ (by omega) (by omega)).mono ?_; rintro e w' ⟨rfl, rfl⟩) | (go_at_call 24; refine (less_any _ _ _ (by omega) (by omega) (by omega) (by omega)).mono ?_; rintro e w' ⟨rfl, rfl⟩) | (go_at_call 23; refine (word_any _ _).mono ?_; rintro e w' ⟨rfl, rfl⟩))
  all_goals go_ret2
  all_goals exact ⟨ret_pair ((by show _ = (if AM.sv b < AM.sv a then b else a); split <;> omega)) rfl, by first | exact ⟨0, rfl⟩ | exact ⟨_, rfl⟩⟩
set_option maxHeartbeats 1600000 in
set_option maxRecDepth 100000 in
theorem do_19 (a b : Int) (w : World) (a0 : 0 ≤ a) (a1 : a < 4294967296) (b0 : 0 ≤ b) (b1 : b < 4294967296) :
    Calls Try.prog 8 #[.int .i64 19, .int .u32 a, .int .u32 b] w fun e w' => e = .returned (.tuple #[.int .u32 (AM.dv 19 a b), .bool (AM.dk 19)]) ∧ ∃ n, w' = w.drewN n := by
  have s0 : 0 ≤ b % 32 := by omega
  have s1 : b % 32 ≤ 31 := by omega
  have wa := AM.sv_wrap a a0 a1
  have wb := AM.sv_wrap b b0 b1
  have ma := AM.sv_mod a a0 a1
  have mb := AM.sv_mod b b0 b1
  go_enter Try.func8, Try.ntmps8
  go_wp2_with (first | (go_at_call 22; refine (low_any _ _ (by omega) (by omega)).mono ?_; rintro e w' ⟨rfl, rfl⟩) | (go_at_call 25; refine (rot_any _ _ _ (by omega) (by omega)).mono ?_; rintro e w' ⟨rfl, n, rfl⟩) | (go_at_call 15; refine (pop_any _ _ (by omega) (by omega)).mono ?_; rintro e w' ⟨rfl, n, rfl⟩) | (go_at_call 13; refine (clz_any _ _ (by omega) (by omega)).mono ?_; rintro e w' ⟨rfl, rfl⟩) | (go_at_call 17; refine (rev_any _ _ (by omega) (by omega)).mono ?_; rintro e w' ⟨rfl, rfl⟩) | (go_at_call 24; refine (less_any _ _ _ (by omega) (by omega) (by omega) (by omega)).mono ?_; rintro e w' ⟨rfl, rfl⟩) | (go_at_call 23; refine (word_any _ _).mono ?_; rintro e w' ⟨rfl, rfl⟩))
  all_goals go_ret2
  all_goals exact ⟨ret_pair ((by show _ = (if AM.sv a < AM.sv b then b else a); split <;> omega)) rfl, by first | exact ⟨0, rfl⟩ | exact ⟨_, rfl⟩⟩
set_option maxHeartbeats 1600000 in
set_option maxRecDepth 100000 in
theorem do_20 (a b : Int) (w : World) (a0 : 0 ≤ a) (a1 : a < 4294967296) (b0 : 0 ≤ b) (b1 : b < 4294967296) :
    Calls Try.prog 8 #[.int .i64 20, .int .u32 a, .int .u32 b] w fun e w' => e = .returned (.tuple #[.int .u32 (AM.dv 20 a b), .bool (AM.dk 20)]) ∧ ∃ n, w' = w.drewN n := by
  have s0 : 0 ≤ b % 32 := by omega
  have s1 : b % 32 ≤ 31 := by omega
  have wa := AM.sv_wrap a a0 a1
  have wb := AM.sv_wrap b b0 b1
  go_enter Try.func8, Try.ntmps8
  go_wp2_with (first | (go_at_call 22; refine (low_any _ _ (by omega) (by omega)).mono ?_; rintro e w' ⟨rfl, rfl⟩) | (go_at_call 25; refine (rot_any _ _ _ (by omega) (by omega)).mono ?_; rintro e w' ⟨rfl, n, rfl⟩) | (go_at_call 15; refine (pop_any _ _ (by omega) (by omega)).mono ?_; rintro e w' ⟨rfl, n, rfl⟩) | (go_at_call 13; refine (clz_any _ _ (by omega) (by omega)).mono ?_; rintro e w' ⟨rfl, rfl⟩) | (go_at_call 17; refine (rev_any _ _ (by omega) (by omega)).mono ?_; rintro e w' ⟨rfl, rfl⟩) | (go_at_call 24; refine (less_any _ _ _ (by omega) (by omega) (by omega) (by omega)).mono ?_; rintro e w' ⟨rfl, rfl⟩) | (go_at_call 23; refine (word_any _ _).mono ?_; rintro e w' ⟨rfl, rfl⟩))
  all_goals go_ret2
  all_goals exact ⟨ret_pair (rfl) rfl, by first | exact ⟨0, rfl⟩ | exact ⟨_, rfl⟩⟩
set_option maxHeartbeats 1600000 in
set_option maxRecDepth 100000 in
theorem do_21 (a b : Int) (w : World) (a0 : 0 ≤ a) (a1 : a < 4294967296) (b0 : 0 ≤ b) (b1 : b < 4294967296) :
    Calls Try.prog 8 #[.int .i64 21, .int .u32 a, .int .u32 b] w fun e w' => e = .returned (.tuple #[.int .u32 (AM.dv 21 a b), .bool (AM.dk 21)]) ∧ ∃ n, w' = w.drewN n := by
  have s0 : 0 ≤ b % 32 := by omega
  have s1 : b % 32 ≤ 31 := by omega
  have wa := AM.sv_wrap a a0 a1
  have wb := AM.sv_wrap b b0 b1
  go_enter Try.func8, Try.ntmps8
  go_wp2_with (first | (go_at_call 22; refine (low_any _ _ (by omega) (by omega)).mono ?_; rintro e w' ⟨rfl, rfl⟩) | (go_at_call 25; refine (rot_any _ _ _ (by omega) (by omega)).mono ?_; rintro e w' ⟨rfl, n, rfl⟩) | (go_at_call 15; refine (pop_any _ _ (by omega) (by omega)).mono ?_; rintro e w' ⟨rfl, n, rfl⟩) | (go_at_call 13; refine (clz_any _ _ (by omega) (by omega)).mono ?_; rintro e w' ⟨rfl, rfl⟩) | (go_at_call 17; refine (rev_any _ _ (by omega) (by omega)).mono ?_; rintro e w' ⟨rfl, rfl⟩) | (go_at_call 24; refine (less_any _ _ _ (by omega) (by omega) (by omega) (by omega)).mono ?_; rintro e w' ⟨rfl, rfl⟩) | (go_at_call 23; refine (word_any _ _).mono ?_; rintro e w' ⟨rfl, rfl⟩))
  all_goals go_ret2
  all_goals exact ⟨ret_pair ((by have := AM.cz_bd a a1; show _ = AM.cz a; omega)) rfl, by first | exact ⟨0, rfl⟩ | exact ⟨_, rfl⟩⟩
set_option maxHeartbeats 1600000 in
set_option maxRecDepth 100000 in
theorem do_22 (a b : Int) (w : World) (a0 : 0 ≤ a) (a1 : a < 4294967296) (b0 : 0 ≤ b) (b1 : b < 4294967296) :
    Calls Try.prog 8 #[.int .i64 22, .int .u32 a, .int .u32 b] w fun e w' => e = .returned (.tuple #[.int .u32 (AM.dv 22 a b), .bool (AM.dk 22)]) ∧ ∃ n, w' = w.drewN n := by
  have s0 : 0 ≤ b % 32 := by omega
  have s1 : b % 32 ≤ 31 := by omega
  have wa := AM.sv_wrap a a0 a1
  have wb := AM.sv_wrap b b0 b1
  go_enter Try.func8, Try.ntmps8
  go_wp2_with (first | (go_at_call 22; refine (low_any _ _ (by omega) (by omega)).mono ?_; rintro e w' ⟨rfl, rfl⟩) | (go_at_call 25; refine (rot_any _ _ _ (by omega) (by omega)).mono ?_; rintro e w' ⟨rfl, n, rfl⟩) | (go_at_call 15; refine (pop_any _ _ (by omega) (by omega)).mono ?_; rintro e w' ⟨rfl, n, rfl⟩) | (go_at_call 13; refine (clz_any _ _ (by omega) (by omega)).mono ?_; rintro e w' ⟨rfl, rfl⟩) | (go_at_call 17; refine (rev_any _ _ (by omega) (by omega)).mono ?_; rintro e w' ⟨rfl, rfl⟩) | (go_at_call 24; refine (less_any _ _ _ (by omega) (by omega) (by omega) (by omega)).mono ?_; rintro e w' ⟨rfl, rfl⟩) | (go_at_call 23; refine (word_any _ _).mono ?_; rintro e w' ⟨rfl, rfl⟩))
  all_goals go_ret2
  all_goals exact ⟨ret_pair ((by have := AM.pc_bd a; show _ = AM.pc a; omega)) rfl, by first | exact ⟨0, rfl⟩ | exact ⟨_, rfl⟩⟩
set_option maxHeartbeats 1600000 in
set_option maxRecDepth 100000 in
theorem do_23 (a b : Int) (w : World) (a0 : 0 ≤ a) (a1 : a < 4294967296) (b0 : 0 ≤ b) (b1 : b < 4294967296) :
    Calls Try.prog 8 #[.int .i64 23, .int .u32 a, .int .u32 b] w fun e w' => e = .returned (.tuple #[.int .u32 (AM.dv 23 a b), .bool (AM.dk 23)]) ∧ ∃ n, w' = w.drewN n := by
  have s0 : 0 ≤ b % 32 := by omega
  have s1 : b % 32 ≤ 31 := by omega
  have wa := AM.sv_wrap a a0 a1
  have wb := AM.sv_wrap b b0 b1
  go_enter Try.func8, Try.ntmps8
  go_wp2_with (first | (go_at_call 22; refine (low_any _ _ (by omega) (by omega)).mono ?_; rintro e w' ⟨rfl, rfl⟩) | (go_at_call 25; refine (rot_any _ _ _ (by omega) (by omega)).mono ?_; rintro e w' ⟨rfl, n, rfl⟩) | (go_at_call 15; refine (pop_any _ _ (by omega) (by omega)).mono ?_; rintro e w' ⟨rfl, n, rfl⟩) | (go_at_call 13; refine (clz_any _ _ (by omega) (by omega)).mono ?_; rintro e w' ⟨rfl, rfl⟩) | (go_at_call 17; refine (rev_any _ _ (by omega) (by omega)).mono ?_; rintro e w' ⟨rfl, rfl⟩) | (go_at_call 24; refine (less_any _ _ _ (by omega) (by omega) (by omega) (by omega)).mono ?_; rintro e w' ⟨rfl, rfl⟩) | (go_at_call 23; refine (word_any _ _).mono ?_; rintro e w' ⟨rfl, rfl⟩))
  all_goals go_ret2
  all_goals exact ⟨ret_pair (rfl) rfl, by first | exact ⟨0, rfl⟩ | exact ⟨_, rfl⟩⟩
set_option maxHeartbeats 1600000 in
set_option maxRecDepth 100000 in
theorem do_25 (a b : Int) (w : World) (a0 : 0 ≤ a) (a1 : a < 4294967296) (b0 : 0 ≤ b) (b1 : b < 4294967296) :
    Calls Try.prog 8 #[.int .i64 25, .int .u32 a, .int .u32 b] w fun e w' => e = .returned (.tuple #[.int .u32 (AM.dv 25 a b), .bool (AM.dk 25)]) ∧ ∃ n, w' = w.drewN n := by
  have s0 : 0 ≤ b % 32 := by omega
  have s1 : b % 32 ≤ 31 := by omega
  have wa := AM.sv_wrap a a0 a1
  have wb := AM.sv_wrap b b0 b1
  go_enter Try.func8, Try.ntmps8
  go_wp2_with (first | (go_at_call 22; refine (low_any _ _ (by omega) (by omega)).mono ?_; rintro e w' ⟨rfl, rfl⟩) | (go_at_call 25; refine (rot_any _ _ _ (by omega) (by omega)).mono ?_; rintro e w' ⟨rfl, n, rfl⟩) | (go_at_call 15; refine (pop_any _ _ (by omega) (by omega)).mono ?_; rintro e w' ⟨rfl, n, rfl⟩) | (go_at_call 13; refine (clz_any _ _ (by omega) (by omega)).mono ?_; rintro e w' ⟨rfl, rfl⟩) | (go_at_call 17; refine (rev_any _ _ (by omega) (by omega)).mono ?_; rintro e w' ⟨rfl, rfl⟩) | (go_at_call 24; refine (less_any _ _ _ (by omega) (by omega) (by omega) (by omega)).mono ?_; rintro e w' ⟨rfl, rfl⟩) | (go_at_call 23; refine (word_any _ _).mono ?_; rintro e w' ⟨rfl, rfl⟩))
  all_goals go_ret2
  all_goals exact ⟨ret_pair (rfl) rfl, by first | exact ⟨0, rfl⟩ | exact ⟨_, rfl⟩⟩
set_option maxHeartbeats 1600000 in
set_option maxRecDepth 100000 in
theorem do_26 (a b : Int) (w : World) (a0 : 0 ≤ a) (a1 : a < 4294967296) (b0 : 0 ≤ b) (b1 : b < 4294967296) :
    Calls Try.prog 8 #[.int .i64 26, .int .u32 a, .int .u32 b] w fun e w' => e = .returned (.tuple #[.int .u32 (AM.dv 26 a b), .bool (AM.dk 26)]) ∧ ∃ n, w' = w.drewN n := by
  have s0 : 0 ≤ b % 32 := by omega
  have s1 : b % 32 ≤ 31 := by omega
  have wa := AM.sv_wrap a a0 a1
  have wb := AM.sv_wrap b b0 b1
  go_enter Try.func8, Try.ntmps8
  go_wp2_with (first | (go_at_call 22; refine (low_any _ _ (by omega) (by omega)).mono ?_; rintro e w' ⟨rfl, rfl⟩) | (go_at_call 25; refine (rot_any _ _ _ (by omega) (by omega)).mono ?_; rintro e w' ⟨rfl, n, rfl⟩) | (go_at_call 15; refine (pop_any _ _ (by omega) (by omega)).mono ?_; rintro e w' ⟨rfl, n, rfl⟩) | (go_at_call 13; refine (clz_any _ _ (by omega) (by omega)).mono ?_; rintro e w' ⟨rfl, rfl⟩) | (go_at_call 17; refine (rev_any _ _ (by omega) (by omega)).mono ?_; rintro e w' ⟨rfl, rfl⟩) | (go_at_call 24; refine (less_any _ _ _ (by omega) (by omega) (by omega) (by omega)).mono ?_; rintro e w' ⟨rfl, rfl⟩) | (go_at_call 23; refine (word_any _ _).mono ?_; rintro e w' ⟨rfl, rfl⟩))
  all_goals go_ret2
  all_goals exact ⟨ret_pair (AM.and_end a b a0 a1 b0 b1) rfl, by first | exact ⟨0, rfl⟩ | exact ⟨_, rfl⟩⟩
set_option maxHeartbeats 1600000 in
set_option maxRecDepth 100000 in
theorem do_27 (a b : Int) (w : World) (a0 : 0 ≤ a) (a1 : a < 4294967296) (b0 : 0 ≤ b) (b1 : b < 4294967296) :
    Calls Try.prog 8 #[.int .i64 27, .int .u32 a, .int .u32 b] w fun e w' => e = .returned (.tuple #[.int .u32 (AM.dv 27 a b), .bool (AM.dk 27)]) ∧ ∃ n, w' = w.drewN n := by
  have s0 : 0 ≤ b % 32 := by omega
  have s1 : b % 32 ≤ 31 := by omega
  have wa := AM.sv_wrap a a0 a1
  have wb := AM.sv_wrap b b0 b1
  go_enter Try.func8, Try.ntmps8
  go_wp2_with (first | (go_at_call 22; refine (low_any _ _ (by omega) (by omega)).mono ?_; rintro e w' ⟨rfl, rfl⟩) | (go_at_call 25; refine (rot_any _ _ _ (by omega) (by omega)).mono ?_; rintro e w' ⟨rfl, n, rfl⟩) | (go_at_call 15; refine (pop_any _ _ (by omega) (by omega)).mono ?_; rintro e w' ⟨rfl, n, rfl⟩) | (go_at_call 13; refine (clz_any _ _ (by omega) (by omega)).mono ?_; rintro e w' ⟨rfl, rfl⟩) | (go_at_call 17; refine (rev_any _ _ (by omega) (by omega)).mono ?_; rintro e w' ⟨rfl, rfl⟩) | (go_at_call 24; refine (less_any _ _ _ (by omega) (by omega) (by omega) (by omega)).mono ?_; rintro e w' ⟨rfl, rfl⟩) | (go_at_call 23; refine (word_any _ _).mono ?_; rintro e w' ⟨rfl, rfl⟩))
  all_goals go_ret2
  all_goals exact ⟨ret_pair (AM.or_end a b a0 a1 b0 b1) rfl, by first | exact ⟨0, rfl⟩ | exact ⟨_, rfl⟩⟩
set_option maxHeartbeats 1600000 in
set_option maxRecDepth 100000 in
theorem do_28 (a b : Int) (w : World) (a0 : 0 ≤ a) (a1 : a < 4294967296) (b0 : 0 ≤ b) (b1 : b < 4294967296) :
    Calls Try.prog 8 #[.int .i64 28, .int .u32 a, .int .u32 b] w fun e w' => e = .returned (.tuple #[.int .u32 (AM.dv 28 a b), .bool (AM.dk 28)]) ∧ ∃ n, w' = w.drewN n := by
  have s0 : 0 ≤ b % 32 := by omega
  have s1 : b % 32 ≤ 31 := by omega
  have wa := AM.sv_wrap a a0 a1
  have wb := AM.sv_wrap b b0 b1
  go_enter Try.func8, Try.ntmps8
  go_wp2_with (first | (go_at_call 22; refine (low_any _ _ (by omega) (by omega)).mono ?_; rintro e w' ⟨rfl, rfl⟩) | (go_at_call 25; refine (rot_any _ _ _ (by omega) (by omega)).mono ?_; rintro e w' ⟨rfl, n, rfl⟩) | (go_at_call 15; refine (pop_any _ _ (by omega) (by omega)).mono ?_; rintro e w' ⟨rfl, n, rfl⟩) | (go_at_call 13; refine (clz_any _ _ (by omega) (by omega)).mono ?_; rintro e w' ⟨rfl, rfl⟩) | (go_at_call 17; refine (rev_any _ _ (by omega) (by omega)).mono ?_; rintro e w' ⟨rfl, rfl⟩) | (go_at_call 24; refine (less_any _ _ _ (by omega) (by omega) (by omega) (by omega)).mono ?_; rintro e w' ⟨rfl, rfl⟩) | (go_at_call 23; refine (word_any _ _).mono ?_; rintro e w' ⟨rfl, rfl⟩))
  all_goals go_ret2
  all_goals exact ⟨ret_pair (AM.xor_end a b a0 a1 b0 b1) rfl, by first | exact ⟨0, rfl⟩ | exact ⟨_, rfl⟩⟩
set_option maxHeartbeats 1600000 in
set_option maxRecDepth 100000 in
theorem do_29 (a b : Int) (w : World) (a0 : 0 ≤ a) (a1 : a < 4294967296) (b0 : 0 ≤ b) (b1 : b < 4294967296) :
    Calls Try.prog 8 #[.int .i64 29, .int .u32 a, .int .u32 b] w fun e w' => e = .returned (.tuple #[.int .u32 (AM.dv 29 a b), .bool (AM.dk 29)]) ∧ ∃ n, w' = w.drewN n := by
  have s0 : 0 ≤ b % 32 := by omega
  have s1 : b % 32 ≤ 31 := by omega
  have wa := AM.sv_wrap a a0 a1
  have wb := AM.sv_wrap b b0 b1
  go_enter Try.func8, Try.ntmps8
  go_wp2_with (first | (go_at_call 22; refine (low_any _ _ (by omega) (by omega)).mono ?_; rintro e w' ⟨rfl, rfl⟩) | (go_at_call 25; refine (rot_any _ _ _ (by omega) (by omega)).mono ?_; rintro e w' ⟨rfl, n, rfl⟩) | (go_at_call 15; refine (pop_any _ _ (by omega) (by omega)).mono ?_; rintro e w' ⟨rfl, n, rfl⟩) | (go_at_call 13; refine (clz_any _ _ (by omega) (by omega)).mono ?_; rintro e w' ⟨rfl, rfl⟩) | (go_at_call 17; refine (rev_any _ _ (by omega) (by omega)).mono ?_; rintro e w' ⟨rfl, rfl⟩) | (go_at_call 24; refine (less_any _ _ _ (by omega) (by omega) (by omega) (by omega)).mono ?_; rintro e w' ⟨rfl, rfl⟩) | (go_at_call 23; refine (word_any _ _).mono ?_; rintro e w' ⟨rfl, rfl⟩))
  all_goals go_ret2
  all_goals exact ⟨ret_pair (rfl) rfl, by first | exact ⟨0, rfl⟩ | exact ⟨_, rfl⟩⟩
set_option maxHeartbeats 1600000 in
set_option maxRecDepth 100000 in
theorem do_30 (a b : Int) (w : World) (a0 : 0 ≤ a) (a1 : a < 4294967296) (b0 : 0 ≤ b) (b1 : b < 4294967296) :
    Calls Try.prog 8 #[.int .i64 30, .int .u32 a, .int .u32 b] w fun e w' => e = .returned (.tuple #[.int .u32 (AM.dv 30 a b), .bool (AM.dk 30)]) ∧ ∃ n, w' = w.drewN n := by
  have s0 : 0 ≤ b % 32 := by omega
  have s1 : b % 32 ≤ 31 := by omega
  have wa := AM.sv_wrap a a0 a1
  have wb := AM.sv_wrap b b0 b1
  go_enter Try.func8, Try.ntmps8
  go_wp2_with (first | (go_at_call 22; refine (low_any _ _ (by omega) (by omega)).mono ?_; rintro e w' ⟨rfl, rfl⟩) | (go_at_call 25; refine (rot_any _ _ _ (by omega) (by omega)).mono ?_; rintro e w' ⟨rfl, n, rfl⟩) | (go_at_call 15; refine (pop_any _ _ (by omega) (by omega)).mono ?_; rintro e w' ⟨rfl, n, rfl⟩) | (go_at_call 13; refine (clz_any _ _ (by omega) (by omega)).mono ?_; rintro e w' ⟨rfl, rfl⟩) | (go_at_call 17; refine (rev_any _ _ (by omega) (by omega)).mono ?_; rintro e w' ⟨rfl, rfl⟩) | (go_at_call 24; refine (less_any _ _ _ (by omega) (by omega) (by omega) (by omega)).mono ?_; rintro e w' ⟨rfl, rfl⟩) | (go_at_call 23; refine (word_any _ _).mono ?_; rintro e w' ⟨rfl, rfl⟩))
  all_goals go_ret2
  all_goals exact ⟨ret_pair (AM.sll_end a b a0) rfl, by first | exact ⟨0, rfl⟩ | exact ⟨_, rfl⟩⟩
set_option maxHeartbeats 1600000 in
set_option maxRecDepth 100000 in
theorem do_31 (a b : Int) (w : World) (a0 : 0 ≤ a) (a1 : a < 4294967296) (b0 : 0 ≤ b) (b1 : b < 4294967296) :
    Calls Try.prog 8 #[.int .i64 31, .int .u32 a, .int .u32 b] w fun e w' => e = .returned (.tuple #[.int .u32 (AM.dv 31 a b), .bool (AM.dk 31)]) ∧ ∃ n, w' = w.drewN n := by
  have s0 : 0 ≤ b % 32 := by omega
  have s1 : b % 32 ≤ 31 := by omega
  have wa := AM.sv_wrap a a0 a1
  have wb := AM.sv_wrap b b0 b1
  go_enter Try.func8, Try.ntmps8
  go_wp2_with (first | (go_at_call 22; refine (low_any _ _ (by omega) (by omega)).mono ?_; rintro e w' ⟨rfl, rfl⟩) | (go_at_call 25; refine (rot_any _ _ _ (by omega) (by omega)).mono ?_; rintro e w' ⟨rfl, n, rfl⟩) | (go_at_call 15; refine (pop_any _ _ (by omega) (by omega)).mono ?_; rintro e w' ⟨rfl, n, rfl⟩) | (go_at_call 13; refine (clz_any _ _ (by omega) (by omega)).mono ?_; rintro e w' ⟨rfl, rfl⟩) | (go_at_call 17; refine (rev_any _ _ (by omega) (by omega)).mono ?_; rintro e w' ⟨rfl, rfl⟩) | (go_at_call 24; refine (less_any _ _ _ (by omega) (by omega) (by omega) (by omega)).mono ?_; rintro e w' ⟨rfl, rfl⟩) | (go_at_call 23; refine (word_any _ _).mono ?_; rintro e w' ⟨rfl, rfl⟩))
  all_goals go_ret2
  all_goals exact ⟨ret_pair (AM.srl_end a b a0 a1) rfl, by first | exact ⟨0, rfl⟩ | exact ⟨_, rfl⟩⟩
set_option maxHeartbeats 1600000 in
set_option maxRecDepth 100000 in
theorem do_32 (a b : Int) (w : World) (a0 : 0 ≤ a) (a1 : a < 4294967296) (b0 : 0 ≤ b) (b1 : b < 4294967296) :
    Calls Try.prog 8 #[.int .i64 32, .int .u32 a, .int .u32 b] w fun e w' => e = .returned (.tuple #[.int .u32 (AM.dv 32 a b), .bool (AM.dk 32)]) ∧ ∃ n, w' = w.drewN n := by
  have s0 : 0 ≤ b % 32 := by omega
  have s1 : b % 32 ≤ 31 := by omega
  have wa := AM.sv_wrap a a0 a1
  have wb := AM.sv_wrap b b0 b1
  go_enter Try.func8, Try.ntmps8
  go_wp2_with (first | (go_at_call 22; refine (low_any _ _ (by omega) (by omega)).mono ?_; rintro e w' ⟨rfl, rfl⟩) | (go_at_call 25; refine (rot_any _ _ _ (by omega) (by omega)).mono ?_; rintro e w' ⟨rfl, n, rfl⟩) | (go_at_call 15; refine (pop_any _ _ (by omega) (by omega)).mono ?_; rintro e w' ⟨rfl, n, rfl⟩) | (go_at_call 13; refine (clz_any _ _ (by omega) (by omega)).mono ?_; rintro e w' ⟨rfl, rfl⟩) | (go_at_call 17; refine (rev_any _ _ (by omega) (by omega)).mono ?_; rintro e w' ⟨rfl, rfl⟩) | (go_at_call 24; refine (less_any _ _ _ (by omega) (by omega) (by omega) (by omega)).mono ?_; rintro e w' ⟨rfl, rfl⟩) | (go_at_call 23; refine (word_any _ _).mono ?_; rintro e w' ⟨rfl, rfl⟩))
  all_goals go_ret2
  all_goals exact ⟨ret_pair (AM.sra_end a b a0 a1) rfl, by first | exact ⟨0, rfl⟩ | exact ⟨_, rfl⟩⟩
set_option maxHeartbeats 1600000 in
set_option maxRecDepth 100000 in
theorem do_33 (a b : Int) (w : World) (a0 : 0 ≤ a) (a1 : a < 4294967296) (b0 : 0 ≤ b) (b1 : b < 4294967296) :
    Calls Try.prog 8 #[.int .i64 33, .int .u32 a, .int .u32 b] w fun e w' => e = .returned (.tuple #[.int .u32 (AM.dv 33 a b), .bool (AM.dk 33)]) ∧ ∃ n, w' = w.drewN n := by
  have s0 : 0 ≤ b % 32 := by omega
  have s1 : b % 32 ≤ 31 := by omega
  have wa := AM.sv_wrap a a0 a1
  have wb := AM.sv_wrap b b0 b1
  go_enter Try.func8, Try.ntmps8
  go_wp2_with (first | (go_at_call 22; refine (low_any _ _ (by omega) (by omega)).mono ?_; rintro e w' ⟨rfl, rfl⟩) | (go_at_call 25; refine (rot_any _ _ _ (by omega) (by omega)).mono ?_; rintro e w' ⟨rfl, n, rfl⟩) | (go_at_call 15; refine (pop_any _ _ (by omega) (by omega)).mono ?_; rintro e w' ⟨rfl, n, rfl⟩) | (go_at_call 13; refine (clz_any _ _ (by omega) (by omega)).mono ?_; rintro e w' ⟨rfl, rfl⟩) | (go_at_call 17; refine (rev_any _ _ (by omega) (by omega)).mono ?_; rintro e w' ⟨rfl, rfl⟩) | (go_at_call 24; refine (less_any _ _ _ (by omega) (by omega) (by omega) (by omega)).mono ?_; rintro e w' ⟨rfl, rfl⟩) | (go_at_call 23; refine (word_any _ _).mono ?_; rintro e w' ⟨rfl, rfl⟩))
  all_goals go_ret2
  all_goals exact ⟨ret_pair (rfl) rfl, by first | exact ⟨0, rfl⟩ | exact ⟨_, rfl⟩⟩
set_option maxHeartbeats 1600000 in
set_option maxRecDepth 100000 in
theorem do_none (op a b : Int) (w : World) (h : AM.dk op = false) :
    Calls Try.prog 8 #[.int .i64 op, .int .u32 a, .int .u32 b] w fun e w' => e = .returned (.tuple #[.int .u32 (AM.dv op a b), .bool (AM.dk op)]) ∧ ∃ n, w' = w.drewN n := by
  have g1 := AM.dk_false op h 1 (by decide)
  have g2 := AM.dk_false op h 2 (by decide)
  have g3 := AM.dk_false op h 3 (by decide)
  have g4 := AM.dk_false op h 4 (by decide)
  have g5 := AM.dk_false op h 5 (by decide)
  have g6 := AM.dk_false op h 6 (by decide)
  have g7 := AM.dk_false op h 7 (by decide)
  have g8 := AM.dk_false op h 8 (by decide)
  have g9 := AM.dk_false op h 9 (by decide)
  have g10 := AM.dk_false op h 10 (by decide)
  have g18 := AM.dk_false op h 18 (by decide)
  have g19 := AM.dk_false op h 19 (by decide)
  have g20 := AM.dk_false op h 20 (by decide)
  have g21 := AM.dk_false op h 21 (by decide)
  have g22 := AM.dk_false op h 22 (by decide)
  have g23 := AM.dk_false op h 23 (by decide)
  have g25 := AM.dk_false op h 25 (by decide)
  have g26 := AM.dk_false op h 26 (by decide)
  have g27 := AM.dk_false op h 27 (by decide)
  have g28 := AM.dk_false op h 28 (by decide)
  have g29 := AM.dk_false op h 29 (by decide)
  have g30 := AM.dk_false op h 30 (by decide)
  have g31 := AM.dk_false op h 31 (by decide)
  have g32 := AM.dk_false op h 32 (by decide)
  have g33 := AM.dk_false op h 33 (by decide)
  rw [AM.dv_none op a b h, h]
  clear h
  go_enter Try.func8, Try.ntmps8
  go_wp2
  go_ret2
  exact ⟨rfl, 0, rfl⟩
theorem do_any (op a b : Int) (w : World) (a0 : 0 ≤ a) (a1 : a < 4294967296) (b0 : 0 ≤ b) (b1 : b < 4294967296) :
    Calls Try.prog 8 #[.int .i64 op, .int .u32 a, .int .u32 b] w fun e w' => e = .returned (.tuple #[.int .u32 (AM.dv op a b), .bool (AM.dk op)]) ∧ ∃ n, w' = w.drewN n := by
  cases h : AM.dk op
  · rw [← h]; exact do_none op a b w h
  · rw [← h]
    rcases AM.dk_true op h with rfl | rfl | rfl | rfl | rfl | rfl | rfl | rfl | rfl | rfl | rfl | rfl | rfl | rfl | rfl | rfl | rfl | rfl | rfl | rfl | rfl | rfl | rfl | rfl | rfl
    · exact do_1 a b w a0 a1 b0 b1
    · exact do_2 a b w a0 a1 b0 b1
    · exact do_3 a b w a0 a1 b0 b1
    · exact do_4 a b w a0 a1 b0 b1
    · exact do_5 a b w a0 a1 b0 b1
    · exact do_6 a b w a0 a1 b0 b1
    · exact do_7 a b w a0 a1 b0 b1
    · exact do_8 a b w a0 a1 b0 b1
    · exact do_9 a b w a0 a1 b0 b1
    · exact do_10 a b w a0 a1 b0 b1
    · exact do_18 a b w a0 a1 b0 b1
    · exact do_19 a b w a0 a1 b0 b1
    · exact do_20 a b w a0 a1 b0 b1
    · exact do_21 a b w a0 a1 b0 b1
    · exact do_22 a b w a0 a1 b0 b1
    · exact do_23 a b w a0 a1 b0 b1
    · exact do_25 a b w a0 a1 b0 b1
    · exact do_26 a b w a0 a1 b0 b1
    · exact do_27 a b w a0 a1 b0 b1
    · exact do_28 a b w a0 a1 b0 b1
    · exact do_29 a b w a0 a1 b0 b1
    · exact do_30 a b w a0 a1 b0 b1
    · exact do_31 a b w a0 a1 b0 b1
    · exact do_32 a b w a0 a1 b0 b1
    · exact do_33 a b w a0 a1 b0 b1
set_option maxHeartbeats 800000 in
theorem taken_43 (a b : Int) (w : World) (a0 : 0 ≤ a) (a1 : a < 4294967296) (b0 : 0 ≤ b) (b1 : b < 4294967296) :
    Calls Try.prog 10 #[.int .i64 43, .int .u32 a, .int .u32 b] w fun e w' => e = .returned (.bool (AM.tk 43 a b)) ∧ w = w' := by
  go_enter Try.func10, Try.ntmps10
  go_wp2_with (first | (go_at_call 24; refine (less_any _ _ _ (by omega) (by omega) (by omega) (by omega)).mono ?_; rintro e w' ⟨rfl, rfl⟩))
  all_goals go_ret
  all_goals exact ⟨ret_bool rfl, rfl⟩
set_option maxHeartbeats 800000 in
theorem taken_44 (a b : Int) (w : World) (a0 : 0 ≤ a) (a1 : a < 4294967296) (b0 : 0 ≤ b) (b1 : b < 4294967296) :
    Calls Try.prog 10 #[.int .i64 44, .int .u32 a, .int .u32 b] w fun e w' => e = .returned (.bool (AM.tk 44 a b)) ∧ w = w' := by
  go_enter Try.func10, Try.ntmps10
  go_wp2_with (first | (go_at_call 24; refine (less_any _ _ _ (by omega) (by omega) (by omega) (by omega)).mono ?_; rintro e w' ⟨rfl, rfl⟩))
  all_goals go_ret
  all_goals exact ⟨ret_bool rfl, rfl⟩
set_option maxHeartbeats 800000 in
theorem taken_45 (a b : Int) (w : World) (a0 : 0 ≤ a) (a1 : a < 4294967296) (b0 : 0 ≤ b) (b1 : b < 4294967296) :
    Calls Try.prog 10 #[.int .i64 45, .int .u32 a, .int .u32 b] w fun e w' => e = .returned (.bool (AM.tk 45 a b)) ∧ w = w' := by
  go_enter Try.func10, Try.ntmps10
  go_wp2_with (first | (go_at_call 24; refine (less_any _ _ _ (by omega) (by omega) (by omega) (by omega)).mono ?_; rintro e w' ⟨rfl, rfl⟩))
  all_goals go_ret
  all_goals exact ⟨ret_bool rfl, rfl⟩
set_option maxHeartbeats 800000 in
theorem taken_46 (a b : Int) (w : World) (a0 : 0 ≤ a) (a1 : a < 4294967296) (b0 : 0 ≤ b) (b1 : b < 4294967296) :
    Calls Try.prog 10 #[.int .i64 46, .int .u32 a, .int .u32 b] w fun e w' => e = .returned (.bool (AM.tk 46 a b)) ∧ w = w' := by
  go_enter Try.func10, Try.ntmps10
  go_wp2_with (first | (go_at_call 24; refine (less_any _ _ _ (by omega) (by omega) (by omega) (by omega)).mono ?_; rintro e w' ⟨rfl, rfl⟩))
  all_goals go_ret
  all_goals exact ⟨ret_bool rfl, rfl⟩
set_option maxHeartbeats 800000 in
theorem taken_47 (a b : Int) (w : World) (a0 : 0 ≤ a) (a1 : a < 4294967296) (b0 : 0 ≤ b) (b1 : b < 4294967296) :
    Calls Try.prog 10 #[.int .i64 47, .int .u32 a, .int .u32 b] w fun e w' => e = .returned (.bool (AM.tk 47 a b)) ∧ w = w' := by
  go_enter Try.func10, Try.ntmps10
  go_wp2_with (first | (go_at_call 24; refine (less_any _ _ _ (by omega) (by omega) (by omega) (by omega)).mono ?_; rintro e w' ⟨rfl, rfl⟩))
  all_goals go_ret
  all_goals exact ⟨ret_bool rfl, rfl⟩
set_option maxHeartbeats 800000 in
theorem taken_48 (a b : Int) (w : World) (a0 : 0 ≤ a) (a1 : a < 4294967296) (b0 : 0 ≤ b) (b1 : b < 4294967296) :
    Calls Try.prog 10 #[.int .i64 48, .int .u32 a, .int .u32 b] w fun e w' => e = .returned (.bool (AM.tk 48 a b)) ∧ w = w' := by
  go_enter Try.func10, Try.ntmps10
  go_wp2_with (first | (go_at_call 24; refine (less_any _ _ _ (by omega) (by omega) (by omega) (by omega)).mono ?_; rintro e w' ⟨rfl, rfl⟩))
  all_goals go_ret
  all_goals exact ⟨ret_bool (by show _ = !decide (a < b); by_cases h : a < b <;> simp [h] <;> omega), rfl⟩
theorem tk_none (op a b : Int) (h43 : ¬ op = 43) (h44 : ¬ op = 44) (h45 : ¬ op = 45) (h46 : ¬ op = 46) (h47 : ¬ op = 47) (h48 : ¬ op = 48) : AM.tk op a b = false := by
  unfold AM.tk
  rw [if_neg h43, if_neg h44, if_neg h45, if_neg h46, if_neg h47, if_neg h48]
set_option maxHeartbeats 800000 in
theorem taken_none (op a b : Int) (w : World) (h43 : ¬ op = 43) (h44 : ¬ op = 44) (h45 : ¬ op = 45) (h46 : ¬ op = 46) (h47 : ¬ op = 47) (h48 : ¬ op = 48) :
    Calls Try.prog 10 #[.int .i64 op, .int .u32 a, .int .u32 b] w fun e w' => e = .returned (.bool (AM.tk op a b)) ∧ w = w' := by
  have g43 : (op == 43) = false := by simpa using h43
  have g44 : (op == 44) = false := by simpa using h44
  have g45 : (op == 45) = false := by simpa using h45
  have g46 : (op == 46) = false := by simpa using h46
  have g47 : (op == 47) = false := by simpa using h47
  have g48 : (op == 48) = false := by simpa using h48
  rw [tk_none op a b h43 h44 h45 h46 h47 h48]
  clear h43 h44 h45 h46 h47 h48
  go_enter Try.func10, Try.ntmps10
  go_wp2
  go_ret
  exact ⟨rfl, rfl⟩
theorem taken_any (op a b : Int) (w : World) (a0 : 0 ≤ a) (a1 : a < 4294967296) (b0 : 0 ≤ b) (b1 : b < 4294967296) :
    Calls Try.prog 10 #[.int .i64 op, .int .u32 a, .int .u32 b] w fun e w' => e = .returned (.bool (AM.tk op a b)) ∧ w = w' := by
  by_cases h43 : op = 43
  · rw [h43]; exact taken_43 a b w a0 a1 b0 b1
  by_cases h44 : op = 44
  · rw [h44]; exact taken_44 a b w a0 a1 b0 b1
  by_cases h45 : op = 45
  · rw [h45]; exact taken_45 a b w a0 a1 b0 b1
  by_cases h46 : op = 46
  · rw [h46]; exact taken_46 a b w a0 a1 b0 b1
  by_cases h47 : op = 47
  · rw [h47]; exact taken_47 a b w a0 a1 b0 b1
  by_cases h48 : op = 48
  · rw [h48]; exact taken_48 a b w a0 a1 b0 b1
  exact taken_none op a b w h43 h44 h45 h46 h47 h48
set_option maxHeartbeats 800000 in
theorem ldo_any (op a b : Int) (w : World) (a0 : 0 ≤ a) (a1 : a < 4294967296) (b0 : 0 ≤ b) (b1 : b < 4294967296) :
    Calls Try.prog 21 #[.int .i64 op, .int .u32 a, .int .u32 b] w fun e w' => e = .returned (.int .u32 (AM.dv op a b)) ∧ ∃ n, w' = w.drewN n := by
  go_enter Try.func21, Try.ntmps21
  go_wp2_with (first | (go_at_call 8; refine (do_any _ _ _ _ a0 a1 b0 b1).mono ?_; rintro e w' ⟨rfl, n, rfl⟩))
  go_ret
  exact ⟨rfl, _, rfl⟩
end Go.Proofs.Ytjlgaihihgifbaa
