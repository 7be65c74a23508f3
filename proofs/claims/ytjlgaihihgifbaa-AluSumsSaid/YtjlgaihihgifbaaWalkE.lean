/-
  What the reference's Do and Taken answer, for every number of an operation and every two words; each leaves all that was in memory as it was.
-/
import Derived.Test.YtjlgaihihgifbaaWalkC
import Derived.Test.YtjlgaihihgifbaaWalkD
namespace Go.Proofs.Ytjlgaihihgifbaa
open Go.RowKit S01
theorem rturned_at (x k : Int) (w : World) (hx0 : 0 ≤ x) (hx : x < 4294967296) (h0 : 0 ≤ k) (h1 : k ≤ 31) :
    Calls Try.prog 31 #[.int .u32 x, .int .i64 k] w fun e w' => e = .returned (.int .u32 (BM.rt x k)) ∧ Below w.heap.size w w' := by
  obtain ⟨r, rfl⟩ := Int.eq_ofNat_of_zero_le h0
  exact rturned_any x r w hx0 hx h1
theorem bt_top (a : Int) : BM.bt a 31 = ((a.toNat.testBit 31).toNat : Int) := rfl
set_option maxHeartbeats 1600000 in
set_option maxRecDepth 100000 in
theorem rdo_1 (a b : Int) (w : World) (a0 : 0 ≤ a) (a1 : a < 4294967296) (b0 : 0 ≤ b) (b1 : b < 4294967296) :
    Calls Try.prog 9 #[.int .i64 1, .int .u32 a, .int .u32 b] w fun e w' => e = .returned (.tuple #[.int .u32 (AM.dv 1 a b), .bool (AM.dk 1)]) ∧ Below w.heap.size w w' := by
  have s0 : 0 ≤ b % 32 := by omega
  have s1 : b % 32 ≤ 31 := by omega
  go_enter Try.func9, Try.ntmps9
  go_wp2
  all_goals go_ret2
  all_goals exact ⟨ret_pair (rfl) rfl, by first | exact Below.refl _ _ | exact HB.out⟩
set_option maxHeartbeats 1600000 in
set_option maxRecDepth 100000 in
theorem rdo_2 (a b : Int) (w : World) (a0 : 0 ≤ a) (a1 : a < 4294967296) (b0 : 0 ≤ b) (b1 : b < 4294967296) :
    Calls Try.prog 9 #[.int .i64 2, .int .u32 a, .int .u32 b] w fun e w' => e = .returned (.tuple #[.int .u32 (AM.dv 2 a b), .bool (AM.dk 2)]) ∧ Below w.heap.size w w' := by
  have s0 : 0 ≤ b % 32 := by omega
  have s1 : b % 32 ≤ 31 := by omega
  go_enter Try.func9, Try.ntmps9
  go_wp2
  all_goals go_ret2
  all_goals exact ⟨ret_pair (rfl) rfl, by first | exact Below.refl _ _ | exact HB.out⟩
set_option maxHeartbeats 1600000 in
set_option maxRecDepth 100000 in
theorem rdo_3 (a b : Int) (w : World) (a0 : 0 ≤ a) (a1 : a < 4294967296) (b0 : 0 ≤ b) (b1 : b < 4294967296) :
    Calls Try.prog 9 #[.int .i64 3, .int .u32 a, .int .u32 b] w fun e w' => e = .returned (.tuple #[.int .u32 (AM.dv 3 a b), .bool (AM.dk 3)]) ∧ Below w.heap.size w w' := by
  have s0 : 0 ≤ b % 32 := by omega
  have s1 : b % 32 ≤ 31 := by omega
  go_enter Try.func9, Try.ntmps9
  go_wp2_with (go_at_call 26; refine (rlogic_any _ _ _ _ _ a0 a1 b0 b1).mono ?_; rintro e w' ⟨rfl, hB⟩; have HB := Lib.hid hB; clear hB)
  all_goals go_ret2
  all_goals exact ⟨ret_pair (AM.lg_an a b) rfl, by first | exact Below.refl _ _ | exact HB.out⟩
set_option maxHeartbeats 1600000 in
set_option maxRecDepth 100000 in
theorem rdo_4 (a b : Int) (w : World) (a0 : 0 ≤ a) (a1 : a < 4294967296) (b0 : 0 ≤ b) (b1 : b < 4294967296) :
    Calls Try.prog 9 #[.int .i64 4, .int .u32 a, .int .u32 b] w fun e w' => e = .returned (.tuple #[.int .u32 (AM.dv 4 a b), .bool (AM.dk 4)]) ∧ Below w.heap.size w w' := by
  have s0 : 0 ≤ b % 32 := by omega
  have s1 : b % 32 ≤ 31 := by omega
  go_enter Try.func9, Try.ntmps9
  go_wp2_with (go_at_call 26; refine (rlogic_any _ _ _ _ _ a0 a1 b0 b1).mono ?_; rintro e w' ⟨rfl, hB⟩; have HB := Lib.hid hB; clear hB)
  all_goals go_ret2
  all_goals exact ⟨ret_pair (AM.lg_ow a b) rfl, by first | exact Below.refl _ _ | exact HB.out⟩
set_option maxHeartbeats 1600000 in
set_option maxRecDepth 100000 in
theorem rdo_5 (a b : Int) (w : World) (a0 : 0 ≤ a) (a1 : a < 4294967296) (b0 : 0 ≤ b) (b1 : b < 4294967296) :
    Calls Try.prog 9 #[.int .i64 5, .int .u32 a, .int .u32 b] w fun e w' => e = .returned (.tuple #[.int .u32 (AM.dv 5 a b), .bool (AM.dk 5)]) ∧ Below w.heap.size w w' := by
  have s0 : 0 ≤ b % 32 := by omega
  have s1 : b % 32 ≤ 31 := by omega
  go_enter Try.func9, Try.ntmps9
  go_wp2_with (go_at_call 26; refine (rlogic_any _ _ _ _ _ a0 a1 b0 b1).mono ?_; rintro e w' ⟨rfl, hB⟩; have HB := Lib.hid hB; clear hB)
  all_goals go_ret2
  all_goals exact ⟨ret_pair (AM.lg_xo a b) rfl, by first | exact Below.refl _ _ | exact HB.out⟩
set_option maxHeartbeats 1600000 in
set_option maxRecDepth 100000 in
theorem rdo_6 (a b : Int) (w : World) (a0 : 0 ≤ a) (a1 : a < 4294967296) (b0 : 0 ≤ b) (b1 : b < 4294967296) :
    Calls Try.prog 9 #[.int .i64 6, .int .u32 a, .int .u32 b] w fun e w' => e = .returned (.tuple #[.int .u32 (AM.dv 6 a b), .bool (AM.dk 6)]) ∧ Below w.heap.size w w' := by
  have s0 : 0 ≤ b % 32 := by omega
  have s1 : b % 32 ≤ 31 := by omega
  go_enter Try.func9, Try.ntmps9
  go_wp2_with (go_at_call 27; refine (rmoved_any _ _ _ false _ a0 a1 (by omega) (by omega) rfl).mono ?_; rintro e w' ⟨rfl, hB⟩; have HB := Lib.hid hB; clear hB)
  all_goals go_ret2
  all_goals exact ⟨ret_pair (rfl) rfl, by first | exact Below.refl _ _ | exact HB.out⟩
set_option maxHeartbeats 1600000 in
set_option maxRecDepth 100000 in
theorem rdo_7 (a b : Int) (w : World) (a0 : 0 ≤ a) (a1 : a < 4294967296) (b0 : 0 ≤ b) (b1 : b < 4294967296) :
    Calls Try.prog 9 #[.int .i64 7, .int .u32 a, .int .u32 b] w fun e w' => e = .returned (.tuple #[.int .u32 (AM.dv 7 a b), .bool (AM.dk 7)]) ∧ Below w.heap.size w w' := by
  have s0 : 0 ≤ b % 32 := by omega
  have s1 : b % 32 ≤ 31 := by omega
  go_enter Try.func9, Try.ntmps9
  go_wp2_with (go_at_call 27; refine (rmoved_any _ _ _ false _ a0 a1 (by omega) (by omega) rfl).mono ?_; rintro e w' ⟨rfl, hB⟩; have HB := Lib.hid hB; clear hB)
  all_goals go_ret2
  all_goals exact ⟨ret_pair (rfl) rfl, by first | exact Below.refl _ _ | exact HB.out⟩
set_option maxHeartbeats 1600000 in
set_option maxRecDepth 100000 in
theorem rdo_8 (a b : Int) (w : World) (a0 : 0 ≤ a) (a1 : a < 4294967296) (b0 : 0 ≤ b) (b1 : b < 4294967296) :
    Calls Try.prog 9 #[.int .i64 8, .int .u32 a, .int .u32 b] w fun e w' => e = .returned (.tuple #[.int .u32 (AM.dv 8 a b), .bool (AM.dk 8)]) ∧ Below w.heap.size w w' := by
  have s0 : 0 ≤ b % 32 := by omega
  have s1 : b % 32 ≤ 31 := by omega
  go_enter Try.func9, Try.ntmps9
  go_wp2_with (first | (go_at_call 28; refine (bit_any _ _ _ a0 a1 (by omega) (by omega)).mono ?_; rintro e w' ⟨rfl, rfl⟩) | (go_at_call 27; refine (rmoved_any _ _ _ (a.toNat.testBit 31) _ a0 a1 (by omega) (by omega) (bt_top a)).mono ?_; rintro e w' ⟨rfl, hB⟩; have HB := Lib.hid hB; clear hB))
  all_goals go_ret2
  all_goals exact ⟨ret_pair (rfl) rfl, by first | exact Below.refl _ _ | exact HB.out⟩
set_option maxHeartbeats 1600000 in
set_option maxRecDepth 100000 in
theorem rdo_9 (a b : Int) (w : World) (a0 : 0 ≤ a) (a1 : a < 4294967296) (b0 : 0 ≤ b) (b1 : b < 4294967296) :
    Calls Try.prog 9 #[.int .i64 9, .int .u32 a, .int .u32 b] w fun e w' => e = .returned (.tuple #[.int .u32 (AM.dv 9 a b), .bool (AM.dk 9)]) ∧ Below w.heap.size w w' := by
  have s0 : 0 ≤ b % 32 := by omega
  have s1 : b % 32 ≤ 31 := by omega
  go_enter Try.func9, Try.ntmps9
  go_wp2_with (first | (go_at_call 30; refine (signed_any _ _ (by omega) (by omega)).mono ?_; rintro e w' ⟨rfl, rfl⟩) | (go_at_call 29; refine (one_any _ _).mono ?_; rintro e w' ⟨rfl, rfl⟩))
  all_goals go_ret2
  all_goals exact ⟨ret_pair (rfl) rfl, by first | exact Below.refl _ _ | exact HB.out⟩
set_option maxHeartbeats 1600000 in
set_option maxRecDepth 100000 in
theorem rdo_10 (a b : Int) (w : World) (a0 : 0 ≤ a) (a1 : a < 4294967296) (b0 : 0 ≤ b) (b1 : b < 4294967296) :
    Calls Try.prog 9 #[.int .i64 10, .int .u32 a, .int .u32 b] w fun e w' => e = .returned (.tuple #[.int .u32 (AM.dv 10 a b), .bool (AM.dk 10)]) ∧ Below w.heap.size w w' := by
  have s0 : 0 ≤ b % 32 := by omega
  have s1 : b % 32 ≤ 31 := by omega
  go_enter Try.func9, Try.ntmps9
  go_wp2_with (first | (go_at_call 30; refine (signed_any _ _ (by omega) (by omega)).mono ?_; rintro e w' ⟨rfl, rfl⟩) | (go_at_call 29; refine (one_any _ _).mono ?_; rintro e w' ⟨rfl, rfl⟩))
  all_goals go_ret2
  all_goals exact ⟨ret_pair (rfl) rfl, by first | exact Below.refl _ _ | exact HB.out⟩
set_option maxHeartbeats 1600000 in
set_option maxRecDepth 100000 in
theorem rdo_18 (a b : Int) (w : World) (a0 : 0 ≤ a) (a1 : a < 4294967296) (b0 : 0 ≤ b) (b1 : b < 4294967296) :
    Calls Try.prog 9 #[.int .i64 18, .int .u32 a, .int .u32 b] w fun e w' => e = .returned (.tuple #[.int .u32 (AM.dv 18 a b), .bool (AM.dk 18)]) ∧ Below w.heap.size w w' := by
  have s0 : 0 ≤ b % 32 := by omega
  have s1 : b % 32 ≤ 31 := by omega
  go_enter Try.func9, Try.ntmps9
  go_wp2_with (first | (go_at_call 30; refine (signed_any _ _ (by omega) (by omega)).mono ?_; rintro e w' ⟨rfl, rfl⟩) | (go_at_call 29; refine (one_any _ _).mono ?_; rintro e w' ⟨rfl, rfl⟩))
  all_goals go_ret2
  all_goals exact ⟨ret_pair (by show _ = (if AM.sv b < AM.sv a then b else a); split <;> omega) rfl, by first | exact Below.refl _ _ | exact HB.out⟩
set_option maxHeartbeats 1600000 in
set_option maxRecDepth 100000 in
theorem rdo_19 (a b : Int) (w : World) (a0 : 0 ≤ a) (a1 : a < 4294967296) (b0 : 0 ≤ b) (b1 : b < 4294967296) :
    Calls Try.prog 9 #[.int .i64 19, .int .u32 a, .int .u32 b] w fun e w' => e = .returned (.tuple #[.int .u32 (AM.dv 19 a b), .bool (AM.dk 19)]) ∧ Below w.heap.size w w' := by
  have s0 : 0 ≤ b % 32 := by omega
  have s1 : b % 32 ≤ 31 := by omega
  go_enter Try.func9, Try.ntmps9
  go_wp2_with (first | (go_at_call 30; refine (signed_any _ _ (by omega) (by omega)).mono ?_; rintro e w' ⟨rfl, rfl⟩) | (go_at_call 29; refine (one_any _ _).mono ?_; rintro e w' ⟨rfl, rfl⟩))
  all_goals go_ret2
  all_goals exact ⟨ret_pair (by show _ = (if AM.sv a < AM.sv b then b else a); split <;> omega) rfl, by first | exact Below.refl _ _ | exact HB.out⟩
set_option maxHeartbeats 1600000 in
set_option maxRecDepth 100000 in
theorem rdo_20 (a b : Int) (w : World) (a0 : 0 ≤ a) (a1 : a < 4294967296) (b0 : 0 ≤ b) (b1 : b < 4294967296) :
    Calls Try.prog 9 #[.int .i64 20, .int .u32 a, .int .u32 b] w fun e w' => e = .returned (.tuple #[.int .u32 (AM.dv 20 a b), .bool (AM.dk 20)]) ∧ Below w.heap.size w w' := by
  have s0 : 0 ≤ b % 32 := by omega
  have s1 : b % 32 ≤ 31 := by omega
  go_enter Try.func9, Try.ntmps9
  go_wp2_with (go_at_call 31; refine (rturned_at _ _ _ a0 a1 (by omega) (by omega)).mono ?_; rintro e w' ⟨rfl, hB⟩; have HB := Lib.hid hB; clear hB)
  all_goals go_ret2
  all_goals exact ⟨ret_pair (rfl) rfl, by first | exact Below.refl _ _ | exact HB.out⟩
set_option maxHeartbeats 1600000 in
set_option maxRecDepth 100000 in
theorem rdo_21 (a b : Int) (w : World) (a0 : 0 ≤ a) (a1 : a < 4294967296) (b0 : 0 ≤ b) (b1 : b < 4294967296) :
    Calls Try.prog 9 #[.int .i64 21, .int .u32 a, .int .u32 b] w fun e w' => e = .returned (.tuple #[.int .u32 (AM.dv 21 a b), .bool (AM.dk 21)]) ∧ Below w.heap.size w w' := by
  have s0 : 0 ≤ b % 32 := by omega
  have s1 : b % 32 ≤ 31 := by omega
  go_enter Try.func9, Try.ntmps9
  go_wp2_with (go_at_call 14; refine (rclz_any _ _ a0 a1).mono ?_; rintro e w' ⟨rfl, rfl⟩)
  all_goals go_ret2
  all_goals exact ⟨ret_pair (by have := AM.cz_bd a a1; show _ = AM.cz a; omega) rfl, by first | exact Below.refl _ _ | exact HB.out⟩
set_option maxHeartbeats 1600000 in
set_option maxRecDepth 100000 in
theorem rdo_22 (a b : Int) (w : World) (a0 : 0 ≤ a) (a1 : a < 4294967296) (b0 : 0 ≤ b) (b1 : b < 4294967296) :
    Calls Try.prog 9 #[.int .i64 22, .int .u32 a, .int .u32 b] w fun e w' => e = .returned (.tuple #[.int .u32 (AM.dv 22 a b), .bool (AM.dk 22)]) ∧ Below w.heap.size w w' := by
  have s0 : 0 ≤ b % 32 := by omega
  have s1 : b % 32 ≤ 31 := by omega
  go_enter Try.func9, Try.ntmps9
  go_wp2_with (go_at_call 16; refine (rpop_any _ _ a0 a1).mono ?_; rintro e w' ⟨rfl, rfl⟩)
  all_goals go_ret2
  all_goals exact ⟨ret_pair (by have := AM.pc_bd a; show _ = AM.pc a; omega) rfl, by first | exact Below.refl _ _ | exact HB.out⟩
set_option maxHeartbeats 1600000 in
set_option maxRecDepth 100000 in
theorem rdo_23 (a b : Int) (w : World) (a0 : 0 ≤ a) (a1 : a < 4294967296) (b0 : 0 ≤ b) (b1 : b < 4294967296) :
    Calls Try.prog 9 #[.int .i64 23, .int .u32 a, .int .u32 b] w fun e w' => e = .returned (.tuple #[.int .u32 (AM.dv 23 a b), .bool (AM.dk 23)]) ∧ Below w.heap.size w w' := by
  have s0 : 0 ≤ b % 32 := by omega
  have s1 : b % 32 ≤ 31 := by omega
  go_enter Try.func9, Try.ntmps9
  go_wp2_with (go_at_call 18; refine (rrev_any _ _ a0 a1).mono ?_; rintro e w' ⟨rfl, rfl⟩)
  all_goals go_ret2
  all_goals exact ⟨ret_pair (rfl) rfl, by first | exact Below.refl _ _ | exact HB.out⟩
set_option maxHeartbeats 1600000 in
set_option maxRecDepth 100000 in
theorem rdo_25 (a b : Int) (w : World) (a0 : 0 ≤ a) (a1 : a < 4294967296) (b0 : 0 ≤ b) (b1 : b < 4294967296) :
    Calls Try.prog 9 #[.int .i64 25, .int .u32 a, .int .u32 b] w fun e w' => e = .returned (.tuple #[.int .u32 (AM.dv 25 a b), .bool (AM.dk 25)]) ∧ Below w.heap.size w w' := by
  have s0 : 0 ≤ b % 32 := by omega
  have s1 : b % 32 ≤ 31 := by omega
  go_enter Try.func9, Try.ntmps9
  go_wp2
  all_goals go_ret2
  all_goals exact ⟨ret_pair (rfl) rfl, by first | exact Below.refl _ _ | exact HB.out⟩
set_option maxHeartbeats 1600000 in
set_option maxRecDepth 100000 in
theorem rdo_26 (a b : Int) (w : World) (a0 : 0 ≤ a) (a1 : a < 4294967296) (b0 : 0 ≤ b) (b1 : b < 4294967296) :
    Calls Try.prog 9 #[.int .i64 26, .int .u32 a, .int .u32 b] w fun e w' => e = .returned (.tuple #[.int .u32 (AM.dv 26 a b), .bool (AM.dk 26)]) ∧ Below w.heap.size w w' := by
  have s0 : 0 ≤ b % 32 := by omega
  have s1 : b % 32 ≤ 31 := by omega
  go_enter Try.func9, Try.ntmps9
  go_wp2_with (go_at_call 26; refine (rlogic_any _ _ _ _ _ a0 a1 b0 b1).mono ?_; rintro e w' ⟨rfl, hB⟩; have HB := Lib.hid hB; clear hB)
  all_goals go_ret2
  all_goals exact ⟨ret_pair (AM.lg_an a b) rfl, by first | exact Below.refl _ _ | exact HB.out⟩
set_option maxHeartbeats 1600000 in
set_option maxRecDepth 100000 in
theorem rdo_27 (a b : Int) (w : World) (a0 : 0 ≤ a) (a1 : a < 4294967296) (b0 : 0 ≤ b) (b1 : b < 4294967296) :
    Calls Try.prog 9 #[.int .i64 27, .int .u32 a, .int .u32 b] w fun e w' => e = .returned (.tuple #[.int .u32 (AM.dv 27 a b), .bool (AM.dk 27)]) ∧ Below w.heap.size w w' := by
  have s0 : 0 ≤ b % 32 := by omega
  have s1 : b % 32 ≤ 31 := by omega
  go_enter Try.func9, Try.ntmps9
  go_wp2_with (go_at_call 26; refine (rlogic_any _ _ _ _ _ a0 a1 b0 b1).mono ?_; rintro e w' ⟨rfl, hB⟩; have HB := Lib.hid hB; clear hB)
  all_goals go_ret2
  all_goals exact ⟨ret_pair (AM.lg_ow a b) rfl, by first | exact Below.refl _ _ | exact HB.out⟩
set_option maxHeartbeats 1600000 in
set_option maxRecDepth 100000 in
theorem rdo_28 (a b : Int) (w : World) (a0 : 0 ≤ a) (a1 : a < 4294967296) (b0 : 0 ≤ b) (b1 : b < 4294967296) :
    Calls Try.prog 9 #[.int .i64 28, .int .u32 a, .int .u32 b] w fun e w' => e = .returned (.tuple #[.int .u32 (AM.dv 28 a b), .bool (AM.dk 28)]) ∧ Below w.heap.size w w' := by
  have s0 : 0 ≤ b % 32 := by omega
  have s1 : b % 32 ≤ 31 := by omega
  go_enter Try.func9, Try.ntmps9
  go_wp2_with (go_at_call 26; refine (rlogic_any _ _ _ _ _ a0 a1 b0 b1).mono ?_; rintro e w' ⟨rfl, hB⟩; have HB := Lib.hid hB; clear hB)
  all_goals go_ret2
  all_goals exact ⟨ret_pair (AM.lg_xo a b) rfl, by first | exact Below.refl _ _ | exact HB.out⟩
set_option maxHeartbeats 1600000 in
set_option maxRecDepth 100000 in
theorem rdo_29 (a b : Int) (w : World) (a0 : 0 ≤ a) (a1 : a < 4294967296) (b0 : 0 ≤ b) (b1 : b < 4294967296) :
    Calls Try.prog 9 #[.int .i64 29, .int .u32 a, .int .u32 b] w fun e w' => e = .returned (.tuple #[.int .u32 (AM.dv 29 a b), .bool (AM.dk 29)]) ∧ Below w.heap.size w w' := by
  have s0 : 0 ≤ b % 32 := by omega
  have s1 : b % 32 ≤ 31 := by omega
  go_enter Try.func9, Try.ntmps9
  go_wp2_with (first | (go_at_call 30; refine (signed_any _ _ (by omega) (by omega)).mono ?_; rintro e w' ⟨rfl, rfl⟩) | (go_at_call 29; refine (one_any _ _).mono ?_; rintro e w' ⟨rfl, rfl⟩))
  all_goals go_ret2
  all_goals exact ⟨ret_pair (rfl) rfl, by first | exact Below.refl _ _ | exact HB.out⟩
set_option maxHeartbeats 1600000 in
set_option maxRecDepth 100000 in
theorem rdo_30 (a b : Int) (w : World) (a0 : 0 ≤ a) (a1 : a < 4294967296) (b0 : 0 ≤ b) (b1 : b < 4294967296) :
    Calls Try.prog 9 #[.int .i64 30, .int .u32 a, .int .u32 b] w fun e w' => e = .returned (.tuple #[.int .u32 (AM.dv 30 a b), .bool (AM.dk 30)]) ∧ Below w.heap.size w w' := by
  have s0 : 0 ≤ b % 32 := by omega
  have s1 : b % 32 ≤ 31 := by omega
  go_enter Try.func9, Try.ntmps9
  go_wp2_with (go_at_call 27; refine (rmoved_any _ _ _ false _ a0 a1 (by omega) (by omega) rfl).mono ?_; rintro e w' ⟨rfl, hB⟩; have HB := Lib.hid hB; clear hB)
  all_goals go_ret2
  all_goals exact ⟨ret_pair (rfl) rfl, by first | exact Below.refl _ _ | exact HB.out⟩
set_option maxHeartbeats 1600000 in
set_option maxRecDepth 100000 in
theorem rdo_31 (a b : Int) (w : World) (a0 : 0 ≤ a) (a1 : a < 4294967296) (b0 : 0 ≤ b) (b1 : b < 4294967296) :
    Calls Try.prog 9 #[.int .i64 31, .int .u32 a, .int .u32 b] w fun e w' => e = .returned (.tuple #[.int .u32 (AM.dv 31 a b), .bool (AM.dk 31)]) ∧ Below w.heap.size w w' := by
  have s0 : 0 ≤ b % 32 := by omega
  have s1 : b % 32 ≤ 31 := by omega
  go_enter Try.func9, Try.ntmps9
  go_wp2_with (go_at_call 27; refine (rmoved_any _ _ _ false _ a0 a1 (by omega) (by omega) rfl).mono ?_; rintro e w' ⟨rfl, hB⟩; have HB := Lib.hid hB; clear hB)
  all_goals go_ret2
  all_goals exact ⟨ret_pair (rfl) rfl, by first | exact Below.refl _ _ | exact HB.out⟩
set_option maxHeartbeats 1600000 in
set_option maxRecDepth 100000 in
theorem rdo_32 (a b : Int) (w : World) (a0 : 0 ≤ a) (a1 : a < 4294967296) (b0 : 0 ≤ b) (b1 : b < 4294967296) :
    Calls Try.prog 9 #[.int .i64 32, .int .u32 a, .int .u32 b] w fun e w' => e = .returned (.tuple #[.int .u32 (AM.dv 32 a b), .bool (AM.dk 32)]) ∧ Below w.heap.size w w' := by
  have s0 : 0 ≤ b % 32 := by omega
  have s1 : b % 32 ≤ 31 := by omega
  go_enter Try.func9, Try.ntmps9
  go_wp2_with (first | (go_at_call 28; refine (bit_any _ _ _ a0 a1 (by omega) (by omega)).mono ?_; rintro e w' ⟨rfl, rfl⟩) | (go_at_call 27; refine (rmoved_any _ _ _ (a.toNat.testBit 31) _ a0 a1 (by omega) (by omega) (bt_top a)).mono ?_; rintro e w' ⟨rfl, hB⟩; have HB := Lib.hid hB; clear hB))
  all_goals go_ret2
  all_goals exact ⟨ret_pair (rfl) rfl, by first | exact Below.refl _ _ | exact HB.out⟩
set_option maxHeartbeats 1600000 in
set_option maxRecDepth 100000 in
theorem rdo_33 (a b : Int) (w : World) (a0 : 0 ≤ a) (a1 : a < 4294967296) (b0 : 0 ≤ b) (b1 : b < 4294967296) :
    Calls Try.prog 9 #[.int .i64 33, .int .u32 a, .int .u32 b] w fun e w' => e = .returned (.tuple #[.int .u32 (AM.dv 33 a b), .bool (AM.dk 33)]) ∧ Below w.heap.size w w' := by
  have s0 : 0 ≤ b % 32 := by omega
  have s1 : b % 32 ≤ 31 := by omega
  go_enter Try.func9, Try.ntmps9
  go_wp2
  all_goals go_ret2
  all_goals exact ⟨ret_pair (rfl) rfl, by first | exact Below.refl _ _ | exact HB.out⟩
set_option maxHeartbeats 1600000 in
set_option maxRecDepth 100000 in
theorem rdo_none (op a b : Int) (w : World) (h : AM.dk op = false) :
    Calls Try.prog 9 #[.int .i64 op, .int .u32 a, .int .u32 b] w fun e w' => e = .returned (.tuple #[.int .u32 (AM.dv op a b), .bool (AM.dk op)]) ∧ Below w.heap.size w w' := by
  have g1 := AM.dk_false op h 1 (by decide)
  have g2 := AM.dk_false op h 2 (by decide)
  have g3 := AM.dk_false op h 3 (by decide)
  have g4 := AM.dk_false op h 4 (by decide)
  have g5 := AM.dk_false op h 5 (by decide)
  have g6 := AM.dk_false op h 6 (by decide)
  have g7 := AM.dk_false op h 7 (by decide)
  have g8 := AM.dk_false op h 8 (by decide)
  have g9 := AM.dk_false op h 9 (by decide)
  have g10 := AM.dk_false op h 10 (by decide)
  have g18 := AM.dk_false op h 18 (by decide)
  have g19 := AM.dk_false op h 19 (by decide)
  have g20 := AM.dk_false op h 20 (by decide)
  have g21 := AM.dk_false op h 21 (by decide)
  have g22 := AM.dk_false op h 22 (by decide)
  have g23 := AM.dk_false op h 23 (by decide)
  have g25 := AM.dk_false op h 25 (by decide)
  have g26 := AM.dk_false op h 26 (by decide)
  have g27 := AM.dk_false op h 27 (by decide)
  have g28 := AM.dk_false op h 28 (by decide)
  have g29 := AM.dk_false op h 29 (by decide)
  have g30 := AM.dk_false op h 30 (by decide)
  have g31 := AM.dk_false op h 31 (by decide)
  have g32 := AM.dk_false op h 32 (by decide)
  have g33 := AM.dk_false op h 33 (by decide)
  rw [AM.dv_none op a b h, h]
  clear h
  go_enter Try.func9, Try.ntmps9
  go_wp2
  go_ret2
  exact ⟨rfl, Below.refl _ _⟩
theorem rdo_any (op a b : Int) (w : World) (a0 : 0 ≤ a) (a1 : a < 4294967296) (b0 : 0 ≤ b) (b1 : b < 4294967296) :
    Calls Try.prog 9 #[.int .i64 op, .int .u32 a, .int .u32 b] w fun e w' => e = .returned (.tuple #[.int .u32 (AM.dv op a b), .bool (AM.dk op)]) ∧ Below w.heap.size w w' := by
  cases h : AM.dk op
  · rw [← h]; exact rdo_none op a b w h
  · rw [← h]
    rcases AM.dk_true op h with rfl | rfl | rfl | rfl | rfl | rfl | rfl | rfl | rfl | rfl | rfl | rfl | rfl | rfl | rfl | rfl | rfl | rfl | rfl | rfl | rfl | rfl | rfl | rfl | rfl
    · exact rdo_1 a b w a0 a1 b0 b1
    · exact rdo_2 a b w a0 a1 b0 b1
    · exact rdo_3 a b w a0 a1 b0 b1
    · exact rdo_4 a b w a0 a1 b0 b1
    · exact rdo_5 a b w a0 a1 b0 b1
    · exact rdo_6 a b w a0 a1 b0 b1
    · exact rdo_7 a b w a0 a1 b0 b1
    · exact rdo_8 a b w a0 a1 b0 b1
    · exact rdo_9 a b w a0 a1 b0 b1
    · exact rdo_10 a b w a0 a1 b0 b1
    · exact rdo_18 a b w a0 a1 b0 b1
    · exact rdo_19 a b w a0 a1 b0 b1
    · exact rdo_20 a b w a0 a1 b0 b1
    · exact rdo_21 a b w a0 a1 b0 b1
    · exact rdo_22 a b w a0 a1 b0 b1
    · exact rdo_23 a b w a0 a1 b0 b1
    · exact rdo_25 a b w a0 a1 b0 b1
    · exact rdo_26 a b w a0 a1 b0 b1
    · exact rdo_27 a b w a0 a1 b0 b1
    · exact rdo_28 a b w a0 a1 b0 b1
    · exact rdo_29 a b w a0 a1 b0 b1
    · exact rdo_30 a b w a0 a1 b0 b1
    · exact rdo_31 a b w a0 a1 b0 b1
    · exact rdo_32 a b w a0 a1 b0 b1
    · exact rdo_33 a b w a0 a1 b0 b1
set_option maxHeartbeats 800000 in
theorem rtaken_43 (a b : Int) (w : World) (a0 : 0 ≤ a) (a1 : a < 4294967296) (b0 : 0 ≤ b) (b1 : b < 4294967296) :
    Calls Try.prog 11 #[.int .i64 43, .int .u32 a, .int .u32 b] w fun e w' => e = .returned (.bool (AM.tk 43 a b)) ∧ w = w' := by
  go_enter Try.func11, Try.ntmps11
  go_wp2_with (first | (go_at_call 30; refine (signed_any _ _ (by omega) (by omega)).mono ?_; rintro e w' ⟨rfl, rfl⟩))
  all_goals go_ret
  all_goals exact ⟨ret_bool rfl, rfl⟩
set_option maxHeartbeats 800000 in
theorem rtaken_44 (a b : Int) (w : World) (a0 : 0 ≤ a) (a1 : a < 4294967296) (b0 : 0 ≤ b) (b1 : b < 4294967296) :
    Calls Try.prog 11 #[.int .i64 44, .int .u32 a, .int .u32 b] w fun e w' => e = .returned (.bool (AM.tk 44 a b)) ∧ w = w' := by
  go_enter Try.func11, Try.ntmps11
  go_wp2_with (first | (go_at_call 30; refine (signed_any _ _ (by omega) (by omega)).mono ?_; rintro e w' ⟨rfl, rfl⟩))
  all_goals go_ret
  all_goals exact ⟨ret_bool rfl, rfl⟩
set_option maxHeartbeats 800000 in
theorem rtaken_45 (a b : Int) (w : World) (a0 : 0 ≤ a) (a1 : a < 4294967296) (b0 : 0 ≤ b) (b1 : b < 4294967296) :
    Calls Try.prog 11 #[.int .i64 45, .int .u32 a, .int .u32 b] w fun e w' => e = .returned (.bool (AM.tk 45 a b)) ∧ w = w' := by
  go_enter Try.func11, Try.ntmps11
  go_wp2_with (first | (go_at_call 30; refine (signed_any _ _ (by omega) (by omega)).mono ?_; rintro e w' ⟨rfl, rfl⟩))
  all_goals go_ret
  all_goals exact ⟨ret_bool rfl, rfl⟩
set_option maxHeartbeats 800000 in
theorem rtaken_46 (a b : Int) (w : World) (a0 : 0 ≤ a) (a1 : a < 4294967296) (b0 : 0 ≤ b) (b1 : b < 4294967296) :
    Calls Try.prog 11 #[.int .i64 46, .int .u32 a, .int .u32 b] w fun e w' => e = .returned (.bool (AM.tk 46 a b)) ∧ w = w' := by
  go_enter Try.func11, Try.ntmps11
  go_wp2_with (first | (go_at_call 30; refine (signed_any _ _ (by omega) (by omega)).mono ?_; rintro e w' ⟨rfl, rfl⟩))
  all_goals go_ret
  all_goals exact ⟨ret_bool (by show _ = !decide (AM.sv a < AM.sv b); by_cases h : AM.sv a < AM.sv b <;> simp [h] <;> omega), rfl⟩
set_option maxHeartbeats 800000 in
theorem rtaken_47 (a b : Int) (w : World) (a0 : 0 ≤ a) (a1 : a < 4294967296) (b0 : 0 ≤ b) (b1 : b < 4294967296) :
    Calls Try.prog 11 #[.int .i64 47, .int .u32 a, .int .u32 b] w fun e w' => e = .returned (.bool (AM.tk 47 a b)) ∧ w = w' := by
  go_enter Try.func11, Try.ntmps11
  go_wp2_with (first | (go_at_call 30; refine (signed_any _ _ (by omega) (by omega)).mono ?_; rintro e w' ⟨rfl, rfl⟩))
  all_goals go_ret
  all_goals exact ⟨ret_bool rfl, rfl⟩
set_option maxHeartbeats 800000 in
theorem rtaken_48 (a b : Int) (w : World) (a0 : 0 ≤ a) (a1 : a < 4294967296) (b0 : 0 ≤ b) (b1 : b < 4294967296) :
    Calls Try.prog 11 #[.int .i64 48, .int .u32 a, .int .u32 b] w fun e w' => e = .returned (.bool (AM.tk 48 a b)) ∧ w = w' := by
  go_enter Try.func11, Try.ntmps11
  go_wp2_with (first | (go_at_call 30; refine (signed_any _ _ (by omega) (by omega)).mono ?_; rintro e w' ⟨rfl, rfl⟩))
  all_goals go_ret
  all_goals exact ⟨ret_bool (by show _ = !decide (a < b); by_cases h : a < b <;> simp [h] <;> omega), rfl⟩
set_option maxHeartbeats 800000 in
theorem rtaken_none (op a b : Int) (w : World) (h43 : ¬ op = 43) (h44 : ¬ op = 44) (h45 : ¬ op = 45) (h46 : ¬ op = 46) (h47 : ¬ op = 47) (h48 : ¬ op = 48) :
    Calls Try.prog 11 #[.int .i64 op, .int .u32 a, .int .u32 b] w fun e w' => e = .returned (.bool (AM.tk op a b)) ∧ w = w' := by
  have g43 : (op == 43) = false := by simpa using h43
  have g44 : (op == 44) = false := by simpa using h44
  have g45 : (op == 45) = false := by simpa using h45
  have g46 : (op == 46) = false := by simpa using h46
  have g47 : (op == 47) = false := by simpa using h47
  have g48 : (op == 48) = false := by simpa using h48
  rw [tk_none op a b h43 h44 h45 h46 h47 h48]
  clear h43 h44 h45 h46 h47 h48
  go_enter Try.func11, Try.ntmps11
  go_wp2
  go_ret
  exact ⟨rfl, rfl⟩
theorem rtaken_any (op a b : Int) (w : World) (a0 : 0 ≤ a) (a1 : a < 4294967296) (b0 : 0 ≤ b) (b1 : b < 4294967296) :
    Calls Try.prog 11 #[.int .i64 op, .int .u32 a, .int .u32 b] w fun e w' => e = .returned (.bool (AM.tk op a b)) ∧ w = w' := by
  by_cases h43 : op = 43
  · rw [h43]; exact rtaken_43 a b w a0 a1 b0 b1
  by_cases h44 : op = 44
  · rw [h44]; exact rtaken_44 a b w a0 a1 b0 b1
  by_cases h45 : op = 45
  · rw [h45]; exact rtaken_45 a b w a0 a1 b0 b1
  by_cases h46 : op = 46
  · rw [h46]; exact rtaken_46 a b w a0 a1 b0 b1
  by_cases h47 : op = 47
  · rw [h47]; exact rtaken_47 a b w a0 a1 b0 b1
  by_cases h48 : op = 48
  · rw [h48]; exact rtaken_48 a b w a0 a1 b0 b1
  exact rtaken_none op a b w h43 h44 h45 h46 h47 h48
end Go.Proofs.Ytjlgaihihgifbaa
