/-
  What the reference's Do answers, for every number of an operation and every two words; it changes no memory that was there. And the laws' own examples.
-/
import Derived.Test.YtfobopchfiehgaaWalkD
namespace Go.Proofs.Ytfobopchfiehgaa
open Go.RowKit
theorem sv_wrap (x : Int) (h0 : 0 ≤ x) (h1 : x < 4294967296) : wrap32 x = DM.sv x := by
  unfold DM.sv wrap32; split <;> omega
theorem wrap_low (x : Int) : wrap64 x % 4294967296 = x % 4294967296 := by unfold wrap64; omega
set_option maxHeartbeats 400000 in
theorem rdo_15z (a : Int) (w : World) (a0 : 0 ≤ a) (a1 : a < 4294967296) :
    Calls Try.prog 18 #[.int .i64 15, .int .u32 a, .int .u32 0] w fun e w' => e = .returned (.tuple #[.int .u32 (DM.dv 15 a 0), .bool (DM.dk 15)]) ∧ w = w' := by
  go_enter Try.func18, Try.ntmps18
  go_wp2
  go_ret2
  exact ⟨ret_pair rfl rfl, rfl⟩
set_option maxHeartbeats 400000 in
theorem rdo_15n (a b : Int) (w : World) (a0 : 0 ≤ a) (a1 : a < 4294967296) (b0 : 0 ≤ b) (b1 : b < 4294967296) (hz : b ≠ 0) :
    Calls Try.prog 18 #[.int .i64 15, .int .u32 a, .int .u32 b] w fun e w' => e = .returned (.tuple #[.int .u32 (DM.dv 15 a b), .bool (DM.dk 15)]) ∧ w = w' := by
  have hz1 : (b == 0) = false := by simpa using hz
  have HE := Lib.hid (show a / b = DM.dv 15 a b by rw [DM.dv_15]; unfold DM.uq; rw [if_neg hz])
  go_enter Try.func18, Try.ntmps18
  go_wp2
  go_ret2
  exact ⟨ret_pair HE.out rfl, rfl⟩
set_option maxHeartbeats 400000 in
theorem rdo_17z (a : Int) (w : World) (a0 : 0 ≤ a) (a1 : a < 4294967296) :
    Calls Try.prog 18 #[.int .i64 17, .int .u32 a, .int .u32 0] w fun e w' => e = .returned (.tuple #[.int .u32 (DM.dv 17 a 0), .bool (DM.dk 17)]) ∧ w = w' := by
  go_enter Try.func18, Try.ntmps18
  go_wp2
  go_ret2
  exact ⟨ret_pair rfl rfl, rfl⟩
set_option maxHeartbeats 400000 in
theorem rdo_17n (a b : Int) (w : World) (a0 : 0 ≤ a) (a1 : a < 4294967296) (b0 : 0 ≤ b) (b1 : b < 4294967296) (hz : b ≠ 0) :
    Calls Try.prog 18 #[.int .i64 17, .int .u32 a, .int .u32 b] w fun e w' => e = .returned (.tuple #[.int .u32 (DM.dv 17 a b), .bool (DM.dk 17)]) ∧ w = w' := by
  have hz1 : (b == 0) = false := by simpa using hz
  have HE := Lib.hid (show a % b = DM.dv 17 a b by rw [DM.dv_17]; unfold DM.ur; rw [if_neg hz])
  go_enter Try.func18, Try.ntmps18
  go_wp2
  go_ret2
  exact ⟨ret_pair HE.out rfl, rfl⟩
set_option maxHeartbeats 400000 in
theorem rdo_14z (a : Int) (w : World) (a0 : 0 ≤ a) (a1 : a < 4294967296) :
    Calls Try.prog 18 #[.int .i64 14, .int .u32 a, .int .u32 0] w fun e w' => e = .returned (.tuple #[.int .u32 (DM.dv 14 a 0), .bool (DM.dk 14)]) ∧ w = w' := by
  go_enter Try.func18, Try.ntmps18
  go_wp2
  go_ret2
  exact ⟨ret_pair rfl rfl, rfl⟩
set_option maxHeartbeats 400000 in
theorem rdo_14n (a b : Int) (w : World) (a0 : 0 ≤ a) (a1 : a < 4294967296) (b0 : 0 ≤ b) (b1 : b < 4294967296) (hz : b ≠ 0) :
    Calls Try.prog 18 #[.int .i64 14, .int .u32 a, .int .u32 b] w fun e w' => e = .returned (.tuple #[.int .u32 (DM.dv 14 a b), .bool (DM.dk 14)]) ∧ w = w' := by
  have hwa := sv_wrap a a0 a1
  have hwb := sv_wrap b b0 b1
  obtain ⟨x0, x1⟩ := DM.sv_bd a a0 a1
  obtain ⟨y0, y1⟩ := DM.sv_bd b b0 b1
  have hy := DM.sv_zero b b1 hz
  have HE := Lib.hid (show wrap64 ((DM.sv a).tdiv (DM.sv b)) % 4294967296 = DM.dv 14 a b by rw [wrap_low, DM.dv_14]; unfold DM.iq; rw [if_neg hz])
  obtain ⟨x, hx⟩ : ∃ x, DM.sv a = x := ⟨_, rfl⟩
  obtain ⟨y, hy'⟩ : ∃ y, DM.sv b = y := ⟨_, rfl⟩
  rw [hx] at hwa x0 x1 HE
  rw [hy'] at hwb y0 y1 hy HE
  clear hx hy' hz
  have hy1 : (y == 0) = false := by simpa using hy
  go_enter Try.func18, Try.ntmps18
  go_wp2
  go_ret2
  exact ⟨ret_pair HE.out rfl, rfl⟩
set_option maxHeartbeats 400000 in
theorem rdo_16z (a : Int) (w : World) (a0 : 0 ≤ a) (a1 : a < 4294967296) :
    Calls Try.prog 18 #[.int .i64 16, .int .u32 a, .int .u32 0] w fun e w' => e = .returned (.tuple #[.int .u32 (DM.dv 16 a 0), .bool (DM.dk 16)]) ∧ w = w' := by
  go_enter Try.func18, Try.ntmps18
  go_wp2
  go_ret2
  exact ⟨ret_pair rfl rfl, rfl⟩
set_option maxHeartbeats 400000 in
theorem rdo_16n (a b : Int) (w : World) (a0 : 0 ≤ a) (a1 : a < 4294967296) (b0 : 0 ≤ b) (b1 : b < 4294967296) (hz : b ≠ 0) :
    Calls Try.prog 18 #[.int .i64 16, .int .u32 a, .int .u32 b] w fun e w' => e = .returned (.tuple #[.int .u32 (DM.dv 16 a b), .bool (DM.dk 16)]) ∧ w = w' := by
  have hwa := sv_wrap a a0 a1
  have hwb := sv_wrap b b0 b1
  obtain ⟨x0, x1⟩ := DM.sv_bd a a0 a1
  obtain ⟨y0, y1⟩ := DM.sv_bd b b0 b1
  have hy := DM.sv_zero b b1 hz
  have HE := Lib.hid (show wrap64 ((DM.sv a).tmod (DM.sv b)) % 4294967296 = DM.dv 16 a b by rw [wrap_low, DM.dv_16]; unfold DM.ir; rw [if_neg hz])
  obtain ⟨x, hx⟩ : ∃ x, DM.sv a = x := ⟨_, rfl⟩
  obtain ⟨y, hy'⟩ : ∃ y, DM.sv b = y := ⟨_, rfl⟩
  rw [hx] at hwa x0 x1 HE
  rw [hy'] at hwb y0 y1 hy HE
  clear hx hy' hz
  have hy1 : (y == 0) = false := by simpa using hy
  go_enter Try.func18, Try.ntmps18
  go_wp2
  go_ret2
  exact ⟨ret_pair ((wrap_low _).symm.trans HE.out) rfl, rfl⟩
set_option maxHeartbeats 400000 in
theorem rdo_other (op a b : Int) (w : World) (h1 : op ≠ 15) (h2 : op ≠ 17) (h3 : op ≠ 14) (h4 : op ≠ 16) :
    Calls Try.prog 18 #[.int .i64 op, .int .u32 a, .int .u32 b] w fun e w' => e = .returned (.tuple #[.int .u32 (DM.dv op a b), .bool (DM.dk op)]) ∧ w = w' := by
  have H := Lib.hid (And.intro (DM.dv_other op a b h1 h2 h3 h4) (DM.dk_other op h1 h2 h3 h4))
  have e1 : (op == 15) = false := by simpa using h1
  have e2 : (op == 17) = false := by simpa using h2
  have e3 : (op == 14) = false := by simpa using h3
  have e4 : (op == 16) = false := by simpa using h4
  clear h1 h2 h3 h4
  go_enter Try.func18, Try.ntmps18
  go_wp2_with fail
  go_ret2
  exact ⟨ret_pair H.out.1.symm H.out.2.symm, rfl⟩
theorem rdo_any (op a b : Int) (w : World) (a0 : 0 ≤ a) (a1 : a < 4294967296) (b0 : 0 ≤ b) (b1 : b < 4294967296) :
    Calls Try.prog 18 #[.int .i64 op, .int .u32 a, .int .u32 b] w fun e w' => e = .returned (.tuple #[.int .u32 (DM.dv op a b), .bool (DM.dk op)]) ∧ w = w' := by
  by_cases hz : b = 0
  · subst hz
    by_cases h1 : op = 15
    · subst h1; exact rdo_15z a w a0 a1
    · by_cases h2 : op = 17
      · subst h2; exact rdo_17z a w a0 a1
      · by_cases h3 : op = 14
        · subst h3; exact rdo_14z a w a0 a1
        · by_cases h4 : op = 16
          · subst h4; exact rdo_16z a w a0 a1
          · exact rdo_other op a 0 w h1 h2 h3 h4
  · by_cases h1 : op = 15
    · subst h1; exact rdo_15n a b w a0 a1 b0 b1 hz
    · by_cases h2 : op = 17
      · subst h2; exact rdo_17n a b w a0 a1 b0 b1 hz
      · by_cases h3 : op = 14
        · subst h3; exact rdo_14n a b w a0 a1 b0 b1 hz
        · by_cases h4 : op = 16
          · subst h4; exact rdo_16n a b w a0 a1 b0 b1 hz
          · exact rdo_other op a b w h1 h2 h3 h4
theorem run_ex (w : World) : Calls Try.prog 15 #[.agg #[.int .u32 7, .int .u32 2, .int .u32 0, .int .u32 0, .int .i64 32]] w fun e w' => e = .returned (.tuple #[.int .u32 3, .int .u32 1]) ∧ Below w.heap.size w w' :=
  quot_any 7 2 w (by decide) (by decide) (by decide) (by decide)
theorem do_ex (w : World) : Calls Try.prog 17 #[.int .i64 16, .int .u32 4294967289, .int .u32 2] w fun e w' => e = .returned (.tuple #[.int .u32 4294967295, .bool true]) ∧ Below w.heap.size w w' :=
  do_16 4294967289 2 w (by decide) (by decide) (by decide) (by decide)
set_option maxHeartbeats 400000 in
theorem awake_any (w : World) : Calls Try.prog 14 #[] w fun e w' => e = .returned (.bool true) ∧ Below w.heap.size w w' := by
  go_enter Try.func14, Try.ntmps14
  go_wp2_with (first | (go_at_call 12; refine (new_any _ _ _).mono ?_; rintro e w1 ⟨rfl, hb1⟩; have HB1 := Lib.hid hb1; clear hb1) | (go_at_call 15; refine (run_ex _).mono ?_; rintro e w2 ⟨rfl, hb2⟩; have HB2 := Lib.hid hb2; clear hb2) | (go_at_call 17; refine (do_ex _).mono ?_; rintro e w3 ⟨rfl, hb3⟩; have HB3 := Lib.hid hb3; clear hb3))
  go_ret
  exact ⟨rfl, then_below (then_below HB1.out HB2.out) HB3.out⟩
end Go.Proofs.Ytfobopchfiehgaa
