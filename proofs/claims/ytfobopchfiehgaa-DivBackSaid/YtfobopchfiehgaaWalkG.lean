/-
  The law DivBack, walked: for every two words the answer is true, and memory that was there is unchanged.
-/
import Derived.Test.YtfobopchfiehgaaWalkF
namespace Go.Proofs.Ytfobopchfiehgaa
open Go.RowKit
set_option maxHeartbeats 400000 in
theorem back_zero (a : Int) (w : World) (a0 : 0 ≤ a) (a1 : a < 4294967296) : Calls Try.prog 6 #[.int .u32 a, .int .u32 0] w fun e w' => e = .returned (.bool true) ∧ Below w.heap.size w w' := by
  have HA : Hid (∀ W : World, Calls Try.prog 17 #[.int .i64 15, .int .u32 a, .int .u32 0] W fun e w' => e = .returned (.tuple #[.int .u32 4294967295, .bool true]) ∧ Below W.heap.size W w') := Lib.hid (fun W => do_15 a 0 W a0 a1 (by decide) (by decide))
  have HB : Hid (∀ W : World, Calls Try.prog 17 #[.int .i64 17, .int .u32 a, .int .u32 0] W fun e w' => e = .returned (.tuple #[.int .u32 a, .bool true]) ∧ Below W.heap.size W w') := Lib.hid (fun W => do_17 a 0 W a0 a1 (by decide) (by decide))
  have HC : Hid (∀ W : World, Calls Try.prog 17 #[.int .i64 14, .int .u32 a, .int .u32 0] W fun e w' => e = .returned (.tuple #[.int .u32 4294967295, .bool true]) ∧ Below W.heap.size W w') := Lib.hid (fun W => do_14 a 0 W a0 a1 (by decide) (by decide))
  have HD : Hid (∀ W : World, Calls Try.prog 17 #[.int .i64 16, .int .u32 a, .int .u32 0] W fun e w' => e = .returned (.tuple #[.int .u32 a, .bool true]) ∧ Below W.heap.size W w') := Lib.hid (fun W => do_16 a 0 W a0 a1 (by decide) (by decide))
  go_enter Try.func6, Try.ntmps6
  go_wp2_with fail
  (with_reducible refine (HA.out _).mono ?_); rintro e w1 ⟨rfl, hb1⟩; have HB1 := Lib.hid hb1; clear hb1
  go_wp2_with fail
  (with_reducible refine (HB.out _).mono ?_); rintro e w2 ⟨rfl, hb2⟩; have HB2 := Lib.hid hb2; clear hb2
  go_wp2_with fail
  (with_reducible refine (HC.out _).mono ?_); rintro e w3 ⟨rfl, hb3⟩; have HB3 := Lib.hid hb3; clear hb3
  go_wp2_with fail
  (with_reducible refine (HD.out _).mono ?_); rintro e w4 ⟨rfl, hb4⟩; have HB4 := Lib.hid hb4; clear hb4
  go_wp2_with (first | (go_at_call 14; refine (awake_any _).mono ?_; rintro e w5 ⟨rfl, hb5⟩; have HB5 := Lib.hid hb5; clear hb5))
  go_ret
  exact ⟨rfl, then_below (then_below (then_below (then_below HB1.out HB2.out) HB3.out) HB4.out) HB5.out⟩
set_option maxHeartbeats 2000000 in
theorem back_more (a b : Int) (w : World) (a0 : 0 ≤ a) (a1 : a < 4294967296) (b0 : 0 ≤ b) (b1 : b < 4294967296) (hz : b ≠ 0) : Calls Try.prog 6 #[.int .u32 a, .int .u32 b] w fun e w' => e = .returned (.bool true) ∧ Below w.heap.size w w' := by
  obtain ⟨q, hq⟩ : ∃ x, DM.uq a b = x := ⟨_, rfl⟩
  obtain ⟨r, hr⟩ : ∃ x, DM.ur a b = x := ⟨_, rfl⟩
  obtain ⟨s, hs⟩ : ∃ x, DM.iq a b = x := ⟨_, rfl⟩
  obtain ⟨t, ht⟩ : ∃ x, DM.ir a b = x := ⟨_, rfl⟩
  have HA : Hid (∀ W : World, Calls Try.prog 17 #[.int .i64 15, .int .u32 a, .int .u32 b] W fun e w' => e = .returned (.tuple #[.int .u32 q, .bool true]) ∧ Below W.heap.size W w') := Lib.hid (fun W => by rw [← hq]; exact do_15 a b W a0 a1 b0 b1)
  have HB : Hid (∀ W : World, Calls Try.prog 17 #[.int .i64 17, .int .u32 a, .int .u32 b] W fun e w' => e = .returned (.tuple #[.int .u32 r, .bool true]) ∧ Below W.heap.size W w') := Lib.hid (fun W => by rw [← hr]; exact do_17 a b W a0 a1 b0 b1)
  have HC : Hid (∀ W : World, Calls Try.prog 17 #[.int .i64 14, .int .u32 a, .int .u32 b] W fun e w' => e = .returned (.tuple #[.int .u32 s, .bool true]) ∧ Below W.heap.size W w') := Lib.hid (fun W => by rw [← hs]; exact do_14 a b W a0 a1 b0 b1)
  have HD : Hid (∀ W : World, Calls Try.prog 17 #[.int .i64 16, .int .u32 a, .int .u32 b] W fun e w' => e = .returned (.tuple #[.int .u32 t, .bool true]) ∧ Below W.heap.size W w') := Lib.hid (fun W => by rw [← ht]; exact do_16 a b W a0 a1 b0 b1)
  have q0 := (DM.uq_bd a b a0 a1 b0 b1).1
  have q1 := (DM.uq_bd a b a0 a1 b0 b1).2
  have r0 := (DM.ur_bd a b a0 a1 b0 b1).1
  have r1 := (DM.ur_bd a b a0 a1 b0 b1).2
  have s0 := (DM.iq_bd a b).1
  have s1 := (DM.iq_bd a b).2
  have t0 := (DM.ir_bd a b a0 a1).1
  have t1 := (DM.ir_bd a b a0 a1).2
  obtain ⟨u1, u2⟩ := DM.u_back a b b0 hz
  have i1 := DM.i_back a b a0 a1 b0 b1 hz
  obtain ⟨e1, e2, e3, e4⟩ := DM.i_rem a b b0 b1 hz
  rw [hq] at q0 q1 u1
  rw [hr] at r0 r1 u1 u2
  rw [hs] at s0 s1 i1
  rw [ht] at t0 t1 i1 e1
  have hwa := sv_wrap a a0 a1
  have hwb := sv_wrap b b0 b1
  have hwt := (sv_wrap t t0 t1).trans e1
  obtain ⟨x0, x1⟩ := DM.sv_bd a a0 a1
  obtain ⟨y0, y1⟩ := DM.sv_bd b b0 b1
  have hy := DM.sv_zero b b1 hz
  generalize (DM.sv a).tmod (DM.sv b) = z at *
  generalize DM.sv a = x at *
  generalize DM.sv b = y at *
  have hz1 : (b == 0) = false := by simpa using hz
  obtain ⟨P, hP⟩ : ∃ P, q * b = P := ⟨_, rfl⟩
  rw [hP] at u1
  have hP0 : 0 ≤ P := by rw [← hP]; exact Int.mul_nonneg q0 b0
  have hw1 : IntKind.u64.wrap (q * b) = P := by rw [hP, IntKind.wrap_u64]; omega
  have hP1 : P < 4294967296 := by omega
  clear hq hr hs ht e1 hP
  rcases (by omega : z < 0 ∨ z = 0 ∨ 0 < z) with hzc | hzc | hzc <;> rcases (by omega : y < 0 ∨ 0 < y) with hyc | hyc
  · have hx : x ≤ 0 := e3 hzc
    have hzy : -z < -y := by omega
    clear e2 e3 e4
    go_enter Try.func6, Try.ntmps6
    go_wp2_with fail
    (with_reducible refine (HA.out _).mono ?_); rintro e w1 ⟨rfl, hb1⟩; have HB1 := Lib.hid hb1; clear hb1
    go_wp2_with fail
    (with_reducible refine (HB.out _).mono ?_); rintro e w2 ⟨rfl, hb2⟩; have HB2 := Lib.hid hb2; clear hb2
    go_wp2_with fail
    (with_reducible refine (HC.out _).mono ?_); rintro e w3 ⟨rfl, hb3⟩; have HB3 := Lib.hid hb3; clear hb3
    go_wp2_with fail
    (with_reducible refine (HD.out _).mono ?_); rintro e w4 ⟨rfl, hb4⟩; have HB4 := Lib.hid hb4; clear hb4
    go_wp2_with (first | (go_at_call 14; refine (awake_any _).mono ?_; rintro e w5 ⟨rfl, hb5⟩; have HB5 := Lib.hid hb5; clear hb5))
    go_ret
    exact ⟨rfl, then_below (then_below (then_below (then_below HB1.out HB2.out) HB3.out) HB4.out) HB5.out⟩
  · have hx : x ≤ 0 := e3 hzc
    have hzy : -z < y := by omega
    clear e2 e3 e4
    go_enter Try.func6, Try.ntmps6
    go_wp2_with fail
    (with_reducible refine (HA.out _).mono ?_); rintro e w1 ⟨rfl, hb1⟩; have HB1 := Lib.hid hb1; clear hb1
    go_wp2_with fail
    (with_reducible refine (HB.out _).mono ?_); rintro e w2 ⟨rfl, hb2⟩; have HB2 := Lib.hid hb2; clear hb2
    go_wp2_with fail
    (with_reducible refine (HC.out _).mono ?_); rintro e w3 ⟨rfl, hb3⟩; have HB3 := Lib.hid hb3; clear hb3
    go_wp2_with fail
    (with_reducible refine (HD.out _).mono ?_); rintro e w4 ⟨rfl, hb4⟩; have HB4 := Lib.hid hb4; clear hb4
    go_wp2_with (first | (go_at_call 14; refine (awake_any _).mono ?_; rintro e w5 ⟨rfl, hb5⟩; have HB5 := Lib.hid hb5; clear hb5))
    go_ret
    exact ⟨rfl, then_below (then_below (then_below (then_below HB1.out HB2.out) HB3.out) HB4.out) HB5.out⟩
  · subst hzc
    clear e2 e3 e4
    go_enter Try.func6, Try.ntmps6
    go_wp2_with fail
    (with_reducible refine (HA.out _).mono ?_); rintro e w1 ⟨rfl, hb1⟩; have HB1 := Lib.hid hb1; clear hb1
    go_wp2_with fail
    (with_reducible refine (HB.out _).mono ?_); rintro e w2 ⟨rfl, hb2⟩; have HB2 := Lib.hid hb2; clear hb2
    go_wp2_with fail
    (with_reducible refine (HC.out _).mono ?_); rintro e w3 ⟨rfl, hb3⟩; have HB3 := Lib.hid hb3; clear hb3
    go_wp2_with fail
    (with_reducible refine (HD.out _).mono ?_); rintro e w4 ⟨rfl, hb4⟩; have HB4 := Lib.hid hb4; clear hb4
    go_wp2_with (first | (go_at_call 14; refine (awake_any _).mono ?_; rintro e w5 ⟨rfl, hb5⟩; have HB5 := Lib.hid hb5; clear hb5))
    go_ret
    exact ⟨rfl, then_below (then_below (then_below (then_below HB1.out HB2.out) HB3.out) HB4.out) HB5.out⟩
  · subst hzc
    clear e2 e3 e4
    go_enter Try.func6, Try.ntmps6
    go_wp2_with fail
    (with_reducible refine (HA.out _).mono ?_); rintro e w1 ⟨rfl, hb1⟩; have HB1 := Lib.hid hb1; clear hb1
    go_wp2_with fail
    (with_reducible refine (HB.out _).mono ?_); rintro e w2 ⟨rfl, hb2⟩; have HB2 := Lib.hid hb2; clear hb2
    go_wp2_with fail
    (with_reducible refine (HC.out _).mono ?_); rintro e w3 ⟨rfl, hb3⟩; have HB3 := Lib.hid hb3; clear hb3
    go_wp2_with fail
    (with_reducible refine (HD.out _).mono ?_); rintro e w4 ⟨rfl, hb4⟩; have HB4 := Lib.hid hb4; clear hb4
    go_wp2_with (first | (go_at_call 14; refine (awake_any _).mono ?_; rintro e w5 ⟨rfl, hb5⟩; have HB5 := Lib.hid hb5; clear hb5))
    go_ret
    exact ⟨rfl, then_below (then_below (then_below (then_below HB1.out HB2.out) HB3.out) HB4.out) HB5.out⟩
  · have hx : 0 ≤ x := e4 hzc
    have hzy : z < -y := by omega
    clear e2 e3 e4
    go_enter Try.func6, Try.ntmps6
    go_wp2_with fail
    (with_reducible refine (HA.out _).mono ?_); rintro e w1 ⟨rfl, hb1⟩; have HB1 := Lib.hid hb1; clear hb1
    go_wp2_with fail
    (with_reducible refine (HB.out _).mono ?_); rintro e w2 ⟨rfl, hb2⟩; have HB2 := Lib.hid hb2; clear hb2
    go_wp2_with fail
    (with_reducible refine (HC.out _).mono ?_); rintro e w3 ⟨rfl, hb3⟩; have HB3 := Lib.hid hb3; clear hb3
    go_wp2_with fail
    (with_reducible refine (HD.out _).mono ?_); rintro e w4 ⟨rfl, hb4⟩; have HB4 := Lib.hid hb4; clear hb4
    go_wp2_with (first | (go_at_call 14; refine (awake_any _).mono ?_; rintro e w5 ⟨rfl, hb5⟩; have HB5 := Lib.hid hb5; clear hb5))
    go_ret
    exact ⟨rfl, then_below (then_below (then_below (then_below HB1.out HB2.out) HB3.out) HB4.out) HB5.out⟩
  · have hx : 0 ≤ x := e4 hzc
    have hzy : z < y := by omega
    clear e2 e3 e4
    go_enter Try.func6, Try.ntmps6
    go_wp2_with fail
    (with_reducible refine (HA.out _).mono ?_); rintro e w1 ⟨rfl, hb1⟩; have HB1 := Lib.hid hb1; clear hb1
    go_wp2_with fail
    (with_reducible refine (HB.out _).mono ?_); rintro e w2 ⟨rfl, hb2⟩; have HB2 := Lib.hid hb2; clear hb2
    go_wp2_with fail
    (with_reducible refine (HC.out _).mono ?_); rintro e w3 ⟨rfl, hb3⟩; have HB3 := Lib.hid hb3; clear hb3
    go_wp2_with fail
    (with_reducible refine (HD.out _).mono ?_); rintro e w4 ⟨rfl, hb4⟩; have HB4 := Lib.hid hb4; clear hb4
    go_wp2_with (first | (go_at_call 14; refine (awake_any _).mono ?_; rintro e w5 ⟨rfl, hb5⟩; have HB5 := Lib.hid hb5; clear hb5))
    go_ret
    exact ⟨rfl, then_below (then_below (then_below (then_below HB1.out HB2.out) HB3.out) HB4.out) HB5.out⟩
theorem back_walk (a b : Int) (w : World) (a0 : 0 ≤ a) (a1 : a < 4294967296) (b0 : 0 ≤ b) (b1 : b < 4294967296) : Calls Try.prog 6 #[.int .u32 a, .int .u32 b] w fun e w' => e = .returned (.bool true) ∧ Below w.heap.size w w' := by
  by_cases hz : b = 0
  · subst hz; exact back_zero a w a0 a1
  · exact back_more a b w a0 a1 b0 b1 hz
end Go.Proofs.Ytfobopchfiehgaa
