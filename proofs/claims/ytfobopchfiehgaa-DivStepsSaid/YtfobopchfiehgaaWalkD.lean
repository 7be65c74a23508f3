/-
  What div.Do and the reference's Do answer, for every number of an operation and every two words; neither changes memory that was there.
-/
import Derived.Test.YtfobopchfiehgaaWalkC
import Derived.Test.YtfobopchfiehgaaMathB
namespace Go.Proofs.Ytfobopchfiehgaa
open Go.RowKit
theorem ret_pair {k : IntKind} {a b : Int} {c d : Bool} (h : a = b) (h' : c = d) : Ending.returned (.tuple #[.int k a, .bool c]) = .returned (.tuple #[.int k b, .bool d]) := by rw [h, h']
theorem then_below {w a b : World} (h : Below w.heap.size w a) (k : Below a.heap.size a b) : Below w.heap.size w b := h.trans (k.mono h.size)
set_option maxHeartbeats 400000 in
theorem signed_tt (a b : Int) (w : World) (a0 : 0 ≤ a) (a1 : a < 4294967296) (b0 : 0 ≤ b) (b1 : b < 4294967296) (hz : b ≠ 0) (ha : 2147483648 ≤ a) (hb : 2147483648 ≤ b) :
    Calls Try.prog 22 #[.int .u32 a, .int .u32 b] w fun e w' => e = .returned (.tuple #[.int .u32 (DM.iq a b), .int .u32 (DM.ir a b)]) ∧ Below w.heap.size w w' := by
  have HI := Lib.hid (And.intro (DM.iq_same a b a0 a1 b0 b1 hz (by simp [ha, hb])) (DM.ir_neg a b a0 a1 b0 b1 hz ha))
  obtain ⟨s0, s1⟩ := DM.sz_bd a a0 a1
  obtain ⟨t0, t1⟩ := DM.sz_bd b b0 b1
  have HA := Lib.hid (fun W => size_any a W a0 a1)
  have HB := Lib.hid (fun W => size_any b W b0 b1)
  have HQ := Lib.hid (fun W => quot_any (DM.sz a) (DM.sz b) W s0 (by omega) t0 (by omega))
  obtain ⟨-, -, q0, q1, r0, r1⟩ := DM.uq_sz a b a0 a1 b0 b1 hz
  obtain ⟨q, hq⟩ : ∃ q, DM.uq (DM.sz a) (DM.sz b) = q := ⟨_, rfl⟩
  obtain ⟨r, hr⟩ : ∃ r, DM.ur (DM.sz a) (DM.sz b) = r := ⟨_, rfl⟩
  rw [hq] at HI HQ q0 q1
  rw [hr] at HI HQ r0 r1
  obtain ⟨A, hA⟩ : ∃ A, DM.sz a = A := ⟨_, rfl⟩
  obtain ⟨C, hC⟩ : ∃ C, DM.sz b = C := ⟨_, rfl⟩
  unfold DM.sz at hA hC
  rw [hA] at HA
  rw [hC] at HB
  have HQ' : Hid (∀ W : World, Calls Try.prog 15 #[.agg #[.int .u32 A, .int .u32 C, .int .u32 0, .int .u32 0, .int .i64 32]] W fun e w' => e = .returned (.tuple #[.int .u32 q, .int .u32 r]) ∧ Below W.heap.size W w') := by
    rw [← hA, ← hC]; exact HQ
  have hz' : (b != 0) = true := by simpa using hz
  clear hq hr hA hC HQ s0 s1 t0 t1
  go_enter Try.func22, Try.ntmps22
  go_wp2_with fail
  (with_reducible refine (HA.out _).mono ?_); rintro e w1 ⟨rfl, rfl⟩
  go_wp2_with fail
  (with_reducible refine (HB.out _).mono ?_); rintro e w1 ⟨rfl, rfl⟩
  go_wp2_with (first | (go_at_call 12; refine (new_any _ _ _).mono ?_; rintro e w1 ⟨rfl, hb1⟩; have HB1 := Lib.hid hb1; clear hb1) | (go_at_call 15; (with_reducible refine (HQ'.out _).mono ?_); rintro e w2 ⟨rfl, hb2⟩; have HB2 := Lib.hid hb2; clear hb2) | (go_at_call 24; refine (neg_any _ _ (by omega) (by omega)).mono ?_; rintro e w' ⟨rfl, rfl⟩))
  go_ret2
  exact ⟨ret_two (by obtain ⟨h1, h2⟩ := HI.out; rw [h1, h2]; exact ⟨by omega, by omega⟩), then_below HB1.out HB2.out⟩
set_option maxHeartbeats 400000 in
theorem signed_tf (a b : Int) (w : World) (a0 : 0 ≤ a) (a1 : a < 4294967296) (b0 : 0 ≤ b) (b1 : b < 4294967296) (hz : b ≠ 0) (ha : 2147483648 ≤ a) (hb : ¬ 2147483648 ≤ b) :
    Calls Try.prog 22 #[.int .u32 a, .int .u32 b] w fun e w' => e = .returned (.tuple #[.int .u32 (DM.iq a b), .int .u32 (DM.ir a b)]) ∧ Below w.heap.size w w' := by
  have HI := Lib.hid (And.intro (DM.iq_diff a b a0 a1 b0 b1 hz (by simp [ha, hb])) (DM.ir_neg a b a0 a1 b0 b1 hz ha))
  obtain ⟨s0, s1⟩ := DM.sz_bd a a0 a1
  obtain ⟨t0, t1⟩ := DM.sz_bd b b0 b1
  have HA := Lib.hid (fun W => size_any a W a0 a1)
  have HB := Lib.hid (fun W => size_any b W b0 b1)
  have HQ := Lib.hid (fun W => quot_any (DM.sz a) (DM.sz b) W s0 (by omega) t0 (by omega))
  obtain ⟨-, -, q0, q1, r0, r1⟩ := DM.uq_sz a b a0 a1 b0 b1 hz
  obtain ⟨q, hq⟩ : ∃ q, DM.uq (DM.sz a) (DM.sz b) = q := ⟨_, rfl⟩
  obtain ⟨r, hr⟩ : ∃ r, DM.ur (DM.sz a) (DM.sz b) = r := ⟨_, rfl⟩
  rw [hq] at HI HQ q0 q1
  rw [hr] at HI HQ r0 r1
  obtain ⟨A, hA⟩ : ∃ A, DM.sz a = A := ⟨_, rfl⟩
  obtain ⟨C, hC⟩ : ∃ C, DM.sz b = C := ⟨_, rfl⟩
  unfold DM.sz at hA hC
  rw [hA] at HA
  rw [hC] at HB
  have HQ' : Hid (∀ W : World, Calls Try.prog 15 #[.agg #[.int .u32 A, .int .u32 C, .int .u32 0, .int .u32 0, .int .i64 32]] W fun e w' => e = .returned (.tuple #[.int .u32 q, .int .u32 r]) ∧ Below W.heap.size W w') := by
    rw [← hA, ← hC]; exact HQ
  have hz' : (b != 0) = true := by simpa using hz
  have hdb : decide (2147483648 ≤ b) = false := by simpa using hb
  clear hq hr hA hC HQ s0 s1 t0 t1
  go_enter Try.func22, Try.ntmps22
  go_wp2_with fail
  (with_reducible refine (HA.out _).mono ?_); rintro e w1 ⟨rfl, rfl⟩
  go_wp2_with fail
  (with_reducible refine (HB.out _).mono ?_); rintro e w1 ⟨rfl, rfl⟩
  go_wp2_with (first | (go_at_call 12; refine (new_any _ _ _).mono ?_; rintro e w1 ⟨rfl, hb1⟩; have HB1 := Lib.hid hb1; clear hb1) | (go_at_call 15; (with_reducible refine (HQ'.out _).mono ?_); rintro e w2 ⟨rfl, hb2⟩; have HB2 := Lib.hid hb2; clear hb2) | (go_at_call 24; refine (neg_any _ _ (by omega) (by omega)).mono ?_; rintro e w' ⟨rfl, rfl⟩))
  go_ret2
  exact ⟨ret_two (by obtain ⟨h1, h2⟩ := HI.out; rw [h1, h2]; exact ⟨by omega, by omega⟩), then_below HB1.out HB2.out⟩
set_option maxHeartbeats 400000 in
theorem signed_ft (a b : Int) (w : World) (a0 : 0 ≤ a) (a1 : a < 4294967296) (b0 : 0 ≤ b) (b1 : b < 4294967296) (hz : b ≠ 0) (ha : ¬ 2147483648 ≤ a) (hb : 2147483648 ≤ b) :
    Calls Try.prog 22 #[.int .u32 a, .int .u32 b] w fun e w' => e = .returned (.tuple #[.int .u32 (DM.iq a b), .int .u32 (DM.ir a b)]) ∧ Below w.heap.size w w' := by
  have HI := Lib.hid (And.intro (DM.iq_diff a b a0 a1 b0 b1 hz (by simp [ha, hb])) (DM.ir_pos a b a0 a1 b0 b1 hz ha))
  obtain ⟨s0, s1⟩ := DM.sz_bd a a0 a1
  obtain ⟨t0, t1⟩ := DM.sz_bd b b0 b1
  have HA := Lib.hid (fun W => size_any a W a0 a1)
  have HB := Lib.hid (fun W => size_any b W b0 b1)
  have HQ := Lib.hid (fun W => quot_any (DM.sz a) (DM.sz b) W s0 (by omega) t0 (by omega))
  obtain ⟨-, -, q0, q1, r0, r1⟩ := DM.uq_sz a b a0 a1 b0 b1 hz
  obtain ⟨q, hq⟩ : ∃ q, DM.uq (DM.sz a) (DM.sz b) = q := ⟨_, rfl⟩
  obtain ⟨r, hr⟩ : ∃ r, DM.ur (DM.sz a) (DM.sz b) = r := ⟨_, rfl⟩
  rw [hq] at HI HQ q0 q1
  rw [hr] at HI HQ r0 r1
  obtain ⟨A, hA⟩ : ∃ A, DM.sz a = A := ⟨_, rfl⟩
  obtain ⟨C, hC⟩ : ∃ C, DM.sz b = C := ⟨_, rfl⟩
  unfold DM.sz at hA hC
  rw [hA] at HA
  rw [hC] at HB
  have HQ' : Hid (∀ W : World, Calls Try.prog 15 #[.agg #[.int .u32 A, .int .u32 C, .int .u32 0, .int .u32 0, .int .i64 32]] W fun e w' => e = .returned (.tuple #[.int .u32 q, .int .u32 r]) ∧ Below W.heap.size W w') := by
    rw [← hA, ← hC]; exact HQ
  have hz' : (b != 0) = true := by simpa using hz
  have hda : decide (2147483648 ≤ a) = false := by simpa using ha
  clear hq hr hA hC HQ s0 s1 t0 t1
  go_enter Try.func22, Try.ntmps22
  go_wp2_with fail
  (with_reducible refine (HA.out _).mono ?_); rintro e w1 ⟨rfl, rfl⟩
  go_wp2_with fail
  (with_reducible refine (HB.out _).mono ?_); rintro e w1 ⟨rfl, rfl⟩
  go_wp2_with (first | (go_at_call 12; refine (new_any _ _ _).mono ?_; rintro e w1 ⟨rfl, hb1⟩; have HB1 := Lib.hid hb1; clear hb1) | (go_at_call 15; (with_reducible refine (HQ'.out _).mono ?_); rintro e w2 ⟨rfl, hb2⟩; have HB2 := Lib.hid hb2; clear hb2) | (go_at_call 24; refine (neg_any _ _ (by omega) (by omega)).mono ?_; rintro e w' ⟨rfl, rfl⟩))
  go_ret2
  exact ⟨ret_two (by obtain ⟨h1, h2⟩ := HI.out; rw [h1, h2]; exact ⟨by omega, by omega⟩), then_below HB1.out HB2.out⟩
set_option maxHeartbeats 400000 in
theorem signed_ff (a b : Int) (w : World) (a0 : 0 ≤ a) (a1 : a < 4294967296) (b0 : 0 ≤ b) (b1 : b < 4294967296) (hz : b ≠ 0) (ha : ¬ 2147483648 ≤ a) (hb : ¬ 2147483648 ≤ b) :
    Calls Try.prog 22 #[.int .u32 a, .int .u32 b] w fun e w' => e = .returned (.tuple #[.int .u32 (DM.iq a b), .int .u32 (DM.ir a b)]) ∧ Below w.heap.size w w' := by
  have HI := Lib.hid (And.intro (DM.iq_same a b a0 a1 b0 b1 hz (by simp [ha, hb])) (DM.ir_pos a b a0 a1 b0 b1 hz ha))
  obtain ⟨s0, s1⟩ := DM.sz_bd a a0 a1
  obtain ⟨t0, t1⟩ := DM.sz_bd b b0 b1
  have HA := Lib.hid (fun W => size_any a W a0 a1)
  have HB := Lib.hid (fun W => size_any b W b0 b1)
  have HQ := Lib.hid (fun W => quot_any (DM.sz a) (DM.sz b) W s0 (by omega) t0 (by omega))
  obtain ⟨-, -, q0, q1, r0, r1⟩ := DM.uq_sz a b a0 a1 b0 b1 hz
  obtain ⟨q, hq⟩ : ∃ q, DM.uq (DM.sz a) (DM.sz b) = q := ⟨_, rfl⟩
  obtain ⟨r, hr⟩ : ∃ r, DM.ur (DM.sz a) (DM.sz b) = r := ⟨_, rfl⟩
  rw [hq] at HI HQ q0 q1
  rw [hr] at HI HQ r0 r1
  obtain ⟨A, hA⟩ : ∃ A, DM.sz a = A := ⟨_, rfl⟩
  obtain ⟨C, hC⟩ : ∃ C, DM.sz b = C := ⟨_, rfl⟩
  unfold DM.sz at hA hC
  rw [hA] at HA
  rw [hC] at HB
  have HQ' : Hid (∀ W : World, Calls Try.prog 15 #[.agg #[.int .u32 A, .int .u32 C, .int .u32 0, .int .u32 0, .int .i64 32]] W fun e w' => e = .returned (.tuple #[.int .u32 q, .int .u32 r]) ∧ Below W.heap.size W w') := by
    rw [← hA, ← hC]; exact HQ
  have hz' : (b != 0) = true := by simpa using hz
  have hda : decide (2147483648 ≤ a) = false := by simpa using ha
  have hdb : decide (2147483648 ≤ b) = false := by simpa using hb
  clear hq hr hA hC HQ s0 s1 t0 t1
  go_enter Try.func22, Try.ntmps22
  go_wp2_with fail
  (with_reducible refine (HA.out _).mono ?_); rintro e w1 ⟨rfl, rfl⟩
  go_wp2_with fail
  (with_reducible refine (HB.out _).mono ?_); rintro e w1 ⟨rfl, rfl⟩
  go_wp2_with (first | (go_at_call 12; refine (new_any _ _ _).mono ?_; rintro e w1 ⟨rfl, hb1⟩; have HB1 := Lib.hid hb1; clear hb1) | (go_at_call 15; (with_reducible refine (HQ'.out _).mono ?_); rintro e w2 ⟨rfl, hb2⟩; have HB2 := Lib.hid hb2; clear hb2) | (go_at_call 24; refine (neg_any _ _ (by omega) (by omega)).mono ?_; rintro e w' ⟨rfl, rfl⟩))
  go_ret2
  exact ⟨ret_two (by obtain ⟨h1, h2⟩ := HI.out; rw [h1, h2]; exact ⟨by omega, by omega⟩), then_below HB1.out HB2.out⟩
set_option maxHeartbeats 400000 in
theorem signed_tz (a : Int) (w : World) (a0 : 0 ≤ a) (a1 : a < 4294967296) (ha : 2147483648 ≤ a) :
    Calls Try.prog 22 #[.int .u32 a, .int .u32 0] w fun e w' => e = .returned (.tuple #[.int .u32 (DM.iq a 0), .int .u32 (DM.ir a 0)]) ∧ Below w.heap.size w w' := by
  have HI := Lib.hid (show DM.iq a 0 = 4294967295 ∧ DM.ir a 0 = a from ⟨rfl, rfl⟩)
  have HA := Lib.hid (fun W => size_any a W a0 a1)
  rw [if_pos ha] at HA
  have HB := Lib.hid (fun W => size_any 0 W (by decide) (by decide))
  rw [if_neg (by decide)] at HB
  have HQ : Hid (∀ W : World, Calls Try.prog 15 #[.agg #[.int .u32 (4294967296 - a), .int .u32 0, .int .u32 0, .int .u32 0, .int .i64 32]] W fun e w' => e = .returned (.tuple #[.int .u32 4294967295, .int .u32 (4294967296 - a)]) ∧ Below W.heap.size W w') :=
    Lib.hid (fun W => quot_any (4294967296 - a) 0 W (by omega) (by omega) (by decide) (by decide))
  go_enter Try.func22, Try.ntmps22
  go_wp2_with fail
  (with_reducible refine (HA.out _).mono ?_); rintro e w1 ⟨rfl, rfl⟩
  go_wp2_with fail
  (with_reducible refine (HB.out _).mono ?_); rintro e w1 ⟨rfl, rfl⟩
  go_wp2_with (first | (go_at_call 12; refine (new_any _ _ _).mono ?_; rintro e w1 ⟨rfl, hb1⟩; have HB1 := Lib.hid hb1; clear hb1) | (go_at_call 15; (with_reducible refine (HQ.out _).mono ?_); rintro e w2 ⟨rfl, hb2⟩; have HB2 := Lib.hid hb2; clear hb2) | (go_at_call 24; refine (neg_any _ _ (by omega) (by omega)).mono ?_; rintro e w' ⟨rfl, rfl⟩))
  go_ret2
  exact ⟨ret_two (by obtain ⟨h1, h2⟩ := HI.out; rw [h1, h2]; exact ⟨by omega, by omega⟩), then_below HB1.out HB2.out⟩
set_option maxHeartbeats 400000 in
theorem signed_fz (a : Int) (w : World) (a0 : 0 ≤ a) (a1 : a < 4294967296) (ha : ¬ 2147483648 ≤ a) :
    Calls Try.prog 22 #[.int .u32 a, .int .u32 0] w fun e w' => e = .returned (.tuple #[.int .u32 (DM.iq a 0), .int .u32 (DM.ir a 0)]) ∧ Below w.heap.size w w' := by
  have HI := Lib.hid (show DM.iq a 0 = 4294967295 ∧ DM.ir a 0 = a from ⟨rfl, rfl⟩)
  have HA := Lib.hid (fun W => size_any a W a0 a1)
  rw [if_neg ha] at HA
  have HB := Lib.hid (fun W => size_any 0 W (by decide) (by decide))
  rw [if_neg (by decide)] at HB
  have HQ : Hid (∀ W : World, Calls Try.prog 15 #[.agg #[.int .u32 (a), .int .u32 0, .int .u32 0, .int .u32 0, .int .i64 32]] W fun e w' => e = .returned (.tuple #[.int .u32 4294967295, .int .u32 (a)]) ∧ Below W.heap.size W w') :=
    Lib.hid (fun W => quot_any (a) 0 W (by omega) (by omega) (by decide) (by decide))
  have hda : decide (2147483648 ≤ a) = false := by simpa using ha
  go_enter Try.func22, Try.ntmps22
  go_wp2_with fail
  (with_reducible refine (HA.out _).mono ?_); rintro e w1 ⟨rfl, rfl⟩
  go_wp2_with fail
  (with_reducible refine (HB.out _).mono ?_); rintro e w1 ⟨rfl, rfl⟩
  go_wp2_with (first | (go_at_call 12; refine (new_any _ _ _).mono ?_; rintro e w1 ⟨rfl, hb1⟩; have HB1 := Lib.hid hb1; clear hb1) | (go_at_call 15; (with_reducible refine (HQ.out _).mono ?_); rintro e w2 ⟨rfl, hb2⟩; have HB2 := Lib.hid hb2; clear hb2) | (go_at_call 24; refine (neg_any _ _ (by omega) (by omega)).mono ?_; rintro e w' ⟨rfl, rfl⟩))
  go_ret2
  exact ⟨ret_two (by obtain ⟨h1, h2⟩ := HI.out; rw [h1, h2]; exact ⟨by omega, by omega⟩), then_below HB1.out HB2.out⟩
theorem signed_any (a b : Int) (w : World) (a0 : 0 ≤ a) (a1 : a < 4294967296) (b0 : 0 ≤ b) (b1 : b < 4294967296) :
    Calls Try.prog 22 #[.int .u32 a, .int .u32 b] w fun e w' => e = .returned (.tuple #[.int .u32 (DM.iq a b), .int .u32 (DM.ir a b)]) ∧ Below w.heap.size w w' := by
  by_cases hz : b = 0
  · subst hz
    by_cases ha : 2147483648 ≤ a
    · exact signed_tz a w a0 a1 ha
    · exact signed_fz a w a0 a1 ha
  · by_cases ha : 2147483648 ≤ a <;> by_cases hb : 2147483648 ≤ b
    · exact signed_tt a b w a0 a1 b0 b1 hz ha hb
    · exact signed_tf a b w a0 a1 b0 b1 hz ha hb
    · exact signed_ft a b w a0 a1 b0 b1 hz ha hb
    · exact signed_ff a b w a0 a1 b0 b1 hz ha hb
set_option maxHeartbeats 400000 in
theorem do_15 (a b : Int) (w : World) (a0 : 0 ≤ a) (a1 : a < 4294967296) (b0 : 0 ≤ b) (b1 : b < 4294967296) :
    Calls Try.prog 17 #[.int .i64 15, .int .u32 a, .int .u32 b] w fun e w' => e = .returned (.tuple #[.int .u32 (DM.dv 15 a b), .bool (DM.dk 15)]) ∧ Below w.heap.size w w' := by
  go_enter Try.func17, Try.ntmps17
  go_wp2_with (first | (go_at_call 12; refine (new_any _ _ _).mono ?_; rintro e w1 ⟨rfl, hb1⟩; have HB1 := Lib.hid hb1; clear hb1) | (go_at_call 15; refine (quot_any _ _ _ (by omega) (by omega) (by omega) (by omega)).mono ?_; rintro e w2 ⟨rfl, hb2⟩; have HB2 := Lib.hid hb2; clear hb2) | (go_at_call 22; refine (signed_any _ _ _ (by omega) (by omega) (by omega) (by omega)).mono ?_; rintro e w3 ⟨rfl, hb3⟩; have HB3 := Lib.hid hb3; clear hb3))
  go_ret2
  exact ⟨ret_pair rfl rfl, then_below HB1.out HB2.out⟩
set_option maxHeartbeats 400000 in
theorem do_17 (a b : Int) (w : World) (a0 : 0 ≤ a) (a1 : a < 4294967296) (b0 : 0 ≤ b) (b1 : b < 4294967296) :
    Calls Try.prog 17 #[.int .i64 17, .int .u32 a, .int .u32 b] w fun e w' => e = .returned (.tuple #[.int .u32 (DM.dv 17 a b), .bool (DM.dk 17)]) ∧ Below w.heap.size w w' := by
  go_enter Try.func17, Try.ntmps17
  go_wp2_with (first | (go_at_call 12; refine (new_any _ _ _).mono ?_; rintro e w1 ⟨rfl, hb1⟩; have HB1 := Lib.hid hb1; clear hb1) | (go_at_call 15; refine (quot_any _ _ _ (by omega) (by omega) (by omega) (by omega)).mono ?_; rintro e w2 ⟨rfl, hb2⟩; have HB2 := Lib.hid hb2; clear hb2) | (go_at_call 22; refine (signed_any _ _ _ (by omega) (by omega) (by omega) (by omega)).mono ?_; rintro e w3 ⟨rfl, hb3⟩; have HB3 := Lib.hid hb3; clear hb3))
  go_ret2
  exact ⟨ret_pair rfl rfl, then_below HB1.out HB2.out⟩
set_option maxHeartbeats 400000 in
theorem do_14 (a b : Int) (w : World) (a0 : 0 ≤ a) (a1 : a < 4294967296) (b0 : 0 ≤ b) (b1 : b < 4294967296) :
    Calls Try.prog 17 #[.int .i64 14, .int .u32 a, .int .u32 b] w fun e w' => e = .returned (.tuple #[.int .u32 (DM.dv 14 a b), .bool (DM.dk 14)]) ∧ Below w.heap.size w w' := by
  go_enter Try.func17, Try.ntmps17
  go_wp2_with (first | (go_at_call 12; refine (new_any _ _ _).mono ?_; rintro e w1 ⟨rfl, hb1⟩; have HB1 := Lib.hid hb1; clear hb1) | (go_at_call 15; refine (quot_any _ _ _ (by omega) (by omega) (by omega) (by omega)).mono ?_; rintro e w2 ⟨rfl, hb2⟩; have HB2 := Lib.hid hb2; clear hb2) | (go_at_call 22; refine (signed_any _ _ _ (by omega) (by omega) (by omega) (by omega)).mono ?_; rintro e w3 ⟨rfl, hb3⟩; have HB3 := Lib.hid hb3; clear hb3))
  go_ret2
  exact ⟨ret_pair rfl rfl, HB3.out⟩
set_option maxHeartbeats 400000 in
theorem do_16 (a b : Int) (w : World) (a0 : 0 ≤ a) (a1 : a < 4294967296) (b0 : 0 ≤ b) (b1 : b < 4294967296) :
    Calls Try.prog 17 #[.int .i64 16, .int .u32 a, .int .u32 b] w fun e w' => e = .returned (.tuple #[.int .u32 (DM.dv 16 a b), .bool (DM.dk 16)]) ∧ Below w.heap.size w w' := by
  go_enter Try.func17, Try.ntmps17
  go_wp2_with (first | (go_at_call 12; refine (new_any _ _ _).mono ?_; rintro e w1 ⟨rfl, hb1⟩; have HB1 := Lib.hid hb1; clear hb1) | (go_at_call 15; refine (quot_any _ _ _ (by omega) (by omega) (by omega) (by omega)).mono ?_; rintro e w2 ⟨rfl, hb2⟩; have HB2 := Lib.hid hb2; clear hb2) | (go_at_call 22; refine (signed_any _ _ _ (by omega) (by omega) (by omega) (by omega)).mono ?_; rintro e w3 ⟨rfl, hb3⟩; have HB3 := Lib.hid hb3; clear hb3))
  go_ret2
  exact ⟨ret_pair rfl rfl, HB3.out⟩
set_option maxHeartbeats 400000 in
theorem do_other (op a b : Int) (w : World) (h1 : op ≠ 15) (h2 : op ≠ 17) (h3 : op ≠ 14) (h4 : op ≠ 16) :
    Calls Try.prog 17 #[.int .i64 op, .int .u32 a, .int .u32 b] w fun e w' => e = .returned (.tuple #[.int .u32 (DM.dv op a b), .bool (DM.dk op)]) ∧ Below w.heap.size w w' := by
  have H := Lib.hid (And.intro (DM.dv_other op a b h1 h2 h3 h4) (DM.dk_other op h1 h2 h3 h4))
  have e1 : (op == 15) = false := by simpa using h1
  have e2 : (op == 17) = false := by simpa using h2
  have e3 : (op == 14) = false := by simpa using h3
  have e4 : (op == 16) = false := by simpa using h4
  clear h1 h2 h3 h4
  go_enter Try.func17, Try.ntmps17
  go_wp2_with fail
  go_ret2
  exact ⟨ret_pair H.out.1.symm H.out.2.symm, Below.refl _ _⟩
theorem do_any (op a b : Int) (w : World) (a0 : 0 ≤ a) (a1 : a < 4294967296) (b0 : 0 ≤ b) (b1 : b < 4294967296) :
    Calls Try.prog 17 #[.int .i64 op, .int .u32 a, .int .u32 b] w fun e w' => e = .returned (.tuple #[.int .u32 (DM.dv op a b), .bool (DM.dk op)]) ∧ Below w.heap.size w w' := by
  by_cases h1 : op = 15
  · subst h1; exact do_15 a b w a0 a1 b0 b1
  · by_cases h2 : op = 17
    · subst h2; exact do_17 a b w a0 a1 b0 b1
    · by_cases h3 : op = 14
      · subst h3; exact do_14 a b w a0 a1 b0 b1
      · by_cases h4 : op = 16
        · subst h4; exact do_16 a b w a0 a1 b0 b1
        · exact do_other op a b w h1 h2 h3 h4
end Go.Proofs.Ytfobopchfiehgaa
