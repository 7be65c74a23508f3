/-
  What mul.Do and the reference's Do answer, for every number of an operation and every two words; neither changes memory that was there.
-/
import Derived.Test.YtplbpbcdafakdaaWalkB
import Derived.Test.YtplbpbcdafakdaaMathB
namespace Go.Proofs.Ytplbpbcdafakdaa
open Go.RowKit S01
theorem ret_pair {k : IntKind} {a b : Int} {c d : Bool} (h : a = b) (h' : c = d) : Ending.returned (.tuple #[.int k a, .bool c]) = .returned (.tuple #[.int k b, .bool d]) := by rw [h, h']
set_option maxHeartbeats 400000 in
theorem neg_any (x : Int) (w : World) (h0 : 0 ≤ x) (h1 : x < 4294967296) :
    Calls Try.prog 24 #[.int .u32 x] w fun e w' => e = .returned (.bool (MM.ng x)) ∧ ∃ n, w' = w.drewN n := by
  have HN := Lib.hid (MM.ng_eq x h0 h1)
  go_enter Try.func24, Try.ntmps24
  go_wp2_with (first | (go_at_call 18; refine (field_high _ _ (by omega) (by omega)).mono ?_; rintro e w' ⟨rfl, nd, rfl⟩))
  go_ret
  exact ⟨ret_bool HN.out, _, rfl⟩
set_option maxHeartbeats 400000 in
theorem rsigned_any (x : Int) (w : World) (h0 : 0 ≤ x) (h1 : x < 4294967296) :
    Calls Try.prog 21 #[.int .u32 x] w fun e w' => e = .returned (.int .i64 (MM.sv x)) ∧ w = w' := by
  go_enter Try.func21, Try.ntmps21
  go_wp2
  all_goals (go_ret; exact ⟨ret_int (by unfold MM.sv; split <;> omega), rfl⟩)
set_option maxHeartbeats 400000 in
theorem signed_tt (h a b : Int) (w : World) (h0 : 0 ≤ h) (h1 : h < 4294967296) (a0 : 0 ≤ a) (a1 : a < 4294967296) (b0 : 0 ≤ b) (b1 : b < 4294967296) (ha : MM.ng a = true) (hb : MM.ng b = true) :
    Calls Try.prog 20 #[.int .u32 h, .int .u32 a, .int .u32 b] w fun e w' => e = .returned (.int .u32 (MM.sg h a b)) ∧ ∃ n, w' = w.drewN n := by
  have HA := Lib.hid ha
  have HB := Lib.hid hb
  go_enter Try.func20, Try.ntmps20
  go_wp2_with (first | (go_at_call 24; refine (neg_any _ _ (by omega) (by omega)).mono ?_; rintro e w' ⟨rfl, nd, rfl⟩))
  go_ret
  exact ⟨ret_int (by have ha := HA.out; have hb := HB.out; clear HA HB; unfold MM.ng at ha hb; simp at ha hb; unfold MM.sg; rw [if_pos (by omega), if_pos (by omega)]; omega), by first | exact ⟨_, rfl⟩ | exact ⟨0, rfl⟩⟩
set_option maxHeartbeats 400000 in
theorem signed_tf (h a b : Int) (w : World) (h0 : 0 ≤ h) (h1 : h < 4294967296) (a0 : 0 ≤ a) (a1 : a < 4294967296) (b0 : 0 ≤ b) (b1 : b < 4294967296) (ha : MM.ng a = true) (hb : MM.ng b = false) :
    Calls Try.prog 20 #[.int .u32 h, .int .u32 a, .int .u32 b] w fun e w' => e = .returned (.int .u32 (MM.sg h a b)) ∧ ∃ n, w' = w.drewN n := by
  have HA := Lib.hid ha
  have HB := Lib.hid hb
  go_enter Try.func20, Try.ntmps20
  go_wp2_with (first | (go_at_call 24; refine (neg_any _ _ (by omega) (by omega)).mono ?_; rintro e w' ⟨rfl, nd, rfl⟩))
  go_ret
  exact ⟨ret_int (by have ha := HA.out; have hb := HB.out; clear HA HB; unfold MM.ng at ha hb; simp at ha hb; unfold MM.sg; rw [if_pos (by omega), if_neg (by omega)]; omega), by first | exact ⟨_, rfl⟩ | exact ⟨0, rfl⟩⟩
set_option maxHeartbeats 400000 in
theorem signed_ft (h a b : Int) (w : World) (h0 : 0 ≤ h) (h1 : h < 4294967296) (a0 : 0 ≤ a) (a1 : a < 4294967296) (b0 : 0 ≤ b) (b1 : b < 4294967296) (ha : MM.ng a = false) (hb : MM.ng b = true) :
    Calls Try.prog 20 #[.int .u32 h, .int .u32 a, .int .u32 b] w fun e w' => e = .returned (.int .u32 (MM.sg h a b)) ∧ ∃ n, w' = w.drewN n := by
  have HA := Lib.hid ha
  have HB := Lib.hid hb
  go_enter Try.func20, Try.ntmps20
  go_wp2_with (first | (go_at_call 24; refine (neg_any _ _ (by omega) (by omega)).mono ?_; rintro e w' ⟨rfl, nd, rfl⟩))
  go_ret
  exact ⟨ret_int (by have ha := HA.out; have hb := HB.out; clear HA HB; unfold MM.ng at ha hb; simp at ha hb; unfold MM.sg; rw [if_neg (by omega), if_pos (by omega)]; omega), by first | exact ⟨_, rfl⟩ | exact ⟨0, rfl⟩⟩
set_option maxHeartbeats 400000 in
theorem signed_ff (h a b : Int) (w : World) (h0 : 0 ≤ h) (h1 : h < 4294967296) (a0 : 0 ≤ a) (a1 : a < 4294967296) (b0 : 0 ≤ b) (b1 : b < 4294967296) (ha : MM.ng a = false) (hb : MM.ng b = false) :
    Calls Try.prog 20 #[.int .u32 h, .int .u32 a, .int .u32 b] w fun e w' => e = .returned (.int .u32 (MM.sg h a b)) ∧ ∃ n, w' = w.drewN n := by
  have HA := Lib.hid ha
  have HB := Lib.hid hb
  go_enter Try.func20, Try.ntmps20
  go_wp2_with (first | (go_at_call 24; refine (neg_any _ _ (by omega) (by omega)).mono ?_; rintro e w' ⟨rfl, nd, rfl⟩))
  go_ret
  exact ⟨ret_int (by have ha := HA.out; have hb := HB.out; clear HA HB; unfold MM.ng at ha hb; simp at ha hb; unfold MM.sg; rw [if_neg (by omega), if_neg (by omega)]; omega), by first | exact ⟨_, rfl⟩ | exact ⟨0, rfl⟩⟩
theorem signed_any (h a b : Int) (w : World) (h0 : 0 ≤ h) (h1 : h < 4294967296) (a0 : 0 ≤ a) (a1 : a < 4294967296) (b0 : 0 ≤ b) (b1 : b < 4294967296) :
    Calls Try.prog 20 #[.int .u32 h, .int .u32 a, .int .u32 b] w fun e w' => e = .returned (.int .u32 (MM.sg h a b)) ∧ ∃ n, w' = w.drewN n := by
  cases ha : MM.ng a <;> cases hb : MM.ng b
  · exact signed_ff h a b w h0 h1 a0 a1 b0 b1 ha hb
  · exact signed_ft h a b w h0 h1 a0 a1 b0 b1 ha hb
  · exact signed_tf h a b w h0 h1 a0 a1 b0 b1 ha hb
  · exact signed_tt h a b w h0 h1 a0 a1 b0 b1 ha hb
theorem prod_any (a b : Int) (w : World) (a0 : 0 ≤ a) (a1 : a < 4294967296) (b0 : 0 ≤ b) (b1 : b < 4294967296) :
    Calls Try.prog 7 #[.agg #[.int .u32 a, .int .u32 b, .int .u32 0, .int .u32 0, .int .i64 32]] w fun e w' => e = .returned (.tuple #[.int .u32 (a * b / 4294967296), .int .u32 (a * b % 4294967296)]) ∧ Below w.heap.size w w' := by
  have := run_any a b 0 0 32 w a0 a1 b0 b1 (by decide) (by decide) (by decide) (by decide)
  rwa [(MM.halves a b a0 a1 b0 b1).1, (MM.halves a b a0 a1 b0 b1).2] at this
set_option maxHeartbeats 400000 in
theorem do_11 (a b : Int) (w : World) (a0 : 0 ≤ a) (a1 : a < 4294967296) (b0 : 0 ≤ b) (b1 : b < 4294967296) :
    Calls Try.prog 16 #[.int .i64 11, .int .u32 a, .int .u32 b] w fun e w' => e = .returned (.tuple #[.int .u32 (MM.dm 11 a b), .bool (MM.dk 11)]) ∧ Below w.heap.size w w' := by
  obtain ⟨p0, p1⟩ := MM.prod_bd a b a0 a1 b0 b1
  obtain ⟨q0, q1⟩ := MM.svsv_bd a b a0 a1 b0 b1
  go_enter Try.func16, Try.ntmps16
  go_wp2_with (first | (go_at_call 14; refine (new_any _ _ _).mono ?_; rintro e w1 ⟨rfl, hb1⟩; have HB1 := Lib.hid hb1; clear hb1) | (go_at_call 7; refine (prod_any _ _ _ (by omega) (by omega) (by omega) (by omega)).mono ?_; rintro e w2 ⟨rfl, hb2⟩; have HB2 := Lib.hid hb2; clear hb2) | (go_at_call 20; refine (signed_any _ _ _ _ (by omega) (by omega) (by omega) (by omega) (by omega) (by omega)).mono ?_; rintro e w3 ⟨rfl, nd, rfl⟩))
  go_ret2
  exact ⟨ret_pair rfl rfl, HB1.out.trans (HB2.out.mono HB1.out.size)⟩
set_option maxHeartbeats 400000 in
theorem rdo_11 (a b : Int) (w : World) (a0 : 0 ≤ a) (a1 : a < 4294967296) (b0 : 0 ≤ b) (b1 : b < 4294967296) :
    Calls Try.prog 17 #[.int .i64 11, .int .u32 a, .int .u32 b] w fun e w' => e = .returned (.tuple #[.int .u32 (MM.dm 11 a b), .bool (MM.dk 11)]) ∧ Below w.heap.size w w' := by
  obtain ⟨p0, p1⟩ := MM.prod_bd a b a0 a1 b0 b1
  obtain ⟨q0, q1⟩ := MM.svsv_bd a b a0 a1 b0 b1
  go_enter Try.func17, Try.ntmps17
  go_wp2_with (first | (go_at_call 21; refine (rsigned_any _ _ (by omega) (by omega)).mono ?_; rintro e w1 ⟨rfl, rfl⟩))
  go_ret2
  exact ⟨ret_pair rfl rfl, Below.refl _ _⟩
set_option maxHeartbeats 400000 in
theorem do_13 (a b : Int) (w : World) (a0 : 0 ≤ a) (a1 : a < 4294967296) (b0 : 0 ≤ b) (b1 : b < 4294967296) :
    Calls Try.prog 16 #[.int .i64 13, .int .u32 a, .int .u32 b] w fun e w' => e = .returned (.tuple #[.int .u32 (MM.dm 13 a b), .bool (MM.dk 13)]) ∧ Below w.heap.size w w' := by
  obtain ⟨p0, p1⟩ := MM.prod_bd a b a0 a1 b0 b1
  obtain ⟨q0, q1⟩ := MM.svsv_bd a b a0 a1 b0 b1
  go_enter Try.func16, Try.ntmps16
  go_wp2_with (first | (go_at_call 14; refine (new_any _ _ _).mono ?_; rintro e w1 ⟨rfl, hb1⟩; have HB1 := Lib.hid hb1; clear hb1) | (go_at_call 7; refine (prod_any _ _ _ (by omega) (by omega) (by omega) (by omega)).mono ?_; rintro e w2 ⟨rfl, hb2⟩; have HB2 := Lib.hid hb2; clear hb2) | (go_at_call 20; refine (signed_any _ _ _ _ (by omega) (by omega) (by omega) (by omega) (by omega) (by omega)).mono ?_; rintro e w3 ⟨rfl, nd, rfl⟩))
  go_ret2
  exact ⟨ret_pair rfl rfl, HB1.out.trans (HB2.out.mono HB1.out.size)⟩
set_option maxHeartbeats 400000 in
theorem rdo_13 (a b : Int) (w : World) (a0 : 0 ≤ a) (a1 : a < 4294967296) (b0 : 0 ≤ b) (b1 : b < 4294967296) :
    Calls Try.prog 17 #[.int .i64 13, .int .u32 a, .int .u32 b] w fun e w' => e = .returned (.tuple #[.int .u32 (MM.dm 13 a b), .bool (MM.dk 13)]) ∧ Below w.heap.size w w' := by
  obtain ⟨p0, p1⟩ := MM.prod_bd a b a0 a1 b0 b1
  obtain ⟨q0, q1⟩ := MM.svsv_bd a b a0 a1 b0 b1
  go_enter Try.func17, Try.ntmps17
  go_wp2_with (first | (go_at_call 21; refine (rsigned_any _ _ (by omega) (by omega)).mono ?_; rintro e w1 ⟨rfl, rfl⟩))
  go_ret2
  exact ⟨ret_pair rfl rfl, Below.refl _ _⟩
set_option maxHeartbeats 400000 in
theorem do_12 (a b : Int) (w : World) (a0 : 0 ≤ a) (a1 : a < 4294967296) (b0 : 0 ≤ b) (b1 : b < 4294967296) :
    Calls Try.prog 16 #[.int .i64 12, .int .u32 a, .int .u32 b] w fun e w' => e = .returned (.tuple #[.int .u32 (MM.dm 12 a b), .bool (MM.dk 12)]) ∧ Below w.heap.size w w' := by
  obtain ⟨p0, p1⟩ := MM.prod_bd a b a0 a1 b0 b1
  obtain ⟨q0, q1⟩ := MM.svsv_bd a b a0 a1 b0 b1
  go_enter Try.func16, Try.ntmps16
  go_wp2_with (first | (go_at_call 14; refine (new_any _ _ _).mono ?_; rintro e w1 ⟨rfl, hb1⟩; have HB1 := Lib.hid hb1; clear hb1) | (go_at_call 7; refine (prod_any _ _ _ (by omega) (by omega) (by omega) (by omega)).mono ?_; rintro e w2 ⟨rfl, hb2⟩; have HB2 := Lib.hid hb2; clear hb2) | (go_at_call 20; refine (signed_any _ _ _ _ (by omega) (by omega) (by omega) (by omega) (by omega) (by omega)).mono ?_; rintro e w3 ⟨rfl, nd, rfl⟩))
  go_ret2
  exact ⟨ret_pair rfl rfl, below_drewN (HB1.out.trans (HB2.out.mono HB1.out.size)) _⟩
theorem sg_walk (a b : Int) (a0 : 0 ≤ a) (a1 : a < 4294967296) (b0 : 0 ≤ b) (b1 : b < 4294967296) : IntKind.u64.wrap ((IntKind.u64.wrap (MM.sv a * MM.sv b)).tdiv 4294967296) % 4294967296 = MM.dm 12 a b := by
  rw [MM.dm_sign, ← MM.sg_high a b a0 a1 b0 b1, IntKind.wrap_u64, IntKind.wrap_u64]
  generalize MM.sv a * MM.sv b = p
  rw [Int.tdiv_eq_ediv_of_nonneg (by omega)]
  omega
set_option maxHeartbeats 400000 in
theorem rdo_12 (a b : Int) (w : World) (a0 : 0 ≤ a) (a1 : a < 4294967296) (b0 : 0 ≤ b) (b1 : b < 4294967296) :
    Calls Try.prog 17 #[.int .i64 12, .int .u32 a, .int .u32 b] w fun e w' => e = .returned (.tuple #[.int .u32 (MM.dm 12 a b), .bool (MM.dk 12)]) ∧ Below w.heap.size w w' := by
  obtain ⟨p0, p1⟩ := MM.prod_bd a b a0 a1 b0 b1
  obtain ⟨q0, q1⟩ := MM.svsv_bd a b a0 a1 b0 b1
  go_enter Try.func17, Try.ntmps17
  go_wp2_with (first | (go_at_call 21; refine (rsigned_any _ _ (by omega) (by omega)).mono ?_; rintro e w1 ⟨rfl, rfl⟩))
  go_ret2
  exact ⟨ret_pair (sg_walk a b a0 a1 b0 b1) rfl, Below.refl _ _⟩
set_option maxHeartbeats 400000 in
theorem do_other (op a b : Int) (w : World) (a0 : 0 ≤ a) (a1 : a < 4294967296) (b0 : 0 ≤ b) (b1 : b < 4294967296) (h1 : op ≠ 11) (h2 : op ≠ 13) (h3 : op ≠ 12) :
    Calls Try.prog 16 #[.int .i64 op, .int .u32 a, .int .u32 b] w fun e w' => e = .returned (.tuple #[.int .u32 (MM.dm op a b), .bool (MM.dk op)]) ∧ Below w.heap.size w w' := by
  have H1 := Lib.hid h1
  have H2 := Lib.hid h2
  have H3 := Lib.hid h3
  have e1 : (op == 11) = false := by simpa using h1
  have e2 : (op == 13) = false := by simpa using h2
  have e3 : (op == 12) = false := by simpa using h3
  clear h1 h2 h3
  obtain ⟨p0, p1⟩ := MM.prod_bd a b a0 a1 b0 b1
  obtain ⟨q0, q1⟩ := MM.svsv_bd a b a0 a1 b0 b1
  go_enter Try.func16, Try.ntmps16
  go_wp2_with (first | (go_at_call 14; refine (new_any _ _ _).mono ?_; rintro e w1 ⟨rfl, hb1⟩; have HB1 := Lib.hid hb1; clear hb1) | (go_at_call 7; refine (prod_any _ _ _ (by omega) (by omega) (by omega) (by omega)).mono ?_; rintro e w2 ⟨rfl, hb2⟩; have HB2 := Lib.hid hb2; clear hb2) | (go_at_call 20; refine (signed_any _ _ _ _ (by omega) (by omega) (by omega) (by omega) (by omega) (by omega)).mono ?_; rintro e w3 ⟨rfl, nd, rfl⟩))
  go_ret2
  exact ⟨ret_pair (MM.dm_other op a b H1.out H2.out H3.out).symm (MM.dk_other op H1.out H2.out H3.out).symm, HB1.out.trans (HB2.out.mono HB1.out.size)⟩
set_option maxHeartbeats 400000 in
theorem rdo_other (op a b : Int) (w : World) (a0 : 0 ≤ a) (a1 : a < 4294967296) (b0 : 0 ≤ b) (b1 : b < 4294967296) (h1 : op ≠ 11) (h2 : op ≠ 13) (h3 : op ≠ 12) :
    Calls Try.prog 17 #[.int .i64 op, .int .u32 a, .int .u32 b] w fun e w' => e = .returned (.tuple #[.int .u32 (MM.dm op a b), .bool (MM.dk op)]) ∧ Below w.heap.size w w' := by
  have H1 := Lib.hid h1
  have H2 := Lib.hid h2
  have H3 := Lib.hid h3
  have e1 : (op == 11) = false := by simpa using h1
  have e2 : (op == 13) = false := by simpa using h2
  have e3 : (op == 12) = false := by simpa using h3
  clear h1 h2 h3
  obtain ⟨p0, p1⟩ := MM.prod_bd a b a0 a1 b0 b1
  obtain ⟨q0, q1⟩ := MM.svsv_bd a b a0 a1 b0 b1
  go_enter Try.func17, Try.ntmps17
  go_wp2_with (first | (go_at_call 21; refine (rsigned_any _ _ (by omega) (by omega)).mono ?_; rintro e w1 ⟨rfl, rfl⟩))
  go_ret2
  exact ⟨ret_pair (MM.dm_other op a b H1.out H2.out H3.out).symm (MM.dk_other op H1.out H2.out H3.out).symm, Below.refl _ _⟩
theorem do_any (op a b : Int) (w : World) (a0 : 0 ≤ a) (a1 : a < 4294967296) (b0 : 0 ≤ b) (b1 : b < 4294967296) :
    Calls Try.prog 16 #[.int .i64 op, .int .u32 a, .int .u32 b] w fun e w' => e = .returned (.tuple #[.int .u32 (MM.dm op a b), .bool (MM.dk op)]) ∧ Below w.heap.size w w' := by
  by_cases h1 : op = 11
  · subst h1; exact do_11 a b w a0 a1 b0 b1
  · by_cases h2 : op = 13
    · subst h2; exact do_13 a b w a0 a1 b0 b1
    · by_cases h3 : op = 12
      · subst h3; exact do_12 a b w a0 a1 b0 b1
      · exact do_other op a b w a0 a1 b0 b1 h1 h2 h3
theorem rdo_any (op a b : Int) (w : World) (a0 : 0 ≤ a) (a1 : a < 4294967296) (b0 : 0 ≤ b) (b1 : b < 4294967296) :
    Calls Try.prog 17 #[.int .i64 op, .int .u32 a, .int .u32 b] w fun e w' => e = .returned (.tuple #[.int .u32 (MM.dm op a b), .bool (MM.dk op)]) ∧ Below w.heap.size w w' := by
  by_cases h1 : op = 11
  · subst h1; exact rdo_11 a b w a0 a1 b0 b1
  · by_cases h2 : op = 13
    · subst h2; exact rdo_13 a b w a0 a1 b0 b1
    · by_cases h3 : op = 12
      · subst h3; exact rdo_12 a b w a0 a1 b0 b1
      · exact rdo_other op a b w a0 a1 b0 b1 h1 h2 h3
end Go.Proofs.Ytplbpbcdafakdaa
