/-
  The laws InstForms, InstDecodes and InstApart, walked: for every input the answer is true, and memory that was there is unchanged.
-/
import Derived.Test.YtcaifeebgmjfhaaWalkG
import Derived.Deep.RegionHeld3
namespace Go.Proofs.Ytcaifeebgmjfhaa
open Go.RowKit S01
theorem then_below {w a b : World} (h : Below w.heap.size w a) (k : Below a.heap.size a b) : Below w.heap.size w b := h.trans (k.mono h.size)
theorem enc_ex (w : World) : Calls Try.prog 8 #[.agg #[.int .i64 25, .int .i64 1, .int .i64 0, .int .i64 0, .int .i64 5]] w fun e w' => e = .returned (.tuple #[.int .u32 1681915909, .int .i64 0]) ∧ Below w.heap.size w w' := by
  have h := enc_any 25 1 0 0 5 w
  rw [show IM.ec 25 1 0 0 5 = 1681915909 by decide, show IM.rc 25 1 0 0 5 = 0 by decide] at h
  exact h
theorem enc_no (w : World) : Calls Try.prog 8 #[.agg #[.int .i64 25, .int .i64 0, .int .i64 0, .int .i64 1, .int .i64 0]] w fun e w' => e = .returned (.tuple #[.int .u32 0, .int .i64 1]) ∧ Below w.heap.size w w' := by
  have h := enc_any 25 0 0 1 0 w
  rw [show IM.ec 25 0 0 1 0 = 0 by decide, show IM.rc 25 0 0 1 0 = 1 by decide] at h
  exact h
theorem dec_ex (w : World) : Calls Try.prog 13 #[.int .u32 1681915909] w fun e w' => e = .returned (.tuple #[.agg #[.int .i64 25, .int .i64 1, .int .i64 0, .int .i64 0, .int .i64 5], .int .i64 0]) ∧ Below w.heap.size w w' := by
  have h := dec_ok 1681915909 w (by decide) (by decide) (by decide)
  rw [show IM.dO 1681915909 = 25 by decide, show IM.dD 1681915909 = 1 by decide, show IM.dA 1681915909 = 0 by decide, show IM.dB 1681915909 = 0 by decide, show IM.dI 1681915909 = 5 by decide] at h
  exact h
theorem dec_zero (w : World) : Calls Try.prog 13 #[.int .u32 0] w fun e w' => e = .returned (.tuple #[.agg #[.int .i64 0, .int .i64 0, .int .i64 0, .int .i64 0, .int .i64 0], .int .i64 9]) ∧ Below w.heap.size w w' :=
  dec_op 0 w (by decide) (by decide) (by decide)
theorem form_ex (w : World) : Calls Try.prog 15 #[.int .i64 63] w fun e w' => e = .returned (.int .i64 10) ∧ w = w' := form_63 w
theorem priv_ex (w : World) : Calls Try.prog 17 #[.int .i64 61] w fun e w' => e = .returned (.bool true) ∧ w = w' := priv_any 61 w
set_option maxHeartbeats 800000 in
theorem awake_any (w : World) : Calls Try.prog 12 #[] w fun e w' => e = .returned (.bool true) ∧ Below w.heap.size w w' := by
  go_enter Try.func12, Try.ntmps12
  go_wp2_with fail
  refine (enc_ex _).mono ?_; rintro e w1 ⟨rfl, hb1⟩; have HB1 := Lib.hid hb1; clear hb1
  go_wp2_with fail
  refine (enc_no _).mono ?_; rintro e w2 ⟨rfl, hb2⟩; have HB2 := Lib.hid (then_below HB1.out hb2); clear hb2 HB1
  go_wp2_with fail
  refine (dec_ex _).mono ?_; rintro e w3 ⟨rfl, hb3⟩; have HB3 := Lib.hid (then_below HB2.out hb3); clear hb3 HB2
  go_wp2_with fail
  refine (dec_zero _).mono ?_; rintro e w4 ⟨rfl, hb4⟩
  have A4 := Lib.hid ((At.new w3 23 25 1 0 0 5).below (by simp) hb4)
  have HB4 := Lib.hid (then_below HB3.out (then_new hb4))
  have S4 : w3.heap.size < w4.heap.size := Nat.lt_of_lt_of_le (by simp) hb4.size
  clear hb4 HB3
  generalize w3.heap.size = s at *
  obtain ⟨⟨c0, c1, c2, c3, c4⟩, f0, f1, f2, f3, f4⟩ := A4.out
  clear A4
  go_wp2_with (first | (go_at_call 15; refine (form_ex _).mono ?_; rintro e w5 ⟨rfl, rfl⟩) | (go_at_call 17; refine (priv_ex _).mono ?_; rintro e w5 ⟨rfl, rfl⟩))
  go_ret
  exact ⟨rfl, HB4.out.alloc HB4.out.size _⟩
set_option maxHeartbeats 400000 in
theorem forms_walk (op : Int) (w : World) : Calls Try.prog 5 #[.int .i64 op] w fun e w' => e = .returned (.bool true) ∧ Below w.heap.size w w' := by
  have H1 := Lib.hid (fun W => form_any op W)
  have H2 := Lib.hid (fun W => rform_any op W)
  have H3 := Lib.hid (fun W => priv_any op W)
  have H4 := Lib.hid (fun W => rpriv_any op W)
  generalize IM.fm op = f at H1 H2
  generalize IM.pv op = p at H3 H4
  go_enter Try.func5, Try.ntmps5
  go_wp2_with (first | (go_at_call 15; (with_reducible refine (H1.out _).mono ?_); rintro e w1 ⟨rfl, rfl⟩) | (go_at_call 16; (with_reducible refine (H2.out _).mono ?_); rintro e w1 ⟨rfl, rfl⟩) | (go_at_call 17; (with_reducible refine (H3.out _).mono ?_); rintro e w1 ⟨rfl, rfl⟩) | (go_at_call 18; (with_reducible refine (H4.out _).mono ?_); rintro e w1 ⟨rfl, rfl⟩) | (go_at_call 12; refine (awake_any _).mono ?_; rintro e w2 ⟨rfl, hb⟩; have HB := Lib.hid hb; clear hb))
  go_ret
  exact ⟨rfl, HB.out⟩
set_option maxHeartbeats 800000 in
theorem decodes_walk (x : Int) (w : World) (x0 : 0 ≤ x) (x1 : x < 4294967296) : Calls Try.prog 4 #[.int .u32 x] w fun e w' => e = .returned (.bool true) ∧ Below w.heap.size w w' := by
  have H1 := Lib.hid (fun W => dec_any x W x0 x1)
  have H2 := Lib.hid (fun W => rdec_any x W x0 x1)
  generalize IM.ko x (IM.dO x) = O at H1 H2
  generalize IM.ko x (IM.dD x) = D at H1 H2
  generalize IM.ko x (IM.dA x) = A at H1 H2
  generalize IM.ko x (IM.dB x) = B at H1 H2
  generalize IM.ko x (IM.dI x) = I at H1 H2
  generalize IM.dc x = c at H1 H2
  go_enter Try.func4, Try.ntmps4
  go_wp2_with fail
  (with_reducible refine (H1.out _).mono ?_); rintro e w1 ⟨rfl, hb1⟩; have HB1 := Lib.hid hb1; clear hb1
  go_wp2_with fail
  (with_reducible refine (H2.out _).mono ?_); rintro e w2 ⟨rfl, hb2⟩
  have A2 := Lib.hid ((At.new w1 23 O D A B I).below (by simp) hb2)
  have HB2 := Lib.hid (then_below HB1.out (then_new hb2))
  have S2 : w1.heap.size < w2.heap.size := Nat.lt_of_lt_of_le (by simp) hb2.size
  clear hb2 HB1
  generalize w1.heap.size = s at *
  obtain ⟨⟨c0, c1, c2, c3, c4⟩, f0, f1, f2, f3, f4⟩ := A2.out
  clear A2
  go_wp2_with (first | (go_at_call 12; refine (awake_any _).mono ?_; rintro e w3 ⟨rfl, hb3⟩; have HB3 := Lib.hid hb3; clear hb3))
  go_ret
  exact ⟨rfl, then_below HB2.out (then_new HB3.out)⟩
end Go.Proofs.Ytcaifeebgmjfhaa
