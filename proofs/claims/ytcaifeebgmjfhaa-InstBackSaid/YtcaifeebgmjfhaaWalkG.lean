/-
  What Dec answers, for every word, of package inst and of the reference; neither changes memory that was there.
-/
import Derived.Test.YtcaifeebgmjfhaaWalkF
namespace Go.Proofs.Ytcaifeebgmjfhaa
open Go.RowKit S01
set_option maxHeartbeats 800000 in
theorem dec_ok (x : Int) (w : World) (x0 : 0 ≤ x) (x1 : x < 4294967296) (h : IM.dr x = 0) :
    Calls Try.prog 13 #[.int .u32 x] w fun e w' => e = .returned (.tuple #[.agg #[.int .i64 (IM.dO x), .int .i64 (IM.dD x), .int .i64 (IM.dA x), .int .i64 (IM.dB x), .int .i64 (IM.dI x)], .int .i64 0]) ∧ Below w.heap.size w w' := by
  have H1 := Lib.hid (fun W => read_any x W x0 x1)
  have H2 := Lib.hid (fun W => right_any (IM.dO x) (IM.dD x) (IM.dA x) (IM.dB x) (IM.dI x) W)
  unfold IM.dr at h
  rw [h] at H2
  clear h
  generalize IM.dO x = O at *
  generalize IM.dD x = D at *
  generalize IM.dA x = A at *
  generalize IM.dB x = B at *
  generalize IM.dI x = I at *
  go_enter Try.func13, Try.ntmps13
  go_wp2_with fail
  (with_reducible refine (H1.out _).mono ?_); rintro e W1 ⟨rfl, b1⟩
  have A1 := Lib.hid ((At.new w 23 0 0 0 0 0).below (by simp) b1)
  have B1 := Lib.hid (then_new b1)
  have S1 := Lib.hid (show w.heap.size < W1.heap.size from Nat.lt_of_lt_of_le (by simp) b1.size)
  clear b1
  go_wp2_with fail
  (with_reducible refine (H2.out _).mono ?_); rintro e W2 ⟨rfl, b2⟩
  have A4 := Lib.hid ((At.new W1 23 O D A B I).below (by simp) b2)
  have A5 := Lib.hid ((A1.out.more S1.out _).below (by have := S1.out; simp; omega) b2)
  have B4 := Lib.hid (B1.out.trans ((then_new b2).mono (Nat.le_of_lt S1.out)))
  have S4 : ¬ W1.heap.size = w.heap.size := by have := S1.out; omega
  have S5 : ¬ w.heap.size = W1.heap.size := by have := S1.out; omega
  clear b2 A1 B1 S1
  generalize W1.heap.size = s at *
  obtain ⟨⟨c0, c1, c2, c3, c4⟩, f0, f1, f2, f3, f4⟩ := A4.out
  obtain ⟨⟨k0, k1, k2, k3, k4⟩, g0, g1, g2, g3, g4⟩ := A5.out
  clear A4 A5
  go_wp2
  refine bodyPost_ret (v := .tuple #[.agg #[.int .i64 O, .int .i64 D, .int .i64 A, .int .i64 B, .int .i64 I], .int .i64 0]) (by simp [results, Try.results13, go_sem, k0, k1, k2, k3, k4]) rfl ⟨rfl, ?_⟩
  exact ((((B4.out.setCell (Nat.le_refl _) _).setCell (Nat.le_refl _) _).setCell (Nat.le_refl _) _).setCell (Nat.le_refl _) _).setCell (Nat.le_refl _) _
set_option maxHeartbeats 800000 in
theorem dec_op (x : Int) (w : World) (x0 : 0 ≤ x) (x1 : x < 4294967296) (h : IM.dr x = 9) :
    Calls Try.prog 13 #[.int .u32 x] w fun e w' => e = .returned (.tuple #[.agg #[.int .i64 0, .int .i64 0, .int .i64 0, .int .i64 0, .int .i64 0], .int .i64 9]) ∧ Below w.heap.size w w' := by
  have H1 := Lib.hid (fun W => read_any x W x0 x1)
  have H2 := Lib.hid (fun W => right_any (IM.dO x) (IM.dD x) (IM.dA x) (IM.dB x) (IM.dI x) W)
  unfold IM.dr at h
  rw [h] at H2
  clear h
  generalize IM.dO x = O at *
  generalize IM.dD x = D at *
  generalize IM.dA x = A at *
  generalize IM.dB x = B at *
  generalize IM.dI x = I at *
  go_enter Try.func13, Try.ntmps13
  go_wp2_with fail
  (with_reducible refine (H1.out _).mono ?_); rintro e W1 ⟨rfl, b1⟩
  have A1 := Lib.hid ((At.new w 23 0 0 0 0 0).below (by simp) b1)
  have B1 := Lib.hid (then_new b1)
  have S1 := Lib.hid (show w.heap.size < W1.heap.size from Nat.lt_of_lt_of_le (by simp) b1.size)
  clear b1
  go_wp2_with fail
  (with_reducible refine (H2.out _).mono ?_); rintro e W2 ⟨rfl, b2⟩
  have A4 := Lib.hid ((At.new W1 23 O D A B I).below (by simp) b2)
  have A5 := Lib.hid ((A1.out.more S1.out _).below (by have := S1.out; simp; omega) b2)
  have B4 := Lib.hid (B1.out.trans ((then_new b2).mono (Nat.le_of_lt S1.out)))
  have S4 : ¬ W1.heap.size = w.heap.size := by have := S1.out; omega
  have S5 : ¬ w.heap.size = W1.heap.size := by have := S1.out; omega
  clear b2 A1 B1 S1
  generalize W1.heap.size = s at *
  obtain ⟨⟨c0, c1, c2, c3, c4⟩, f0, f1, f2, f3, f4⟩ := A4.out
  obtain ⟨⟨k0, k1, k2, k3, k4⟩, g0, g1, g2, g3, g4⟩ := A5.out
  clear A4 A5
  go_wp2
  refine bodyPost_ret (v := .tuple #[.agg #[.int .i64 0, .int .i64 0, .int .i64 0, .int .i64 0, .int .i64 0], .int .i64 9]) (by simp [results, Try.results13, go_sem, k0, k1, k2, k3, k4]) rfl ⟨rfl, ?_⟩
  exact ((((B4.out.setCell (Nat.le_refl _) _).setCell (Nat.le_refl _) _).setCell (Nat.le_refl _) _).setCell (Nat.le_refl _) _).setCell (Nat.le_refl _) _
set_option maxHeartbeats 800000 in
theorem dec_form (x : Int) (w : World) (x0 : 0 ≤ x) (x1 : x < 4294967296) (h : ¬ IM.dr x = 0) (h9 : ¬ IM.dr x = 9) :
    Calls Try.prog 13 #[.int .u32 x] w fun e w' => e = .returned (.tuple #[.agg #[.int .i64 0, .int .i64 0, .int .i64 0, .int .i64 0, .int .i64 0], .int .i64 2]) ∧ Below w.heap.size w w' := by
  have H1 := Lib.hid (fun W => read_any x W x0 x1)
  have H2 := Lib.hid (fun W => right_any (IM.dO x) (IM.dD x) (IM.dA x) (IM.dB x) (IM.dI x) W)
  unfold IM.dr at h h9
  generalize IM.rc (IM.dO x) (IM.dD x) (IM.dA x) (IM.dB x) (IM.dI x) = c at *
  have y0 : (c == 0) = false := by simpa using h
  have y9 : (c == 9) = false := by simpa using h9
  clear h h9
  generalize IM.dO x = O at *
  generalize IM.dD x = D at *
  generalize IM.dA x = A at *
  generalize IM.dB x = B at *
  generalize IM.dI x = I at *
  go_enter Try.func13, Try.ntmps13
  go_wp2_with fail
  (with_reducible refine (H1.out _).mono ?_); rintro e W1 ⟨rfl, b1⟩
  have A1 := Lib.hid ((At.new w 23 0 0 0 0 0).below (by simp) b1)
  have B1 := Lib.hid (then_new b1)
  have S1 := Lib.hid (show w.heap.size < W1.heap.size from Nat.lt_of_lt_of_le (by simp) b1.size)
  clear b1
  go_wp2_with fail
  (with_reducible refine (H2.out _).mono ?_); rintro e W2 ⟨rfl, b2⟩
  have A4 := Lib.hid ((At.new W1 23 O D A B I).below (by simp) b2)
  have A5 := Lib.hid ((A1.out.more S1.out _).below (by have := S1.out; simp; omega) b2)
  have B4 := Lib.hid (B1.out.trans ((then_new b2).mono (Nat.le_of_lt S1.out)))
  have S4 : ¬ W1.heap.size = w.heap.size := by have := S1.out; omega
  have S5 : ¬ w.heap.size = W1.heap.size := by have := S1.out; omega
  clear b2 A1 B1 S1
  generalize W1.heap.size = s at *
  obtain ⟨⟨c0, c1, c2, c3, c4⟩, f0, f1, f2, f3, f4⟩ := A4.out
  obtain ⟨⟨k0, k1, k2, k3, k4⟩, g0, g1, g2, g3, g4⟩ := A5.out
  clear A4 A5
  go_wp2
  refine bodyPost_ret (v := .tuple #[.agg #[.int .i64 0, .int .i64 0, .int .i64 0, .int .i64 0, .int .i64 0], .int .i64 2]) (by simp [results, Try.results13, go_sem, k0, k1, k2, k3, k4]) rfl ⟨rfl, ?_⟩
  exact ((((B4.out.setCell (Nat.le_refl _) _).setCell (Nat.le_refl _) _).setCell (Nat.le_refl _) _).setCell (Nat.le_refl _) _).setCell (Nat.le_refl _) _
theorem dec_any (x : Int) (w : World) (x0 : 0 ≤ x) (x1 : x < 4294967296) :
    Calls Try.prog 13 #[.int .u32 x] w fun e w' => e = .returned (.tuple #[.agg #[.int .i64 (IM.ko x (IM.dO x)), .int .i64 (IM.ko x (IM.dD x)), .int .i64 (IM.ko x (IM.dA x)), .int .i64 (IM.ko x (IM.dB x)), .int .i64 (IM.ko x (IM.dI x))], .int .i64 (IM.dc x)]) ∧ Below w.heap.size w w' := by
  unfold IM.ko IM.dc
  by_cases h : IM.dr x = 0
  · simp only [if_pos h]; exact dec_ok x w x0 x1 h
  · simp only [if_neg h]
    by_cases h9 : IM.dr x = 9
    · rw [if_pos ((IM.rc_nine _ _ _ _ _).1 h9)]; exact dec_op x w x0 x1 h9
    · rw [if_neg (fun h' => h9 ((IM.rc_nine _ _ _ _ _).2 h'))]; exact dec_form x w x0 x1 h h9
set_option maxHeartbeats 800000 in
theorem rdec_none (x : Int) (w : World) (x0 : 0 ≤ x) (x1 : x < 4294967296) (h : IM.fm (IM.dO x) = 0) :
    Calls Try.prog 14 #[.int .u32 x] w fun e w' => e = .returned (.tuple #[.agg #[.int .i64 0, .int .i64 0, .int .i64 0, .int .i64 0, .int .i64 0], .int .i64 9]) ∧ Below w.heap.size w w' := by
  have HF := Lib.hid (fun W => rform_any (IM.dO x) W)
  rw [h] at HF
  unfold IM.dO at HF
  clear h
  go_enter Try.func14, Try.ntmps14
  go_wp2_with (first | (go_at_call 16; (with_reducible refine (HF.out _).mono ?_); rintro e w1 ⟨rfl, rfl⟩))
  refine bodyPost_ret (v := .tuple #[.agg #[.int .i64 0, .int .i64 0, .int .i64 0, .int .i64 0, .int .i64 0], .int .i64 9]) (by simp [results, Try.results14, go_sem]) rfl ⟨rfl, ?_⟩
  exact ((Below.refl _ _).alloc (Nat.le_refl _) _).alloc (by simp) _
set_option maxHeartbeats 1600000 in
theorem rdec_lui_ok (x : Int) (w : World) (x0 : 0 ≤ x) (x1 : x < 4294967296) (hO : IM.dO x = 33) (h : IM.dr x = 0) :
    Calls Try.prog 14 #[.int .u32 x] w fun e w' => e = .returned (.tuple #[.agg #[.int .i64 (IM.dO x), .int .i64 (IM.dD x), .int .i64 (IM.dA x), .int .i64 (IM.dB x), .int .i64 (IM.dI x)], .int .i64 0]) ∧ Below w.heap.size w w' := by
  have e1 : IM.dB x = 0 := by unfold IM.dB; rw [if_pos (Or.inl hO)]
  have e2 : IM.dI x = (x % 262144) := by unfold IM.dI; rw [if_pos hO]
  have HF := Lib.hid (fun W => rform_any (x / 67108864) W)
  have HR := Lib.hid (fun W => rright_any (x / 67108864) (x / 4194304 % 16) (x / 262144 % 16) 0 (x % 262144) W)
  have e3 : IM.rc (x / 67108864) (x / 4194304 % 16) (x / 262144 % 16) 0 (x % 262144) = IM.dr x := by unfold IM.dr; rw [e1, e2]; rfl
  rw [e3] at HR
  clear e3
  rw [e1, e2]
  unfold IM.dO IM.dD IM.dA
  rw [h] at HR
  rw [(IM.fm_five (x / 67108864)).2 (Or.inl hO)] at HF
  have y : (x / 67108864 == 49) = false := by unfold IM.dO at hO; simp; omega
  clear hO
  clear e1 e2 h
  go_enter Try.func14, Try.ntmps14
  go_wp2_with (first | (go_at_call 16; (with_reducible refine (HF.out _).mono ?_); rintro e w1 ⟨rfl, rfl⟩))
  (with_reducible refine (HR.out _).mono ?_); rintro e W2 ⟨rfl, b2⟩
  have A4 := Lib.hid ((At.new (w.alloc (.cells #[.int .i64 0, .int .i64 0, .int .i64 0, .int .i64 0, .int .i64 0] 23)) 23 (x / 67108864) (x / 4194304 % 16) (x / 262144 % 16) 0 (x % 262144)).below (by simp) b2)
  have A5 := Lib.hid (((At.new w 23 0 0 0 0 0).more (by simp) _).below (by simp; omega) b2)
  have B4 := Lib.hid (then_new (then_new b2))
  rw [show (w.alloc (.cells #[.int .i64 0, .int .i64 0, .int .i64 0, .int .i64 0, .int .i64 0] 23)).heap.size = w.heap.size + 1 by simp] at A4
  clear b2
  obtain ⟨⟨c0, c1, c2, c3, c4⟩, f0, f1, f2, f3, f4⟩ := A4.out
  obtain ⟨⟨k0, k1, k2, k3, k4⟩, g0, g1, g2, g3, g4⟩ := A5.out
  clear A4 A5
  go_wp2
  refine bodyPost_ret (v := .tuple #[.agg #[.int .i64 (x / 67108864), .int .i64 (x / 4194304 % 16), .int .i64 (x / 262144 % 16), .int .i64 0, .int .i64 (x % 262144)], .int .i64 0]) (by simp [results, Try.results14, go_sem, k0, k1, k2, k3, k4]) rfl ⟨rfl, ?_⟩
  exact ((((B4.out.setCell (Nat.le_refl _) _).setCell (Nat.le_refl _) _).setCell (Nat.le_refl _) _).setCell (Nat.le_refl _) _).setCell (Nat.le_refl _) _
set_option maxHeartbeats 1600000 in
theorem rdec_jal_hi_ok (x : Int) (w : World) (x0 : 0 ≤ x) (x1 : x < 4294967296) (hO : IM.dO x = 49) (hx : ¬ x % 262144 < 131072) (h : IM.dr x = 0) :
    Calls Try.prog 14 #[.int .u32 x] w fun e w' => e = .returned (.tuple #[.agg #[.int .i64 (IM.dO x), .int .i64 (IM.dD x), .int .i64 (IM.dA x), .int .i64 (IM.dB x), .int .i64 (IM.dI x)], .int .i64 0]) ∧ Below w.heap.size w w' := by
  have e1 : IM.dB x = 0 := by unfold IM.dB; rw [if_pos (Or.inr hO)]
  have e2 : IM.dI x = (x % 262144 - 262144) := by unfold IM.dI; rw [if_neg (by omega), if_pos hO, if_neg hx]
  have HF := Lib.hid (fun W => rform_any (x / 67108864) W)
  have HR := Lib.hid (fun W => rright_any (x / 67108864) (x / 4194304 % 16) (x / 262144 % 16) 0 (x % 262144 - 262144) W)
  have e3 : IM.rc (x / 67108864) (x / 4194304 % 16) (x / 262144 % 16) 0 (x % 262144 - 262144) = IM.dr x := by unfold IM.dr; rw [e1, e2]; rfl
  rw [e3] at HR
  clear e3
  rw [e1, e2]
  unfold IM.dO IM.dD IM.dA
  rw [h] at HR
  rw [(IM.fm_five (x / 67108864)).2 (Or.inr hO)] at HF
  have y : (x / 67108864 == 49) = true := by unfold IM.dO at hO; simpa using hO
  have y1 : decide (131072 ≤ x % 262144) = true := by simp; omega
  clear hO
  clear e1 e2 h
  go_enter Try.func14, Try.ntmps14
  go_wp2_with (first | (go_at_call 16; (with_reducible refine (HF.out _).mono ?_); rintro e w1 ⟨rfl, rfl⟩))
  (with_reducible refine (HR.out _).mono ?_); rintro e W2 ⟨rfl, b2⟩
  have A4 := Lib.hid ((At.new (w.alloc (.cells #[.int .i64 0, .int .i64 0, .int .i64 0, .int .i64 0, .int .i64 0] 23)) 23 (x / 67108864) (x / 4194304 % 16) (x / 262144 % 16) 0 (x % 262144 - 262144)).below (by simp) b2)
  have A5 := Lib.hid (((At.new w 23 0 0 0 0 0).more (by simp) _).below (by simp; omega) b2)
  have B4 := Lib.hid (then_new (then_new b2))
  rw [show (w.alloc (.cells #[.int .i64 0, .int .i64 0, .int .i64 0, .int .i64 0, .int .i64 0] 23)).heap.size = w.heap.size + 1 by simp] at A4
  clear b2
  obtain ⟨⟨c0, c1, c2, c3, c4⟩, f0, f1, f2, f3, f4⟩ := A4.out
  obtain ⟨⟨k0, k1, k2, k3, k4⟩, g0, g1, g2, g3, g4⟩ := A5.out
  clear A4 A5
  go_wp2
  refine bodyPost_ret (v := .tuple #[.agg #[.int .i64 (x / 67108864), .int .i64 (x / 4194304 % 16), .int .i64 (x / 262144 % 16), .int .i64 0, .int .i64 (x % 262144 - 262144)], .int .i64 0]) (by simp [results, Try.results14, go_sem, k0, k1, k2, k3, k4]) rfl ⟨rfl, ?_⟩
  exact ((((B4.out.setCell (Nat.le_refl _) _).setCell (Nat.le_refl _) _).setCell (Nat.le_refl _) _).setCell (Nat.le_refl _) _).setCell (Nat.le_refl _) _
set_option maxHeartbeats 1600000 in
theorem rdec_jal_lo_ok (x : Int) (w : World) (x0 : 0 ≤ x) (x1 : x < 4294967296) (hO : IM.dO x = 49) (hx : x % 262144 < 131072) (h : IM.dr x = 0) :
    Calls Try.prog 14 #[.int .u32 x] w fun e w' => e = .returned (.tuple #[.agg #[.int .i64 (IM.dO x), .int .i64 (IM.dD x), .int .i64 (IM.dA x), .int .i64 (IM.dB x), .int .i64 (IM.dI x)], .int .i64 0]) ∧ Below w.heap.size w w' := by
  have e1 : IM.dB x = 0 := by unfold IM.dB; rw [if_pos (Or.inr hO)]
  have e2 : IM.dI x = (x % 262144) := by unfold IM.dI; rw [if_neg (by omega), if_pos hO, if_pos hx]
  have HF := Lib.hid (fun W => rform_any (x / 67108864) W)
  have HR := Lib.hid (fun W => rright_any (x / 67108864) (x / 4194304 % 16) (x / 262144 % 16) 0 (x % 262144) W)
  have e3 : IM.rc (x / 67108864) (x / 4194304 % 16) (x / 262144 % 16) 0 (x % 262144) = IM.dr x := by unfold IM.dr; rw [e1, e2]; rfl
  rw [e3] at HR
  clear e3
  rw [e1, e2]
  unfold IM.dO IM.dD IM.dA
  rw [h] at HR
  rw [(IM.fm_five (x / 67108864)).2 (Or.inr hO)] at HF
  have y : (x / 67108864 == 49) = true := by unfold IM.dO at hO; simpa using hO
  have y1 : decide (131072 ≤ x % 262144) = false := by simp; omega
  clear hO
  clear e1 e2 h
  go_enter Try.func14, Try.ntmps14
  go_wp2_with (first | (go_at_call 16; (with_reducible refine (HF.out _).mono ?_); rintro e w1 ⟨rfl, rfl⟩))
  (with_reducible refine (HR.out _).mono ?_); rintro e W2 ⟨rfl, b2⟩
  have A4 := Lib.hid ((At.new (w.alloc (.cells #[.int .i64 0, .int .i64 0, .int .i64 0, .int .i64 0, .int .i64 0] 23)) 23 (x / 67108864) (x / 4194304 % 16) (x / 262144 % 16) 0 (x % 262144)).below (by simp) b2)
  have A5 := Lib.hid (((At.new w 23 0 0 0 0 0).more (by simp) _).below (by simp; omega) b2)
  have B4 := Lib.hid (then_new (then_new b2))
  rw [show (w.alloc (.cells #[.int .i64 0, .int .i64 0, .int .i64 0, .int .i64 0, .int .i64 0] 23)).heap.size = w.heap.size + 1 by simp] at A4
  clear b2
  obtain ⟨⟨c0, c1, c2, c3, c4⟩, f0, f1, f2, f3, f4⟩ := A4.out
  obtain ⟨⟨k0, k1, k2, k3, k4⟩, g0, g1, g2, g3, g4⟩ := A5.out
  clear A4 A5
  go_wp2
  refine bodyPost_ret (v := .tuple #[.agg #[.int .i64 (x / 67108864), .int .i64 (x / 4194304 % 16), .int .i64 (x / 262144 % 16), .int .i64 0, .int .i64 (x % 262144)], .int .i64 0]) (by simp [results, Try.results14, go_sem, k0, k1, k2, k3, k4]) rfl ⟨rfl, ?_⟩
  exact ((((B4.out.setCell (Nat.le_refl _) _).setCell (Nat.le_refl _) _).setCell (Nat.le_refl _) _).setCell (Nat.le_refl _) _).setCell (Nat.le_refl _) _
set_option maxHeartbeats 1600000 in
theorem rdec_oth_hi_ok (x : Int) (w : World) (x0 : 0 ≤ x) (x1 : x < 4294967296) (hf : ¬ IM.fm (IM.dO x) = 0) (h3 : ¬ IM.dO x = 33) (h4 : ¬ IM.dO x = 49) (hx : ¬ x % 16384 < 8192) (h : IM.dr x = 0) :
    Calls Try.prog 14 #[.int .u32 x] w fun e w' => e = .returned (.tuple #[.agg #[.int .i64 (IM.dO x), .int .i64 (IM.dD x), .int .i64 (IM.dA x), .int .i64 (IM.dB x), .int .i64 (IM.dI x)], .int .i64 0]) ∧ Below w.heap.size w w' := by
  have e1 : IM.dB x = (x / 16384 % 16) := by unfold IM.dB; rw [if_neg (by omega)]
  have e2 : IM.dI x = (x % 16384 - 16384) := by unfold IM.dI; rw [if_neg h3, if_neg h4, if_neg hx]
  have HF := Lib.hid (fun W => rform_any (x / 67108864) W)
  have HR := Lib.hid (fun W => rright_any (x / 67108864) (x / 4194304 % 16) (x / 262144 % 16) (x / 16384 % 16) (x % 16384 - 16384) W)
  have e3 : IM.rc (x / 67108864) (x / 4194304 % 16) (x / 262144 % 16) (x / 16384 % 16) (x % 16384 - 16384) = IM.dr x := by unfold IM.dr; rw [e1, e2]; rfl
  rw [e3] at HR
  clear e3
  rw [e1, e2]
  unfold IM.dO IM.dD IM.dA
  rw [h] at HR
  have y : (IM.fm (x / 67108864) == 0) = false := by unfold IM.dO at hf; simpa using hf
  have y5 : (IM.fm (x / 67108864) == 5) = false := by
    have : ¬ IM.fm (x / 67108864) = 5 := fun h => by have h' := (IM.fm_five _).1 h; unfold IM.dO at h3 h4; omega
    simpa using this
  generalize IM.fm (x / 67108864) = f at HF y y5
  have y1 : decide (8192 ≤ x % 16384) = true := by simp; omega
  clear hf h3 h4
  clear e1 e2 h
  go_enter Try.func14, Try.ntmps14
  go_wp2_with (first | (go_at_call 16; (with_reducible refine (HF.out _).mono ?_); rintro e w1 ⟨rfl, rfl⟩))
  (with_reducible refine (HR.out _).mono ?_); rintro e W2 ⟨rfl, b2⟩
  have A4 := Lib.hid ((At.new (w.alloc (.cells #[.int .i64 0, .int .i64 0, .int .i64 0, .int .i64 0, .int .i64 0] 23)) 23 (x / 67108864) (x / 4194304 % 16) (x / 262144 % 16) (x / 16384 % 16) (x % 16384 - 16384)).below (by simp) b2)
  have A5 := Lib.hid (((At.new w 23 0 0 0 0 0).more (by simp) _).below (by simp; omega) b2)
  have B4 := Lib.hid (then_new (then_new b2))
  rw [show (w.alloc (.cells #[.int .i64 0, .int .i64 0, .int .i64 0, .int .i64 0, .int .i64 0] 23)).heap.size = w.heap.size + 1 by simp] at A4
  clear b2
  obtain ⟨⟨c0, c1, c2, c3, c4⟩, f0, f1, f2, f3, f4⟩ := A4.out
  obtain ⟨⟨k0, k1, k2, k3, k4⟩, g0, g1, g2, g3, g4⟩ := A5.out
  clear A4 A5
  go_wp2
  refine bodyPost_ret (v := .tuple #[.agg #[.int .i64 (x / 67108864), .int .i64 (x / 4194304 % 16), .int .i64 (x / 262144 % 16), .int .i64 (x / 16384 % 16), .int .i64 (x % 16384 - 16384)], .int .i64 0]) (by simp [results, Try.results14, go_sem, k0, k1, k2, k3, k4]) rfl ⟨rfl, ?_⟩
  exact ((((B4.out.setCell (Nat.le_refl _) _).setCell (Nat.le_refl _) _).setCell (Nat.le_refl _) _).setCell (Nat.le_refl _) _).setCell (Nat.le_refl _) _
set_option maxHeartbeats 1600000 in
theorem rdec_oth_lo_ok (x : Int) (w : World) (x0 : 0 ≤ x) (x1 : x < 4294967296) (hf : ¬ IM.fm (IM.dO x) = 0) (h3 : ¬ IM.dO x = 33) (h4 : ¬ IM.dO x = 49) (hx : x % 16384 < 8192) (h : IM.dr x = 0) :
    Calls Try.prog 14 #[.int .u32 x] w fun e w' => e = .returned (.tuple #[.agg #[.int .i64 (IM.dO x), .int .i64 (IM.dD x), .int .i64 (IM.dA x), .int .i64 (IM.dB x), .int .i64 (IM.dI x)], .int .i64 0]) ∧ Below w.heap.size w w' := by
  have e1 : IM.dB x = (x / 16384 % 16) := by unfold IM.dB; rw [if_neg (by omega)]
  have e2 : IM.dI x = (x % 16384) := by unfold IM.dI; rw [if_neg h3, if_neg h4, if_pos hx]
  have HF := Lib.hid (fun W => rform_any (x / 67108864) W)
  have HR := Lib.hid (fun W => rright_any (x / 67108864) (x / 4194304 % 16) (x / 262144 % 16) (x / 16384 % 16) (x % 16384) W)
  have e3 : IM.rc (x / 67108864) (x / 4194304 % 16) (x / 262144 % 16) (x / 16384 % 16) (x % 16384) = IM.dr x := by unfold IM.dr; rw [e1, e2]; rfl
  rw [e3] at HR
  clear e3
  rw [e1, e2]
  unfold IM.dO IM.dD IM.dA
  rw [h] at HR
  have y : (IM.fm (x / 67108864) == 0) = false := by unfold IM.dO at hf; simpa using hf
  have y5 : (IM.fm (x / 67108864) == 5) = false := by
    have : ¬ IM.fm (x / 67108864) = 5 := fun h => by have h' := (IM.fm_five _).1 h; unfold IM.dO at h3 h4; omega
    simpa using this
  generalize IM.fm (x / 67108864) = f at HF y y5
  have y1 : decide (8192 ≤ x % 16384) = false := by simp; omega
  clear hf h3 h4
  clear e1 e2 h
  go_enter Try.func14, Try.ntmps14
  go_wp2_with (first | (go_at_call 16; (with_reducible refine (HF.out _).mono ?_); rintro e w1 ⟨rfl, rfl⟩))
  (with_reducible refine (HR.out _).mono ?_); rintro e W2 ⟨rfl, b2⟩
  have A4 := Lib.hid ((At.new (w.alloc (.cells #[.int .i64 0, .int .i64 0, .int .i64 0, .int .i64 0, .int .i64 0] 23)) 23 (x / 67108864) (x / 4194304 % 16) (x / 262144 % 16) (x / 16384 % 16) (x % 16384)).below (by simp) b2)
  have A5 := Lib.hid (((At.new w 23 0 0 0 0 0).more (by simp) _).below (by simp; omega) b2)
  have B4 := Lib.hid (then_new (then_new b2))
  rw [show (w.alloc (.cells #[.int .i64 0, .int .i64 0, .int .i64 0, .int .i64 0, .int .i64 0] 23)).heap.size = w.heap.size + 1 by simp] at A4
  clear b2
  obtain ⟨⟨c0, c1, c2, c3, c4⟩, f0, f1, f2, f3, f4⟩ := A4.out
  obtain ⟨⟨k0, k1, k2, k3, k4⟩, g0, g1, g2, g3, g4⟩ := A5.out
  clear A4 A5
  go_wp2
  refine bodyPost_ret (v := .tuple #[.agg #[.int .i64 (x / 67108864), .int .i64 (x / 4194304 % 16), .int .i64 (x / 262144 % 16), .int .i64 (x / 16384 % 16), .int .i64 (x % 16384)], .int .i64 0]) (by simp [results, Try.results14, go_sem, k0, k1, k2, k3, k4]) rfl ⟨rfl, ?_⟩
  exact ((((B4.out.setCell (Nat.le_refl _) _).setCell (Nat.le_refl _) _).setCell (Nat.le_refl _) _).setCell (Nat.le_refl _) _).setCell (Nat.le_refl _) _
set_option maxHeartbeats 1600000 in
theorem rdec_lui_bad (x : Int) (w : World) (x0 : 0 ≤ x) (x1 : x < 4294967296) (hO : IM.dO x = 33) (h : ¬ IM.dr x = 0) :
    Calls Try.prog 14 #[.int .u32 x] w fun e w' => e = .returned (.tuple #[.agg #[.int .i64 0, .int .i64 0, .int .i64 0, .int .i64 0, .int .i64 0], .int .i64 2]) ∧ Below w.heap.size w w' := by
  have e1 : IM.dB x = 0 := by unfold IM.dB; rw [if_pos (Or.inl hO)]
  have e2 : IM.dI x = (x % 262144) := by unfold IM.dI; rw [if_pos hO]
  have HF := Lib.hid (fun W => rform_any (x / 67108864) W)
  have HR := Lib.hid (fun W => rright_any (x / 67108864) (x / 4194304 % 16) (x / 262144 % 16) 0 (x % 262144) W)
  have e3 : IM.rc (x / 67108864) (x / 4194304 % 16) (x / 262144 % 16) 0 (x % 262144) = IM.dr x := by unfold IM.dr; rw [e1, e2]; rfl
  rw [e3] at HR
  clear e3
  generalize IM.dr x = c at *
  have y0 : (c == 0) = false := by simpa using h
  rw [(IM.fm_five (x / 67108864)).2 (Or.inl hO)] at HF
  have y : (x / 67108864 == 49) = false := by unfold IM.dO at hO; simp; omega
  clear hO
  clear e1 e2 h
  go_enter Try.func14, Try.ntmps14
  go_wp2_with (first | (go_at_call 16; (with_reducible refine (HF.out _).mono ?_); rintro e w1 ⟨rfl, rfl⟩))
  (with_reducible refine (HR.out _).mono ?_); rintro e W2 ⟨rfl, b2⟩
  have A4 := Lib.hid ((At.new (w.alloc (.cells #[.int .i64 0, .int .i64 0, .int .i64 0, .int .i64 0, .int .i64 0] 23)) 23 (x / 67108864) (x / 4194304 % 16) (x / 262144 % 16) 0 (x % 262144)).below (by simp) b2)
  have A5 := Lib.hid (((At.new w 23 0 0 0 0 0).more (by simp) _).below (by simp; omega) b2)
  have B4 := Lib.hid (then_new (then_new b2))
  rw [show (w.alloc (.cells #[.int .i64 0, .int .i64 0, .int .i64 0, .int .i64 0, .int .i64 0] 23)).heap.size = w.heap.size + 1 by simp] at A4
  clear b2
  obtain ⟨⟨c0, c1, c2, c3, c4⟩, f0, f1, f2, f3, f4⟩ := A4.out
  obtain ⟨⟨k0, k1, k2, k3, k4⟩, g0, g1, g2, g3, g4⟩ := A5.out
  clear A4 A5
  go_wp2
  refine bodyPost_ret (v := .tuple #[.agg #[.int .i64 0, .int .i64 0, .int .i64 0, .int .i64 0, .int .i64 0], .int .i64 2]) (by simp [results, Try.results14, go_sem, k0, k1, k2, k3, k4]) rfl ⟨rfl, ?_⟩
  exact ((((B4.out.setCell (Nat.le_refl _) _).setCell (Nat.le_refl _) _).setCell (Nat.le_refl _) _).setCell (Nat.le_refl _) _).setCell (Nat.le_refl _) _
set_option maxHeartbeats 1600000 in
theorem rdec_jal_hi_bad (x : Int) (w : World) (x0 : 0 ≤ x) (x1 : x < 4294967296) (hO : IM.dO x = 49) (hx : ¬ x % 262144 < 131072) (h : ¬ IM.dr x = 0) :
    Calls Try.prog 14 #[.int .u32 x] w fun e w' => e = .returned (.tuple #[.agg #[.int .i64 0, .int .i64 0, .int .i64 0, .int .i64 0, .int .i64 0], .int .i64 2]) ∧ Below w.heap.size w w' := by
  have e1 : IM.dB x = 0 := by unfold IM.dB; rw [if_pos (Or.inr hO)]
  have e2 : IM.dI x = (x % 262144 - 262144) := by unfold IM.dI; rw [if_neg (by omega), if_pos hO, if_neg hx]
  have HF := Lib.hid (fun W => rform_any (x / 67108864) W)
  have HR := Lib.hid (fun W => rright_any (x / 67108864) (x / 4194304 % 16) (x / 262144 % 16) 0 (x % 262144 - 262144) W)
  have e3 : IM.rc (x / 67108864) (x / 4194304 % 16) (x / 262144 % 16) 0 (x % 262144 - 262144) = IM.dr x := by unfold IM.dr; rw [e1, e2]; rfl
  rw [e3] at HR
  clear e3
  generalize IM.dr x = c at *
  have y0 : (c == 0) = false := by simpa using h
  rw [(IM.fm_five (x / 67108864)).2 (Or.inr hO)] at HF
  have y : (x / 67108864 == 49) = true := by unfold IM.dO at hO; simpa using hO
  have y1 : decide (131072 ≤ x % 262144) = true := by simp; omega
  clear hO
  clear e1 e2 h
  go_enter Try.func14, Try.ntmps14
  go_wp2_with (first | (go_at_call 16; (with_reducible refine (HF.out _).mono ?_); rintro e w1 ⟨rfl, rfl⟩))
  (with_reducible refine (HR.out _).mono ?_); rintro e W2 ⟨rfl, b2⟩
  have A4 := Lib.hid ((At.new (w.alloc (.cells #[.int .i64 0, .int .i64 0, .int .i64 0, .int .i64 0, .int .i64 0] 23)) 23 (x / 67108864) (x / 4194304 % 16) (x / 262144 % 16) 0 (x % 262144 - 262144)).below (by simp) b2)
  have A5 := Lib.hid (((At.new w 23 0 0 0 0 0).more (by simp) _).below (by simp; omega) b2)
  have B4 := Lib.hid (then_new (then_new b2))
  rw [show (w.alloc (.cells #[.int .i64 0, .int .i64 0, .int .i64 0, .int .i64 0, .int .i64 0] 23)).heap.size = w.heap.size + 1 by simp] at A4
  clear b2
  obtain ⟨⟨c0, c1, c2, c3, c4⟩, f0, f1, f2, f3, f4⟩ := A4.out
  obtain ⟨⟨k0, k1, k2, k3, k4⟩, g0, g1, g2, g3, g4⟩ := A5.out
  clear A4 A5
  go_wp2
  refine bodyPost_ret (v := .tuple #[.agg #[.int .i64 0, .int .i64 0, .int .i64 0, .int .i64 0, .int .i64 0], .int .i64 2]) (by simp [results, Try.results14, go_sem, k0, k1, k2, k3, k4]) rfl ⟨rfl, ?_⟩
  exact ((((B4.out.setCell (Nat.le_refl _) _).setCell (Nat.le_refl _) _).setCell (Nat.le_refl _) _).setCell (Nat.le_refl _) _).setCell (Nat.le_refl _) _
set_option maxHeartbeats 1600000 in
theorem rdec_jal_lo_bad (x : Int) (w : World) (x0 : 0 ≤ x) (x1 : x < 4294967296) (hO : IM.dO x = 49) (hx : x % 262144 < 131072) (h : ¬ IM.dr x = 0) :
    Calls Try.prog 14 #[.int .u32 x] w fun e w' => e = .returned (.tuple #[.agg #[.int .i64 0, .int .i64 0, .int .i64 0, .int .i64 0, .int .i64 0], .int .i64 2]) ∧ Below w.heap.size w w' := by
  have e1 : IM.dB x = 0 := by unfold IM.dB; rw [if_pos (Or.inr hO)]
  have e2 : IM.dI x = (x % 262144) := by unfold IM.dI; rw [if_neg (by omega), if_pos hO, if_pos hx]
  have HF := Lib.hid (fun W => rform_any (x / 67108864) W)
  have HR := Lib.hid (fun W => rright_any (x / 67108864) (x / 4194304 % 16) (x / 262144 % 16) 0 (x % 262144) W)
  have e3 : IM.rc (x / 67108864) (x / 4194304 % 16) (x / 262144 % 16) 0 (x % 262144) = IM.dr x := by unfold IM.dr; rw [e1, e2]; rfl
  rw [e3] at HR
  clear e3
  generalize IM.dr x = c at *
  have y0 : (c == 0) = false := by simpa using h
  rw [(IM.fm_five (x / 67108864)).2 (Or.inr hO)] at HF
  have y : (x / 67108864 == 49) = true := by unfold IM.dO at hO; simpa using hO
  have y1 : decide (131072 ≤ x % 262144) = false := by simp; omega
  clear hO
  clear e1 e2 h
  go_enter Try.func14, Try.ntmps14
  go_wp2_with (first | (go_at_call 16; (with_reducible refine (HF.out _).mono ?_); rintro e w1 ⟨rfl, rfl⟩))
  (with_reducible refine (HR.out _).mono ?_); rintro e W2 ⟨rfl, b2⟩
  have A4 := Lib.hid ((At.new (w.alloc (.cells #[.int .i64 0, .int .i64 0, .int .i64 0, .int .i64 0, .int .i64 0] 23)) 23 (x / 67108864) (x / 4194304 % 16) (x / 262144 % 16) 0 (x % 262144)).below (by simp) b2)
  have A5 := Lib.hid (((At.new w 23 0 0 0 0 0).more (by simp) _).below (by simp; omega) b2)
  have B4 := Lib.hid (then_new (then_new b2))
  rw [show (w.alloc (.cells #[.int .i64 0, .int .i64 0, .int .i64 0, .int .i64 0, .int .i64 0] 23)).heap.size = w.heap.size + 1 by simp] at A4
  clear b2
  obtain ⟨⟨c0, c1, c2, c3, c4⟩, f0, f1, f2, f3, f4⟩ := A4.out
  obtain ⟨⟨k0, k1, k2, k3, k4⟩, g0, g1, g2, g3, g4⟩ := A5.out
  clear A4 A5
  go_wp2
  refine bodyPost_ret (v := .tuple #[.agg #[.int .i64 0, .int .i64 0, .int .i64 0, .int .i64 0, .int .i64 0], .int .i64 2]) (by simp [results, Try.results14, go_sem, k0, k1, k2, k3, k4]) rfl ⟨rfl, ?_⟩
  exact ((((B4.out.setCell (Nat.le_refl _) _).setCell (Nat.le_refl _) _).setCell (Nat.le_refl _) _).setCell (Nat.le_refl _) _).setCell (Nat.le_refl _) _
set_option maxHeartbeats 1600000 in
theorem rdec_oth_hi_bad (x : Int) (w : World) (x0 : 0 ≤ x) (x1 : x < 4294967296) (hf : ¬ IM.fm (IM.dO x) = 0) (h3 : ¬ IM.dO x = 33) (h4 : ¬ IM.dO x = 49) (hx : ¬ x % 16384 < 8192) (h : ¬ IM.dr x = 0) :
    Calls Try.prog 14 #[.int .u32 x] w fun e w' => e = .returned (.tuple #[.agg #[.int .i64 0, .int .i64 0, .int .i64 0, .int .i64 0, .int .i64 0], .int .i64 2]) ∧ Below w.heap.size w w' := by
  have e1 : IM.dB x = (x / 16384 % 16) := by unfold IM.dB; rw [if_neg (by omega)]
  have e2 : IM.dI x = (x % 16384 - 16384) := by unfold IM.dI; rw [if_neg h3, if_neg h4, if_neg hx]
  have HF := Lib.hid (fun W => rform_any (x / 67108864) W)
  have HR := Lib.hid (fun W => rright_any (x / 67108864) (x / 4194304 % 16) (x / 262144 % 16) (x / 16384 % 16) (x % 16384 - 16384) W)
  have e3 : IM.rc (x / 67108864) (x / 4194304 % 16) (x / 262144 % 16) (x / 16384 % 16) (x % 16384 - 16384) = IM.dr x := by unfold IM.dr; rw [e1, e2]; rfl
  rw [e3] at HR
  clear e3
  generalize IM.dr x = c at *
  have y0 : (c == 0) = false := by simpa using h
  have y : (IM.fm (x / 67108864) == 0) = false := by unfold IM.dO at hf; simpa using hf
  have y5 : (IM.fm (x / 67108864) == 5) = false := by
    have : ¬ IM.fm (x / 67108864) = 5 := fun h => by have h' := (IM.fm_five _).1 h; unfold IM.dO at h3 h4; omega
    simpa using this
  generalize IM.fm (x / 67108864) = f at HF y y5
  have y1 : decide (8192 ≤ x % 16384) = true := by simp; omega
  clear hf h3 h4
  clear e1 e2 h
  go_enter Try.func14, Try.ntmps14
  go_wp2_with (first | (go_at_call 16; (with_reducible refine (HF.out _).mono ?_); rintro e w1 ⟨rfl, rfl⟩))
  (with_reducible refine (HR.out _).mono ?_); rintro e W2 ⟨rfl, b2⟩
  have A4 := Lib.hid ((At.new (w.alloc (.cells #[.int .i64 0, .int .i64 0, .int .i64 0, .int .i64 0, .int .i64 0] 23)) 23 (x / 67108864) (x / 4194304 % 16) (x / 262144 % 16) (x / 16384 % 16) (x % 16384 - 16384)).below (by simp) b2)
  have A5 := Lib.hid (((At.new w 23 0 0 0 0 0).more (by simp) _).below (by simp; omega) b2)
  have B4 := Lib.hid (then_new (then_new b2))
  rw [show (w.alloc (.cells #[.int .i64 0, .int .i64 0, .int .i64 0, .int .i64 0, .int .i64 0] 23)).heap.size = w.heap.size + 1 by simp] at A4
  clear b2
  obtain ⟨⟨c0, c1, c2, c3, c4⟩, f0, f1, f2, f3, f4⟩ := A4.out
  obtain ⟨⟨k0, k1, k2, k3, k4⟩, g0, g1, g2, g3, g4⟩ := A5.out
  clear A4 A5
  go_wp2
  refine bodyPost_ret (v := .tuple #[.agg #[.int .i64 0, .int .i64 0, .int .i64 0, .int .i64 0, .int .i64 0], .int .i64 2]) (by simp [results, Try.results14, go_sem, k0, k1, k2, k3, k4]) rfl ⟨rfl, ?_⟩
  exact ((((B4.out.setCell (Nat.le_refl _) _).setCell (Nat.le_refl _) _).setCell (Nat.le_refl _) _).setCell (Nat.le_refl _) _).setCell (Nat.le_refl _) _
set_option maxHeartbeats 1600000 in
theorem rdec_oth_lo_bad (x : Int) (w : World) (x0 : 0 ≤ x) (x1 : x < 4294967296) (hf : ¬ IM.fm (IM.dO x) = 0) (h3 : ¬ IM.dO x = 33) (h4 : ¬ IM.dO x = 49) (hx : x % 16384 < 8192) (h : ¬ IM.dr x = 0) :
    Calls Try.prog 14 #[.int .u32 x] w fun e w' => e = .returned (.tuple #[.agg #[.int .i64 0, .int .i64 0, .int .i64 0, .int .i64 0, .int .i64 0], .int .i64 2]) ∧ Below w.heap.size w w' := by
  have e1 : IM.dB x = (x / 16384 % 16) := by unfold IM.dB; rw [if_neg (by omega)]
  have e2 : IM.dI x = (x % 16384) := by unfold IM.dI; rw [if_neg h3, if_neg h4, if_pos hx]
  have HF := Lib.hid (fun W => rform_any (x / 67108864) W)
  have HR := Lib.hid (fun W => rright_any (x / 67108864) (x / 4194304 % 16) (x / 262144 % 16) (x / 16384 % 16) (x % 16384) W)
  have e3 : IM.rc (x / 67108864) (x / 4194304 % 16) (x / 262144 % 16) (x / 16384 % 16) (x % 16384) = IM.dr x := by unfold IM.dr; rw [e1, e2]; rfl
  rw [e3] at HR
  clear e3
  generalize IM.dr x = c at *
  have y0 : (c == 0) = false := by simpa using h
  have y : (IM.fm (x / 67108864) == 0) = false := by unfold IM.dO at hf; simpa using hf
  have y5 : (IM.fm (x / 67108864) == 5) = false := by
    have : ¬ IM.fm (x / 67108864) = 5 := fun h => by have h' := (IM.fm_five _).1 h; unfold IM.dO at h3 h4; omega
    simpa using this
  generalize IM.fm (x / 67108864) = f at HF y y5
  have y1 : decide (8192 ≤ x % 16384) = false := by simp; omega
  clear hf h3 h4
  clear e1 e2 h
  go_enter Try.func14, Try.ntmps14
  go_wp2_with (first | (go_at_call 16; (with_reducible refine (HF.out _).mono ?_); rintro e w1 ⟨rfl, rfl⟩))
  (with_reducible refine (HR.out _).mono ?_); rintro e W2 ⟨rfl, b2⟩
  have A4 := Lib.hid ((At.new (w.alloc (.cells #[.int .i64 0, .int .i64 0, .int .i64 0, .int .i64 0, .int .i64 0] 23)) 23 (x / 67108864) (x / 4194304 % 16) (x / 262144 % 16) (x / 16384 % 16) (x % 16384)).below (by simp) b2)
  have A5 := Lib.hid (((At.new w 23 0 0 0 0 0).more (by simp) _).below (by simp; omega) b2)
  have B4 := Lib.hid (then_new (then_new b2))
  rw [show (w.alloc (.cells #[.int .i64 0, .int .i64 0, .int .i64 0, .int .i64 0, .int .i64 0] 23)).heap.size = w.heap.size + 1 by simp] at A4
  clear b2
  obtain ⟨⟨c0, c1, c2, c3, c4⟩, f0, f1, f2, f3, f4⟩ := A4.out
  obtain ⟨⟨k0, k1, k2, k3, k4⟩, g0, g1, g2, g3, g4⟩ := A5.out
  clear A4 A5
  go_wp2
  refine bodyPost_ret (v := .tuple #[.agg #[.int .i64 0, .int .i64 0, .int .i64 0, .int .i64 0, .int .i64 0], .int .i64 2]) (by simp [results, Try.results14, go_sem, k0, k1, k2, k3, k4]) rfl ⟨rfl, ?_⟩
  exact ((((B4.out.setCell (Nat.le_refl _) _).setCell (Nat.le_refl _) _).setCell (Nat.le_refl _) _).setCell (Nat.le_refl _) _).setCell (Nat.le_refl _) _
theorem rdec_any (x : Int) (w : World) (x0 : 0 ≤ x) (x1 : x < 4294967296) :
    Calls Try.prog 14 #[.int .u32 x] w fun e w' => e = .returned (.tuple #[.agg #[.int .i64 (IM.ko x (IM.dO x)), .int .i64 (IM.ko x (IM.dD x)), .int .i64 (IM.ko x (IM.dA x)), .int .i64 (IM.ko x (IM.dB x)), .int .i64 (IM.ko x (IM.dI x))], .int .i64 (IM.dc x)]) ∧ Below w.heap.size w w' := by
  unfold IM.ko IM.dc
  by_cases h : IM.dr x = 0
  · simp only [if_pos h]
    have hf : ¬ IM.fm (IM.dO x) = 0 := fun h' => by have := (IM.rc_nine (IM.dO x) (IM.dD x) (IM.dA x) (IM.dB x) (IM.dI x)).2 h'; unfold IM.dr at h; omega
    by_cases h3 : IM.dO x = 33
    · exact rdec_lui_ok x w x0 x1 h3 h
    · by_cases h4 : IM.dO x = 49
      · by_cases hx : x % 262144 < 131072
        · exact rdec_jal_lo_ok x w x0 x1 h4 hx h
        · exact rdec_jal_hi_ok x w x0 x1 h4 hx h
      · by_cases hx : x % 16384 < 8192
        · exact rdec_oth_lo_ok x w x0 x1 hf h3 h4 hx h
        · exact rdec_oth_hi_ok x w x0 x1 hf h3 h4 hx h
  · simp only [if_neg h]
    by_cases hf : IM.fm (IM.dO x) = 0
    · rw [if_pos hf]; exact rdec_none x w x0 x1 hf
    rw [if_neg hf]
    by_cases h3 : IM.dO x = 33
    · exact rdec_lui_bad x w x0 x1 h3 h
    · by_cases h4 : IM.dO x = 49
      · by_cases hx : x % 262144 < 131072
        · exact rdec_jal_lo_bad x w x0 x1 h4 hx h
        · exact rdec_jal_hi_bad x w x0 x1 h4 hx h
      · by_cases hx : x % 16384 < 8192
        · exact rdec_oth_lo_bad x w x0 x1 hf h3 h4 hx h
        · exact rdec_oth_hi_bad x w x0 x1 hf h3 h4 hx h
end Go.Proofs.Ytcaifeebgmjfhaa
