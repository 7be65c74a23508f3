/-
  What is read from a word, and what Dec answers, for every word, of package inst and of the reference; none changes memory that was there.
-/
import Derived.Test.YtcaifeebgmjfhaaWalkE
namespace Go.Proofs.Ytcaifeebgmjfhaa
open Go.RowKit S01
theorem sv_wrap (x : Int) (h0 : 0 ≤ x) (h1 : x < 4294967296) : wrap32 x = IM.sv x := by
  unfold IM.sv wrap32
  split <;> omega
theorem sv_bd (x : Int) (h0 : 0 ≤ x) (h1 : x < 4294967296) : -2147483648 ≤ IM.sv x ∧ IM.sv x < 2147483648 := by
  unfold IM.sv
  split <;> omega
set_option maxHeartbeats 400000 in
theorem signed_any (x : Int) (w : World) (h0 : 0 ≤ x) (h1 : x < 4294967296) : Calls Try.prog 31 #[.int .u32 x] w fun e w' => e = .returned (.int .i64 (IM.sv x)) ∧ w = w' := by
  have wa := sv_wrap x h0 h1
  obtain ⟨s0, s1⟩ := sv_bd x h0 h1
  go_enter Try.func31, Try.ntmps31
  go_wp2
  go_ret
  exact ⟨rfl, rfl⟩
set_option maxHeartbeats 400000 in
theorem field_at (x h l : Int) (w : World) (h0 : 0 ≤ x) (h1 : x < 4294967296) : Calls Try.prog 29 #[.int .u32 x, .int .i64 h, .int .i64 l] w fun e w' => e = .returned (.int .i64 (BM.fd x h l)) ∧ ∃ n, w' = w.drewN n := by
  obtain ⟨s0, s1⟩ := BM.fd_bd x h l
  have HF := Lib.hid (fun W => field_any x h l W h0 h1)
  generalize BM.fd x h l = F at HF s0 s1
  go_enter Try.func29, Try.ntmps29
  go_wp2_with (first | (go_at_call 33; (with_reducible refine (HF.out _).mono ?_); rintro e w1 ⟨rfl, n, hw⟩; have HW := Lib.hid hw; clear hw))
  go_ret
  exact ⟨rfl, n, HW.out⟩
/-- An instruction lies in the block s. -/
def At (w : World) (s : Nat) (o d a b m : Int) : Prop :=
  (w.cell? ⟨s, 0, none⟩ = some (.int .i64 o) ∧ w.cell? ⟨s, 1, none⟩ = some (.int .i64 d) ∧ w.cell? ⟨s, 2, none⟩ = some (.int .i64 a) ∧ w.cell? ⟨s, 3, none⟩ = some (.int .i64 b) ∧ w.cell? ⟨s, 4, none⟩ = some (.int .i64 m)) ∧
  (w.frozen? ⟨s, 0, none⟩ = false ∧ w.frozen? ⟨s, 1, none⟩ = false ∧ w.frozen? ⟨s, 2, none⟩ = false ∧ w.frozen? ⟨s, 3, none⟩ = false ∧ w.frozen? ⟨s, 4, none⟩ = false)
theorem At.below {w w1 : World} {s : Nat} {o d a b m : Int} (hA : At w s o d a b m) (hs : s < w.heap.size) (hb : Below w.heap.size w w1) : At w1 s o d a b m := by
  obtain ⟨⟨c0, c1, c2, c3, c4⟩, f0, f1, f2, f3, f4⟩ := hA
  exact ⟨⟨(hb.cell hs).trans c0, (hb.cell hs).trans c1, (hb.cell hs).trans c2, (hb.cell hs).trans c3, (hb.cell hs).trans c4⟩, (hb.frozen hs).trans f0, (hb.frozen hs).trans f1, (hb.frozen hs).trans f2, (hb.frozen hs).trans f3, (hb.frozen hs).trans f4⟩
theorem At.new (w : World) (t : TypeId) (o d a b m : Int) : At (w.alloc (.cells #[.int .i64 o, .int .i64 d, .int .i64 a, .int .i64 b, .int .i64 m] t)) w.heap.size o d a b m := by
  refine ⟨⟨?_, ?_, ?_, ?_, ?_⟩, ?_, ?_, ?_, ?_, ?_⟩ <;> simp [go_sem]
theorem At.more {w : World} {s : Nat} {o d a b m : Int} (hA : At w s o d a b m) (hs : s < w.heap.size) (x : Obj) : At (w.alloc x) s o d a b m := hA.below hs ((Below.refl _ _).alloc (Nat.le_refl _) _)
theorem drew_below {w w1 : World} (h : ∃ n, w1 = w.drewN n) : Below w.heap.size w w1 ∧ w1.heap.size = w.heap.size := by
  obtain ⟨n, rfl⟩ := h
  exact ⟨below_drewN (Below.refl _ _) n, by simp⟩

set_option maxHeartbeats 800000 in
theorem read_lui (x : Int) (w : World) (x0 : 0 ≤ x) (x1 : x < 4294967296) (h : IM.dO x = 33) :
    Calls Try.prog 26 #[.int .u32 x] w fun e w' => e = .returned (.agg #[.int .i64 (IM.dO x), .int .i64 (IM.dD x), .int .i64 (IM.dA x), .int .i64 (IM.dB x), .int .i64 (IM.dI x)]) ∧ Below w.heap.size w w' := by
  have H1 := Lib.hid (fun W => field_at x 31 26 W x0 x1)
  have H2 := Lib.hid (fun W => field_at x 25 22 W x0 x1)
  have H3 := Lib.hid (fun W => field_at x 21 18 W x0 x1)
  rw [IM.fO x x0 x1] at H1
  rw [IM.fD x x0] at H2
  rw [IM.fA x x0] at H3
  have e1 : IM.dB x = 0 := by unfold IM.dB; rw [if_pos (Or.inl h)]
  have HZ := Lib.hid (fun W => zext_any x 18 W x0 x1)
  rw [IM.zx18 x x0] at HZ
  have e2 : IM.dI x = x % 262144 := by unfold IM.dI; rw [if_pos h]
  rw [← e2] at HZ
  have i0 : 0 ≤ IM.dI x := by omega
  have i1 : IM.dI x < 262144 := by omega
  clear e2
  rw [h] at H1
  rw [e1, h]
  clear e1 h
  generalize IM.dD x = D at *
  generalize IM.dA x = A at *
  generalize IM.dI x = I at *
  go_enter Try.func26, Try.ntmps26
  go_wp2_with fail
  (with_reducible refine (H1.out _).mono ?_); rintro e W1 ⟨rfl, hW1⟩
  obtain ⟨b1, s1⟩ := drew_below hW1
  clear hW1
  have A1 := Lib.hid ((At.new w 23 0 0 0 0 0).below (by simp) b1)
  have B1 := Lib.hid (then_new b1)
  have S1 := Lib.hid (show w.heap.size < W1.heap.size by rw [s1]; simp)
  clear b1 s1
  go_wp2_with fail
  (with_reducible refine (H2.out _).mono ?_); rintro e W2 ⟨rfl, hW2⟩
  obtain ⟨b2, s2⟩ := drew_below hW2
  clear hW2
  have A2 := Lib.hid (A1.out.below S1.out b2)
  have B2 := Lib.hid (B1.out.trans (b2.mono B1.out.size))
  have S2 := Lib.hid (show w.heap.size < W2.heap.size by rw [s2]; exact S1.out)
  clear b2 s2 A1 B1 S1
  go_wp2_with fail
  (with_reducible refine (H3.out _).mono ?_); rintro e W3 ⟨rfl, hW3⟩
  obtain ⟨b3, s3⟩ := drew_below hW3
  clear hW3
  have A3 := Lib.hid (A2.out.below S2.out b3)
  have B3 := Lib.hid (B2.out.trans (b3.mono B2.out.size))
  have S3 := Lib.hid (show w.heap.size < W3.heap.size by rw [s3]; exact S2.out)
  clear b3 s3 A2 B2 S2
  go_wp2_with fail
  (with_reducible refine (HZ.out _).mono ?_); rintro e W4 ⟨rfl, hW4⟩
  have A4 := Lib.hid (hW4 ▸ At.new W3 23 33 D A 0 0 : At W4 W3.heap.size 33 D A 0 0)
  have A5 := Lib.hid (hW4 ▸ A3.out.more S3.out _ : At W4 w.heap.size 0 0 0 0 0)
  have B4 := Lib.hid (hW4 ▸ B3.out.alloc (Nat.le_of_lt S3.out) _ : Below w.heap.size w W4)
  have S4 : ¬ W3.heap.size = w.heap.size := by have := S3.out; omega
  have S5 : ¬ w.heap.size = W3.heap.size := by have := S3.out; omega
  have S6 := Lib.hid (Nat.le_of_lt S3.out)
  have S7 := Lib.hid (show W3.heap.size < W4.heap.size by rw [← hW4]; simp)
  clear hW4 A3 B3
  generalize W3.heap.size = s at *
  obtain ⟨⟨c0, c1, c2, c3, c4⟩, f0, f1, f2, f3, f4⟩ := A4.out
  obtain ⟨⟨k0, k1, k2, k3, k4⟩, g0, g1, g2, g3, g4⟩ := A5.out
  clear A4 A5
  go_wp2
  refine bodyPost_ret (v := .agg #[.int .i64 33, .int .i64 D, .int .i64 A, .int .i64 0, .int .i64 I]) (by simp [results, Try.results26, go_sem, k0, k1, k2, k3, k4]) rfl ⟨rfl, ?_⟩
  exact (((((B4.out.setCell S6.out _).setCell (Nat.le_refl _) _).setCell (Nat.le_refl _) _).setCell (Nat.le_refl _) _).setCell (Nat.le_refl _) _).setCell (Nat.le_refl _) _

set_option maxHeartbeats 800000 in
theorem read_jal (x : Int) (w : World) (x0 : 0 ≤ x) (x1 : x < 4294967296) (h : IM.dO x = 49) :
    Calls Try.prog 26 #[.int .u32 x] w fun e w' => e = .returned (.agg #[.int .i64 (IM.dO x), .int .i64 (IM.dD x), .int .i64 (IM.dA x), .int .i64 (IM.dB x), .int .i64 (IM.dI x)]) ∧ Below w.heap.size w w' := by
  have H1 := Lib.hid (fun W => field_at x 31 26 W x0 x1)
  have H2 := Lib.hid (fun W => field_at x 25 22 W x0 x1)
  have H3 := Lib.hid (fun W => field_at x 21 18 W x0 x1)
  rw [IM.fO x x0 x1] at H1
  rw [IM.fD x x0] at H2
  rw [IM.fA x x0] at H3
  have e1 : IM.dB x = 0 := by unfold IM.dB; rw [if_pos (Or.inr h)]
  have HZ := Lib.hid (fun W => sext_any x 18 W x0)
  obtain ⟨z0, z1⟩ := BM.sx_bd x 18
  have HS := Lib.hid (fun W => signed_any (BM.sx x 18) W z0 z1)
  rw [IM.sv18 x x0] at HS
  have e2 : IM.dI x = if x % 262144 < 131072 then x % 262144 else x % 262144 - 262144 := by unfold IM.dI; rw [if_neg (by omega), if_pos h]
  rw [← e2] at HS
  clear e2
  generalize BM.sx x 18 = Z at HZ HS z0 z1
  rw [h] at H1
  rw [e1, h]
  clear e1 h
  generalize IM.dD x = D at *
  generalize IM.dA x = A at *
  generalize IM.dI x = I at *
  go_enter Try.func26, Try.ntmps26
  go_wp2_with fail
  (with_reducible refine (H1.out _).mono ?_); rintro e W1 ⟨rfl, hW1⟩
  obtain ⟨b1, s1⟩ := drew_below hW1
  clear hW1
  have A1 := Lib.hid ((At.new w 23 0 0 0 0 0).below (by simp) b1)
  have B1 := Lib.hid (then_new b1)
  have S1 := Lib.hid (show w.heap.size < W1.heap.size by rw [s1]; simp)
  clear b1 s1
  go_wp2_with fail
  (with_reducible refine (H2.out _).mono ?_); rintro e W2 ⟨rfl, hW2⟩
  obtain ⟨b2, s2⟩ := drew_below hW2
  clear hW2
  have A2 := Lib.hid (A1.out.below S1.out b2)
  have B2 := Lib.hid (B1.out.trans (b2.mono B1.out.size))
  have S2 := Lib.hid (show w.heap.size < W2.heap.size by rw [s2]; exact S1.out)
  clear b2 s2 A1 B1 S1
  go_wp2_with fail
  (with_reducible refine (H3.out _).mono ?_); rintro e W3 ⟨rfl, hW3⟩
  obtain ⟨b3, s3⟩ := drew_below hW3
  clear hW3
  have A3 := Lib.hid (A2.out.below S2.out b3)
  have B3 := Lib.hid (B2.out.trans (b3.mono B2.out.size))
  have S3 := Lib.hid (show w.heap.size < W3.heap.size by rw [s3]; exact S2.out)
  clear b3 s3 A2 B2 S2
  go_wp2_with fail
  (with_reducible refine (HZ.out _).mono ?_); rintro e W4 ⟨rfl, hW4⟩
  have A4 := Lib.hid (hW4 ▸ At.new W3 23 49 D A 0 0 : At W4 W3.heap.size 49 D A 0 0)
  have A5 := Lib.hid (hW4 ▸ A3.out.more S3.out _ : At W4 w.heap.size 0 0 0 0 0)
  have B4 := Lib.hid (hW4 ▸ B3.out.alloc (Nat.le_of_lt S3.out) _ : Below w.heap.size w W4)
  have S4 : ¬ W3.heap.size = w.heap.size := by have := S3.out; omega
  have S5 : ¬ w.heap.size = W3.heap.size := by have := S3.out; omega
  have S6 := Lib.hid (Nat.le_of_lt S3.out)
  have S7 := Lib.hid (show W3.heap.size < W4.heap.size by rw [← hW4]; simp)
  clear hW4 A3 B3
  generalize W3.heap.size = s at *
  obtain ⟨⟨c0, c1, c2, c3, c4⟩, f0, f1, f2, f3, f4⟩ := A4.out
  obtain ⟨⟨k0, k1, k2, k3, k4⟩, g0, g1, g2, g3, g4⟩ := A5.out
  clear A4 A5
  go_wp2_with (first | (go_at_call 31; (with_reducible refine (HS.out _).mono ?_); rintro e w5 ⟨rfl, rfl⟩))
  refine bodyPost_ret (v := .agg #[.int .i64 49, .int .i64 D, .int .i64 A, .int .i64 0, .int .i64 I]) (by simp [results, Try.results26, go_sem, k0, k1, k2, k3, k4]) rfl ⟨rfl, ?_⟩
  exact (((((B4.out.setCell S6.out _).setCell (Nat.le_refl _) _).setCell (Nat.le_refl _) _).setCell (Nat.le_refl _) _).setCell (Nat.le_refl _) _).setCell (Nat.le_refl _) _

set_option maxHeartbeats 800000 in
theorem read_other (x : Int) (w : World) (x0 : 0 ≤ x) (x1 : x < 4294967296) (h3 : ¬ IM.dO x = 33) (h4 : ¬ IM.dO x = 49) :
    Calls Try.prog 26 #[.int .u32 x] w fun e w' => e = .returned (.agg #[.int .i64 (IM.dO x), .int .i64 (IM.dD x), .int .i64 (IM.dA x), .int .i64 (IM.dB x), .int .i64 (IM.dI x)]) ∧ Below w.heap.size w w' := by
  have H1 := Lib.hid (fun W => field_at x 31 26 W x0 x1)
  have H2 := Lib.hid (fun W => field_at x 25 22 W x0 x1)
  have H3 := Lib.hid (fun W => field_at x 21 18 W x0 x1)
  rw [IM.fO x x0 x1] at H1
  rw [IM.fD x x0] at H2
  rw [IM.fA x x0] at H3
  have e1 : IM.dB x = x / 16384 % 16 := by unfold IM.dB; rw [if_neg (by omega)]
  have H4 := Lib.hid (fun W => field_at x 17 14 W x0 x1)
  rw [IM.fB x x0, ← e1] at H4
  have HZ := Lib.hid (fun W => sext_any x 14 W x0)
  obtain ⟨z0, z1⟩ := BM.sx_bd x 14
  have HS := Lib.hid (fun W => signed_any (BM.sx x 14) W z0 z1)
  rw [IM.sv14 x x0] at HS
  have e2 : IM.dI x = if x % 16384 < 8192 then x % 16384 else x % 16384 - 16384 := by unfold IM.dI; rw [if_neg h3, if_neg h4]
  rw [← e2] at HS
  have y3 : (IM.dO x == 33) = false := by simpa using h3
  have y4 : (IM.dO x == 49) = false := by simpa using h4
  clear e1 e2 h3 h4
  generalize BM.sx x 14 = Z at HZ HS z0 z1
  generalize IM.dO x = O at *
  generalize IM.dD x = D at *
  generalize IM.dA x = A at *
  generalize IM.dB x = B at *
  generalize IM.dI x = I at *
  go_enter Try.func26, Try.ntmps26
  go_wp2_with fail
  (with_reducible refine (H1.out _).mono ?_); rintro e W1 ⟨rfl, hW1⟩
  obtain ⟨b1, s1⟩ := drew_below hW1
  clear hW1
  have A1 := Lib.hid ((At.new w 23 0 0 0 0 0).below (by simp) b1)
  have B1 := Lib.hid (then_new b1)
  have S1 := Lib.hid (show w.heap.size < W1.heap.size by rw [s1]; simp)
  clear b1 s1
  go_wp2_with fail
  (with_reducible refine (H2.out _).mono ?_); rintro e W2 ⟨rfl, hW2⟩
  obtain ⟨b2, s2⟩ := drew_below hW2
  clear hW2
  have A2 := Lib.hid (A1.out.below S1.out b2)
  have B2 := Lib.hid (B1.out.trans (b2.mono B1.out.size))
  have S2 := Lib.hid (show w.heap.size < W2.heap.size by rw [s2]; exact S1.out)
  clear b2 s2 A1 B1 S1
  go_wp2_with fail
  (with_reducible refine (H3.out _).mono ?_); rintro e W3 ⟨rfl, hW3⟩
  obtain ⟨b3, s3⟩ := drew_below hW3
  clear hW3
  have A3 := Lib.hid (A2.out.below S2.out b3)
  have B3 := Lib.hid (B2.out.trans (b3.mono B2.out.size))
  have S3 := Lib.hid (show w.heap.size < W3.heap.size by rw [s3]; exact S2.out)
  clear b3 s3 A2 B2 S2
  go_wp2_with fail
  (with_reducible refine (H4.out _).mono ?_); rintro e W4 ⟨rfl, hW4⟩
  obtain ⟨b4, s4⟩ := drew_below hW4
  clear hW4
  have A4 := Lib.hid ((At.new W3 23 O D A 0 0).below (by simp) b4)
  have A5 := Lib.hid ((A3.out.more S3.out _).below (by have := S3.out; simp; omega) b4)
  have B4 := Lib.hid (B3.out.trans ((then_new b4).mono (Nat.le_of_lt S3.out)))
  have S4 : ¬ W3.heap.size = w.heap.size := by have := S3.out; omega
  have S5 : ¬ w.heap.size = W3.heap.size := by have := S3.out; omega
  have S6 := Lib.hid (Nat.le_of_lt S3.out)
  clear b4 s4 A3 B3
  generalize W3.heap.size = s at *
  obtain ⟨⟨c0, c1, c2, c3, c4⟩, f0, f1, f2, f3, f4⟩ := A4.out
  obtain ⟨⟨k0, k1, k2, k3, k4⟩, g0, g1, g2, g3, g4⟩ := A5.out
  clear A4 A5
  go_wp2_with (first | (go_at_call 32; (with_reducible refine (HZ.out _).mono ?_); rintro e w5 ⟨rfl, rfl⟩) | (go_at_call 31; (with_reducible refine (HS.out _).mono ?_); rintro e w5 ⟨rfl, rfl⟩))
  refine bodyPost_ret (v := .agg #[.int .i64 O, .int .i64 D, .int .i64 A, .int .i64 B, .int .i64 I]) (by simp [results, Try.results26, go_sem, k0, k1, k2, k3, k4]) rfl ⟨rfl, ?_⟩
  exact ((((((B4.out.setCell S6.out _).setCell S6.out _).setCell (Nat.le_refl _) _).setCell (Nat.le_refl _) _).setCell (Nat.le_refl _) _).setCell (Nat.le_refl _) _).setCell (Nat.le_refl _) _

theorem read_any (x : Int) (w : World) (x0 : 0 ≤ x) (x1 : x < 4294967296) :
    Calls Try.prog 26 #[.int .u32 x] w fun e w' => e = .returned (.agg #[.int .i64 (IM.dO x), .int .i64 (IM.dD x), .int .i64 (IM.dA x), .int .i64 (IM.dB x), .int .i64 (IM.dI x)]) ∧ Below w.heap.size w w' := by
  by_cases h3 : IM.dO x = 33
  · exact read_lui x w x0 x1 h3
  · by_cases h4 : IM.dO x = 49
    · exact read_jal x w x0 x1 h4
    · exact read_other x w x0 x1 h3 h4
end Go.Proofs.Ytcaifeebgmjfhaa
