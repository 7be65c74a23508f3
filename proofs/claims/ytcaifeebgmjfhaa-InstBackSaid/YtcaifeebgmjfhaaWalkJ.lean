/-
  The law InstBack, walked: for every instruction and every word the answer is true, and memory that was there is unchanged.
-/
import Derived.Test.YtcaifeebgmjfhaaWalkI
namespace Go.Proofs.Ytcaifeebgmjfhaa
open Go.RowKit S01
theorem At.store {w : World} {s : Nat} {o d a b m : Int} (hA : At w s o d a b m) (o' d' a' b' m' : Int) :
    At (((((w.setCell ⟨s, 0, none⟩ (.int .i64 o')).setCell ⟨s, 1, none⟩ (.int .i64 d')).setCell ⟨s, 2, none⟩ (.int .i64 a')).setCell ⟨s, 3, none⟩ (.int .i64 b')).setCell ⟨s, 4, none⟩ (.int .i64 m')) s o' d' a' b' m' := by
  obtain ⟨⟨c0, c1, c2, c3, c4⟩, f0, f1, f2, f3, f4⟩ := hA
  refine ⟨⟨?_, ?_, ?_, ?_, ?_⟩, ?_, ?_, ?_, ?_, ?_⟩ <;> simp [go_sem, c0, c1, c2, c3, c4, f0, f1, f2, f3, f4]
theorem five_size (w : World) (p0 p1 p2 p3 p4 : Addr) (v0 v1 v2 v3 v4 : Value) : (((((w.setCell p0 v0).setCell p1 v1).setCell p2 v2).setCell p3 v3).setCell p4 v4).heap.size = w.heap.size := by simp [World.setCell]
theorem five_below {W w : World} {s : Nat} (h : Below W.heap.size W w) (hs : W.heap.size ≤ s) (v0 v1 v2 v3 v4 : Value) : Below W.heap.size W (((((w.setCell ⟨s, 0, none⟩ v0).setCell ⟨s, 1, none⟩ v1).setCell ⟨s, 2, none⟩ v2).setCell ⟨s, 3, none⟩ v3).setCell ⟨s, 4, none⟩ v4) :=
  ((((h.setCell hs _).setCell hs _).setCell hs _).setCell hs _).setCell hs _

set_option maxHeartbeats 1600000 in
theorem back_yy (o d a b m x V D A B M : Int) (w : World) (x0 : 0 ≤ x) (x1 : x < 4294967296)  
    (H1 : Hid (∀ W : World, Calls Try.prog 8 #[.agg #[.int .i64 o, .int .i64 d, .int .i64 a, .int .i64 b, .int .i64 m]] W fun e w' => e = .returned (.tuple #[.int .u32 V, .int .i64 0]) ∧ Below W.heap.size W w'))
    (H2 : Hid (∀ W : World, Calls Try.prog 13 #[.int .u32 V] W fun e w' => e = .returned (.tuple #[.agg #[.int .i64 o, .int .i64 d, .int .i64 a, .int .i64 b, .int .i64 m], .int .i64 0]) ∧ Below W.heap.size W w'))
    (H3 : Hid (∀ W : World, Calls Try.prog 10 #[.agg #[.int .i64 o, .int .i64 d, .int .i64 a, .int .i64 b, .int .i64 m]] W fun e w' => e = .returned (.int .i64 0) ∧ Below W.heap.size W w'))
    (H4 : Hid (∀ W : World, Calls Try.prog 13 #[.int .u32 x] W fun e w' => e = .returned (.tuple #[.agg #[.int .i64 (x / 67108864), .int .i64 D, .int .i64 A, .int .i64 B, .int .i64 M], .int .i64 0]) ∧ Below W.heap.size W w'))
    (H5 : Hid (∀ W : World, Calls Try.prog 8 #[.agg #[.int .i64 (x / 67108864), .int .i64 D, .int .i64 A, .int .i64 B, .int .i64 M]] W fun e w' => e = .returned (.tuple #[.int .u32 x, .int .i64 0]) ∧ Below W.heap.size W w')) :
    Calls Try.prog 6 #[.agg #[.int .i64 o, .int .i64 d, .int .i64 a, .int .i64 b, .int .i64 m], .int .u32 x] w fun e w' => e = .returned (.bool true) ∧ Below w.heap.size w w' := by
  go_enter Try.func6, Try.ntmps6
  go_wp2_with fail
  (with_reducible refine (H1.out _).mono ?_); rintro e w1 ⟨rfl, hb1⟩
  have A1 := Lib.hid ((At.new w 23 o d a b m).below (by simp) hb1)
  have B1 := Lib.hid (then_new hb1)
  have S1 := Lib.hid (show w.heap.size < w1.heap.size from Nat.lt_of_lt_of_le (by simp) hb1.size)
  clear hb1
  go_wp2_with fail
  (with_reducible refine (H2.out _).mono ?_); rintro e w2 ⟨rfl, hb2⟩
  have A2 := Lib.hid (A1.out.below S1.out hb2)
  have B2 := Lib.hid (then_below B1.out hb2)
  have S2 : w.heap.size < w2.heap.size := Nat.lt_of_lt_of_le S1.out hb2.size
  clear hb2 A1 B1 S1
  obtain ⟨⟨c0, c1, c2, c3, c4⟩, f0, f1, f2, f3, f4⟩ := A2.out
  go_wp2_with fail
  (with_reducible refine (H3.out _).mono ?_); rintro e w3 ⟨rfl, hb3⟩
  clear c0 c1 c2 c3 c4 f0 f1 f2 f3 f4
  have A3 := Lib.hid ((At.new w2 23 o d a b m).below (by simp) hb3)
  have B3 := Lib.hid (then_below B2.out (then_new hb3))
  have S3 := Lib.hid (show w2.heap.size < w3.heap.size from Nat.lt_of_lt_of_le (by simp) hb3.size)
  have S6 := Lib.hid (Nat.le_of_lt S2)
  clear hb3 A2 B2 S2
  generalize w2.heap.size = s at *
  go_wp2_with fail
  (with_reducible refine (H4.out _).mono ?_); rintro e w4 ⟨rfl, hb4⟩
  have A4 := Lib.hid (A3.out.below S3.out hb4)
  have B4 := Lib.hid (then_below B3.out hb4)
  have S4 := Lib.hid (show s < w4.heap.size from Nat.lt_of_lt_of_le S3.out hb4.size)
  clear hb4 A3 B3 S3
  obtain ⟨⟨c0, c1, c2, c3, c4⟩, f0, f1, f2, f3, f4⟩ := A4.out
  go_wp2_with fail
  (with_reducible refine (H5.out _).mono ?_); rintro e w5 ⟨rfl, hb5⟩
  clear c0 c1 c2 c3 c4 f0 f1 f2 f3 f4
  have A5 := Lib.hid ((A4.out.store (x / 67108864) D A B M).below (by rw [five_size]; exact S4.out) hb5)
  have B5 := Lib.hid (then_below (five_below B4.out S6.out _ _ _ _ _) hb5)
  clear hb5 A4 B4 S4
  obtain ⟨⟨c0, c1, c2, c3, c4⟩, f0, f1, f2, f3, f4⟩ := A5.out
  clear A5
  go_wp2_with (first | (go_at_call 12; refine (awake_any _).mono ?_; rintro e w6 ⟨rfl, hb6⟩; have HB6 := Lib.hid hb6; clear hb6))
  go_ret
  exact ⟨rfl, then_below B5.out HB6.out⟩
set_option maxHeartbeats 1600000 in
theorem back_yn (o d a b m x V g : Int) (w : World) (x0 : 0 ≤ x) (x1 : x < 4294967296)  (z : (g == 0) = false) (zn : ¬ g = 0) (zb : (g != 0) = true)
    (H1 : Hid (∀ W : World, Calls Try.prog 8 #[.agg #[.int .i64 o, .int .i64 d, .int .i64 a, .int .i64 b, .int .i64 m]] W fun e w' => e = .returned (.tuple #[.int .u32 V, .int .i64 0]) ∧ Below W.heap.size W w'))
    (H2 : Hid (∀ W : World, Calls Try.prog 13 #[.int .u32 V] W fun e w' => e = .returned (.tuple #[.agg #[.int .i64 o, .int .i64 d, .int .i64 a, .int .i64 b, .int .i64 m], .int .i64 0]) ∧ Below W.heap.size W w'))
    (H3 : Hid (∀ W : World, Calls Try.prog 10 #[.agg #[.int .i64 o, .int .i64 d, .int .i64 a, .int .i64 b, .int .i64 m]] W fun e w' => e = .returned (.int .i64 0) ∧ Below W.heap.size W w'))
    (H4 : Hid (∀ W : World, Calls Try.prog 13 #[.int .u32 x] W fun e w' => e = .returned (.tuple #[.agg #[.int .i64 0, .int .i64 0, .int .i64 0, .int .i64 0, .int .i64 0], .int .i64 g]) ∧ Below W.heap.size W w'))
    (H5 : Hid (∀ W : World, Calls Try.prog 8 #[.agg #[.int .i64 0, .int .i64 0, .int .i64 0, .int .i64 0, .int .i64 0]] W fun e w' => e = .returned (.tuple #[.int .u32 0, .int .i64 9]) ∧ Below W.heap.size W w')) :
    Calls Try.prog 6 #[.agg #[.int .i64 o, .int .i64 d, .int .i64 a, .int .i64 b, .int .i64 m], .int .u32 x] w fun e w' => e = .returned (.bool true) ∧ Below w.heap.size w w' := by
  go_enter Try.func6, Try.ntmps6
  go_wp2_with fail
  (with_reducible refine (H1.out _).mono ?_); rintro e w1 ⟨rfl, hb1⟩
  have A1 := Lib.hid ((At.new w 23 o d a b m).below (by simp) hb1)
  have B1 := Lib.hid (then_new hb1)
  have S1 := Lib.hid (show w.heap.size < w1.heap.size from Nat.lt_of_lt_of_le (by simp) hb1.size)
  clear hb1
  go_wp2_with fail
  (with_reducible refine (H2.out _).mono ?_); rintro e w2 ⟨rfl, hb2⟩
  have A2 := Lib.hid (A1.out.below S1.out hb2)
  have B2 := Lib.hid (then_below B1.out hb2)
  have S2 : w.heap.size < w2.heap.size := Nat.lt_of_lt_of_le S1.out hb2.size
  clear hb2 A1 B1 S1
  obtain ⟨⟨c0, c1, c2, c3, c4⟩, f0, f1, f2, f3, f4⟩ := A2.out
  go_wp2_with fail
  (with_reducible refine (H3.out _).mono ?_); rintro e w3 ⟨rfl, hb3⟩
  clear c0 c1 c2 c3 c4 f0 f1 f2 f3 f4
  have A3 := Lib.hid ((At.new w2 23 o d a b m).below (by simp) hb3)
  have B3 := Lib.hid (then_below B2.out (then_new hb3))
  have S3 := Lib.hid (show w2.heap.size < w3.heap.size from Nat.lt_of_lt_of_le (by simp) hb3.size)
  have S6 := Lib.hid (Nat.le_of_lt S2)
  clear hb3 A2 B2 S2
  generalize w2.heap.size = s at *
  go_wp2_with fail
  (with_reducible refine (H4.out _).mono ?_); rintro e w4 ⟨rfl, hb4⟩
  have A4 := Lib.hid (A3.out.below S3.out hb4)
  have B4 := Lib.hid (then_below B3.out hb4)
  have S4 := Lib.hid (show s < w4.heap.size from Nat.lt_of_lt_of_le S3.out hb4.size)
  clear hb4 A3 B3 S3
  obtain ⟨⟨c0, c1, c2, c3, c4⟩, f0, f1, f2, f3, f4⟩ := A4.out
  go_wp2_with fail
  (with_reducible refine (H5.out _).mono ?_); rintro e w5 ⟨rfl, hb5⟩
  clear c0 c1 c2 c3 c4 f0 f1 f2 f3 f4
  have A5 := Lib.hid ((A4.out.store 0 0 0 0 0).below (by rw [five_size]; exact S4.out) hb5)
  have B5 := Lib.hid (then_below (five_below B4.out S6.out _ _ _ _ _) hb5)
  clear hb5 A4 B4 S4
  obtain ⟨⟨c0, c1, c2, c3, c4⟩, f0, f1, f2, f3, f4⟩ := A5.out
  clear A5
  go_wp2_with (first | (go_at_call 12; refine (awake_any _).mono ?_; rintro e w6 ⟨rfl, hb6⟩; have HB6 := Lib.hid hb6; clear hb6))
  go_ret
  exact ⟨rfl, then_below B5.out HB6.out⟩
set_option maxHeartbeats 1600000 in
theorem back_ny (o d a b m x c D A B M : Int) (w : World) (x0 : 0 ≤ x) (x1 : x < 4294967296) (y : (c == 0) = false) (yn : ¬ c = 0) (yb : (c != 0) = true) 
    (H1 : Hid (∀ W : World, Calls Try.prog 8 #[.agg #[.int .i64 o, .int .i64 d, .int .i64 a, .int .i64 b, .int .i64 m]] W fun e w' => e = .returned (.tuple #[.int .u32 0, .int .i64 c]) ∧ Below W.heap.size W w'))
    (H2 : Hid (∀ W : World, Calls Try.prog 13 #[.int .u32 0] W fun e w' => e = .returned (.tuple #[.agg #[.int .i64 0, .int .i64 0, .int .i64 0, .int .i64 0, .int .i64 0], .int .i64 9]) ∧ Below W.heap.size W w'))
    (H3 : Hid (∀ W : World, Calls Try.prog 10 #[.agg #[.int .i64 o, .int .i64 d, .int .i64 a, .int .i64 b, .int .i64 m]] W fun e w' => e = .returned (.int .i64 c) ∧ Below W.heap.size W w'))
    (H4 : Hid (∀ W : World, Calls Try.prog 13 #[.int .u32 x] W fun e w' => e = .returned (.tuple #[.agg #[.int .i64 (x / 67108864), .int .i64 D, .int .i64 A, .int .i64 B, .int .i64 M], .int .i64 0]) ∧ Below W.heap.size W w'))
    (H5 : Hid (∀ W : World, Calls Try.prog 8 #[.agg #[.int .i64 (x / 67108864), .int .i64 D, .int .i64 A, .int .i64 B, .int .i64 M]] W fun e w' => e = .returned (.tuple #[.int .u32 x, .int .i64 0]) ∧ Below W.heap.size W w')) :
    Calls Try.prog 6 #[.agg #[.int .i64 o, .int .i64 d, .int .i64 a, .int .i64 b, .int .i64 m], .int .u32 x] w fun e w' => e = .returned (.bool true) ∧ Below w.heap.size w w' := by
  go_enter Try.func6, Try.ntmps6
  go_wp2_with fail
  (with_reducible refine (H1.out _).mono ?_); rintro e w1 ⟨rfl, hb1⟩
  have A1 := Lib.hid ((At.new w 23 o d a b m).below (by simp) hb1)
  have B1 := Lib.hid (then_new hb1)
  have S1 := Lib.hid (show w.heap.size < w1.heap.size from Nat.lt_of_lt_of_le (by simp) hb1.size)
  clear hb1
  go_wp2_with fail
  (with_reducible refine (H2.out _).mono ?_); rintro e w2 ⟨rfl, hb2⟩
  have A2 := Lib.hid (A1.out.below S1.out hb2)
  have B2 := Lib.hid (then_below B1.out hb2)
  have S2 : w.heap.size < w2.heap.size := Nat.lt_of_lt_of_le S1.out hb2.size
  clear hb2 A1 B1 S1
  obtain ⟨⟨c0, c1, c2, c3, c4⟩, f0, f1, f2, f3, f4⟩ := A2.out
  go_wp2_with fail
  (with_reducible refine (H3.out _).mono ?_); rintro e w3 ⟨rfl, hb3⟩
  clear c0 c1 c2 c3 c4 f0 f1 f2 f3 f4
  have A3 := Lib.hid ((At.new w2 23 0 0 0 0 0).below (by simp) hb3)
  have B3 := Lib.hid (then_below B2.out (then_new hb3))
  have S3 := Lib.hid (show w2.heap.size < w3.heap.size from Nat.lt_of_lt_of_le (by simp) hb3.size)
  have S6 := Lib.hid (Nat.le_of_lt S2)
  clear hb3 A2 B2 S2
  generalize w2.heap.size = s at *
  go_wp2_with fail
  (with_reducible refine (H4.out _).mono ?_); rintro e w4 ⟨rfl, hb4⟩
  have A4 := Lib.hid (A3.out.below S3.out hb4)
  have B4 := Lib.hid (then_below B3.out hb4)
  have S4 := Lib.hid (show s < w4.heap.size from Nat.lt_of_lt_of_le S3.out hb4.size)
  clear hb4 A3 B3 S3
  obtain ⟨⟨c0, c1, c2, c3, c4⟩, f0, f1, f2, f3, f4⟩ := A4.out
  go_wp2_with fail
  (with_reducible refine (H5.out _).mono ?_); rintro e w5 ⟨rfl, hb5⟩
  clear c0 c1 c2 c3 c4 f0 f1 f2 f3 f4
  have A5 := Lib.hid ((A4.out.store (x / 67108864) D A B M).below (by rw [five_size]; exact S4.out) hb5)
  have B5 := Lib.hid (then_below (five_below B4.out S6.out _ _ _ _ _) hb5)
  clear hb5 A4 B4 S4
  obtain ⟨⟨c0, c1, c2, c3, c4⟩, f0, f1, f2, f3, f4⟩ := A5.out
  clear A5
  go_wp2_with (first | (go_at_call 12; refine (awake_any _).mono ?_; rintro e w6 ⟨rfl, hb6⟩; have HB6 := Lib.hid hb6; clear hb6))
  go_ret
  exact ⟨rfl, then_below B5.out HB6.out⟩
set_option maxHeartbeats 1600000 in
theorem back_nn (o d a b m x c g : Int) (w : World) (x0 : 0 ≤ x) (x1 : x < 4294967296) (y : (c == 0) = false) (yn : ¬ c = 0) (yb : (c != 0) = true) (z : (g == 0) = false) (zn : ¬ g = 0) (zb : (g != 0) = true)
    (H1 : Hid (∀ W : World, Calls Try.prog 8 #[.agg #[.int .i64 o, .int .i64 d, .int .i64 a, .int .i64 b, .int .i64 m]] W fun e w' => e = .returned (.tuple #[.int .u32 0, .int .i64 c]) ∧ Below W.heap.size W w'))
    (H2 : Hid (∀ W : World, Calls Try.prog 13 #[.int .u32 0] W fun e w' => e = .returned (.tuple #[.agg #[.int .i64 0, .int .i64 0, .int .i64 0, .int .i64 0, .int .i64 0], .int .i64 9]) ∧ Below W.heap.size W w'))
    (H3 : Hid (∀ W : World, Calls Try.prog 10 #[.agg #[.int .i64 o, .int .i64 d, .int .i64 a, .int .i64 b, .int .i64 m]] W fun e w' => e = .returned (.int .i64 c) ∧ Below W.heap.size W w'))
    (H4 : Hid (∀ W : World, Calls Try.prog 13 #[.int .u32 x] W fun e w' => e = .returned (.tuple #[.agg #[.int .i64 0, .int .i64 0, .int .i64 0, .int .i64 0, .int .i64 0], .int .i64 g]) ∧ Below W.heap.size W w'))
    (H5 : Hid (∀ W : World, Calls Try.prog 8 #[.agg #[.int .i64 0, .int .i64 0, .int .i64 0, .int .i64 0, .int .i64 0]] W fun e w' => e = .returned (.tuple #[.int .u32 0, .int .i64 9]) ∧ Below W.heap.size W w')) :
    Calls Try.prog 6 #[.agg #[.int .i64 o, .int .i64 d, .int .i64 a, .int .i64 b, .int .i64 m], .int .u32 x] w fun e w' => e = .returned (.bool true) ∧ Below w.heap.size w w' := by
  go_enter Try.func6, Try.ntmps6
  go_wp2_with fail
  (with_reducible refine (H1.out _).mono ?_); rintro e w1 ⟨rfl, hb1⟩
  have A1 := Lib.hid ((At.new w 23 o d a b m).below (by simp) hb1)
  have B1 := Lib.hid (then_new hb1)
  have S1 := Lib.hid (show w.heap.size < w1.heap.size from Nat.lt_of_lt_of_le (by simp) hb1.size)
  clear hb1
  go_wp2_with fail
  (with_reducible refine (H2.out _).mono ?_); rintro e w2 ⟨rfl, hb2⟩
  have A2 := Lib.hid (A1.out.below S1.out hb2)
  have B2 := Lib.hid (then_below B1.out hb2)
  have S2 : w.heap.size < w2.heap.size := Nat.lt_of_lt_of_le S1.out hb2.size
  clear hb2 A1 B1 S1
  obtain ⟨⟨c0, c1, c2, c3, c4⟩, f0, f1, f2, f3, f4⟩ := A2.out
  go_wp2_with fail
  (with_reducible refine (H3.out _).mono ?_); rintro e w3 ⟨rfl, hb3⟩
  clear c0 c1 c2 c3 c4 f0 f1 f2 f3 f4
  have A3 := Lib.hid ((At.new w2 23 0 0 0 0 0).below (by simp) hb3)
  have B3 := Lib.hid (then_below B2.out (then_new hb3))
  have S3 := Lib.hid (show w2.heap.size < w3.heap.size from Nat.lt_of_lt_of_le (by simp) hb3.size)
  have S6 := Lib.hid (Nat.le_of_lt S2)
  clear hb3 A2 B2 S2
  generalize w2.heap.size = s at *
  go_wp2_with fail
  (with_reducible refine (H4.out _).mono ?_); rintro e w4 ⟨rfl, hb4⟩
  have A4 := Lib.hid (A3.out.below S3.out hb4)
  have B4 := Lib.hid (then_below B3.out hb4)
  have S4 := Lib.hid (show s < w4.heap.size from Nat.lt_of_lt_of_le S3.out hb4.size)
  clear hb4 A3 B3 S3
  obtain ⟨⟨c0, c1, c2, c3, c4⟩, f0, f1, f2, f3, f4⟩ := A4.out
  go_wp2_with fail
  (with_reducible refine (H5.out _).mono ?_); rintro e w5 ⟨rfl, hb5⟩
  clear c0 c1 c2 c3 c4 f0 f1 f2 f3 f4
  have A5 := Lib.hid ((A4.out.store 0 0 0 0 0).below (by rw [five_size]; exact S4.out) hb5)
  have B5 := Lib.hid (then_below (five_below B4.out S6.out _ _ _ _ _) hb5)
  clear hb5 A4 B4 S4
  obtain ⟨⟨c0, c1, c2, c3, c4⟩, f0, f1, f2, f3, f4⟩ := A5.out
  clear A5
  go_wp2_with (first | (go_at_call 12; refine (awake_any _).mono ?_; rintro e w6 ⟨rfl, hb6⟩; have HB6 := Lib.hid hb6; clear hb6))
  go_ret
  exact ⟨rfl, then_below B5.out HB6.out⟩
theorem enc_nil : Hid (∀ W : World, Calls Try.prog 8 #[.agg #[.int .i64 0, .int .i64 0, .int .i64 0, .int .i64 0, .int .i64 0]] W fun e w' => e = .returned (.tuple #[.int .u32 0, .int .i64 9]) ∧ Below W.heap.size W w') := Lib.hid (fun W => by
  have h := enc_any 0 0 0 0 0 W
  rw [show IM.ec 0 0 0 0 0 = 0 by decide, show IM.rc 0 0 0 0 0 = 9 by decide] at h
  exact h)
theorem back_walk (o d a b m x : Int) (w : World) (x0 : 0 ≤ x) (x1 : x < 4294967296) :
    Calls Try.prog 6 #[.agg #[.int .i64 o, .int .i64 d, .int .i64 a, .int .i64 b, .int .i64 m], .int .u32 x] w fun e w' => e = .returned (.bool true) ∧ Below w.heap.size w w' := by
  have H1 := fun W => enc_any o d a b m W
  have H3 := fun W => right_any o d a b m W
  have H4 := fun W => dec_any x W x0 x1
  by_cases h : IM.rc o d a b m = 0
  · obtain ⟨⟨v0, v1⟩, e1, e2, e3, e4, e5⟩ := IM.back h
    have H2 := fun W => dec_ok (IM.ew o d a b m) W v0 v1 (IM.back_dr h)
    rw [e1, e2, e3, e4, e5] at H2
    have ee : IM.ec o d a b m = IM.ew o d a b m := by unfold IM.ec; rw [if_pos h]
    rw [ee, h] at H1
    rw [h] at H3
    by_cases hx : IM.dr x = 0
    · have H4 := fun W => dec_ok x W x0 x1 hx
      have H5 := fun W => enc_any (IM.dO x) (IM.dD x) (IM.dA x) (IM.dB x) (IM.dI x) W
      have hx' : IM.rc (IM.dO x) (IM.dD x) (IM.dA x) (IM.dB x) (IM.dI x) = 0 := hx
      have e6 : IM.ec (IM.dO x) (IM.dD x) (IM.dA x) (IM.dB x) (IM.dI x) = x := by unfold IM.ec; rw [if_pos hx', IM.forth x0 x1 hx]
      rw [e6, hx'] at H5
      exact back_yy o d a b m x (IM.ew o d a b m) (IM.dD x) (IM.dA x) (IM.dB x) (IM.dI x) w x0 x1 (Lib.hid H1) (Lib.hid H2) (Lib.hid H3) (Lib.hid H4) (Lib.hid H5)
    · have hg' : ¬ IM.dc x = 0 := by unfold IM.dc; rw [if_neg hx]; split <;> decide
      have hg : (IM.dc x == 0) = false := by simpa using hg'
      have hgb : (IM.dc x != 0) = true := by simpa using hg'
      unfold IM.ko at H4
      simp only [if_neg hx] at H4
      exact back_yn o d a b m x (IM.ew o d a b m) (IM.dc x) w x0 x1 hg hg' hgb (Lib.hid H1) (Lib.hid H2) (Lib.hid H3) (Lib.hid H4) enc_nil
  · have ee : IM.ec o d a b m = 0 := by unfold IM.ec; rw [if_neg h]
    rw [ee] at H1
    have hc : (IM.rc o d a b m == 0) = false := by simpa using h
    have hcb : (IM.rc o d a b m != 0) = true := by simpa using h
    by_cases hx : IM.dr x = 0
    · have H4 := fun W => dec_ok x W x0 x1 hx
      have H5 := fun W => enc_any (IM.dO x) (IM.dD x) (IM.dA x) (IM.dB x) (IM.dI x) W
      have hx' : IM.rc (IM.dO x) (IM.dD x) (IM.dA x) (IM.dB x) (IM.dI x) = 0 := hx
      have e6 : IM.ec (IM.dO x) (IM.dD x) (IM.dA x) (IM.dB x) (IM.dI x) = x := by unfold IM.ec; rw [if_pos hx', IM.forth x0 x1 hx]
      rw [e6, hx'] at H5
      exact back_ny o d a b m x (IM.rc o d a b m) (IM.dD x) (IM.dA x) (IM.dB x) (IM.dI x) w x0 x1 hc h hcb (Lib.hid H1) (Lib.hid dec_zero) (Lib.hid H3) (Lib.hid H4) (Lib.hid H5)
    · have hg' : ¬ IM.dc x = 0 := by unfold IM.dc; rw [if_neg hx]; split <;> decide
      have hg : (IM.dc x == 0) = false := by simpa using hg'
      have hgb : (IM.dc x != 0) = true := by simpa using hg'
      unfold IM.ko at H4
      simp only [if_neg hx] at H4
      exact back_nn o d a b m x (IM.rc o d a b m) (IM.dc x) w x0 x1 hc h hcb hg hg' hgb (Lib.hid H1) (Lib.hid dec_zero) (Lib.hid H3) (Lib.hid H4) enc_nil
end Go.Proofs.Ytcaifeebgmjfhaa
