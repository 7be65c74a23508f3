/-
  The laws InstEncodes and InstApart, walked: for every input the answer is true, and memory that was there is unchanged.
-/
import Derived.Test.YtcaifeebgmjfhaaWalkH
namespace Go.Proofs.Ytcaifeebgmjfhaa
open Go.RowKit S01
theorem keep_call {w v v' : World} {o d a b m : Int} (hS : v.cell? ⟨w.heap.size, 0, none⟩ = some (.int .i64 o) ∧ v.cell? ⟨w.heap.size, 1, none⟩ = some (.int .i64 d) ∧ v.cell? ⟨w.heap.size, 2, none⟩ = some (.int .i64 a) ∧ v.cell? ⟨w.heap.size, 3, none⟩ = some (.int .i64 b) ∧ v.cell? ⟨w.heap.size, 4, none⟩ = some (.int .i64 m) ∧ w.heap.size < v.heap.size ∧ Hid (Below w.heap.size w v)) (hb : Below v.heap.size v v') : v'.cell? ⟨w.heap.size, 0, none⟩ = some (.int .i64 o) ∧ v'.cell? ⟨w.heap.size, 1, none⟩ = some (.int .i64 d) ∧ v'.cell? ⟨w.heap.size, 2, none⟩ = some (.int .i64 a) ∧ v'.cell? ⟨w.heap.size, 3, none⟩ = some (.int .i64 b) ∧ v'.cell? ⟨w.heap.size, 4, none⟩ = some (.int .i64 m) ∧ w.heap.size < v'.heap.size ∧ Hid (Below w.heap.size w v') := by
  obtain ⟨c0, c1, c2, c3, c4, hs, hB⟩ := hS
  exact ⟨(hb.cell hs).trans c0, (hb.cell hs).trans c1, (hb.cell hs).trans c2, (hb.cell hs).trans c3, (hb.cell hs).trans c4, Nat.lt_of_lt_of_le hs hb.size, Lib.hid (then_below hB.out hb)⟩
theorem keep_drew {w v : World} {o d a b m : Int} (hS : v.cell? ⟨w.heap.size, 0, none⟩ = some (.int .i64 o) ∧ v.cell? ⟨w.heap.size, 1, none⟩ = some (.int .i64 d) ∧ v.cell? ⟨w.heap.size, 2, none⟩ = some (.int .i64 a) ∧ v.cell? ⟨w.heap.size, 3, none⟩ = some (.int .i64 b) ∧ v.cell? ⟨w.heap.size, 4, none⟩ = some (.int .i64 m) ∧ w.heap.size < v.heap.size ∧ Hid (Below w.heap.size w v)) : v.drew.cell? ⟨w.heap.size, 0, none⟩ = some (.int .i64 o) ∧ v.drew.cell? ⟨w.heap.size, 1, none⟩ = some (.int .i64 d) ∧ v.drew.cell? ⟨w.heap.size, 2, none⟩ = some (.int .i64 a) ∧ v.drew.cell? ⟨w.heap.size, 3, none⟩ = some (.int .i64 b) ∧ v.drew.cell? ⟨w.heap.size, 4, none⟩ = some (.int .i64 m) ∧ w.heap.size < v.drew.heap.size ∧ Hid (Below w.heap.size w v.drew) := by
  obtain ⟨c0, c1, c2, c3, c4, hs, hB⟩ := hS
  exact ⟨c0, c1, c2, c3, c4, hs, Lib.hid hB.out.drew⟩
theorem keep_new (w : World) (o d a b m : Int) (t : TypeId) : (w.alloc (.cells #[.int .i64 o, .int .i64 d, .int .i64 a, .int .i64 b, .int .i64 m] t)).cell? ⟨w.heap.size, 0, none⟩ = some (.int .i64 o) ∧ (w.alloc (.cells #[.int .i64 o, .int .i64 d, .int .i64 a, .int .i64 b, .int .i64 m] t)).cell? ⟨w.heap.size, 1, none⟩ = some (.int .i64 d) ∧ (w.alloc (.cells #[.int .i64 o, .int .i64 d, .int .i64 a, .int .i64 b, .int .i64 m] t)).cell? ⟨w.heap.size, 2, none⟩ = some (.int .i64 a) ∧ (w.alloc (.cells #[.int .i64 o, .int .i64 d, .int .i64 a, .int .i64 b, .int .i64 m] t)).cell? ⟨w.heap.size, 3, none⟩ = some (.int .i64 b) ∧ (w.alloc (.cells #[.int .i64 o, .int .i64 d, .int .i64 a, .int .i64 b, .int .i64 m] t)).cell? ⟨w.heap.size, 4, none⟩ = some (.int .i64 m) ∧ w.heap.size < (w.alloc (.cells #[.int .i64 o, .int .i64 d, .int .i64 a, .int .i64 b, .int .i64 m] t)).heap.size ∧ Hid (Below w.heap.size w (w.alloc (.cells #[.int .i64 o, .int .i64 d, .int .i64 a, .int .i64 b, .int .i64 m] t))) := by
  obtain ⟨⟨c0, c1, c2, c3, c4⟩, -⟩ := At.new w t o d a b m
  exact ⟨c0, c1, c2, c3, c4, by simp, Lib.hid ((Below.refl _ _).alloc (Nat.le_refl _) _)⟩
theorem keep_end {w v : World} {o d a b m : Int} (hS : v.cell? ⟨w.heap.size, 0, none⟩ = some (.int .i64 o) ∧ v.cell? ⟨w.heap.size, 1, none⟩ = some (.int .i64 d) ∧ v.cell? ⟨w.heap.size, 2, none⟩ = some (.int .i64 a) ∧ v.cell? ⟨w.heap.size, 3, none⟩ = some (.int .i64 b) ∧ v.cell? ⟨w.heap.size, 4, none⟩ = some (.int .i64 m) ∧ w.heap.size < v.heap.size ∧ Hid (Below w.heap.size w v)) : Below w.heap.size w v := hS.2.2.2.2.2.2.out
set_option maxHeartbeats 1000000 in
theorem encodes_walk (o d a b m : Int) (w : World) :
    Calls Try.prog 3 #[.agg #[.int .i64 o, .int .i64 d, .int .i64 a, .int .i64 b, .int .i64 m]] w fun e w' => e = .returned (.bool true) ∧ Below w.heap.size w w' := by
  have H1 := Lib.hid (fun W => enc_any o d a b m W)
  have H2 := Lib.hid (fun W => renc_any o d a b m W)
  have H3 := Lib.hid (fun W => right_any o d a b m W)
  have H4 := Lib.hid (fun W => rright_any o d a b m W)
  generalize IM.ec o d a b m = V at H1 H2
  generalize IM.rc o d a b m = c at H1 H2 H3 H4
  go_enter Try.func3, Try.ntmps3
  have HS := Lib.hid (keep_new w o d a b m 23)
  go_wp2_with fail
  (with_reducible refine (H1.out _).mono ?_); rintro e w1 ⟨rfl, hb1⟩
  have HS1 := Lib.hid (keep_call HS.out hb1)
  clear HS hb1
  obtain ⟨c0, c1, c2, c3, c4, hs, hB⟩ := HS1.out
  go_wp2_with fail
  (with_reducible refine (H2.out _).mono ?_); rintro e w2 ⟨rfl, hb2⟩
  have HS2 := Lib.hid (keep_call HS1.out hb2)
  clear HS1 hb2 c0 c1 c2 c3 c4 hs hB
  go_wp2_with fail
  go_region_held3 (fun w' => w'.cell? ⟨w.heap.size, 0, none⟩ = some (.int .i64 o) ∧ w'.cell? ⟨w.heap.size, 1, none⟩ = some (.int .i64 d) ∧ w'.cell? ⟨w.heap.size, 2, none⟩ = some (.int .i64 a) ∧ w'.cell? ⟨w.heap.size, 3, none⟩ = some (.int .i64 b) ∧ w'.cell? ⟨w.heap.size, 4, none⟩ = some (.int .i64 m) ∧ w.heap.size < w'.heap.size ∧ Hid (Below w.heap.size w w')) (first | exact keep_drew HS2.out | (exact keep_call (by assumption) (by assumption))) (first | (go_at_call 10; (with_reducible refine (H3.out _).mono ?_); rintro e w4 ⟨rfl, hb4⟩) | (go_at_call 11; (with_reducible refine (H4.out _).mono ?_); rintro e w5 ⟨rfl, hb5⟩) | (go_at_call 12; refine (awake_any _).mono ?_; rintro e w8 ⟨rfl, hb8⟩))
  all_goals
    have HE := Lib.hid (keep_end (o := o) (d := d) (a := a) (b := b) (m := m) (w := w) (by assumption))
    go_wp2
    go_ret
    exact ⟨rfl, HE.out⟩
set_option maxHeartbeats 1000000 in
theorem apart_first (o d a b m o' d' a' b' m' : Int) (w : World) (h : ¬ IM.rc o d a b m = 0) :
    Calls Try.prog 7 #[.agg #[.int .i64 o, .int .i64 d, .int .i64 a, .int .i64 b, .int .i64 m], .agg #[.int .i64 o', .int .i64 d', .int .i64 a', .int .i64 b', .int .i64 m']] w fun e w' => e = .returned (.bool true) ∧ Below w.heap.size w w' := by
  have H1 := Lib.hid (fun W => enc_any o d a b m W)
  have H2 := Lib.hid (fun W => enc_any o' d' a' b' m' W)
  generalize IM.rc o d a b m = c at H1 h
  generalize IM.rc o' d' a' b' m' = c' at H2
  generalize IM.ec o d a b m = V at H1
  generalize IM.ec o' d' a' b' m' = V' at H2
  have y : (c == 0) = false := by simpa using h
  go_enter Try.func7, Try.ntmps7
  go_wp2_with fail
  (with_reducible refine (H1.out _).mono ?_); rintro e w1 ⟨rfl, hb1⟩
  have A1 := Lib.hid (((At.new w 23 o d a b m).more (by simp) _).below (by simp; omega) hb1)
  have A2 := Lib.hid ((At.new (w.alloc (.cells #[.int .i64 o, .int .i64 d, .int .i64 a, .int .i64 b, .int .i64 m] 23)) 23 o' d' a' b' m').below (by simp) hb1)
  rw [show (w.alloc (.cells #[.int .i64 o, .int .i64 d, .int .i64 a, .int .i64 b, .int .i64 m] 23)).heap.size = w.heap.size + 1 by simp] at A2
  have B1 := Lib.hid (then_new (then_new hb1))
  have S1 := Lib.hid (show w.heap.size + 1 < w1.heap.size from Nat.lt_of_lt_of_le (by simp) hb1.size)
  clear hb1
  obtain ⟨⟨c0, c1, c2, c3, c4⟩, f0, f1, f2, f3, f4⟩ := A1.out
  obtain ⟨⟨k0, k1, k2, k3, k4⟩, g0, g1, g2, g3, g4⟩ := A2.out
  go_wp2_with fail
  (with_reducible refine (H2.out _).mono ?_); rintro e w2 ⟨rfl, hb2⟩
  clear c0 c1 c2 c3 c4 f0 f1 f2 f3 f4 k0 k1 k2 k3 k4 g0 g1 g2 g3 g4
  have A3 := Lib.hid (A1.out.below (by have := S1.out; omega) hb2)
  have A4 := Lib.hid (A2.out.below S1.out hb2)
  have B2 := Lib.hid (then_below B1.out hb2)
  clear hb2 A1 A2 B1
  obtain ⟨⟨c0, c1, c2, c3, c4⟩, f0, f1, f2, f3, f4⟩ := A3.out
  obtain ⟨⟨k0, k1, k2, k3, k4⟩, g0, g1, g2, g3, g4⟩ := A4.out
  clear A3 A4
  go_wp2_with (first | (go_at_call 12; refine (awake_any _).mono ?_; rintro e w3 ⟨rfl, hb3⟩; have HB3 := Lib.hid hb3; clear hb3))
  go_ret
  exact ⟨rfl, then_below B2.out HB3.out⟩
set_option maxHeartbeats 1000000 in
theorem apart_second (o d a b m o' d' a' b' m' : Int) (w : World) (h : IM.rc o d a b m = 0) (h' : ¬ IM.rc o' d' a' b' m' = 0) :
    Calls Try.prog 7 #[.agg #[.int .i64 o, .int .i64 d, .int .i64 a, .int .i64 b, .int .i64 m], .agg #[.int .i64 o', .int .i64 d', .int .i64 a', .int .i64 b', .int .i64 m']] w fun e w' => e = .returned (.bool true) ∧ Below w.heap.size w w' := by
  have H1 := Lib.hid (fun W => enc_any o d a b m W)
  have H2 := Lib.hid (fun W => enc_any o' d' a' b' m' W)
  rw [h] at H1
  clear h
  generalize IM.rc o' d' a' b' m' = c' at H2 h'
  generalize IM.ec o d a b m = V at H1
  generalize IM.ec o' d' a' b' m' = V' at H2
  have y : (c' == 0) = false := by simpa using h'
  go_enter Try.func7, Try.ntmps7
  go_wp2_with fail
  (with_reducible refine (H1.out _).mono ?_); rintro e w1 ⟨rfl, hb1⟩
  have A1 := Lib.hid (((At.new w 23 o d a b m).more (by simp) _).below (by simp; omega) hb1)
  have A2 := Lib.hid ((At.new (w.alloc (.cells #[.int .i64 o, .int .i64 d, .int .i64 a, .int .i64 b, .int .i64 m] 23)) 23 o' d' a' b' m').below (by simp) hb1)
  rw [show (w.alloc (.cells #[.int .i64 o, .int .i64 d, .int .i64 a, .int .i64 b, .int .i64 m] 23)).heap.size = w.heap.size + 1 by simp] at A2
  have B1 := Lib.hid (then_new (then_new hb1))
  have S1 := Lib.hid (show w.heap.size + 1 < w1.heap.size from Nat.lt_of_lt_of_le (by simp) hb1.size)
  clear hb1
  obtain ⟨⟨c0, c1, c2, c3, c4⟩, f0, f1, f2, f3, f4⟩ := A1.out
  obtain ⟨⟨k0, k1, k2, k3, k4⟩, g0, g1, g2, g3, g4⟩ := A2.out
  go_wp2_with fail
  (with_reducible refine (H2.out _).mono ?_); rintro e w2 ⟨rfl, hb2⟩
  clear c0 c1 c2 c3 c4 f0 f1 f2 f3 f4 k0 k1 k2 k3 k4 g0 g1 g2 g3 g4
  have A3 := Lib.hid (A1.out.below (by have := S1.out; omega) hb2)
  have A4 := Lib.hid (A2.out.below S1.out hb2)
  have B2 := Lib.hid (then_below B1.out hb2)
  clear hb2 A1 A2 B1
  obtain ⟨⟨c0, c1, c2, c3, c4⟩, f0, f1, f2, f3, f4⟩ := A3.out
  obtain ⟨⟨k0, k1, k2, k3, k4⟩, g0, g1, g2, g3, g4⟩ := A4.out
  clear A3 A4
  go_wp2_with (first | (go_at_call 12; refine (awake_any _).mono ?_; rintro e w3 ⟨rfl, hb3⟩; have HB3 := Lib.hid hb3; clear hb3))
  go_ret
  exact ⟨rfl, then_below B2.out HB3.out⟩
set_option maxHeartbeats 1000000 in
theorem apart_unlike (o d a b m o' d' a' b' m' : Int) (w : World) (h : IM.rc o d a b m = 0) (h' : IM.rc o' d' a' b' m' = 0) (hne : ¬ IM.ec o d a b m = IM.ec o' d' a' b' m') (hn : ¬ (o = o' ∧ d = d' ∧ a = a' ∧ b = b' ∧ m = m')) :
    Calls Try.prog 7 #[.agg #[.int .i64 o, .int .i64 d, .int .i64 a, .int .i64 b, .int .i64 m], .agg #[.int .i64 o', .int .i64 d', .int .i64 a', .int .i64 b', .int .i64 m']] w fun e w' => e = .returned (.bool true) ∧ Below w.heap.size w w' := by
  have H1 := Lib.hid (fun W => enc_any o d a b m W)
  have H2 := Lib.hid (fun W => enc_any o' d' a' b' m' W)
  rw [h] at H1
  rw [h'] at H2
  clear h h'
  generalize IM.ec o d a b m = V at H1 hne
  generalize IM.ec o' d' a' b' m' = V' at H2 hne
  have y : (V == V') = false := by simpa using hne
  go_enter Try.func7, Try.ntmps7
  go_wp2_with fail
  (with_reducible refine (H1.out _).mono ?_); rintro e w1 ⟨rfl, hb1⟩
  have A1 := Lib.hid (((At.new w 23 o d a b m).more (by simp) _).below (by simp; omega) hb1)
  have A2 := Lib.hid ((At.new (w.alloc (.cells #[.int .i64 o, .int .i64 d, .int .i64 a, .int .i64 b, .int .i64 m] 23)) 23 o' d' a' b' m').below (by simp) hb1)
  rw [show (w.alloc (.cells #[.int .i64 o, .int .i64 d, .int .i64 a, .int .i64 b, .int .i64 m] 23)).heap.size = w.heap.size + 1 by simp] at A2
  have B1 := Lib.hid (then_new (then_new hb1))
  have S1 := Lib.hid (show w.heap.size + 1 < w1.heap.size from Nat.lt_of_lt_of_le (by simp) hb1.size)
  clear hb1
  obtain ⟨⟨c0, c1, c2, c3, c4⟩, f0, f1, f2, f3, f4⟩ := A1.out
  obtain ⟨⟨k0, k1, k2, k3, k4⟩, g0, g1, g2, g3, g4⟩ := A2.out
  go_wp2_with fail
  (with_reducible refine (H2.out _).mono ?_); rintro e w2 ⟨rfl, hb2⟩
  clear c0 c1 c2 c3 c4 f0 f1 f2 f3 f4 k0 k1 k2 k3 k4 g0 g1 g2 g3 g4
  have A3 := Lib.hid (A1.out.below (by have := S1.out; omega) hb2)
  have A4 := Lib.hid (A2.out.below S1.out hb2)
  have B2 := Lib.hid (then_below B1.out hb2)
  clear hb2 A1 A2 B1
  obtain ⟨⟨c0, c1, c2, c3, c4⟩, f0, f1, f2, f3, f4⟩ := A3.out
  obtain ⟨⟨k0, k1, k2, k3, k4⟩, g0, g1, g2, g3, g4⟩ := A4.out
  clear A3 A4
  go_wp2_with (first | (go_at_call 12; refine (awake_any _).mono ?_; rintro e w3 ⟨rfl, hb3⟩; have HB3 := Lib.hid hb3; clear hb3))
  all_goals go_ret
  all_goals first | exact ⟨rfl, then_below B2.out HB3.out⟩ | (exfalso; omega) | (exfalso; simp_all; done)
set_option maxHeartbeats 1000000 in
theorem apart_alike (o d a b m o' d' a' b' m' : Int) (w : World) (h : IM.rc o d a b m = 0) (h' : IM.rc o' d' a' b' m' = 0) (ho : o = o') (hd : d = d') (ha : a = a') (hb : b = b') (hm : m = m') :
    Calls Try.prog 7 #[.agg #[.int .i64 o, .int .i64 d, .int .i64 a, .int .i64 b, .int .i64 m], .agg #[.int .i64 o', .int .i64 d', .int .i64 a', .int .i64 b', .int .i64 m']] w fun e w' => e = .returned (.bool true) ∧ Below w.heap.size w w' := by
  have H1 := Lib.hid (fun W => enc_any o d a b m W)
  have H2 := Lib.hid (fun W => enc_any o' d' a' b' m' W)
  subst ho hd ha hb hm
  rw [h] at H1
  rw [h'] at H2
  clear h h'
  generalize IM.ec o d a b m = V at H1 H2
  go_enter Try.func7, Try.ntmps7
  go_wp2_with fail
  (with_reducible refine (H1.out _).mono ?_); rintro e w1 ⟨rfl, hb1⟩
  have A1 := Lib.hid (((At.new w 23 o d a b m).more (by simp) _).below (by simp; omega) hb1)
  have A2 := Lib.hid ((At.new (w.alloc (.cells #[.int .i64 o, .int .i64 d, .int .i64 a, .int .i64 b, .int .i64 m] 23)) 23 o d a b m).below (by simp) hb1)
  rw [show (w.alloc (.cells #[.int .i64 o, .int .i64 d, .int .i64 a, .int .i64 b, .int .i64 m] 23)).heap.size = w.heap.size + 1 by simp] at A2
  have B1 := Lib.hid (then_new (then_new hb1))
  have S1 := Lib.hid (show w.heap.size + 1 < w1.heap.size from Nat.lt_of_lt_of_le (by simp) hb1.size)
  clear hb1
  obtain ⟨⟨c0, c1, c2, c3, c4⟩, f0, f1, f2, f3, f4⟩ := A1.out
  obtain ⟨⟨k0, k1, k2, k3, k4⟩, g0, g1, g2, g3, g4⟩ := A2.out
  go_wp2_with fail
  (with_reducible refine (H2.out _).mono ?_); rintro e w2 ⟨rfl, hb2⟩
  clear c0 c1 c2 c3 c4 f0 f1 f2 f3 f4 k0 k1 k2 k3 k4 g0 g1 g2 g3 g4
  have A3 := Lib.hid (A1.out.below (by have := S1.out; omega) hb2)
  have A4 := Lib.hid (A2.out.below S1.out hb2)
  have B2 := Lib.hid (then_below B1.out hb2)
  clear hb2 A1 A2 B1
  obtain ⟨⟨c0, c1, c2, c3, c4⟩, f0, f1, f2, f3, f4⟩ := A3.out
  obtain ⟨⟨k0, k1, k2, k3, k4⟩, g0, g1, g2, g3, g4⟩ := A4.out
  clear A3 A4
  go_wp2_with (first | (go_at_call 12; refine (awake_any _).mono ?_; rintro e w3 ⟨rfl, hb3⟩; have HB3 := Lib.hid hb3; clear hb3))
  go_ret
  exact ⟨rfl, then_below B2.out HB3.out⟩
theorem apart_walk (o d a b m o' d' a' b' m' : Int) (w : World) :
    Calls Try.prog 7 #[.agg #[.int .i64 o, .int .i64 d, .int .i64 a, .int .i64 b, .int .i64 m], .agg #[.int .i64 o', .int .i64 d', .int .i64 a', .int .i64 b', .int .i64 m']] w fun e w' => e = .returned (.bool true) ∧ Below w.heap.size w w' := by
  by_cases h : IM.rc o d a b m = 0
  · by_cases h' : IM.rc o' d' a' b' m' = 0
    · by_cases hn : o = o' ∧ d = d' ∧ a = a' ∧ b = b' ∧ m = m'
      · obtain ⟨ho, hd, ha, hb, hm⟩ := hn
        exact apart_alike o d a b m o' d' a' b' m' w h h' ho hd ha hb hm
      · refine apart_unlike o d a b m o' d' a' b' m' w h h' (fun he => hn ?_) hn
        unfold IM.ec at he
        rw [if_pos h, if_pos h'] at he
        exact IM.apart h h' he
    · exact apart_second o d a b m o' d' a' b' m' w h h'
  · exact apart_first o d a b m o' d' a' b' m' w h
end Go.Proofs.Ytcaifeebgmjfhaa
