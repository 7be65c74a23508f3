/-
  The laws MulDoes and MulWhole, walked: for every operation and every two words the answer is true, and memory that was there is unchanged.
-/
import Derived.Test.YtplbpbcdafakdaaWalkC
import Derived.Deep.RegionHeld3
namespace Go.Proofs.Ytplbpbcdafakdaa
open Go.RowKit S01
theorem then_below {w a b : World} (h : Below w.heap.size w a) (k : Below a.heap.size a b) : Below w.heap.size w b := h.trans (k.mono h.size)
theorem run_ex (w : World) : Calls Try.prog 7 #[.agg #[.int .u32 4294967295, .int .u32 2, .int .u32 0, .int .u32 0, .int .i64 32]] w fun e w' => e = .returned (.tuple #[.int .u32 1, .int .u32 4294967294]) ∧ Below w.heap.size w w' :=
  prod_any 4294967295 2 w (by decide) (by decide) (by decide) (by decide)
theorem do_ex (w : World) : Calls Try.prog 16 #[.int .i64 12, .int .u32 4294967295, .int .u32 2] w fun e w' => e = .returned (.tuple #[.int .u32 4294967295, .bool true]) ∧ Below w.heap.size w w' :=
  do_12 4294967295 2 w (by decide) (by decide) (by decide) (by decide)
set_option maxHeartbeats 400000 in
theorem awake_any (w : World) : Calls Try.prog 13 #[] w fun e w' => e = .returned (.bool true) ∧ Below w.heap.size w w' := by
  go_enter Try.func13, Try.ntmps13
  go_wp2_with (first | (go_at_call 14; refine (new_any _ _ _).mono ?_; rintro e w1 ⟨rfl, hb1⟩; have HB1 := Lib.hid hb1; clear hb1) | (go_at_call 7; refine (run_ex _).mono ?_; rintro e w2 ⟨rfl, hb2⟩; have HB2 := Lib.hid hb2; clear hb2) | (go_at_call 16; refine (do_ex _).mono ?_; rintro e w3 ⟨rfl, hb3⟩; have HB3 := Lib.hid hb3; clear hb3))
  go_ret
  have h12 := HB1.out.trans (HB2.out.mono HB1.out.size)
  exact ⟨rfl, h12.trans (HB3.out.mono h12.size)⟩
set_option maxHeartbeats 400000 in
theorem same_any (a b h l n : Int) (w : World) : Calls Try.prog 10 #[.agg #[.int .u32 a, .int .u32 b, .int .u32 h, .int .u32 l, .int .i64 n], .agg #[.int .u32 a, .int .u32 b, .int .u32 h, .int .u32 l, .int .i64 n]] w fun e w' => e = .returned (.bool true) ∧ Below w.heap.size w w' := by
  go_enter Try.func10, Try.ntmps10
  go_wp2
  go_region_with (first | (go_at_call 8; refine (give_any _ _ _ _ _ _).mono ?_; rintro e w1 ⟨rfl, hb⟩; have HB := Lib.hid hb; obtain ⟨hc, hf⟩ := bcell hb; clear hb))
  all_goals
    go_wp2
    go_ret
    have h2 := (((Below.refl w.heap.size w).alloc (Nat.le_refl _) (.cells #[.int .u32 a, .int .u32 b, .int .u32 h, .int .u32 l, .int .i64 n] 27)).alloc (by simp) (.cells #[.int .u32 a, .int .u32 b, .int .u32 h, .int .u32 l, .int .i64 n] 24)).drew
    exact ⟨rfl, h2.trans (HB.out.mono h2.size)⟩
set_option maxHeartbeats 400000 in
theorem does_walk (op a b : Int) (w : World) (a0 : 0 ≤ a) (a1 : a < 4294967296) (b0 : 0 ≤ b) (b1 : b < 4294967296) : Calls Try.prog 6 #[.int .i64 op, .int .u32 a, .int .u32 b] w fun e w' => e = .returned (.bool true) ∧ Below w.heap.size w w' := by
  obtain ⟨r, hr⟩ : ∃ r, MM.dm op a b = r := ⟨_, rfl⟩
  obtain ⟨k, hk⟩ : ∃ k, MM.dk op = k := ⟨_, rfl⟩
  have HD := Lib.hid (fun W => do_any op a b W a0 a1 b0 b1)
  have HE := Lib.hid (fun W => do_any op b a W b0 b1 a0 a1)
  have HF := Lib.hid (fun W => rdo_any op a b W a0 a1 b0 b1)
  rw [hr, hk] at HD HF
  rw [← MM.dm_comm, hr, hk] at HE
  clear hr hk
  go_enter Try.func6, Try.ntmps6
  go_wp2_with fail
  (with_reducible refine (HD.out _).mono ?_); rintro e w1 ⟨rfl, hb1⟩; have HB1 := Lib.hid hb1; clear hb1
  go_wp2_with fail
  (with_reducible refine (HF.out _).mono ?_); rintro e w2 ⟨rfl, hb2⟩; have HB2 := Lib.hid hb2; clear hb2
  go_wp2_with fail
  (with_reducible refine (HE.out _).mono ?_); rintro e w3 ⟨rfl, hb3⟩; have HB3 := Lib.hid hb3; clear hb3
  go_wp2_with (first | (go_at_call 13; refine (awake_any _).mono ?_; rintro e w4 ⟨rfl, hb4⟩; have HB4 := Lib.hid hb4; clear hb4))
  go_ret
  have h12 := HB1.out.trans (HB2.out.mono HB1.out.size)
  have h13 := h12.trans (HB3.out.mono h12.size)
  exact ⟨rfl, h13.trans (HB4.out.mono h13.size)⟩
set_option maxHeartbeats 400000 in
theorem whole_walk (a b : Int) (w : World) (a0 : 0 ≤ a) (a1 : a < 4294967296) (b0 : 0 ≤ b) (b1 : b < 4294967296) : Calls Try.prog 4 #[.int .u32 a, .int .u32 b] w fun e w' => e = .returned (.bool true) ∧ Below w.heap.size w w' := by
  obtain ⟨p0, p1⟩ := MM.prod_bd a b a0 a1 b0 b1
  obtain ⟨H, hH⟩ : ∃ H, a * b / 4294967296 = H := ⟨_, rfl⟩
  obtain ⟨L, hL⟩ : ∃ L, a * b % 4294967296 = L := ⟨_, rfl⟩
  have HR := Lib.hid (fun W => prod_any a b W a0 a1 b0 b1)
  rw [hH, hL] at HR
  have q0 : 0 ≤ H := by omega
  have q1 : H < 4294967296 := by omega
  have q2 : 0 ≤ L := by omega
  have q3 : L < 4294967296 := by omega
  have ht : (H * 4294967296 + L == a * b) = true := by simp; omega
  clear hH hL
  go_enter Try.func4, Try.ntmps4
  go_wp2_with (first | (go_at_call 14; refine (new_any _ _ _).mono ?_; rintro e w1 ⟨rfl, hb1⟩; have HB1 := Lib.hid hb1; clear hb1))
  (with_reducible refine (HR.out _).mono ?_); rintro e w2 ⟨rfl, hb2⟩; have HB2 := Lib.hid hb2; clear hb2
  go_wp2_with (first | (go_at_call 14; refine (new_any _ _ _).mono ?_; rintro e w3 ⟨rfl, hb3⟩; have HB3 := Lib.hid hb3; clear hb3) | (go_at_call 15; refine (rnew_any _ _ _).mono ?_; rintro e w4 ⟨rfl, hb4⟩; have HB4 := Lib.hid hb4; clear hb4) | (go_at_call 10; refine (same_any _ _ _ _ _ _).mono ?_; rintro e w5 ⟨rfl, hb5⟩; have HB5 := Lib.hid hb5; clear hb5) | (go_at_call 13; refine (awake_any _).mono ?_; rintro e w6 ⟨rfl, hb6⟩; have HB6 := Lib.hid hb6; clear hb6))
  go_ret
  exact ⟨rfl, then_below (then_below (then_below (then_below (then_below HB1.out HB2.out) HB3.out) HB4.out) HB5.out) HB6.out⟩
end Go.Proofs.Ytplbpbcdafakdaa
