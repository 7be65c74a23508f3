/-
  The laws DivDoes, DivRuns and DivParts, walked: for every argument of their types the answer is true, and memory that was there is unchanged.
-/
import Derived.Test.YtfobopchfiehgaaWalkE
namespace Go.Proofs.Ytfobopchfiehgaa
open Go.RowKit
set_option maxHeartbeats 400000 in
theorem does_walk (op a b : Int) (w : World) (a0 : 0 ≤ a) (a1 : a < 4294967296) (b0 : 0 ≤ b) (b1 : b < 4294967296) : Calls Try.prog 5 #[.int .i64 op, .int .u32 a, .int .u32 b] w fun e w' => e = .returned (.bool true) ∧ Below w.heap.size w w' := by
  have HD := Lib.hid (fun W => do_any op a b W a0 a1 b0 b1)
  have HF := Lib.hid (fun W => rdo_any op a b W a0 a1 b0 b1)
  obtain ⟨r, hr⟩ : ∃ r, DM.dv op a b = r := ⟨_, rfl⟩
  obtain ⟨k, hk⟩ : ∃ k, DM.dk op = k := ⟨_, rfl⟩
  rw [hr, hk] at HD HF
  clear hr hk
  go_enter Try.func5, Try.ntmps5
  go_wp2_with fail
  (with_reducible refine (HD.out _).mono ?_); rintro e w1 ⟨rfl, hb1⟩; have HB1 := Lib.hid hb1; clear hb1
  go_wp2_with fail
  (with_reducible refine (HF.out _).mono ?_); rintro e w2 ⟨rfl, rfl⟩
  go_wp2_with (first | (go_at_call 14; refine (awake_any _).mono ?_; rintro e w4 ⟨rfl, hb4⟩; have HB4 := Lib.hid hb4; clear hb4))
  go_ret
  exact ⟨rfl, then_below HB1.out HB4.out⟩
set_option maxHeartbeats 400000 in
theorem runs_walk (a b h l n : Int) (w : World) (a0 : 0 ≤ a) (a1 : a < 4294967296) (b0 : 0 ≤ b) (b1 : b < 4294967296) (h0 : 0 ≤ h) (h1 : h < 4294967296) (l0 : 0 ≤ l) (l1 : l < 4294967296) (_ : -9223372036854775808 ≤ n) (_ : n ≤ 9223372036854775807) :
    Calls Try.prog 4 #[.agg #[.int .u32 a, .int .u32 b, .int .u32 h, .int .u32 l, .int .i64 n]] w fun e w' => e = .returned (.bool true) ∧ Below w.heap.size w w' := by
  have HD := Lib.hid (fun W => run_any a b h l n W a0 a1 b0 b1 h0 h1 l0 l1)
  have HF := Lib.hid (fun W => rrun_any a b h l n W a0 a1 b0 b1 h0 h1 l0 l1)
  obtain ⟨q, hq⟩ : ∃ r, DM.rq a b h l n = r := ⟨_, rfl⟩
  obtain ⟨r, hr⟩ : ∃ r, DM.rr a b l n = r := ⟨_, rfl⟩
  rw [hq, hr] at HD HF
  clear hq hr
  have hA : At (w.alloc (.cells #[.int .u32 a, .int .u32 b, .int .u32 h, .int .u32 l, .int .i64 n] 24)) w.heap.size a b h l n := At.new _ _ _ _ _ _ _
  have HB := Lib.hid ((Below.refl w.heap.size w).alloc (Nat.le_refl _) (.cells #[.int .u32 a, .int .u32 b, .int .u32 h, .int .u32 l, .int .i64 n] 24))
  have hs := lt_new w (.cells #[.int .u32 a, .int .u32 b, .int .u32 h, .int .u32 l, .int .i64 n] 24)
  have HA := Lib.hid hA
  clear hA
  go_enter Try.func4, Try.ntmps4
  go_wp2_with fail
  refine (to_any _ _ _ _ _ _).mono ?_; rintro e w1 ⟨rfl, hb1⟩
  have HA1 := Lib.hid (HA.out.below hs hb1)
  have HB1 := Lib.hid (then_below HB.out hb1)
  have hs1 := Nat.lt_of_lt_of_le hs hb1.size
  clear HA HB hs hb1
  go_wp2_with fail
  (with_reducible refine (HD.out _).mono ?_); rintro e w2 ⟨rfl, hb2⟩
  have hA2 := HA1.out.below hs1 hb2
  have HB2 := Lib.hid (then_below HB1.out hb2)
  clear HA1 HB1 hs1 hb2
  obtain ⟨⟨c0, c1, c2, c3, c4⟩, -⟩ := hA2
  go_wp2_with fail
  (with_reducible refine (HF.out _).mono ?_); rintro e w3 ⟨rfl, hb3⟩
  have HB3 := Lib.hid (then_below HB2.out hb3)
  clear HB2 hb3 c0 c1 c2 c3 c4
  go_wp2_with (first | (go_at_call 14; refine (awake_any _).mono ?_; rintro e w4 ⟨rfl, hb4⟩; have HB4 := Lib.hid hb4; clear hb4))
  go_ret
  exact ⟨rfl, then_below HB3.out HB4.out⟩
set_option maxHeartbeats 400000 in
theorem parts_walk (a b k : Int) (w : World) (a0 : 0 ≤ a) (a1 : a < 4294967296) (b0 : 0 ≤ b) (b1 : b < 4294967296) (k0 : 0 ≤ k) (k1 : k < 256) : Calls Try.prog 7 #[.int .u32 a, .int .u32 b, .int .u8 k] w fun e w' => e = .returned (.bool true) ∧ Below w.heap.size w w' := by
  obtain ⟨X, hX⟩ : ∃ X, DM.uq a b = X := ⟨_, rfl⟩
  obtain ⟨Y, hY⟩ : ∃ Y, DM.ur a b = Y := ⟨_, rfl⟩
  have HQ := Lib.hid (fun W => quot_any a b W a0 a1 b0 b1)
  have HD := Lib.hid (fun W => do_15 a b W a0 a1 b0 b1)
  rw [DM.dv_15] at HD
  rw [hX, hY] at HQ
  rw [hX, show DM.dk 15 = true from rfl] at HD
  have HXY := Lib.hid (DM.whole a b a0 a1 b0 b1)
  rw [hX, hY] at HXY
  clear hX hY
  go_enter Try.func7, Try.ntmps7
  go_wp2_with (first | (go_at_call 12; refine (new_any _ _ _).mono ?_; rintro e w1 ⟨rfl, hb1⟩; have HB1 := Lib.hid hb1; clear hb1))
  go_loopw [8] (fun i wr => ∃ (j Q R L : Int), 0 ≤ j ∧ j ≤ k ∧ i = .int .i64 j ∧ 0 ≤ Q ∧ Q < 4294967296 ∧ 0 ≤ R ∧ R < 4294967296 ∧ w1.heap.size < wr.heap.size ∧ Hid (At wr w1.heap.size a b Q R L) ∧ Hid (Below w.heap.size w wr) ∧ Hid (DM.rq a b Q R L = X ∧ DM.rr a b R L = Y)) (fun i _ => (k - intOf i).toNat)
  case atStart => exact ⟨0, 0, 0, 32, by omega, k0, rfl, by decide, by decide, by decide, by decide, lt_new _ _, Lib.hid (At.new _ _ _ _ _ _ _), Lib.hid (HB1.out.alloc HB1.out.size _), HXY⟩
  case round =>
    obtain ⟨j, Q, R, L, j0, j1, rfl, q0, q1, r0, r1, hs, hA, hB, hK⟩ := hrel
    obtain ⟨⟨c0, c1, c2, c3, c4⟩, f0, f1, f2, f3, f4⟩ := hA.out
    by_cases hj : j < k
    · have Hq := Lib.hid (DM.tq_bd a b Q R L q0 q1)
      have Hr := Lib.hid (DM.tr_bd a b R L r0 r1)
      have HS := Lib.hid (fun W => step_any a b Q R L W a0 a1 b0 b1 q0 q1 r0 r1)
      have HN := Lib.hid (r_next hK.out)
      obtain ⟨Q', hQ'⟩ : ∃ x, DM.tq a b Q R L = x := ⟨_, rfl⟩
      obtain ⟨R', hR'⟩ : ∃ x, DM.tr a b R L = x := ⟨_, rfl⟩
      obtain ⟨L', hL'⟩ : ∃ x, DM.tn L = x := ⟨_, rfl⟩
      rw [hQ', hR', hL'] at HS HN
      rw [hQ'] at Hq
      rw [hR'] at Hr
      clear hQ' hR' hL'
      go_wp2_with ((go_at_call 9; (with_reducible refine (HS.out _).mono ?_); rintro e w2 ⟨rfl, hb⟩; have HB := Lib.hid hb; obtain ⟨hc, hf⟩ := bcell hb; clear hb))
      have hA1 := (hA.out.below hs HB.out).store a b Q' R' L'
      go_roundw
      case rel => exact ⟨j + 1, Q', R', L', by omega, by omega, by go_num, Hq.out.1, Hq.out.2, Hr.out.1, Hr.out.2, by rw [five_size]; exact Nat.lt_of_lt_of_le hs HB.out.size, Lib.hid hA1, Lib.hid (five_below (hB.out.trans (HB.out.mono (Nat.le_trans HB1.out.size (Nat.le_of_lt hs)))) HB1.out.size _ _ _ _ _), HN⟩
      case measure => simp [intOf]; omega
    · have HR := Lib.hid (fun W => run_any a b Q R L W a0 a1 b0 b1 q0 q1 r0 r1)
      rw [hK.out.1, hK.out.2] at HR
      go_wp2_with fail
      (with_reducible refine (HR.out _).mono ?_); rintro e w2 ⟨rfl, hb2⟩
      have HB2 := Lib.hid (then_below hB.out hb2)
      clear hb2 c0 c1 c2 c3 c4 f0 f1 f2 f3 f4 hA HR
      go_wp2_with (first | (go_at_call 12; refine (new_any _ _ _).mono ?_; rintro e w3 ⟨rfl, hb3⟩; have HB3 := Lib.hid hb3; clear hb3) | (go_at_call 15; (with_reducible refine (HQ.out _).mono ?_); rintro e w4 ⟨rfl, hb4⟩; have HB4 := Lib.hid hb4; clear hb4) | (go_at_call 17; (with_reducible refine (HD.out _).mono ?_); rintro e w5 ⟨rfl, hb5⟩; have HB5 := Lib.hid hb5; clear hb5) | (go_at_call 14; refine (awake_any _).mono ?_; rintro e w6 ⟨rfl, hb6⟩; have HB6 := Lib.hid hb6; clear hb6))
      go_ret
      exact ⟨rfl, then_below (then_below (then_below (then_below HB2.out HB3.out) HB4.out) HB5.out) HB6.out⟩
end Go.Proofs.Ytfobopchfiehgaa
