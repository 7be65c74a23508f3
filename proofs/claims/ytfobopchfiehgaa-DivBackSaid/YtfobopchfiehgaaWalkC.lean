/-
  What a run answers, of package div and of the reference, for every division; neither changes memory that was there.
-/
import Derived.Test.YtfobopchfiehgaaWalkB
namespace Go.Proofs.Ytfobopchfiehgaa
open Go.RowKit
theorem tn_less (L : Int) (M j : Int) (h : DM.lf L = M - j) (hj : j < M) : DM.lf (DM.tn L) = M - (j + 1) := by
  rw [DM.lf_tn]; unfold DM.tn; rw [if_neg (by omega)]; omega
theorem r_next {a b Q R L X Y : Int} (h : DM.rq a b Q R L = X ∧ DM.rr a b R L = Y) : DM.rq a b (DM.tq a b Q R L) (DM.tr a b R L) (DM.tn L) = X ∧ DM.rr a b (DM.tr a b R L) (DM.tn L) = Y := by
  rw [DM.rq_step, DM.rr_step]; exact h
theorem r_end {a b Q R L X Y : Int} (h : DM.rq a b Q R L = X ∧ DM.rr a b R L = Y) (h0 : DM.lf L = 0) : Q = X ∧ R = Y := by
  rw [DM.rq_end _ _ _ _ _ h0, DM.rr_end _ _ _ _ h0] at h; exact h
theorem two_grown (w : World) (o o' : Obj) : w.heap.size < ((w.alloc o).alloc o').heap.size := by simp; omega
set_option maxHeartbeats 400000 in
theorem run_any (a b h l n : Int) (w : World) (a0 : 0 ≤ a) (a1 : a < 4294967296) (b0 : 0 ≤ b) (b1 : b < 4294967296) (h0 : 0 ≤ h) (h1 : h < 4294967296) (l0 : 0 ≤ l) (l1 : l < 4294967296) :
    Calls Try.prog 15 #[.agg #[.int .u32 a, .int .u32 b, .int .u32 h, .int .u32 l, .int .i64 n]] w fun e w' => e = .returned (.tuple #[.int .u32 (DM.rq a b h l n), .int .u32 (DM.rr a b l n)]) ∧ Below w.heap.size w w' := by
  obtain ⟨X, hX⟩ : ∃ X, DM.rq a b h l n = X := ⟨_, rfl⟩
  obtain ⟨Y, hY⟩ : ∃ Y, DM.rr a b l n = Y := ⟨_, rfl⟩
  rw [hX, hY]
  have HXY := Lib.hid (And.intro hX hY)
  clear hX hY
  obtain ⟨m0, m1⟩ := DM.lf_bd n
  obtain ⟨M, hM⟩ : ∃ M, DM.lf n = M := ⟨_, rfl⟩
  have HR := Lib.hid (fun W => remaining_at a b h l n W)
  rw [hM] at HR m0 m1
  have HM := Lib.hid hM
  clear hM
  go_enter Try.func15, Try.ntmps15
  go_wp2_with (first | (go_at_call 19; (with_reducible refine (HR.out _).mono ?_); rintro e w1 ⟨rfl, rfl⟩))
  go_loopw [6] (fun i wr => ∃ (j Q R L : Int), 0 ≤ j ∧ j ≤ M ∧ i = .int .i64 j ∧ 0 ≤ Q ∧ Q < 4294967296 ∧ 0 ≤ R ∧ R < 4294967296 ∧ Hid (DM.lf L = M - j) ∧ w.heap.size < wr.heap.size ∧ Hid (At wr w.heap.size a b Q R L) ∧ Hid (Below w.heap.size w wr) ∧ Hid (DM.rq a b Q R L = X ∧ DM.rr a b R L = Y)) (fun i _ => (M - intOf i).toNat)
  case atStart => exact ⟨0, h, l, n, by omega, m0, rfl, h0, h1, l0, l1, Lib.hid (by rw [HM.out]; omega), two_grown _ _ _, Lib.hid ((At.new _ _ _ _ _ _ _).more (lt_new _ _) _), Lib.hid (((Below.refl _ _).alloc (Nat.le_refl _) _).alloc (by simp) _), HXY⟩
  case round =>
    obtain ⟨j, Q, R, L, j0, j1, rfl, q0, q1, r0, r1, hL, hs, hA, hB, hK⟩ := hrel
    obtain ⟨⟨c0, c1, c2, c3, c4⟩, f0, f1, f2, f3, f4⟩ := hA.out
    by_cases hj : j < M
    · have Hq := Lib.hid (DM.tq_bd a b Q R L q0 q1)
      have Hr := Lib.hid (DM.tr_bd a b R L r0 r1)
      have HS := Lib.hid (fun W => step_any a b Q R L W a0 a1 b0 b1 q0 q1 r0 r1)
      have HT := Lib.hid (tn_less L M j hL.out hj)
      have HN := Lib.hid (r_next hK.out)
      obtain ⟨Q', hQ'⟩ : ∃ x, DM.tq a b Q R L = x := ⟨_, rfl⟩
      obtain ⟨R', hR'⟩ : ∃ x, DM.tr a b R L = x := ⟨_, rfl⟩
      obtain ⟨L', hL'⟩ : ∃ x, DM.tn L = x := ⟨_, rfl⟩
      rw [hQ', hR', hL'] at HS HN
      rw [hQ'] at Hq
      rw [hR'] at Hr
      rw [hL'] at HT
      clear hQ' hR' hL'
      go_wp2_with ((go_at_call 9; (with_reducible refine (HS.out _).mono ?_); rintro e w1 ⟨rfl, hb⟩; have HB := Lib.hid hb; obtain ⟨hc, hf⟩ := bcell hb; clear hb))
      have hA1 := (hA.out.below hs HB.out).store a b Q' R' L'
      go_roundw
      case rel => exact ⟨j + 1, Q', R', L', by omega, by omega, by go_num, Hq.out.1, Hq.out.2, Hr.out.1, Hr.out.2, HT, by rw [five_size]; exact Nat.lt_of_lt_of_le hs HB.out.size, Lib.hid hA1, Lib.hid (five_below (hB.out.trans (HB.out.mono (Nat.le_of_lt hs))) (Nat.le_refl _) _ _ _ _ _), HN⟩
      case measure => simp [intOf]; omega
    · have HE := Lib.hid (r_end hK.out (by rw [hL.out]; omega))
      go_wp2
      go_quiet (fail)
      go_wp2
      go_ret2
      exact ⟨ret_two HE.out, below_drewN hB.out _⟩
set_option maxHeartbeats 400000 in
theorem rrun_any (a b h l n : Int) (w : World) (a0 : 0 ≤ a) (a1 : a < 4294967296) (b0 : 0 ≤ b) (b1 : b < 4294967296) (h0 : 0 ≤ h) (h1 : h < 4294967296) (l0 : 0 ≤ l) (l1 : l < 4294967296) :
    Calls Try.prog 16 #[.agg #[.int .u32 a, .int .u32 b, .int .u32 h, .int .u32 l, .int .i64 n]] w fun e w' => e = .returned (.tuple #[.int .u32 (DM.rq a b h l n), .int .u32 (DM.rr a b l n)]) ∧ Below w.heap.size w w' := by
  obtain ⟨X, hX⟩ : ∃ X, DM.rq a b h l n = X := ⟨_, rfl⟩
  obtain ⟨Y, hY⟩ : ∃ Y, DM.rr a b l n = Y := ⟨_, rfl⟩
  rw [hX, hY]
  rw [← DM.rq_lf] at hX
  rw [← DM.rr_lf] at hY
  have HXY := Lib.hid (And.intro hX hY)
  clear hX hY
  obtain ⟨m0, m1⟩ := DM.lf_bd n
  obtain ⟨M, hM⟩ : ∃ M, DM.lf n = M := ⟨_, rfl⟩
  have HR := Lib.hid (fun W => left_any n W)
  rw [hM] at HR m0 m1 HXY
  clear hM
  go_enter Try.func16, Try.ntmps16
  go_wp2_with (first | (go_at_call 20; (with_reducible refine (HR.out _).mono ?_); rintro e w1 ⟨rfl, rfl⟩))
  go_loopw [] (fun wr => ∃ (Q R L : Int), 0 ≤ L ∧ L ≤ 32 ∧ 0 ≤ Q ∧ Q < 4294967296 ∧ 0 ≤ R ∧ R < 4294967296 ∧ w.heap.size < wr.heap.size ∧ Hid (At wr w.heap.size a b Q R L) ∧ Hid (Below w.heap.size w wr) ∧ Hid (DM.rq a b Q R L = X ∧ DM.rr a b R L = Y)) (fun wr => lft (wr.cell? ⟨w.heap.size, 4, none⟩))
  case atStart => exact ⟨h, l, M, m0, m1, h0, h1, l0, l1, lt_new _ _, Lib.hid (At.new _ _ _ _ _ _ _), Lib.hid ((Below.refl _ _).alloc (Nat.le_refl _) _), HXY⟩
  case round =>
    obtain ⟨Q, R, L, n0, n1, q0, q1, r0, r1, hs, hA, hB, hK⟩ := hrel
    obtain ⟨⟨c0, c1, c2, c3, c4⟩, f0, f1, f2, f3, f4⟩ := hA.out
    by_cases hj : 1 ≤ L
    · have Hq := Lib.hid (DM.tq_bd a b Q R L q0 q1)
      have Hr := Lib.hid (DM.tr_bd a b R L r0 r1)
      have HS := Lib.hid (fun W => rstep_any a b Q R L W a0 a1 b0 b1 q0 q1 r0 r1)
      have hT : DM.tn L = L - 1 := by unfold DM.tn; rw [DM.lf_mid L n0 n1, if_neg (by omega)]
      have HN := Lib.hid (r_next hK.out)
      obtain ⟨Q', hQ'⟩ : ∃ x, DM.tq a b Q R L = x := ⟨_, rfl⟩
      obtain ⟨R', hR'⟩ : ∃ x, DM.tr a b R L = x := ⟨_, rfl⟩
      rw [hQ', hR', hT] at HS HN
      rw [hQ'] at Hq
      rw [hR'] at Hr
      clear hQ' hR' hT
      go_wp2_with ((go_at_call 11; (with_reducible refine (HS.out _).mono ?_); rintro e w1 ⟨rfl, hb⟩; have HB := Lib.hid hb; obtain ⟨hc, hf⟩ := bcell hb; clear hb))
      have hA1 := (hA.out.below hs HB.out).store a b Q' R' (L - 1)
      go_roundw
      case rel => exact ⟨Q', R', L - 1, by omega, by omega, Hq.out.1, Hq.out.2, Hr.out.1, Hr.out.2, by rw [five_size]; exact Nat.lt_of_lt_of_le hs HB.out.size, Lib.hid hA1, Lib.hid (five_below (hB.out.trans (HB.out.mono (Nat.le_of_lt hs))) (Nat.le_refl _) _ _ _ _ _), HN⟩
      case measure => exact lft_less hA1 hA.out hj
    · have HE := Lib.hid (r_end hK.out (by rw [DM.lf_mid L n0 n1]; omega))
      go_wp2
      go_quiet (fail)
      go_wp2
      go_ret2
      exact ⟨ret_two HE.out, below_drewN hB.out _⟩
/-- From the beginning: the quotient and the remainder. -/
theorem quot_any (a b : Int) (w : World) (a0 : 0 ≤ a) (a1 : a < 4294967296) (b0 : 0 ≤ b) (b1 : b < 4294967296) :
    Calls Try.prog 15 #[.agg #[.int .u32 a, .int .u32 b, .int .u32 0, .int .u32 0, .int .i64 32]] w fun e w' => e = .returned (.tuple #[.int .u32 (DM.uq a b), .int .u32 (DM.ur a b)]) ∧ Below w.heap.size w w' := by
  have := run_any a b 0 0 32 w a0 a1 b0 b1 (by decide) (by decide) (by decide) (by decide)
  rwa [(DM.whole a b a0 a1 b0 b1).1, (DM.whole a b a0 a1 b0 b1).2] at this
end Go.Proofs.Ytfobopchfiehgaa
