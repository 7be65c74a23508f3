/-
  What bits.Merge and the statements' examples (awake) answer, for every argument; neither changes memory.
-/
import Derived.Test.YthlljmjefejemaaWalkB
import Derived.Test.YthlljmjefejemaaMathD
namespace Go.Proofs.Ythlljmjefejemaa
open Go.RowKit

set_option maxHeartbeats 800000 in
theorem merge_any (old v a s : Int) (w : World) (hx0 : 0 ≤ old) (hx : old < 4294967296) (hv0 : 0 ≤ v) :
    Calls Try.prog 28 #[.int .u32 old, .int .u32 v, .int .i64 a, .int .i64 s] w fun e w' => e = .returned (.int .u32 (BM.mg old v a s)) ∧ w = w' := by
  obtain ⟨ha0, ha1⟩ := BM.cl_bd a (-4) 4 (by omega)
  obtain ⟨hs0, hs1⟩ := BM.cl_bd s 0 4 (by omega)
  have HZ := Lib.hid (BM.mk_zero old v (BM.cl a (-4) 4) (BM.cl s 0 4) hx0 hx)
  go_enter Try.func28, Try.ntmps28
  go_wp2_with (first | (go_at_call 30; refine (clamp_any _ _ _ _ (by omega)).mono ?_; rintro e w' ⟨rfl, rfl⟩))
  go_loop [0, 15] (fun o i => ∃ k : Nat, (k : Int) ≤ 4 ∧ i = .int .i64 k ∧ o = .int .u32 (BM.mk old v (BM.cl a (-4) 4) (BM.cl s 0 4) k)) (fun _ i => (4 - intOf i).toNat)
  case atStart => exact ⟨0, by omega, rfl, by rw [HZ.out]⟩
  case round =>
    obtain ⟨k, hk, rfl, rfl⟩ := hrel
    obtain ⟨m0, m1⟩ := BM.mk_bd old v (BM.cl a (-4) 4) (BM.cl s 0 4) k
    by_cases hlt : (k : Int) < 4
    · by_cases g0 : BM.cl a (-4) 4 ≤ (k : Int)
      · by_cases g1 : (k : Int) - BM.cl a (-4) 4 < BM.cl s 0 4
        · have HP := Lib.hid (BM.mk_put old v (BM.cl a (-4) 4) (BM.cl s 0 4) k (by omega) hv0 (by unfold BM.inn; simp only [Bool.and_eq_true, decide_eq_true_eq]; omega))
          have hd0 : 0 ≤ v / 2 ^ (8 * ((k : Int) - BM.cl a (-4) 4)).toNat := by rw [BM.div_nat _ _ hv0]; exact Int.natCast_nonneg _
          go_wp2_with (first | (go_at_call 17; refine (put_any _ _ _ _ _ (by omega) (by omega) (by first | assumption | omega)).mono ?_; rintro e w' ⟨rfl, rfl⟩))
          go_round
          case rel => exact ⟨k + 1, by omega, by go_num, by rw [HP.out]⟩
          case measure => simp [intOf]; omega
        · have HP := Lib.hid (BM.mk_skip old v (BM.cl a (-4) 4) (BM.cl s 0 4) k (by unfold BM.inn; simp only [Bool.and_eq_false_iff, decide_eq_false_iff_not]; omega))
          have g2 : BM.cl s 0 4 ≤ (k : Int) - BM.cl a (-4) 4 := by omega
          clear g1
          have hd : decide ((k : Int) - BM.cl a (-4) 4 < BM.cl s 0 4) = false := by simp; omega
          go_wp2
          go_round
          case rel => exact ⟨k + 1, by omega, by go_num, by rw [HP.out]⟩
          case measure => simp [intOf]; omega
      · have HP := Lib.hid (BM.mk_skip old v (BM.cl a (-4) 4) (BM.cl s 0 4) k (by unfold BM.inn; simp only [Bool.and_eq_false_iff, decide_eq_false_iff_not]; omega))
        have g2 : (k : Int) < BM.cl a (-4) 4 := by omega
        clear g0
        have hd : decide (BM.cl a (-4) 4 ≤ (k : Int)) = false := by simp; omega
        go_wp2
        go_round
        case rel => exact ⟨k + 1, by omega, by go_num, by rw [HP.out]⟩
        case measure => simp [intOf]; omega
    · go_wp2
      go_ret
      exact ⟨ret_int (by unfold BM.mg; rw [show k = 4 by omega]), rfl⟩

theorem ex1 : (BM.sx 128 8 == 4294967168) = true := by decide +kernel
theorem ex2 : (BM.fd 305419896 15 8 == 86) = true := by decide +kernel
theorem ex3 : (BM.mg 287454020 170 1 1 == 287484484) = true := by decide +kernel
theorem ex4 : BM.al 8 4 = true := by decide +kernel
theorem ex5 : (BM.rt 1 1 == 2147483648) = true := by decide +kernel
set_option maxHeartbeats 800000 in
theorem awake_any (w : World) : Calls Try.prog 14 #[] w fun e w' => e = .returned (.bool true) ∧ ∃ n, w' = w.drewN n := by
  have e1 := ex1
  have e2 := ex2
  have e3 := ex3
  have e4 := ex4
  have e5 := ex5
  go_enter Try.func14, Try.ntmps14
  go_wp2_with (first | (go_at_call 10; refine (sext_any _ _ _ (by omega)).mono ?_; rintro e w' ⟨rfl, rfl⟩) | (go_at_call 15; refine (field_any _ _ _ _ (by omega) (by omega)).mono ?_; rintro e w' ⟨rfl, n1, rfl⟩) | (go_at_call 28; refine (merge_any _ _ _ _ _ (by omega) (by omega) (by omega)).mono ?_; rintro e w' ⟨rfl, rfl⟩) | (go_at_call 21; refine (aligned_any _ _ _ (by omega)).mono ?_; rintro e w' ⟨rfl, rfl⟩) | (go_at_call 19; refine (rot_any _ _ _ (by omega) (by omega)).mono ?_; rintro e w' ⟨rfl, n2, rfl⟩))
  go_ret
  exact ⟨rfl, _, rfl⟩
end Go.Proofs.Ythlljmjefejemaa
