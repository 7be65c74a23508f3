/-
  The laws on whole words: each returns true for every argument of its types and leaves all memory as it was.
-/
import Derived.Test.YthlljmjefejemaaWalkC
namespace Go.Proofs.Ythlljmjefejemaa
open Go.RowKit

theorem below_draws (w : World) (n : Nat) : Below w.heap.size w (w.drewN n) := below_drewN (Below.refl _ _) n
set_option maxHeartbeats 800000 in
theorem aligns_walk (x n : Int) (w : World) (hx0 : 0 ≤ x) :
    Calls Try.prog 7 #[.int .u32 x, .int .i64 n] w fun e w' => e = .returned (.bool true) ∧ Below w.heap.size w w' := by
  go_enter Try.func7, Try.ntmps7
  go_wp2_with (first | (go_at_call 21; refine (aligned_any _ _ _ (by omega)).mono ?_; rintro e w' ⟨rfl, rfl⟩) | (go_at_call 22; refine (ralign_any _ _ _ (by omega)).mono ?_; rintro e w' ⟨rfl, rfl⟩) | (go_at_call 14; refine (awake_any _).mono ?_; rintro e w' ⟨rfl, n1, rfl⟩))
  go_ret
  exact ⟨rfl, below_draws _ _⟩
set_option maxHeartbeats 800000 in
theorem signs_walk (x n : Int) (w : World) (hx0 : 0 ≤ x) (hx : x < 4294967296) :
    Calls Try.prog 3 #[.int .u32 x, .int .i64 n] w fun e w' => e = .returned (.bool true) ∧ Below w.heap.size w w' := by
  obtain ⟨s0, s1⟩ := BM.sx_bd x n
  obtain ⟨z0, z1⟩ := BM.zx_bd x n
  have e1 : (BM.zx (BM.sx x n) n == BM.zx x n) = true := by rw [BM.zx_sx]; simp
  have e2 : (BM.sx (BM.zx x n) n == BM.sx x n) = true := by rw [BM.sx_zx]; simp
  go_enter Try.func3, Try.ntmps3
  go_wp2_with (first | (go_at_call 10; refine (sext_any _ _ _ (by omega)).mono ?_; rintro e w' ⟨rfl, rfl⟩) | (go_at_call 11; refine (zext_any _ _ _ (by omega) (by omega)).mono ?_; rintro e w' ⟨rfl, rfl⟩) | (go_at_call 12; refine (rsext_any _ _ _ (by omega)).mono ?_; rintro e w' ⟨rfl, rfl⟩) | (go_at_call 13; refine (rzext_any _ _ _ (by omega)).mono ?_; rintro e w' ⟨rfl, rfl⟩) | (go_at_call 14; refine (awake_any _).mono ?_; rintro e w' ⟨rfl, n1, rfl⟩))
  go_ret
  exact ⟨rfl, below_draws _ _⟩
theorem turn_one (x n m : Int) : BM.rt (BM.rt x n) m = BM.rt x (n.tmod 32 + m.tmod 32) := by
  apply BM.rt_rt
  have h1 := BM.tmod_emod n
  have h2 := BM.tmod_emod m
  omega
theorem turn_back (x n : Int) (hx0 : 0 ≤ x) (hx : x < 4294967296) : BM.rt (BM.rt x n) (32 - n.tmod 32) = x := by
  have h1 := BM.tmod_emod n
  rw [BM.rt_rt x n (32 - n.tmod 32) 0 (by omega)]
  exact BM.rt_zero x 0 hx0 hx (by decide)
set_option maxHeartbeats 800000 in
theorem turns_walk (x n m : Int) (w : World) (hx0 : 0 ≤ x) (hx : x < 4294967296) :
    Calls Try.prog 6 #[.int .u32 x, .int .i64 n, .int .i64 m] w fun e w' => e = .returned (.bool true) ∧ Below w.heap.size w w' := by
  obtain ⟨r0, r1⟩ := BM.rt_bd x n
  obtain ⟨t0, t1⟩ := BM.tmod_bd n
  obtain ⟨u0, u1⟩ := BM.tmod_bd m
  have e1 : (BM.rt (BM.rt x n) m == BM.rt x (n.tmod 32 + m.tmod 32)) = true := by rw [turn_one]; simp
  have e2 : (BM.rt (BM.rt x n) (32 - n.tmod 32) == x) = true := by rw [turn_back x n hx0 hx]; simp
  go_enter Try.func6, Try.ntmps6
  go_wp2_with (first | (go_at_call 19; refine (rot_any _ _ _ (by omega) (by omega)).mono ?_; rintro e w' ⟨rfl, n1, rfl⟩) | (go_at_call 20; refine (rrot_any _ _ _ (by omega) (by omega)).mono ?_; rintro e w' ⟨rfl, rfl⟩) | (go_at_call 14; refine (awake_any _).mono ?_; rintro e w' ⟨rfl, n1, rfl⟩))
  go_ret
  exact ⟨rfl, below_draws _ _⟩
set_option maxHeartbeats 800000 in
theorem fields_walk (x h l v : Int) (w : World) (hx0 : 0 ≤ x) (hx : x < 4294967296) (hv0 : 0 ≤ v) :
    Calls Try.prog 4 #[.int .u32 x, .agg #[.int .i64 h, .int .i64 l], .int .u32 v] w fun e w' => e = .returned (.bool true) ∧ Below w.heap.size w w' := by
  go_enter Try.func4, Try.ntmps4
  go_wp2
  go_quiet ((first | (go_at_call 15; exact q_draw fun W => field_any _ _ _ W (by omega) (by omega)) | (go_at_call 16; exact q_same fun W => rfield_any _ _ _ W (by omega)) | (go_at_call 17; exact q_same fun W => put_any _ _ _ _ W (by omega) (by omega) (by omega)) | (go_at_call 18; exact q_same fun W => rput_any _ _ _ _ W (by omega) (by omega)) | (go_at_call 14; exact q_draw awake_any)))
  go_wp2
  go_ret
  exact ⟨rfl, below_drewN ((Below.refl _ _).alloc (Nat.le_refl _) _) _⟩
end Go.Proofs.Ythlljmjefejemaa
