/-
  What the reference's bit functions answer, whose texts loop over bits, for every argument of their types (a power, a bit: within the word); none changes memory.
-/
import Derived.Test.YthlljmjefejemaaWalkA
namespace Go.Proofs.Ythlljmjefejemaa
open Go.RowKit

set_option maxHeartbeats 400000 in
theorem power_any (n : Int) (w : World) (h0 : 0 ≤ n) (h1 : n ≤ 31) :
    Calls Try.prog 34 #[.int .i64 n] w fun e w' => e = .returned (.int .u32 (BM.pw n)) ∧ w = w' := by
  go_enter Try.func34, Try.ntmps34
  go_wp2
  go_loop [3, 4] (fun x i => ∃ k : Nat, (k : Int) ≤ n ∧ i = .int .i64 k ∧ x = .int .u32 (BM.pw k)) (fun _ i => (n - intOf i).toNat)
  case atStart => exact ⟨0, by omega, rfl, rfl⟩
  case round =>
    obtain ⟨k, hk, rfl, rfl⟩ := hrel
    obtain ⟨b0, b1⟩ := BM.pw_bd (k : Int) (by omega) (by omega)
    by_cases hlt : (k : Int) < n
    · obtain ⟨c0, c1⟩ := BM.pw_bd ((k + 1 : Nat) : Int) (by omega) (by omega)
      rw [BM.pw_succ] at c0 c1
      go_wp2
      go_round
      case rel => exact ⟨k + 1, by omega, by go_num, by rw [BM.pw_succ]⟩
      case measure => simp [intOf]; omega
    · go_wp2
      go_ret
      exact ⟨ret_int (by rw [show n = (k : Int) by omega]), rfl⟩
theorem bit_end (x i : Int) (hx0 : 0 ≤ x) : x.tdiv (BM.pw i) % 4294967296 % 2 = BM.bt x i := by
  rw [← BM.bt_eq x i hx0, Int.tdiv_eq_ediv_of_nonneg hx0]
  generalize x / BM.pw i = y
  omega
set_option maxHeartbeats 400000 in
theorem bit_any (x i : Int) (w : World) (hx0 : 0 ≤ x) (h0 : 0 ≤ i) (h1 : i ≤ 31) :
    Calls Try.prog 33 #[.int .u32 x, .int .i64 i] w fun e w' => e = .returned (.int .u32 (BM.bt x i)) ∧ w = w' := by
  obtain ⟨b0, b1⟩ := BM.pw_bd i h0 h1
  go_enter Try.func33, Try.ntmps33
  go_wp2_with (first | (go_at_call 34; refine (power_any _ _ (by omega) (by omega)).mono ?_; rintro e w' ⟨rfl, rfl⟩))
  all_goals go_ret
  all_goals exact ⟨ret_int (bit_end x i hx0), rfl⟩
set_option maxHeartbeats 400000 in
theorem rzext_any (x n : Int) (w : World) (hx0 : 0 ≤ x) :
    Calls Try.prog 13 #[.int .u32 x, .int .i64 n] w fun e w' => e = .returned (.int .u32 (BM.zx x n)) ∧ w = w' := by
  obtain ⟨hc0, hc1⟩ := BM.cl_bd n 0 32 (by omega)
  go_enter Try.func13, Try.ntmps13
  go_wp2_with (first | (go_at_call 32; refine (brought_any _ _ _ _).mono ?_; rintro e w' ⟨rfl, rfl⟩))
  go_loop [5, 6] (fun o i => ∃ k : Nat, (k : Int) ≤ BM.cl n 0 32 ∧ i = .int .i64 k ∧ o = .int .u32 (BM.su x.toNat.testBit k)) (fun _ i => (BM.cl n 0 32 - intOf i).toNat)
  case atStart => exact ⟨0, by omega, rfl, rfl⟩
  case round =>
    obtain ⟨k, hk, rfl, rfl⟩ := hrel
    by_cases hlt : (k : Int) < BM.cl n 0 32
    · obtain ⟨hs, a1, a2, a3, a4, a5⟩ := BM.su_step x.toNat.testBit k (BM.bt x k) (by omega) rfl
      have HS := Lib.hid hs
      clear hs
      go_wp2_with (first | (go_at_call 33; refine (bit_any _ _ _ (by omega) (by omega) (by omega)).mono ?_; rintro e w' ⟨rfl, rfl⟩) | (go_at_call 34; refine (power_any _ _ (by omega) (by omega)).mono ?_; rintro e w' ⟨rfl, rfl⟩))
      go_round
      case rel => exact ⟨k + 1, by omega, by go_num, by rw [HS.out]⟩
      case measure => simp [intOf]; omega
    · go_wp2
      go_ret
      exact ⟨ret_int (by rw [← BM.zx_su, show (BM.cl n 0 32).toNat = k by omega]), rfl⟩
set_option maxHeartbeats 400000 in
theorem rsext_zero (x n : Int) (w : World) (hx0 : 0 ≤ x) (h : BM.cl n 0 32 = 0) :
    Calls Try.prog 12 #[.int .u32 x, .int .i64 n] w fun e w' => e = .returned (.int .u32 (BM.sx x n)) ∧ w = w' := by
  have hb : (BM.cl n 0 32 == 0) = true := by simpa using h
  have HS := Lib.hid ((BM.zx_cl x n).trans (BM.sx_zero x n h))
  clear h
  go_enter Try.func12, Try.ntmps12
  go_wp2_with (first | (go_at_call 32; refine (brought_any _ _ _ _).mono ?_; rintro e w' ⟨rfl, rfl⟩) | (go_at_call 13; refine (rzext_any _ _ _ (by omega)).mono ?_; rintro e w' ⟨rfl, rfl⟩))
  go_ret
  exact ⟨ret_int HS.out, rfl⟩
set_option maxHeartbeats 400000 in
theorem rsext_plus (x n : Int) (w : World) (hx0 : 0 ≤ x) (h : BM.cl n 0 32 ≠ 0) (h' : BM.bt x (BM.cl n 0 32 - 1) = 0) :
    Calls Try.prog 12 #[.int .u32 x, .int .i64 n] w fun e w' => e = .returned (.int .u32 (BM.sx x n)) ∧ w = w' := by
  obtain ⟨hc0, hc1⟩ := BM.cl_bd n 0 32 (by omega)
  have hb : (BM.cl n 0 32 == 0) = false := by simpa using h
  have hb' : (BM.bt x (BM.cl n 0 32 - 1) == 0) = true := by simpa using h'
  have hge : 1 ≤ BM.cl n 0 32 := by omega
  have HS := Lib.hid ((BM.zx_cl x n).trans (BM.sx_plus x n h h'))
  clear h h'
  go_enter Try.func12, Try.ntmps12
  go_wp2_with (first | (go_at_call 32; refine (brought_any _ _ _ _).mono ?_; rintro e w' ⟨rfl, rfl⟩) | (go_at_call 13; refine (rzext_any _ _ _ (by omega)).mono ?_; rintro e w' ⟨rfl, rfl⟩) | (go_at_call 33; refine (bit_any _ _ _ (by omega) (by omega) (by omega)).mono ?_; rintro e w' ⟨rfl, rfl⟩))
  go_ret
  exact ⟨ret_int HS.out, rfl⟩
set_option maxHeartbeats 400000 in
theorem rsext_minus (x n : Int) (w : World) (hx0 : 0 ≤ x) (h : BM.cl n 0 32 ≠ 0) (h' : BM.bt x (BM.cl n 0 32 - 1) ≠ 0) :
    Calls Try.prog 12 #[.int .u32 x, .int .i64 n] w fun e w' => e = .returned (.int .u32 (BM.sx x n)) ∧ w = w' := by
  obtain ⟨hc0, hc1⟩ := BM.cl_bd n 0 32 (by omega)
  have hb : (BM.cl n 0 32 == 0) = false := by simpa using h
  have hb' : (BM.bt x (BM.cl n 0 32 - 1) == 0) = false := by simpa using h'
  have hge : 1 ≤ BM.cl n 0 32 := by omega
  have HZ := Lib.hid ((BM.zx_cl x n).trans (BM.sg_start x n h))
  have HO := Lib.hid (BM.sg_one x n h h')
  have HE := Lib.hid (BM.sg_end x n h)
  clear h h'
  go_enter Try.func12, Try.ntmps12
  go_wp2_with (first | (go_at_call 32; refine (brought_any _ _ _ _).mono ?_; rintro e w' ⟨rfl, rfl⟩) | (go_at_call 13; refine (rzext_any _ _ _ (by omega)).mono ?_; rintro e w' ⟨rfl, rfl⟩) | (go_at_call 33; refine (bit_any _ _ _ (by omega) (by omega) (by omega)).mono ?_; rintro e w' ⟨rfl, rfl⟩))
  go_loop [5, 6] (fun o i => ∃ k : Nat, BM.cl n 0 32 ≤ k ∧ (k : Int) ≤ 32 ∧ i = .int .i64 k ∧ o = .int .u32 (BM.su (BM.sg x (BM.cl n 0 32).toNat) k)) (fun _ i => (32 - intOf i).toNat)
  case atStart => exact ⟨(BM.cl n 0 32).toNat, by omega, by omega, by rw [Int.toNat_of_nonneg hc0], by rw [← HZ.out]⟩
  case round =>
    obtain ⟨k, hk, hk', rfl, rfl⟩ := hrel
    by_cases hlt : (k : Int) < 32
    · obtain ⟨hs, a1, a2, a3, a4, a5⟩ := BM.su_step (BM.sg x (BM.cl n 0 32).toNat) k 1 (by omega) (HO.out k (by omega))
      rw [Int.one_mul] at hs a3 a4 a5
      have HS := Lib.hid hs
      clear hs
      go_wp2_with (first | (go_at_call 34; refine (power_any _ _ (by omega) (by omega)).mono ?_; rintro e w' ⟨rfl, rfl⟩))
      go_round
      case rel => exact ⟨k + 1, by omega, by omega, by go_num, by rw [HS.out]⟩
      case measure => simp [intOf]; omega
    · go_wp2
      go_ret
      exact ⟨ret_int (by rw [← HE.out, show k = 32 by omega]), rfl⟩
theorem rsext_any (x n : Int) (w : World) (hx0 : 0 ≤ x) :
    Calls Try.prog 12 #[.int .u32 x, .int .i64 n] w fun e w' => e = .returned (.int .u32 (BM.sx x n)) ∧ w = w' := by
  by_cases h : BM.cl n 0 32 = 0
  · exact rsext_zero x n w hx0 h
  by_cases h' : BM.bt x (BM.cl n 0 32 - 1) = 0
  · exact rsext_plus x n w hx0 h h'
  · exact rsext_minus x n w hx0 h h'
set_option maxHeartbeats 400000 in
theorem rfield_any (x h l : Int) (w : World) (hx0 : 0 ≤ x) :
    Calls Try.prog 16 #[.int .u32 x, .int .i64 h, .int .i64 l] w fun e w' => e = .returned (.int .u32 (BM.fd x h l)) ∧ w = w' := by
  obtain ⟨hh0, hh1⟩ := BM.cl_bd h 0 31 (by omega)
  obtain ⟨hl0, hl1⟩ := BM.cl_bd l 0 31 (by omega)
  go_enter Try.func16, Try.ntmps16
  go_wp2_with (first | (go_at_call 32; refine (brought_any _ _ _ _).mono ?_; rintro e w' ⟨rfl, rfl⟩))
  go_loop [7, 8] (fun o i => ∃ k : Nat, k ≤ (BM.cl h 0 31).toNat + 1 - (BM.cl l 0 31).toNat ∧ i = .int .i64 (BM.cl l 0 31 + k) ∧ o = .int .u32 (BM.su (BM.fg x (BM.cl l 0 31).toNat) k)) (fun _ i => (32 - intOf i).toNat)
  case atStart => exact ⟨0, by omega, by simp, rfl⟩
  case round =>
    obtain ⟨k, hk, rfl, rfl⟩ := hrel
    by_cases hlt : BM.cl l 0 31 + (k : Int) ≤ BM.cl h 0 31
    · obtain ⟨hs, a1, a2, a3, a4, a5⟩ := BM.su_step (BM.fg x (BM.cl l 0 31).toNat) k (BM.bt x (BM.cl l 0 31 + k)) (by omega) (BM.fg_bit x _ k hl0)
      have HS := Lib.hid hs
      clear hs
      have hsub : BM.cl l 0 31 + (k : Int) - BM.cl l 0 31 = k := by omega
      go_wp2_with (first | (go_at_call 33; refine (bit_any _ _ _ (by omega) (by omega) (by omega)).mono ?_; rintro e w' ⟨rfl, rfl⟩) | (go_at_call 34; refine (power_any _ _ (by omega) (by omega)).mono ?_; rintro e w' ⟨rfl, rfl⟩))
      go_round
      case rel => exact ⟨k + 1, by omega, by go_num, by rw [HS.out]⟩
      case measure => simp [intOf]; omega
    · go_wp2
      go_ret
      exact ⟨ret_int (by rw [← BM.fg_end, show (BM.cl h 0 31).toNat + 1 - (BM.cl l 0 31).toNat = k by omega]), rfl⟩
set_option maxHeartbeats 800000 in
theorem rput_any (x h l v : Int) (w : World) (hx0 : 0 ≤ x) (hv0 : 0 ≤ v) :
    Calls Try.prog 18 #[.int .u32 x, .int .i64 h, .int .i64 l, .int .u32 v] w fun e w' => e = .returned (.int .u32 (BM.pt x h l v)) ∧ w = w' := by
  obtain ⟨hh0, hh1⟩ := BM.cl_bd h 0 31 (by omega)
  obtain ⟨hl0, hl1⟩ := BM.cl_bd l 0 31 (by omega)
  go_enter Try.func18, Try.ntmps18
  go_wp2_with (first | (go_at_call 32; refine (brought_any _ _ _ _).mono ?_; rintro e w' ⟨rfl, rfl⟩))
  go_loop [9, 10] (fun o i => ∃ k : Nat, (k : Int) ≤ 32 ∧ i = .int .i64 k ∧ o = .int .u32 (BM.su (BM.pg x (BM.cl h 0 31) (BM.cl l 0 31) v) k)) (fun _ i => (32 - intOf i).toNat)
  case atStart => exact ⟨0, by omega, rfl, rfl⟩
  case round =>
    obtain ⟨k, hk, rfl, rfl⟩ := hrel
    by_cases hlt : (k : Int) < 32
    · by_cases hin : BM.cl l 0 31 ≤ (k : Int) ∧ (k : Int) ≤ BM.cl h 0 31
      · obtain ⟨i1, i2⟩ := hin
        obtain ⟨hs, a1, a2, a3, a4, a5⟩ := BM.su_step (BM.pg x (BM.cl h 0 31) (BM.cl l 0 31) v) k (BM.bt v (k - BM.cl l 0 31)) (by omega) (BM.pg_in x _ _ v k hl0 i1 i2)
        have HS := Lib.hid hs
        clear hs
        go_wp2_with (first | (go_at_call 33; refine (bit_any _ _ _ (by omega) (by omega) (by omega)).mono ?_; rintro e w' ⟨rfl, rfl⟩) | (go_at_call 34; refine (power_any _ _ (by omega) (by omega)).mono ?_; rintro e w' ⟨rfl, rfl⟩))
        go_round
        case rel => exact ⟨k + 1, by omega, by go_num, by rw [HS.out]⟩
        case measure => simp [intOf]; omega
      · obtain ⟨hs, a1, a2, a3, a4, a5⟩ := BM.su_step (BM.pg x (BM.cl h 0 31) (BM.cl l 0 31) v) k (BM.bt x k) (by omega) (BM.pg_out x _ _ v k hin hh0)
        have HS := Lib.hid hs
        clear hs
        by_cases i1 : BM.cl l 0 31 ≤ (k : Int)
        · have i2 : BM.cl h 0 31 < (k : Int) := by omega
          clear hin
          have hd : decide ((k : Int) ≤ BM.cl h 0 31) = false := by simp; omega
          go_wp2_with (first | (go_at_call 33; refine (bit_any _ _ _ (by omega) (by omega) (by omega)).mono ?_; rintro e w' ⟨rfl, rfl⟩) | (go_at_call 34; refine (power_any _ _ (by omega) (by omega)).mono ?_; rintro e w' ⟨rfl, rfl⟩))
          go_round
          case rel => exact ⟨k + 1, by omega, by go_num, by rw [HS.out]⟩
          case measure => simp [intOf]; omega
        · have i2 : (k : Int) < BM.cl l 0 31 := by omega
          clear hin i1
          have hd : decide (BM.cl l 0 31 ≤ (k : Int)) = false := by simp; omega
          go_wp2_with (first | (go_at_call 33; refine (bit_any _ _ _ (by omega) (by omega) (by omega)).mono ?_; rintro e w' ⟨rfl, rfl⟩) | (go_at_call 34; refine (power_any _ _ (by omega) (by omega)).mono ?_; rintro e w' ⟨rfl, rfl⟩))
          go_round
          case rel => exact ⟨k + 1, by omega, by go_num, by rw [HS.out]⟩
          case measure => simp [intOf]; omega
    · go_wp2
      go_ret
      exact ⟨ret_int (by rw [← BM.pg_end, show k = 32 by omega]), rfl⟩
set_option maxHeartbeats 400000 in
theorem rrot_any (x n : Int) (w : World) (hx0 : 0 ≤ x) (hx : x < 4294967296) :
    Calls Try.prog 20 #[.int .u32 x, .int .i64 n] w fun e w' => e = .returned (.int .u32 (BM.rt x n)) ∧ w = w' := by
  obtain ⟨t, ht⟩ : ∃ t, n.tmod 32 = t := ⟨_, rfl⟩
  obtain ⟨r, hr⟩ : ∃ r, (t + 32) % 32 = r := ⟨_, rfl⟩
  have hr' : t % 32 = r := by omega
  have h2 := BM.tmod_bd n
  have h3 := BM.tmod_up n
  rw [ht] at h2 h3
  obtain ⟨t0, t1⟩ := h2
  have h0 : 0 ≤ r := by omega
  have h1 : r < 32 := by omega
  have HU := Lib.hid (hr.symm.trans h3)
  clear h3
  have HT := Lib.hid (BM.tu_zero x hx0 hx)
  go_enter Try.func20, Try.ntmps20
  go_wp2
  rw [hr]
  clear ht hr hr' t0 t1
  go_loop [0, 5] (fun o i => ∃ k : Nat, (k : Int) ≤ r ∧ i = .int .i64 k ∧ o = .int .u32 (BM.tu x k)) (fun _ i => (32 - intOf i).toNat)
  case atStart => exact ⟨0, by omega, rfl, by rw [HT.out]⟩
  case round =>
    obtain ⟨k, hk, rfl, rfl⟩ := hrel
    obtain ⟨b0, b1⟩ := BM.tu_bd x k
    by_cases hlt : (k : Int) < r
    · obtain ⟨c0, c1⟩ := BM.tu_bd x (k + 1)
      have HS := Lib.hid (BM.tu_succ x k)
      rw [BM.tu_succ] at c0 c1
      have hp : BM.pw 31 = 2147483648 := by decide
      rw [hp] at c0 c1
      go_wp2_with (first | (go_at_call 34; refine (power_any _ _ (by omega) (by omega)).mono ?_; rintro e w' ⟨rfl, rfl⟩))
      go_round
      case rel => exact ⟨k + 1, by omega, by go_num, by rw [HS.out, hp]⟩
      case measure => simp [intOf]; omega
    · go_wp2
      go_ret
      exact ⟨ret_int (by rw [← BM.tu_end, ← HU.out, show r.toNat = k by omega]), rfl⟩
end Go.Proofs.Ythlljmjefejemaa
