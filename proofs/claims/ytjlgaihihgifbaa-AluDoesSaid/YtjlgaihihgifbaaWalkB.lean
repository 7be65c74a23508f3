/-
  What the reference's functions on bits answer, for every argument of their types (a bit: within the word); those that fill an array leave all that was in memory as it was.
-/
import Derived.Test.YtjlgaihihgifbaaWalkA
import Derived.Test.YtjlgaihihgifbaaMathB
import Derived.Deep.WholeRow
namespace Go.Proofs.Ytjlgaihihgifbaa
open Go.RowKit S01

/-- x halved k times. -/
def hf (x : Int) (k : Nat) : Int := ((x.toNat / 2 ^ k : Nat) : Int)
theorem hf_zero (x : Int) (h0 : 0 ≤ x) : hf x 0 = x := by unfold hf; simp; omega
theorem hf_next (x : Int) (k : Nat) : (hf x k).tdiv 2 = hf x (k + 1) := by
  unfold hf
  rw [Int.tdiv_eq_ediv_of_nonneg (Int.natCast_nonneg _), Nat.pow_succ, ← Nat.div_div_eq_div_mul]
  omega
theorem hf_bd (x : Int) (k : Nat) (h1 : x < 4294967296) : 0 ≤ hf x k ∧ hf x k < 4294967296 := by
  have : x.toNat / 2 ^ k ≤ x.toNat := Nat.div_le_self _ _
  unfold hf
  refine ⟨Int.natCast_nonneg _, by omega⟩
theorem hf_bit (x : Int) (k : Nat) : hf x k % 2 = BM.bt x k := by
  unfold hf BM.bt
  rw [Int.toNat_natCast, Nat.testBit_eq_decide_div_mod_eq]
  by_cases h : x.toNat / 2 ^ k % 2 = 1
  · rw [decide_eq_true h]
    have : (((x.toNat / 2 ^ k : Nat) : Int)) % 2 = ((x.toNat / 2 ^ k % 2 : Nat) : Int) := by omega
    rw [this, h]; rfl
  · rw [decide_eq_false h]
    have : (((x.toNat / 2 ^ k : Nat) : Int)) % 2 = ((x.toNat / 2 ^ k % 2 : Nat) : Int) := by omega
    rw [this, show x.toNat / 2 ^ k % 2 = 0 by omega]; rfl
set_option maxHeartbeats 400000 in
theorem bit_any (x i : Int) (w : World) (hx0 : 0 ≤ x) (hx : x < 4294967296) (h0 : 0 ≤ i) (h1 : i ≤ 31) :
    Calls Try.prog 28 #[.int .u32 x, .int .i64 i] w fun e w' => e = .returned (.int .u32 (BM.bt x i)) ∧ w = w' := by
  obtain ⟨X, HX⟩ : ∃ X, Hid (x = X) := ⟨x, rfl⟩
  have HZ := Lib.hid (hf_zero x hx0)
  go_enter Try.func28, Try.ntmps28
  go_wp2
  go_loop [0, 5] (fun y c => ∃ k : Nat, (k : Int) ≤ i ∧ c = .int .i64 k ∧ y = .int .u32 (hf X k)) (fun _ c => (i - intOf c).toNat)
  case atStart => exact ⟨0, by omega, rfl, by rw [← HX.out, HZ.out]⟩
  case round =>
    obtain ⟨k, hk, rfl, rfl⟩ := hrel
    obtain ⟨b0, b1⟩ := hf_bd X k (by rw [← HX.out]; exact hx)
    have HN := Lib.hid (hf_next X k)
    by_cases hlt : (k : Int) < i
    · go_wp2
      go_round
      case rel => exact ⟨k + 1, by omega, by go_num, by rw [← HN.out, Int.tdiv_eq_ediv_of_nonneg b0]⟩
      case measure => simp [intOf]; omega
    · go_wp2
      go_ret
      exact ⟨ret_int (by rw [HX.out, show i = (k : Int) by omega]; exact hf_bit X k), rfl⟩
set_option maxHeartbeats 400000 in
theorem rclz_any (x : Int) (w : World) (hx0 : 0 ≤ x) (hx : x < 4294967296) :
    Calls Try.prog 14 #[.int .u32 x] w fun e w' => e = .returned (.int .i64 (AM.cz x)) ∧ w = w' := by
  have H0 : Hid (x.toNat < 2 ^ (32 - 0)) := by show x.toNat < 2 ^ (32 - 0); omega
  go_enter Try.func14, Try.ntmps14
  go_wp2
  go_loop [3] (fun c => ∃ k : Nat, (k : Int) ≤ 32 ∧ c = .int .i64 k ∧ Hid (x.toNat < 2 ^ (32 - k))) (fun c => (32 - intOf c).toNat)
  case atStart => exact ⟨0, by omega, rfl, H0⟩
  case round =>
    obtain ⟨k, hk, rfl, HK⟩ := hrel
    by_cases hlt : (k : Int) < 32
    · by_cases hb : BM.bt x (31 - k) = 0
      · have HN := Lib.hid (AM.cz_next x k (by omega) HK.out hb)
        have hb' : (BM.bt x (31 - k) == 0) = true := by simpa using hb
        clear hb
        go_wp2_with (first | (go_at_call 28; refine (bit_any _ _ _ (by omega) (by omega) (by omega) (by omega)).mono ?_; rintro e w' ⟨rfl, rfl⟩))
        go_round
        case rel => exact ⟨k + 1, by omega, by go_num, HN⟩
        case measure => simp [intOf]; omega
      · have HE := Lib.hid (AM.cz_end x k hx0 (by omega) HK.out hb)
        have hb' : (BM.bt x (31 - k) == 0) = false := by simpa using hb
        clear hb
        go_wp2_with (first | (go_at_call 28; refine (bit_any _ _ _ (by omega) (by omega) (by omega) (by omega)).mono ?_; rintro e w' ⟨rfl, rfl⟩))
        go_ret
        exact ⟨ret_int HE.out.symm, rfl⟩
    · have HE : Hid (AM.cz x = 32) := AM.cz_zero x hx0 (by have := HK.out; rwa [show 32 - k = 0 by omega] at this)
      go_wp2
      go_ret
      exact ⟨ret_int (by rw [HE.out]; omega), rfl⟩
def ct (x : Int) (k : Nat) : Int := ((AM.cn x.toNat.testBit k : Nat) : Int)
theorem ct_next (x : Int) (k : Nat) : ct x (k + 1) = ct x k + BM.bt x k := by
  rw [AM.bt_of]
  unfold ct
  show ((AM.cn x.toNat.testBit k + (x.toNat.testBit k).toNat : Nat) : Int) = _
  omega
theorem ct_bd (x : Int) (k : Nat) : 0 ≤ ct x k ∧ ct x k ≤ k := by
  have := AM.cn_le x.toNat.testBit k
  unfold ct; omega
set_option maxHeartbeats 400000 in
theorem rpop_any (x : Int) (w : World) (hx0 : 0 ≤ x) (hx : x < 4294967296) :
    Calls Try.prog 16 #[.int .u32 x] w fun e w' => e = .returned (.int .i64 (AM.pc x)) ∧ w = w' := by
  go_enter Try.func16, Try.ntmps16
  go_wp2
  go_loop [3, 4] (fun n c => ∃ k : Nat, (k : Int) ≤ 32 ∧ c = .int .i64 k ∧ n = .int .i64 (ct x k)) (fun _ c => (32 - intOf c).toNat)
  case atStart => exact ⟨0, by omega, rfl, rfl⟩
  case round =>
    obtain ⟨k, hk, rfl, rfl⟩ := hrel
    obtain ⟨b0, b1⟩ := ct_bd x k
    obtain ⟨t0, t1⟩ := BM.bt_bd x k
    by_cases hlt : (k : Int) < 32
    · go_wp2_with (first | (go_at_call 28; refine (bit_any _ _ _ (by omega) (by omega) (by omega) (by omega)).mono ?_; rintro e w' ⟨rfl, rfl⟩))
      go_round
      case rel => exact ⟨k + 1, by omega, by go_num, by rw [ct_next]⟩
      case measure => simp [intOf]; omega
    · go_wp2
      go_ret
      exact ⟨ret_int (by rw [show k = 32 by omega]; rfl), rfl⟩
def qf (x : Int) (k : Nat) : Int := x / 256 ^ k
theorem qf_next (x : Int) (k : Nat) : qf x k / 256 = qf x (k + 1) := by
  have hp : (0 : Int) < 256 ^ k := Int.pow_pos (by decide)
  unfold qf
  rw [Int.ediv_ediv_of_nonneg (by omega), Int.pow_succ]
theorem qf_bd (x : Int) (k : Nat) (h0 : 0 ≤ x) (h1 : x < 4294967296) : 0 ≤ qf x k ∧ qf x k < 4294967296 := by
  have hp : (0 : Int) < 256 ^ k := Int.pow_pos (by decide)
  unfold qf
  exact ⟨Int.ediv_nonneg h0 (by omega), Int.lt_of_le_of_lt (Int.ediv_le_self _ h0) h1⟩
theorem ro_next (x : Int) (k : Nat) : AM.ro x (k + 1) = 256 * AM.ro x k + qf x k % 256 := rfl
theorem ro_small (x : Int) (k : Nat) (hk : (k : Int) < 4) : 0 ≤ AM.ro x k ∧ AM.ro x k < 16777216 := by
  obtain ⟨h0, h1⟩ := AM.ro_bd x k
  refine ⟨h0, Int.lt_of_lt_of_le h1 ?_⟩
  have : (256 : Nat) ^ k ≤ 256 ^ 3 := Nat.pow_le_pow_right (by decide) (by omega)
  have e : ((256 ^ k : Nat) : Int) = 256 ^ k := by simp
  rw [← e]; omega
set_option maxHeartbeats 400000 in
theorem rrev_any (x : Int) (w : World) (hx0 : 0 ≤ x) (hx : x < 4294967296) :
    Calls Try.prog 18 #[.int .u32 x] w fun e w' => e = .returned (.int .u32 (AM.rv x)) ∧ w = w' := by
  obtain ⟨X, HX⟩ : ∃ X, Hid (x = X) := ⟨x, rfl⟩
  have HE := Lib.hid (AM.ro_end x hx0 hx)
  have HZ : Hid (qf x 0 = x) := by show qf x 0 = x; unfold qf; simp
  go_enter Try.func18, Try.ntmps18
  go_wp2
  go_loop [0, 3, 4] (fun y o c => ∃ k : Nat, (k : Int) ≤ 4 ∧ c = .int .i64 k ∧ y = .int .u32 (qf X k) ∧ o = .int .u32 (AM.ro X k)) (fun _ _ c => (4 - intOf c).toNat)
  case atStart => exact ⟨0, by omega, rfl, by rw [← HX.out, HZ.out], rfl⟩
  case round =>
    obtain ⟨k, hk, rfl, rfl, rfl⟩ := hrel
    obtain ⟨b0, b1⟩ := qf_bd X k (by rw [← HX.out]; exact hx0) (by rw [← HX.out]; exact hx)
    by_cases hlt : (k : Int) < 4
    · obtain ⟨r0, r1⟩ := ro_small X k hlt
      go_wp2
      go_round
      case rel => exact ⟨k + 1, by omega, by go_num, by rw [← qf_next], by rw [ro_next]⟩
      case measure => simp [intOf]; omega
    · go_wp2
      go_ret
      exact ⟨ret_int (by rw [← HX.out, show k = 4 by omega, HE.out]), rfl⟩
end Go.Proofs.Ytjlgaihihgifbaa
