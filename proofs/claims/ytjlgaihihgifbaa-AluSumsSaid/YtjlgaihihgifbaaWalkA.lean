/-
  What the small functions of package alu, of the reference and the three functions of math/bits answer, for every argument of their types; none changes memory.
-/
import Derived.Test.YtjlgaihihgifbaaS01WalkA
import Derived.Test.YtjlgaihihgifbaaMath
namespace Go.Proofs.Ytjlgaihihgifbaa
open Go.RowKit S01

theorem zx_low (b : Int) (h0 : 0 ≤ b) : BM.zx b 5 = b % 32 := by
  unfold BM.zx BM.zxN
  rw [BM.ob_mod, BM.cl_in 5 0 32 (by omega) (by omega)]
  rw [show (5 : Int).toNat = 5 by decide]
  omega
set_option maxHeartbeats 400000 in
theorem low_any (b : Int) (w : World) (h0 : 0 ≤ b) (h1 : b < 4294967296) :
    Calls Try.prog 22 #[.int .u32 b] w fun e w' => e = .returned (.int .i64 (b % 32)) ∧ w = w' := by
  have HZ := Lib.hid (zx_low b h0)
  obtain ⟨z0, z1⟩ := BM.zx_bd b 5
  go_enter Try.func22, Try.ntmps22
  go_wp2_with (first | (go_at_call 35; refine (zext_any _ _ _ (by omega) (by omega)).mono ?_; rintro e w' ⟨rfl, rfl⟩))
  go_ret
  exact ⟨ret_int HZ.out, rfl⟩
set_option maxHeartbeats 400000 in
theorem less_any (a b : Int) (w : World) (a0 : 0 ≤ a) (a1 : a < 4294967296) (b0 : 0 ≤ b) (b1 : b < 4294967296) :
    Calls Try.prog 24 #[.int .u32 a, .int .u32 b] w fun e w' => e = .returned (.bool (decide (AM.sv a < AM.sv b))) ∧ w = w' := by
  go_enter Try.func24, Try.ntmps24
  go_wp2
  go_ret
  exact ⟨ret_bool (by rw [AM.sv_wrap a a0 a1, AM.sv_wrap b b0 b1]), rfl⟩
set_option maxHeartbeats 400000 in
theorem word_any (c : Bool) (w : World) : Calls Try.prog 23 #[.bool c] w fun e w' => e = .returned (.int .u32 (c.toNat : Int)) ∧ w = w' := by
  cases c
  · go_enter Try.func23, Try.ntmps23
    go_wp2
    go_ret
    exact ⟨rfl, rfl⟩
  · go_enter Try.func23, Try.ntmps23
    go_wp2
    go_ret
    exact ⟨rfl, rfl⟩
set_option maxHeartbeats 400000 in
theorem one_any (c : Bool) (w : World) : Calls Try.prog 29 #[.bool c] w fun e w' => e = .returned (.int .u32 (c.toNat : Int)) ∧ w = w' := by
  cases c
  · go_enter Try.func29, Try.ntmps29
    go_wp2
    go_ret
    exact ⟨rfl, rfl⟩
  · go_enter Try.func29, Try.ntmps29
    go_wp2
    go_ret
    exact ⟨rfl, rfl⟩
set_option maxHeartbeats 400000 in
theorem signed_any (a : Int) (w : World) (a0 : 0 ≤ a) (a1 : a < 4294967296) :
    Calls Try.prog 30 #[.int .u32 a] w fun e w' => e = .returned (.int .i64 (AM.sv a)) ∧ w = w' := by
  go_enter Try.func30, Try.ntmps30
  go_wp2
  all_goals (go_ret; exact ⟨ret_int (by unfold AM.sv; split <;> omega), rfl⟩)
set_option maxHeartbeats 400000 in
theorem cmov_any (old a b : Int) (w : World) :
    Calls Try.prog 19 #[.int .u32 old, .int .u32 a, .int .u32 b] w fun e w' => e = .returned (.int .u32 (if b = 0 then old else a)) ∧ w = w' := by
  by_cases h : b = 0
  · subst h
    go_enter Try.func19, Try.ntmps19
    go_wp2
    go_ret
    exact ⟨rfl, rfl⟩
  · have hb : (b == 0) = false := by simpa using h
    rw [if_neg h]
    clear h
    go_enter Try.func19, Try.ntmps19
    go_wp2
    go_ret
    exact ⟨rfl, rfl⟩
set_option maxHeartbeats 400000 in
theorem rcmov_any (old a b : Int) (w : World) :
    Calls Try.prog 20 #[.int .u32 old, .int .u32 a, .int .u32 b] w fun e w' => e = .returned (.int .u32 (if b = 0 then old else a)) ∧ w = w' := by
  by_cases h : b = 0
  · subst h
    go_enter Try.func20, Try.ntmps20
    go_wp2
    go_ret
    exact ⟨rfl, rfl⟩
  · have hb : (b == 0) = false := by simpa using h
    rw [if_neg h]
    clear h
    go_enter Try.func20, Try.ntmps20
    go_wp2
    go_ret
    exact ⟨rfl, rfl⟩

theorem len_end (y k : Int) (X : Nat) (k0 : 0 ≤ k) (k1 : k ≤ 24) (h0 : 0 ≤ y) (h1 : y ≤ 255) (e : (Lib.bitLen X : Int) = k + Lib.bitLen y.toNat) : wrap64 (k + wrap64 (Lib.len8 y)) = (Lib.bitLen X : Int) := by
  have := Lib.bitLen_le8' y h0 h1
  rw [Lib.len8_of y h0 h1]
  unfold wrap64
  omega
set_option maxHeartbeats 4000000 in
set_option maxRecDepth 1000000 in
theorem len32_any (x : Int) (w : World) (h0 : 0 ≤ x) (h1 : x < 4294967296) :
    Calls Try.prog 37 #[.int .u32 x] w fun e w' => e = .returned (.int .i64 (Lib.bitLen x.toNat)) ∧ w = w' := by
  by_cases c1 : 65536 ≤ x
  · by_cases c2 : 256 ≤ x / 65536
    · have b0 : 0 ≤ x / 65536 / 256 := by omega
      have b1 : x / 65536 / 256 ≤ 255 := by omega
      go_enter Try.func37, Try.ntmps37
      go_wp2
      go_ret
      exact ⟨ret_int (len_end (x / 65536 / 256) 24 x.toNat (by omega) (by omega) b0 b1 (by rw [Lib.bitLen_shift24 x.toNat (by omega) (by omega), show (x / 65536 / 256).toNat = x.toNat / 16777216 by omega]; omega)), rfl⟩
    · have b0 : 0 ≤ x / 65536 := by omega
      have b1 : x / 65536 ≤ 255 := by omega
      go_enter Try.func37, Try.ntmps37
      go_wp2
      go_ret
      exact ⟨ret_int (len_end (x / 65536) 16 x.toNat (by omega) (by omega) b0 b1 (by rw [Lib.bitLen_shift16 x.toNat (by omega) (by omega), show (x / 65536).toNat = x.toNat / 65536 by omega]; omega)), rfl⟩
  · by_cases c2 : 256 ≤ x
    · have b0 : 0 ≤ x / 256 := by omega
      have b1 : x / 256 ≤ 255 := by omega
      go_enter Try.func37, Try.ntmps37
      go_wp2
      go_ret
      exact ⟨ret_int (len_end (x / 256) 8 x.toNat (by omega) (by omega) b0 b1 (by rw [Lib.bitLen_shift8 x.toNat (by omega) (by omega), show (x / 256).toNat = x.toNat / 256 by omega]; omega)), rfl⟩
    · have b1 : x ≤ 255 := by omega
      go_enter Try.func37, Try.ntmps37
      go_wp2
      go_ret
      exact ⟨ret_int (by have := len_end x 0 x.toNat (by omega) (by omega) h0 b1 (by omega); rwa [Int.zero_add] at this), rfl⟩
set_option maxHeartbeats 400000 in
theorem lead_any (x : Int) (w : World) (h0 : 0 ≤ x) (h1 : x < 4294967296) :
    Calls Try.prog 32 #[.int .u32 x] w fun e w' => e = .returned (.int .i64 (AM.cz x)) ∧ w = w' := by
  obtain ⟨c0, c1⟩ := AM.cz_bd x h1
  have HC := Lib.hid (show 32 - (Lib.bitLen x.toNat : Int) = AM.cz x from rfl)
  rw [← HC.out] at c0 c1
  go_enter Try.func32, Try.ntmps32
  go_wp2_with (first | (go_at_call 37; refine (len32_any _ _ (by omega) (by omega)).mono ?_; rintro e w' ⟨rfl, rfl⟩))
  go_ret
  exact ⟨ret_int HC.out, rfl⟩
set_option maxHeartbeats 400000 in
theorem clz_any (x : Int) (w : World) (h0 : 0 ≤ x) (h1 : x < 4294967296) :
    Calls Try.prog 13 #[.int .u32 x] w fun e w' => e = .returned (.int .i64 (AM.cz x)) ∧ w = w' := by
  go_enter Try.func13, Try.ntmps13
  go_wp2_with (first | (go_at_call 32; refine (lead_any _ _ (by omega) (by omega)).mono ?_; rintro e w' ⟨rfl, rfl⟩))
  go_ret
  exact ⟨rfl, rfl⟩
set_option maxHeartbeats 4000000 in
set_option maxRecDepth 1000000 in
theorem count_any (x : Int) (w : World) (h0 : 0 ≤ x) (h1 : x < 4294967296) :
    Calls Try.prog 33 #[.int .u32 x] w fun e w' => e = .returned (.int .i64 (AM.pc x)) ∧ ∃ n, w' = w.drewN n := by
  have b0 := AM.and255 x h0 h1
  have b1 := AM.and255 (x / 256) (by omega) (by omega)
  have b2 := AM.and255 (x / 65536) (by omega) (by omega)
  have b3 : x / 16777216 ≤ 255 := by omega
  have b4 : 0 ≤ x / 16777216 := by omega
  have HP := Lib.hid (AM.pop_end x h0 h1)
  go_enter Try.func33, Try.ntmps33
  go_wp2
  go_quiet (fail)
  go_wp2
  go_ret
  exact ⟨ret_int HP.out, _, rfl⟩
set_option maxHeartbeats 400000 in
theorem pop_any (x : Int) (w : World) (h0 : 0 ≤ x) (h1 : x < 4294967296) :
    Calls Try.prog 15 #[.int .u32 x] w fun e w' => e = .returned (.int .i64 (AM.pc x)) ∧ ∃ n, w' = w.drewN n := by
  go_enter Try.func15, Try.ntmps15
  go_wp2_with (first | (go_at_call 33; refine (count_any _ _ (by omega) (by omega)).mono ?_; rintro e w' ⟨rfl, n, rfl⟩))
  go_ret
  exact ⟨rfl, _, rfl⟩
set_option maxHeartbeats 400000 in
theorem revb_any (x : Int) (w : World) (h0 : 0 ≤ x) (h1 : x < 4294967296) :
    Calls Try.prog 34 #[.int .u32 x] w fun e w' => e = .returned (.int .u32 (AM.rv x)) ∧ w = w' := by
  have HP := Lib.hid (AM.rev_end x h0 h1)
  go_enter Try.func34, Try.ntmps34
  go_wp2
  go_ret
  exact ⟨ret_int HP.out, rfl⟩
set_option maxHeartbeats 400000 in
theorem rev_any (x : Int) (w : World) (h0 : 0 ≤ x) (h1 : x < 4294967296) :
    Calls Try.prog 17 #[.int .u32 x] w fun e w' => e = .returned (.int .u32 (AM.rv x)) ∧ w = w' := by
  go_enter Try.func17, Try.ntmps17
  go_wp2_with (first | (go_at_call 34; refine (revb_any _ _ (by omega) (by omega)).mono ?_; rintro e w' ⟨rfl, rfl⟩))
  go_ret
  exact ⟨rfl, rfl⟩
end Go.Proofs.Ytjlgaihihgifbaa
