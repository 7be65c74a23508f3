/-
  Plain facts: what Go's bit operations on 32-bit words give, bit by bit; each under the bounds of its arguments.
-/
import Derived.Test.YtbeenmglgdhbjaaS01Math
import Derived.RowKit
namespace Go.Proofs.Ytbeenmglgdhbjaa.S01
namespace BM
open Go.RowKit

/-- The word of n ones. -/
def on (n : Int) : Int := ((2 ^ n.toNat - 1 : Nat) : Int)
theorem on_toNat (n : Int) : (on n).toNat = 2 ^ n.toNat - 1 := by unfold on; omega
theorem on_bd (n : Int) (_h0 : 0 ≤ n) (h1 : n ≤ 32) : 0 ≤ on n ∧ on n < 4294967296 := by
  have h2 : 2 ^ n.toNat ≤ 2 ^ 32 := Nat.pow_le_pow_right (by decide) (by omega)
  have h3 : 0 < 2 ^ n.toNat := Nat.two_pow_pos _
  have h4 : (2 : Nat) ^ 32 = 4294967296 := by decide
  unfold on; omega
theorem pow_cast (k : Nat) : (2 : Int) ^ k = ((2 ^ k : Nat) : Int) := by simp
theorem on_eq (n : Int) (_h0 : 0 ≤ n) (h1 : n ≤ 32) : ((2 : Int) ^ n.toNat % 4294967296 - 1) % 4294967296 = on n := by
  have h2 : 2 ^ n.toNat ≤ 2 ^ 32 := Nat.pow_le_pow_right (by decide) (by omega)
  have h3 : 0 < 2 ^ n.toNat := Nat.two_pow_pos _
  have h4 : (2 : Nat) ^ 32 = 4294967296 := by decide
  unfold on; rw [pow_cast]; omega

theorem div_nat (x : Int) (k : Nat) (h : 0 ≤ x) : x / (2 : Int) ^ k = ((x.toNat / 2 ^ k : Nat) : Int) := by
  obtain ⟨X, rfl⟩ := Int.eq_ofNat_of_zero_le h
  rw [pow_cast, Int.toNat_natCast]; simp
theorem mul_nat (x : Int) (k : Nat) (h : 0 ≤ x) : x * (2 : Int) ^ k % 4294967296 = ((x.toNat * 2 ^ k % 4294967296 : Nat) : Int) := by
  obtain ⟨X, rfl⟩ := Int.eq_ofNat_of_zero_le h
  rw [pow_cast, Int.toNat_natCast]; simp
theorem p32 : (4294967296 : Nat) = 2 ^ 32 := by decide

theorem zext_end (x n : Int) (hx0 : 0 ≤ x) (hx : x < 4294967296) : bits .and .u32 x (on (cl n 0 32)) = zx x n := by
  obtain ⟨h0, h1⟩ := cl_bd n 0 32 (by omega)
  obtain ⟨b0, b1⟩ := on_bd _ h0 h1
  rw [u32_and x _ hx0 hx b0 b1, on_toNat, Nat.and_two_pow_sub_one_eq_mod]
  unfold zx zxN; rw [ob_mod]

theorem field_end (x h l : Int) (hx0 : 0 ≤ x) (hx : x < 4294967296) (hle : cl l 0 31 ≤ cl h 0 31) :
    bits .and .u32 (x / 2 ^ (cl l 0 31).toNat) (on (cl h 0 31 - cl l 0 31 + 1)) = fd x h l := by
  obtain ⟨h0, h1⟩ := cl_bd h 0 31 (by omega)
  obtain ⟨l0, l1⟩ := cl_bd l 0 31 (by omega)
  obtain ⟨b0, b1⟩ := on_bd (cl h 0 31 - cl l 0 31 + 1) (by omega) (by omega)
  have hd : x.toNat / 2 ^ (cl l 0 31).toNat ≤ x.toNat := Nat.div_le_self _ _
  have hb : on (cl h 0 31 - cl l 0 31 + 1) = ((2 ^ (cl h 0 31 - cl l 0 31 + 1).toNat - 1 : Nat) : Int) := rfl
  rw [div_nat _ _ hx0, hb, u32_and_nat _ _ (Nat.lt_of_le_of_lt hd (by omega)) (by rw [← on_toNat]; omega), Nat.and_two_pow_sub_one_eq_mod]
  unfold fd
  congr 1
  apply Nat.eq_of_testBit_eq
  intro j
  rw [fdN_bit, Nat.testBit_mod_two_pow, Nat.testBit_div_two_pow, show (cl h 0 31 - cl l 0 31 + 1).toNat = (cl h 0 31).toNat + 1 - (cl l 0 31).toNat by omega]

theorem put_end (x h l v : Int) (hx0 : 0 ≤ x) (hx : x < 4294967296) (hv0 : 0 ≤ v) (hle : cl l 0 31 ≤ cl h 0 31) :
    bits .or .u32 (bits .andNot .u32 x (on (cl h 0 31 - cl l 0 31 + 1) * 2 ^ (cl l 0 31).toNat % 4294967296))
      (bits .and .u32 (v * 2 ^ (cl l 0 31).toNat % 4294967296) (on (cl h 0 31 - cl l 0 31 + 1) * 2 ^ (cl l 0 31).toNat % 4294967296)) = pt x h l v := by
  obtain ⟨h0, h1⟩ := cl_bd h 0 31 (by omega)
  obtain ⟨l0, l1⟩ := cl_bd l 0 31 (by omega)
  obtain ⟨b0, b1⟩ := on_bd (cl h 0 31 - cl l 0 31 + 1) (by omega) (by omega)
  rw [mul_nat _ _ b0, mul_nat _ _ hv0, on_toNat]
  generalize hM : (2 ^ (cl h 0 31 - cl l 0 31 + 1).toNat - 1) * 2 ^ (cl l 0 31).toNat % 4294967296 = M
  generalize hV : v.toNat * 2 ^ (cl l 0 31).toNat % 4294967296 = V
  have hM1 : M < 4294967296 := by rw [← hM]; exact Nat.mod_lt _ (by decide)
  have hV1 : V < 4294967296 := by rw [← hV]; exact Nat.mod_lt _ (by decide)
  have hMb : ∀ j, j < 32 → M.testBit j = (decide ((cl l 0 31).toNat ≤ j ∧ j ≤ (cl h 0 31).toNat)) := by
    intro j hj
    rw [← hM, p32, Nat.testBit_mod_two_pow, Nat.testBit_mul_two_pow, Nat.testBit_two_pow_sub_one]
    rw [Bool.eq_iff_iff]; simp; omega
  have hVb : ∀ j, j < 32 → V.testBit j = (decide ((cl l 0 31).toNat ≤ j) && v.toNat.testBit (j - (cl l 0 31).toNat)) := by
    intro j hj
    rw [← hV, p32, Nat.testBit_mod_two_pow, Nat.testBit_mul_two_pow]
    simp [hj]
  have e1 : bits .andNot .u32 x (M : Int) = ((x.toNat &&& (4294967295 - M) : Nat) : Int) := by
    rw [u32_andNot x _ hx0 hx (by omega) (by omega), Int.toNat_natCast]
  have e2 : bits .and .u32 (V : Int) (M : Int) = ((V &&& M : Nat) : Int) := u32_and_nat V M hV1 hM1
  have k1 : x.toNat &&& (4294967295 - M) ≤ x.toNat := Nat.and_le_left
  have k2 : V &&& M ≤ V := Nat.and_le_left
  rw [e1, e2, u32_or_nat _ _ (by omega) (by omega)]
  unfold pt
  congr 1
  have k3 : x.toNat &&& (4294967295 - M) ||| (V &&& M) < 4294967296 := by
    have := Nat.or_lt_two_pow (n := 32) (x := x.toNat &&& (4294967295 - M)) (y := V &&& M) (by omega) (by omega)
    simpa using this
  apply ext32 k3 (ptN_lt _ _ _ _)
  intro j hj
  rw [ptN_bit, Nat.testBit_or, Nat.testBit_and, Nat.testBit_and, show 4294967295 - M = 2 ^ 32 - (M + 1) by omega, Nat.testBit_two_pow_sub_succ (by omega), hMb j hj, hVb j hj]
  by_cases hc : (cl l 0 31).toNat ≤ j ∧ j ≤ (cl h 0 31).toNat
  · rw [if_pos hc, decide_eq_true hc, decide_eq_true hc.1]; simp [hj]
  · rw [if_neg hc, decide_eq_false hc]; simp [hj]

theorem and31 (n : Int) : bits .and .i64 n 31 = n % 32 := by
  show IntKind.i64.wrap ((BitVec.ofInt 64 n &&& BitVec.ofInt 64 31).toNat : Int) = _
  have h1 : (BitVec.ofInt 64 31).toNat = 2 ^ 5 - 1 := by decide
  rw [BitVec.toNat_and, h1, Nat.and_two_pow_sub_one_eq_mod, BitVec.toNat_ofInt]
  have h2 : ((n % ((2 ^ 64 : Nat) : Int)).toNat % 2 ^ 5 : Nat) = (n % 32).toNat := by
    have : ((2 ^ 64 : Nat) : Int) = 18446744073709551616 := by decide
    rw [this]; omega
  rw [h2]
  simp [IntKind.wrap, IntKind.bits, IntKind.signed]
  omega

theorem rot_end (x k : Int) (hx0 : 0 ≤ x) (hx : x < 4294967296) (k0 : 0 ≤ k) (k1 : k < 32) :
    bits .or .u32 (x / 2 ^ k.toNat) (x * 2 ^ (32 - k).toNat % 4294967296) = ((rtN x.toNat k.toNat : Nat) : Int) := by
  have hd : x.toNat / 2 ^ k.toNat ≤ x.toNat := Nat.div_le_self _ _
  have hm : x.toNat * 2 ^ (32 - k).toNat % 4294967296 < 4294967296 := Nat.mod_lt _ (by decide)
  rw [div_nat _ _ hx0, mul_nat _ _ hx0, u32_or_nat _ _ (by omega) hm]
  congr 1
  have k3 : x.toNat / 2 ^ k.toNat ||| (x.toNat * 2 ^ (32 - k).toNat % 4294967296) < 4294967296 := by
    have := Nat.or_lt_two_pow (n := 32) (x := x.toNat / 2 ^ k.toNat) (y := x.toNat * 2 ^ (32 - k).toNat % 4294967296) (by omega) (by omega)
    simpa using this
  apply ext32 k3 (rtN_lt _ _)
  intro j hj
  rw [rtN_bit, Nat.testBit_or, Nat.testBit_div_two_pow, p32, Nat.testBit_mod_two_pow, Nat.testBit_mul_two_pow]
  by_cases hc : j + k.toNat < 32
  · have h2 : ¬ (32 - k).toNat ≤ j := by omega
    rw [show (j + k.toNat) % 32 = j + k.toNat by omega, decide_eq_false h2]; simp [hj]
  · have h2 : (32 - k).toNat ≤ j := by omega
    have h3 : x.toNat.testBit (j + k.toNat) = false := by
      apply Nat.testBit_lt_two_pow
      have : 2 ^ 32 ≤ 2 ^ (j + k.toNat) := Nat.pow_le_pow_right (by decide) (by omega)
      have h4 : (2 : Nat) ^ 32 = 4294967296 := by decide
      omega
    rw [h3, decide_eq_true h2, show (j + k.toNat) % 32 = j - (32 - k).toNat by omega]; simp [hj]

theorem sxN_sum (X c : Nat) (hc0 : c ≠ 0) (hc : c ≤ 32) : sxN X c = 2 ^ c * (if X.testBit (c - 1) then 2 ^ (32 - c) - 1 else 0) + X % 2 ^ c := by
  have hlt : X % 2 ^ c < 2 ^ c := Nat.mod_lt _ (Nat.two_pow_pos _)
  apply Nat.eq_of_testBit_eq
  intro j
  rw [sxN_bit _ _ _ hc0, Nat.testBit_two_pow_mul_add _ hlt]
  by_cases hj : j < c
  · rw [if_pos hj, Nat.testBit_mod_two_pow, show min j (c - 1) = j by omega, decide_eq_true hj, decide_eq_true (show j < 32 by omega)]
  · rw [if_neg hj, show min j (c - 1) = c - 1 by omega]
    cases hb : X.testBit (c - 1)
    · simp
    · simp only [if_true, Bool.and_true]
      rw [Nat.testBit_two_pow_sub_one, Bool.eq_iff_iff]; simp; omega

theorem top_bit (X c : Nat) (hc0 : c ≠ 0) : X.testBit (c - 1) = decide (2 ^ (c - 1) ≤ X % 2 ^ c) := by
  have e : (X % 2 ^ c).testBit (c - 1) = X.testBit (c - 1) := by rw [Nat.testBit_mod_two_pow, decide_eq_true (by omega), Bool.true_and]
  rw [← e]
  have hp : 2 ^ c = 2 * 2 ^ (c - 1) := by
    conv => lhs; rw [show c = (c - 1) + 1 by omega, Nat.pow_succ]
    omega
  have hlt : X % 2 ^ c < 2 ^ c := Nat.mod_lt _ (Nat.two_pow_pos _)
  generalize X % 2 ^ c = Y at *
  by_cases h : 2 ^ (c - 1) ≤ Y
  · rw [decide_eq_true h]
    have : Y = 2 ^ (c - 1) + (Y - 2 ^ (c - 1)) := by omega
    rw [this, Nat.testBit_two_pow_add_eq, Nat.testBit_lt_two_pow (by omega)]; rfl
  · rw [decide_eq_false h, Nat.testBit_lt_two_pow (by omega)]

theorem sext_end (x n : Int) (hx0 : 0 ≤ x) :
    wrap32 (x * 2 ^ (32 - cl n 0 32).toNat % 4294967296) / 2 ^ (32 - cl n 0 32).toNat % 4294967296 = sx x n := by
  obtain ⟨h0, h1⟩ := cl_bd n 0 32 (by omega)
  rw [mul_nat _ _ hx0]
  unfold sx
  generalize hc : (cl n 0 32).toNat = c
  have hcl : c ≤ 32 := by omega
  rw [show (32 - cl n 0 32).toNat = 32 - c by omega]
  generalize x.toNat = X
  have e1 : X * 2 ^ (32 - c) % 4294967296 = X % 2 ^ c * 2 ^ (32 - c) := by
    rw [show (4294967296 : Nat) = 2 ^ c * 2 ^ (32 - c) by rw [← Nat.pow_add, show c + (32 - c) = 32 by omega], Nat.mul_mod_mul_right]
  have hpp : 2 ^ c * 2 ^ (32 - c) = 4294967296 := by rw [← Nat.pow_add, show c + (32 - c) = 32 by omega]
  rw [e1]
  by_cases hc0 : c = 0
  · subst hc0
    unfold sxN; rw [if_pos rfl]; simp [Nat.mod_one, wrap32]
  rw [sxN_sum X c hc0 hcl, top_bit X c hc0]
  have hlt : X % 2 ^ c < 2 ^ c := Nat.mod_lt _ (Nat.two_pow_pos _)
  generalize X % 2 ^ c = Y at *
  have hp : 2 ^ c = 2 * 2 ^ (c - 1) := by
    conv => lhs; rw [show c = (c - 1) + 1 by omega, Nat.pow_succ]
    omega
  have hpos : 0 < 2 ^ (32 - c) := Nat.two_pow_pos _
  have hhalf : 2 ^ (c - 1) * 2 ^ (32 - c) = 2147483648 := by rw [← Nat.pow_add, show c - 1 + (32 - c) = 31 by omega]
  rw [pow_cast]
  generalize hG : 2 ^ (32 - c) = G at *
  generalize hC : 2 ^ c = C at *
  generalize hH : 2 ^ (c - 1) = Hf at *
  by_cases hb : Hf ≤ Y
  · have hge : Hf * G ≤ Y * G := Nat.mul_le_mul_right G hb
    have hle : Y * G < C * G := (Nat.mul_lt_mul_right hpos).mpr hlt
    have w1 : wrap32 ((Y * G : Nat) : Int) = ((Y : Int) - C) * G := by
      have : ((Y : Int) - C) * G = ((Y * G : Nat) : Int) - 4294967296 := by
        rw [Int.sub_mul]
        have : (C : Int) * G = ((C * G : Nat) : Int) := by simp
        rw [this, hpp]; simp
      rw [this]; unfold wrap32; omega
    rw [w1, Int.mul_ediv_cancel _ (by omega), decide_eq_true hb]
    simp only [if_true]
    have e3 : C * (G - 1) = 4294967296 - C := by rw [Nat.mul_sub, hpp]; omega
    rw [e3]
    have : C ≤ 4294967296 := by rw [← hpp]; exact Nat.le_mul_of_pos_right _ hpos
    omega
  · have hge : Y * G < Hf * G := (Nat.mul_lt_mul_right hpos).mpr (by omega)
    have w1 : wrap32 ((Y * G : Nat) : Int) = (Y : Int) * G := by
      have : (Y : Int) * G = ((Y * G : Nat) : Int) := by simp
      rw [this]; unfold wrap32; omega
    rw [w1, Int.mul_ediv_cancel _ (by omega), decide_eq_false hb]
    have : C ≤ 4294967296 := by rw [← hpp]; exact Nat.le_mul_of_pos_right _ hpos
    simp; omega

/-- A multiple of a size. -/
def al (x n : Int) : Bool := n == 1 || n == 2 && x % 2 == 0 || n == 4 && x % 4 == 0

end BM
end Go.Proofs.Ytbeenmglgdhbjaa.S01
