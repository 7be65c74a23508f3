/-
  Plain facts on the operations of one cycle: signed values, ones of a word, its leading zero bits, its bytes turned, moved words; nothing of the program, each under the bounds of its arguments.
-/
import Derived.Test.YtjlgaihihgifbaaS01MathC
import Derived.Lib.BitFns
import Derived.WalkKit
namespace Go.Proofs.Ytjlgaihihgifbaa
namespace AM
open Go.RowKit S01

/-- The signed value of a word. -/
def sv (x : Int) : Int := if 2147483648 ≤ x then x - 4294967296 else x
theorem sv_wrap (x : Int) (h0 : 0 ≤ x) (h1 : x < 4294967296) : wrap32 x = sv x := by
  unfold sv wrap32
  split <;> omega
theorem sv_mod (x : Int) (h0 : 0 ≤ x) (h1 : x < 4294967296) : sv x % 4294967296 = x := by
  unfold sv; split <;> omega
/-- The ones among the bits below k. -/
def cn (f : Nat → Bool) : Nat → Nat
  | 0 => 0
  | k + 1 => cn f k + (f k).toNat
theorem cn_le (f : Nat → Bool) (k : Nat) : cn f k ≤ k := by
  induction k with
  | zero => simp [cn]
  | succ k ih =>
    have h : (f k).toNat ≤ 1 := Bool.toNat_le _
    show cn f k + (f k).toNat ≤ k + 1
    omega
theorem cn_add (f : Nat → Bool) (m n : Nat) : cn f (m + n) = cn f m + cn (fun j => f (m + j)) n := by
  induction n with
  | zero => simp [cn]
  | succ n ih =>
    show cn f (m + n) + (f (m + n)).toNat = cn f m + (cn (fun j => f (m + j)) n + (f (m + n)).toNat)
    omega
theorem cn_congr (f g : Nat → Bool) (k : Nat) (h : ∀ j, j < k → f j = g j) : cn f k = cn g k := by
  induction k with
  | zero => rfl
  | succ k ih =>
    show cn f k + (f k).toNat = cn g k + (g k).toNat
    rw [ih fun j hj => h j (by omega), h k (by omega)]
theorem cn_not (f : Nat → Bool) (k : Nat) : cn f k + cn (fun j => !f j) k = k := by
  induction k with
  | zero => rfl
  | succ k ih =>
    show cn f k + (f k).toNat + (cn (fun j => !f j) k + (!f k).toNat) = k + 1
    have : (f k).toNat + (!f k).toNat = 1 := by cases f k <;> rfl
    omega
def pc (x : Int) : Int := ((cn x.toNat.testBit 32 : Nat) : Int)
theorem pc_bd (x : Int) : 0 ≤ pc x ∧ pc x ≤ 32 := by
  have := cn_le x.toNat.testBit 32
  unfold pc; omega
theorem pop8_cn : ∀ n : Fin 256, Lib.pop8 (n.val : Int) = ((cn n.val.testBit 8 : Nat) : Int) := by decide +kernel
theorem pop8_at (b : Int) (h0 : 0 ≤ b) (h1 : b ≤ 255) : Lib.pop8 b = ((cn b.toNat.testBit 8 : Nat) : Int) := by
  have := pop8_cn ⟨b.toNat, by omega⟩
  simp only [Int.toNat_of_nonneg h0] at this
  exact this
theorem and255 (x : Int) (h0 : 0 ≤ x) (h1 : x < 4294967296) : bits .and .u32 x 255 = x % 256 := by
  rw [u32_and x 255 h0 h1 (by omega) (by omega), show (255 : Int).toNat = 2 ^ 8 - 1 by decide, Nat.and_two_pow_sub_one_eq_mod]
  omega
/-- Byte k of a word has its bits. -/
theorem byte_bit (X k j : Nat) (hj : j < 8) : (X / 2 ^ (8 * k) % 256).testBit j = X.testBit (8 * k + j) := by
  rw [show (256 : Nat) = 2 ^ 8 by decide, Nat.testBit_mod_two_pow, Nat.testBit_div_two_pow, decide_eq_true hj, Bool.true_and, Nat.add_comm]
theorem cn_bytes (X : Nat) : cn X.testBit 32 = cn (X % 256).testBit 8 + cn (X / 256 % 256).testBit 8 + cn (X / 65536 % 256).testBit 8 + cn (X / 16777216 % 256).testBit 8 := by
  have e0 : cn (X % 256).testBit 8 = cn X.testBit 8 := cn_congr _ _ _ fun j hj => by simpa using byte_bit X 0 j hj
  have e1 : cn (X / 256 % 256).testBit 8 = cn (fun j => X.testBit (8 + j)) 8 := cn_congr _ _ _ fun j hj => by simpa using byte_bit X 1 j hj
  have e2 : cn (X / 65536 % 256).testBit 8 = cn (fun j => X.testBit (16 + j)) 8 := cn_congr _ _ _ fun j hj => by simpa using byte_bit X 2 j hj
  have e3 : cn (X / 16777216 % 256).testBit 8 = cn (fun j => X.testBit (24 + j)) 8 := cn_congr _ _ _ fun j hj => by simpa using byte_bit X 3 j hj
  have a1 := cn_add X.testBit 8 8
  have a2 := cn_add X.testBit 16 8
  have a3 := cn_add X.testBit 24 8
  rw [show 32 = 24 + 8 by rfl, a3, show 24 = 16 + 8 by rfl, a2, show 16 = 8 + 8 by rfl, a1]
  rw [e0, e1, e2, e3]
theorem pop_end (x : Int) (h0 : 0 ≤ x) (h1 : x < 4294967296) :
    (Lib.pop8 (x / 16777216) + Lib.pop8 (x / 65536 % 256) + Lib.pop8 (x / 256 % 256) + Lib.pop8 (x % 256)) % 256 = pc x := by
  rw [pop8_at (x / 16777216) (by omega) (by omega), pop8_at (x / 65536 % 256) (by omega) (by omega), pop8_at (x / 256 % 256) (by omega) (by omega), pop8_at (x % 256) (by omega) (by omega)]
  have hb := cn_bytes x.toNat
  have hl := cn_le x.toNat.testBit 32
  rw [show (x / 16777216).toNat = x.toNat / 16777216 % 256 by omega, show (x / 65536 % 256).toNat = x.toNat / 65536 % 256 by omega, show (x / 256 % 256).toNat = x.toNat / 256 % 256 by omega, show (x % 256).toNat = x.toNat % 256 by omega]
  unfold pc
  omega

/-- How many zero bits stand ahead. -/
def cz (x : Int) : Int := 32 - (Lib.bitLen x.toNat : Int)
theorem cz_bd (x : Int) (h1 : x < 4294967296) : 0 ≤ cz x ∧ cz x ≤ 32 := by
  have := Lib.bitLen_le x.toNat 32 (by omega) (by omega)
  unfold cz; omega
theorem bitLen_zero : Lib.bitLen 0 = 0 := by decide +kernel
theorem bitLen_one : Lib.bitLen 1 = 1 := by decide +kernel
theorem bitLen_at (x m : Nat) (h0 : 2 ^ m ≤ x) (h1 : x < 2 ^ (m + 1)) (h2 : x < 2 ^ 64) : Lib.bitLen x = m + 1 := by
  rw [Lib.bitLen_shift m x h0 h2]
  have hp : 0 < 2 ^ m := Nat.two_pow_pos _
  have : x / 2 ^ m = 1 := by
    rw [Nat.pow_succ] at h1
    exact Nat.div_eq_of_lt_le (by omega) (by omega)
  rw [this, bitLen_one]
theorem cz_end (x : Int) (k : Nat) (h0 : 0 ≤ x) (hk : k < 32) (h1 : x.toNat < 2 ^ (32 - k)) (hb : BM.bt x (31 - k) ≠ 0) : cz x = k := by
  unfold BM.bt at hb
  rw [show ((31 : Int) - k).toNat = 31 - k by omega] at hb
  have hT : x.toNat.testBit (31 - k) = true := by
    cases h : x.toNat.testBit (31 - k) <;> simp_all
  have hge := Nat.ge_two_pow_of_testBit hT
  have hp : 2 ^ (32 - k) ≤ 2 ^ 64 := Nat.pow_le_pow_right (by decide) (by omega)
  rw [show 32 - k = 31 - k + 1 by omega] at h1 hp
  unfold cz
  rw [bitLen_at x.toNat (31 - k) hge h1 (by omega)]
  omega
theorem cz_next (x : Int) (k : Nat) (hk : k < 32) (h1 : x.toNat < 2 ^ (32 - k)) (hb : BM.bt x (31 - k) = 0) : x.toNat < 2 ^ (32 - (k + 1)) := by
  unfold BM.bt at hb
  rw [show ((31 : Int) - k).toNat = 31 - k by omega] at hb
  have hT : x.toNat.testBit (31 - k) = false := by
    cases h : x.toNat.testBit (31 - k) <;> simp_all
  rw [show 32 - (k + 1) = 31 - k by omega]
  rw [show 32 - k = 31 - k + 1 by omega] at h1
  apply Nat.lt_pow_two_of_testBit
  intro i hi
  by_cases he : i = 31 - k
  · rw [he, hT]
  · apply Nat.testBit_lt_two_pow
    exact Nat.lt_of_lt_of_le h1 (Nat.pow_le_pow_right (by decide) (by omega))
theorem cz_zero (x : Int) (h0 : 0 ≤ x) (h1 : x.toNat < 2 ^ 0) : cz x = 32 := by
  have : x.toNat = 0 := by simpa using h1
  unfold cz; rw [this, bitLen_zero]; rfl

/-- The bytes the other way round. -/
def rv (x : Int) : Int := x % 256 * 16777216 + x / 256 % 256 * 65536 + x / 65536 % 256 * 256 + x / 16777216
theorem rv_bd (x : Int) (h0 : 0 ≤ x) (h1 : x < 4294967296) : 0 ≤ rv x ∧ rv x < 4294967296 := by unfold rv; omega
theorem bytes4 (x : Int) (h0 : 0 ≤ x) (h1 : x < 4294967296) : ∃ a b c d : Nat, a < 256 ∧ b < 256 ∧ c < 256 ∧ d < 256 ∧ x = ((2 ^ 8 * (2 ^ 8 * (2 ^ 8 * d + c) + b) + a : Nat) : Int) :=
  ⟨x.toNat % 256, x.toNat / 256 % 256, x.toNat / 65536 % 256, x.toNat / 16777216, by omega, by omega, by omega, by omega, by omega⟩
theorem rv_of (a b c d : Nat) (ha : a < 256) (hb : b < 256) (hc : c < 256) (hd : d < 256) :
    rv ((2 ^ 8 * (2 ^ 8 * (2 ^ 8 * d + c) + b) + a : Nat) : Int) = ((2 ^ 8 * (2 ^ 8 * (2 ^ 8 * a + b) + c) + d : Nat) : Int) := by
  unfold rv
  generalize hx : ((2 ^ 8 * (2 ^ 8 * (2 ^ 8 * d + c) + b) + a : Nat) : Int) = x
  rw [show x % 256 = a by omega, show x / 256 % 256 = b by omega, show x / 65536 % 256 = c by omega, show x / 16777216 = d by omega]
  omega
theorem rv_rv (x : Int) (h0 : 0 ≤ x) (h1 : x < 4294967296) : rv (rv x) = x := by
  obtain ⟨a, b, c, d, ha, hb, hc, hd, rfl⟩ := bytes4 x h0 h1
  rw [rv_of a b c d ha hb hc hd, rv_of d c b a hd hc hb ha]
theorem cn_of (a b c d : Nat) (ha : a < 256) (hb : b < 256) (hc : c < 256) (hd : d < 256) :
    cn (2 ^ 8 * (2 ^ 8 * (2 ^ 8 * d + c) + b) + a).testBit 32 = cn a.testBit 8 + cn b.testBit 8 + cn c.testBit 8 + cn d.testBit 8 := by
  rw [cn_bytes]
  generalize hx : 2 ^ 8 * (2 ^ 8 * (2 ^ 8 * d + c) + b) + a = x
  rw [show x % 256 = a by omega, show x / 256 % 256 = b by omega, show x / 65536 % 256 = c by omega, show x / 16777216 % 256 = d by omega]
theorem rv_pc (x : Int) (h0 : 0 ≤ x) (h1 : x < 4294967296) : pc (rv x) = pc x := by
  obtain ⟨a, b, c, d, ha, hb, hc, hd, rfl⟩ := bytes4 x h0 h1
  rw [rv_of a b c d ha hb hc hd]
  unfold pc
  rw [Int.toNat_natCast, Int.toNat_natCast, cn_of d c b a hd hc hb ha, cn_of a b c d ha hb hc hd]
  omega
def ro (x : Int) : Nat → Int
  | 0 => 0
  | k + 1 => 256 * ro x k + x / 256 ^ k % 256
theorem ro_end (x : Int) (h0 : 0 ≤ x) (h1 : x < 4294967296) : ro x 4 = rv x := by
  simp [ro, rv]; omega
theorem ro_bd (x : Int) (k : Nat) : 0 ≤ ro x k ∧ ro x k < 256 ^ k := by
  induction k with
  | zero => simp [ro]
  | succ k ih =>
    have h : (256 : Int) ^ (k + 1) = 256 * 256 ^ k := by rw [Int.pow_succ]; omega
    show 0 ≤ 256 * ro x k + x / 256 ^ k % 256 ∧ 256 * ro x k + x / 256 ^ k % 256 < 256 ^ (k + 1)
    omega
theorem mask_bit (i : Nat) : (16711935 : Nat).testBit i = decide (i < 8 ∨ 16 ≤ i ∧ i < 24) := by
  rw [show (16711935 : Nat) = 2 ^ 16 * (2 ^ 8 - 1) + (2 ^ 8 - 1) by decide, Nat.testBit_two_pow_mul_add _ (by decide)]
  split
  · rw [Nat.testBit_two_pow_sub_one, Bool.eq_iff_iff]; simp; omega
  · rw [Nat.testBit_two_pow_sub_one, Bool.eq_iff_iff]; simp; omega
theorem rv_bit (x : Int) (h0 : 0 ≤ x) (h1 : x < 4294967296) (j : Nat) (hj : j < 32) : (rv x).toNat.testBit j = x.toNat.testBit (8 * (3 - j / 8) + j % 8) := by
  obtain ⟨a, b, c, d, ha, hb, hc, hd, rfl⟩ := bytes4 x h0 h1
  rw [rv_of a b c d ha hb hc hd, Int.toNat_natCast, Int.toNat_natCast]
  have g := byte_bit (2 ^ 8 * (2 ^ 8 * (2 ^ 8 * d + c) + b) + a)
  generalize hx : 2 ^ 8 * (2 ^ 8 * (2 ^ 8 * d + c) + b) + a = x at g
  rw [Nat.testBit_two_pow_mul_add _ (show d < 2 ^ 8 from hd)]
  by_cases c1 : j < 8
  · rw [if_pos c1, show 8 * (3 - j / 8) + j % 8 = 8 * 3 + j by omega, ← g 3 j c1, show x / 2 ^ (8 * 3) % 256 = d by omega]
  rw [if_neg c1, Nat.testBit_two_pow_mul_add _ (show c < 2 ^ 8 from hc)]
  by_cases c2 : j - 8 < 8
  · rw [if_pos c2, show 8 * (3 - j / 8) + j % 8 = 8 * 2 + (j - 8) by omega, ← g 2 _ c2, show x / 2 ^ (8 * 2) % 256 = c by omega]
  rw [if_neg c2, Nat.testBit_two_pow_mul_add _ (show b < 2 ^ 8 from hb)]
  by_cases c3 : j - 8 - 8 < 8
  · rw [if_pos c3, show 8 * (3 - j / 8) + j % 8 = 8 * 1 + (j - 8 - 8) by omega, ← g 1 _ c3, show x / 2 ^ (8 * 1) % 256 = b by omega]
  · rw [if_neg c3, show 8 * (3 - j / 8) + j % 8 = 8 * 0 + (j - 8 - 8 - 8) by omega, ← g 0 _ (by omega), show x / 2 ^ (8 * 0) % 256 = a by omega]
theorem rev_end (x : Int) (h0 : 0 ≤ x) (h1 : x < 4294967296) :
    bits .or .u32 (bits .or .u32 (bits .and .u32 (x / 256) 16711935) (bits .and .u32 x 16711935 * 256 % 4294967296) / 65536)
      (bits .or .u32 (bits .and .u32 (x / 256) 16711935) (bits .and .u32 x 16711935 * 256 % 4294967296) * 65536 % 4294967296) = rv x := by
  have c : (16711935 : Int) = ((16711935 : Nat) : Int) := rfl
  obtain ⟨X, rfl⟩ := Int.eq_ofNat_of_zero_le h0
  have hX : X < 4294967296 := by omega
  have eA : bits .and .u32 ((X : Int) / 256) 16711935 = ((X / 256 &&& 16711935 : Nat) : Int) := by
    rw [c, show (X : Int) / 256 = ((X / 256 : Nat) : Int) by omega, u32_and_nat _ _ (by omega) (by omega)]
  have eB : bits .and .u32 (X : Int) 16711935 = ((X &&& 16711935 : Nat) : Int) := by
    rw [c, u32_and_nat _ _ (by omega) (by omega)]
  have lA : X / 256 &&& 16711935 ≤ 16711935 := Nat.and_le_right
  have lB : X &&& 16711935 ≤ 16711935 := Nat.and_le_right
  rw [eA, eB, show ((X &&& 16711935 : Nat) : Int) * 256 % 4294967296 = (((X &&& 16711935) * 256 : Nat) : Int) by omega, u32_or_nat _ _ (by omega) (by omega)]
  have hyb : ∀ i, (X / 256 &&& 16711935 ||| (X &&& 16711935) * 256).testBit i = (X.testBit (i + 8) && decide (i < 8 ∨ 16 ≤ i ∧ i < 24) || (decide (8 ≤ i) && (X.testBit (i - 8) && decide (i - 8 < 8 ∨ 16 ≤ i - 8 ∧ i - 8 < 24)))) := by
    intro i
    rw [Nat.testBit_or, Nat.testBit_and, mask_bit, show (256 : Nat) = 2 ^ 8 by decide, Nat.testBit_div_two_pow, Nat.testBit_mul_two_pow, Nat.testBit_and, mask_bit]
  generalize hy : (X / 256 &&& 16711935 ||| (X &&& 16711935) * 256) = Y at hyb
  have hY : Y < 4294967296 := by
    rw [← hy]
    have := Nat.or_lt_two_pow (n := 32) (x := X / 256 &&& 16711935) (y := (X &&& 16711935) * 256) (by omega) (by omega)
    simpa using this
  rw [show (Y : Int) / 65536 = ((Y / 65536 : Nat) : Int) by omega, show (Y : Int) * 65536 % 4294967296 = ((Y * 65536 % 4294967296 : Nat) : Int) by omega, u32_or_nat _ _ (by omega) (by omega)]
  have hr := rv_bd X (by omega) (by omega)
  rw [show rv X = (((rv X).toNat : Nat) : Int) by omega]
  congr 1
  have k3 : Y / 65536 ||| (Y * 65536 % 4294967296) < 4294967296 := by
    have := Nat.or_lt_two_pow (n := 32) (x := Y / 65536) (y := Y * 65536 % 4294967296) (by omega) (by omega)
    simpa using this
  apply BM.ext32 k3 (by omega)
  intro j hj
  rw [rv_bit X (by omega) (by omega) j hj, Nat.testBit_or, show (65536 : Nat) = 2 ^ 16 by decide, Nat.testBit_div_two_pow, BM.p32, Nat.testBit_mod_two_pow, Nat.testBit_mul_two_pow, hyb, hyb, Int.toNat_natCast]
  rw [Bool.eq_iff_iff]
  simp only [Bool.or_eq_true, Bool.and_eq_true, decide_eq_true_eq]
  constructor
  · rintro ((⟨h, hc⟩ | ⟨_, h, hc⟩) | ⟨_, _, ⟨h, hc⟩ | ⟨_, h, hc⟩⟩)
    · rw [show 8 * (3 - j / 8) + j % 8 = j + 16 + 8 by omega]; exact h
    · rw [show 8 * (3 - j / 8) + j % 8 = j + 16 - 8 by omega]; exact h
    · rw [show 8 * (3 - j / 8) + j % 8 = j - 16 + 8 by omega]; exact h
    · rw [show 8 * (3 - j / 8) + j % 8 = j - 16 - 8 by omega]; exact h
  · intro h
    by_cases c1 : j < 8
    · rw [show 8 * (3 - j / 8) + j % 8 = j + 16 + 8 by omega] at h
      exact .inl (.inl ⟨h, by omega⟩)
    by_cases c2 : j < 16
    · rw [show 8 * (3 - j / 8) + j % 8 = j + 16 - 8 by omega] at h
      exact .inl (.inr ⟨by omega, h, by omega⟩)
    by_cases c3 : j < 24
    · rw [show 8 * (3 - j / 8) + j % 8 = j - 16 + 8 by omega] at h
      exact .inr ⟨hj, by omega, .inl ⟨h, by omega⟩⟩
    · rw [show 8 * (3 - j / 8) + j % 8 = j - 16 - 8 by omega] at h
      exact .inr ⟨hj, by omega, .inr ⟨by omega, h, by omega⟩⟩
end AM
end Go.Proofs.Ytjlgaihihgifbaa
