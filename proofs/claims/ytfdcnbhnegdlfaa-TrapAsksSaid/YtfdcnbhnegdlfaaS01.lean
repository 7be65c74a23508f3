/-
  Plain facts on bits of numbers, which the contracts of the bit functions lean on; no condition, nothing of the program.
-/
import Derived.Laws.BitsAllLaws
import Derived.RowKit
import Derived.Test.YtfdcnbhnegdlfaaRows
import Derived.WalkKit
import Derived.WalkSpells
import Derived.WalkLawsBesides
import Derived.BigQuiet
import Derived.Lib.Hide
import Derived.ProofKit
import Derived.OpenShut
namespace Go.Proofs.Ytfdcnbhnegdlfaa.S01
namespace BM

/-- The number whose bits below k are f's. -/
def ob (f : Nat → Bool) : Nat → Nat
  | 0 => 0
  | k + 1 => ob f k + (f k).toNat * 2 ^ k

theorem ob_lt (f : Nat → Bool) (k : Nat) : ob f k < 2 ^ k := by
  induction k with
  | zero => simp [ob]
  | succ k ih =>
    have h : (f k).toNat ≤ 1 := Bool.toNat_le _
    have h2 : (f k).toNat * 2 ^ k ≤ 2 ^ k := by
      have := Nat.mul_le_mul_right (2 ^ k) h
      omega
    have hp : 2 ^ (k + 1) = 2 * 2 ^ k := by rw [Nat.pow_succ]; omega
    show ob f k + (f k).toNat * 2 ^ k < 2 ^ (k + 1)
    omega

theorem ob_testBit (f : Nat → Bool) (k j : Nat) : (ob f k).testBit j = (decide (j < k) && f j) := by
  induction k generalizing j with
  | zero => simp [ob]
  | succ k ih =>
    have e : ob f (k + 1) = 2 ^ k * (f k).toNat + ob f k := by
      show ob f k + (f k).toNat * 2 ^ k = _
      rw [Nat.mul_comm]; omega
    rw [e, Nat.testBit_two_pow_mul_add _ (ob_lt f k)]
    by_cases h : j < k
    · have h' : j < k + 1 := by omega
      simp [h, h', ih]
    · rw [if_neg h]
      by_cases hj : j = k
      · subst hj
        cases f j <;> simp
      · have h1 : ¬ j < k + 1 := by omega
        have h2 : j - k = (j - k - 1) + 1 := by omega
        rw [h2, Nat.testBit_succ]
        cases f k <;> simp [h1]

theorem ob_lt32 (f : Nat → Bool) (k : Nat) (h : k ≤ 32) : ob f k < 4294967296 := by
  have h1 := ob_lt f k
  have h2 : 2 ^ k ≤ 2 ^ 32 := Nat.pow_le_pow_right (by decide) h
  have h3 : (2 : Nat) ^ 32 = 4294967296 := by decide
  omega

/-- Two words are one if their 32 bits are. -/
theorem ext32 {x y : Nat} (hx : x < 4294967296) (hy : y < 4294967296) (h : ∀ j, j < 32 → x.testBit j = y.testBit j) : x = y := by
  apply Nat.eq_of_testBit_eq
  intro j
  by_cases hj : j < 32
  · exact h j hj
  · have hp : (4294967296 : Nat) ≤ 2 ^ j := by
      have : 2 ^ 32 ≤ 2 ^ j := Nat.pow_le_pow_right (by decide) (by omega)
      simpa using this
    rw [Nat.testBit_lt_two_pow (Nat.lt_of_lt_of_le hx hp), Nat.testBit_lt_two_pow (Nat.lt_of_lt_of_le hy hp)]

theorem ob_self (x : Nat) (hx : x < 4294967296) : ob x.testBit 32 = x :=
  ext32 (ob_lt32 _ _ (by omega)) hx fun j hj => by rw [ob_testBit]; simp [hj]

theorem ob_mod (x k : Nat) : ob x.testBit k = x % 2 ^ k := by
  apply Nat.eq_of_testBit_eq
  intro j
  rw [ob_testBit, Nat.testBit_mod_two_pow]

theorem pow_lt32 {k : Nat} (h : k < 32) : 2 ^ k < 4294967296 := by
  have : 2 ^ k < 2 ^ 32 := Nat.pow_lt_pow_right (by decide) h
  simpa using this

/-- A number brought between two others. -/
def cl (n lo hi : Int) : Int := if n < lo then lo else if hi < n then hi else n
theorem cl_bd (n lo hi : Int) (h : lo ≤ hi) : lo ≤ cl n lo hi ∧ cl n lo hi ≤ hi := by
  unfold cl; split
  · omega
  · split <;> omega
theorem cl_in (n lo hi : Int) (h1 : lo ≤ n) (h2 : n ≤ hi) : cl n lo hi = n := by
  unfold cl; rw [if_neg (by omega), if_neg (by omega)]

/-- The lowest bits. -/
def zxN (x c : Nat) : Nat := ob x.testBit c
def zx (x n : Int) : Int := ((zxN x.toNat (cl n 0 32).toNat : Nat) : Int)
/-- The lowest bits with their sign. -/
def sxN (x c : Nat) : Nat := if c = 0 then 0 else ob (fun j => x.testBit (min j (c - 1))) 32
def sx (x n : Int) : Int := ((sxN x.toNat (cl n 0 32).toNat : Nat) : Int)
/-- The bits from l to h. -/
def fdN (x h l : Nat) : Nat := ob (fun j => x.testBit (j + l)) (h + 1 - l)
def fd (x h l : Int) : Int := ((fdN x.toNat (cl h 0 31).toNat (cl l 0 31).toNat : Nat) : Int)
/-- Other bits from l to h. -/
def ptN (x h l v : Nat) : Nat := ob (fun j => if l ≤ j ∧ j ≤ h then v.testBit (j - l) else x.testBit j) 32
def pt (x h l v : Int) : Int := ((ptN x.toNat (cl h 0 31).toNat (cl l 0 31).toNat v.toNat : Nat) : Int)
/-- Turned to the right. -/
def rtN (x k : Nat) : Nat := ob (fun j => x.testBit ((j + k) % 32)) 32
def rt (x n : Int) : Int := ((rtN x.toNat (n % 32).toNat : Nat) : Int)

theorem zxN_lt (x c : Nat) (h : c ≤ 32) : zxN x c < 4294967296 := ob_lt32 _ _ h
theorem sxN_lt (x c : Nat) : sxN x c < 4294967296 := by
  unfold sxN; split
  · omega
  · exact ob_lt32 _ _ (by omega)
theorem fdN_lt (x h l : Nat) (hh : h ≤ 31) : fdN x h l < 4294967296 := ob_lt32 _ _ (by omega)
theorem ptN_lt (x h l v : Nat) : ptN x h l v < 4294967296 := ob_lt32 _ _ (by omega)
theorem rtN_lt (x k : Nat) : rtN x k < 4294967296 := ob_lt32 _ _ (by omega)
theorem zxN_bit (x c j : Nat) : (zxN x c).testBit j = (decide (j < c) && x.testBit j) := ob_testBit _ _ _
theorem sxN_bit (x c j : Nat) (hc : c ≠ 0) : (sxN x c).testBit j = (decide (j < 32) && x.testBit (min j (c - 1))) := by
  unfold sxN; rw [if_neg hc]; exact ob_testBit _ _ _
theorem fdN_bit (x h l j : Nat) : (fdN x h l).testBit j = (decide (j < h + 1 - l) && x.testBit (j + l)) := ob_testBit _ _ _
theorem ptN_bit (x h l v j : Nat) : (ptN x h l v).testBit j = (decide (j < 32) && if l ≤ j ∧ j ≤ h then v.testBit (j - l) else x.testBit j) := ob_testBit _ _ _
theorem rtN_bit (x k j : Nat) : (rtN x k).testBit j = (decide (j < 32) && x.testBit ((j + k) % 32)) := ob_testBit _ _ _

theorem zx_bd (x n : Int) : 0 ≤ zx x n ∧ zx x n < 4294967296 := by
  have h := cl_bd n 0 32 (by omega)
  have := zxN_lt x.toNat (cl n 0 32).toNat (by omega)
  unfold zx; omega
theorem sx_bd (x n : Int) : 0 ≤ sx x n ∧ sx x n < 4294967296 := by
  have := sxN_lt x.toNat (cl n 0 32).toNat
  unfold sx; omega
theorem fd_bd (x h l : Int) : 0 ≤ fd x h l ∧ fd x h l < 4294967296 := by
  have h1 := cl_bd h 0 31 (by omega)
  have := fdN_lt x.toNat (cl h 0 31).toNat (cl l 0 31).toNat (by omega)
  unfold fd; omega
theorem pt_bd (x h l v : Int) : 0 ≤ pt x h l v ∧ pt x h l v < 4294967296 := by
  have := ptN_lt x.toNat (cl h 0 31).toNat (cl l 0 31).toNat v.toNat
  unfold pt; omega
theorem rt_bd (x n : Int) : 0 ≤ rt x n ∧ rt x n < 4294967296 := by
  have := rtN_lt x.toNat (n % 32).toNat
  unfold rt; omega

/- BitsSigns -/
theorem zx_sx (x n : Int) : zx (sx x n) n = zx x n := by
  have h := cl_bd n 0 32 (by omega)
  unfold zx sx
  rw [Int.toNat_natCast]
  congr 1
  apply ext32 (zxN_lt _ _ (by omega)) (zxN_lt _ _ (by omega))
  intro j hj
  rw [zxN_bit, zxN_bit]
  by_cases hc : j < (cl n 0 32).toNat
  · rw [sxN_bit _ _ _ (by omega), show min j ((cl n 0 32).toNat - 1) = j by omega]
    simp [hj, hc]
  · simp [hc]
theorem sx_zx (x n : Int) : sx (zx x n) n = sx x n := by
  have h := cl_bd n 0 32 (by omega)
  unfold zx sx
  rw [Int.toNat_natCast]
  congr 1
  by_cases hc : (cl n 0 32).toNat = 0
  · unfold sxN; rw [if_pos hc, if_pos hc]
  · apply ext32 (sxN_lt _ _) (sxN_lt _ _)
    intro j hj
    rw [sxN_bit _ _ _ hc, sxN_bit _ _ _ hc, zxN_bit]
    have hm : min j ((cl n 0 32).toNat - 1) < (cl n 0 32).toNat := by omega
    rw [decide_eq_true hm, Bool.true_and]

/- BitsBack -/
theorem pt_none (x h l v : Int) (hx0 : 0 ≤ x) (hx : x < 4294967296) (hlt : cl h 0 31 < cl l 0 31) : pt x h l v = x := by
  have h1 := cl_bd h 0 31 (by omega)
  have h2 := cl_bd l 0 31 (by omega)
  unfold pt
  have : ptN x.toNat (cl h 0 31).toNat (cl l 0 31).toNat v.toNat = x.toNat := by
    apply ext32 (ptN_lt _ _ _ _) (by omega)
    intro j hj
    rw [ptN_bit, if_neg (by omega)]
    simp [hj]
  rw [this]; omega
theorem fd_none (x h l : Int) (hlt : cl h 0 31 < cl l 0 31) : fd x h l = 0 := by
  have h1 := cl_bd h 0 31 (by omega)
  have h2 := cl_bd l 0 31 (by omega)
  unfold fd fdN
  rw [show (cl h 0 31).toNat + 1 - (cl l 0 31).toNat = 0 by omega]
  rfl
theorem fd_pt (x h l v : Int) (hle : cl l 0 31 ≤ cl h 0 31) : fd (pt x h l v) h l = zx v (cl h 0 31 - cl l 0 31 + 1) := by
  have h1 := cl_bd h 0 31 (by omega)
  have h2 := cl_bd l 0 31 (by omega)
  unfold fd pt zx
  rw [Int.toNat_natCast, cl_in (cl h 0 31 - cl l 0 31 + 1) 0 32 (by omega) (by omega)]
  congr 1
  apply ext32 (fdN_lt _ _ _ (by omega)) (zxN_lt _ _ (by omega))
  intro j hj
  rw [fdN_bit, zxN_bit, ptN_bit, show (cl h 0 31 - cl l 0 31 + 1).toNat = (cl h 0 31).toNat + 1 - (cl l 0 31).toNat by omega]
  by_cases hc : j < (cl h 0 31).toNat + 1 - (cl l 0 31).toNat
  · rw [if_pos (by omega), show j + (cl l 0 31).toNat - (cl l 0 31).toNat = j by omega]
    have : j + (cl l 0 31).toNat < 32 := by omega
    simp [this]
  · simp [hc]
theorem pt_fd (y x h l : Int) (hx0 : 0 ≤ x) (hx : x < 4294967296)
    (hy : ∀ j, j < 32 → ¬ ((cl l 0 31).toNat ≤ j ∧ j ≤ (cl h 0 31).toNat) → y.toNat.testBit j = x.toNat.testBit j) : pt y h l (fd x h l) = x := by
  have h1 := cl_bd h 0 31 (by omega)
  have h2 := cl_bd l 0 31 (by omega)
  unfold pt fd
  rw [Int.toNat_natCast]
  have : ptN y.toNat (cl h 0 31).toNat (cl l 0 31).toNat (fdN x.toNat (cl h 0 31).toNat (cl l 0 31).toNat) = x.toNat := by
    apply ext32 (ptN_lt _ _ _ _) (by omega)
    intro j hj
    rw [ptN_bit, fdN_bit]
    by_cases hc : (cl l 0 31).toNat ≤ j ∧ j ≤ (cl h 0 31).toNat
    · rw [if_pos hc, show j - (cl l 0 31).toNat + (cl l 0 31).toNat = j by omega]
      have : j - (cl l 0 31).toNat < (cl h 0 31).toNat + 1 - (cl l 0 31).toNat := by omega
      simp [hj, this]
    · rw [if_neg hc, hy j hj hc]; simp [hj]
  rw [this]; omega
theorem pt_fd_same (x h l : Int) (hx0 : 0 ≤ x) (hx : x < 4294967296) : pt x h l (fd x h l) = x :=
  pt_fd x x h l hx0 hx fun _ _ _ => rfl
theorem pt_fd_back (x h l v : Int) (hx0 : 0 ≤ x) (hx : x < 4294967296) : pt (pt x h l v) h l (fd x h l) = x :=
  pt_fd _ x h l hx0 hx fun j hj hc => by
    unfold pt
    rw [Int.toNat_natCast, ptN_bit, if_neg hc]; simp [hj]

/- BitsTurns -/
theorem rt_rt (x n m k : Int) (h : (n + m) % 32 = k % 32) : rt (rt x n) m = rt x k := by
  unfold rt
  rw [Int.toNat_natCast]
  congr 1
  apply ext32 (rtN_lt _ _) (rtN_lt _ _)
  intro j hj
  rw [rtN_bit, rtN_bit, rtN_bit]
  have h1 : (j + (m % 32).toNat) % 32 < 32 := by omega
  rw [show ((j + (m % 32).toNat) % 32 + (n % 32).toNat) % 32 = (j + (k % 32).toNat) % 32 by omega]
  simp [h1]
theorem rt_zero (x n : Int) (hx0 : 0 ≤ x) (hx : x < 4294967296) (h : n % 32 = 0) : rt x n = x := by
  unfold rt
  have : rtN x.toNat (n % 32).toNat = x.toNat := by
    apply ext32 (rtN_lt _ _) (by omega)
    intro j hj
    rw [rtN_bit, h, show (j + (0 : Int).toNat) % 32 = j by simp; omega]
    simp [hj]
  rw [this]; omega

end BM
end Go.Proofs.Ytfdcnbhnegdlfaa.S01
/- Plain facts: what Go's bit operations on 32-bit words give, bit by bit; each under the bounds of its arguments. -/
namespace Go.Proofs.Ytfdcnbhnegdlfaa.S01
namespace BM
open Go.RowKit

/-- The word of n ones. -/
def on (n : Int) : Int := ((2 ^ n.toNat - 1 : Nat) : Int)
theorem on_toNat (n : Int) : (on n).toNat = 2 ^ n.toNat - 1 := by unfold on; omega
theorem on_bd (n : Int) (_h0 : 0 ≤ n) (h1 : n ≤ 32) : 0 ≤ on n ∧ on n < 4294967296 := by
  have h2 : 2 ^ n.toNat ≤ 2 ^ 32 := Nat.pow_le_pow_right (by decide) (by omega)
  have h3 : 0 < 2 ^ n.toNat := Nat.two_pow_pos _
  have h4 : (2 : Nat) ^ 32 = 4294967296 := by decide
  unfold on; omega
theorem pow_cast (k : Nat) : (2 : Int) ^ k = ((2 ^ k : Nat) : Int) := by simp
theorem on_eq (n : Int) (_h0 : 0 ≤ n) (h1 : n ≤ 32) : ((2 : Int) ^ n.toNat % 4294967296 - 1) % 4294967296 = on n := by
  have h2 : 2 ^ n.toNat ≤ 2 ^ 32 := Nat.pow_le_pow_right (by decide) (by omega)
  have h3 : 0 < 2 ^ n.toNat := Nat.two_pow_pos _
  have h4 : (2 : Nat) ^ 32 = 4294967296 := by decide
  unfold on; rw [pow_cast]; omega

theorem div_nat (x : Int) (k : Nat) (h : 0 ≤ x) : x / (2 : Int) ^ k = ((x.toNat / 2 ^ k : Nat) : Int) := by
  obtain ⟨X, rfl⟩ := Int.eq_ofNat_of_zero_le h
  rw [pow_cast, Int.toNat_natCast]; simp
theorem mul_nat (x : Int) (k : Nat) (h : 0 ≤ x) : x * (2 : Int) ^ k % 4294967296 = ((x.toNat * 2 ^ k % 4294967296 : Nat) : Int) := by
  obtain ⟨X, rfl⟩ := Int.eq_ofNat_of_zero_le h
  rw [pow_cast, Int.toNat_natCast]; simp
theorem p32 : (4294967296 : Nat) = 2 ^ 32 := by decide

theorem zext_end (x n : Int) (hx0 : 0 ≤ x) (hx : x < 4294967296) : bits .and .u32 x (on (cl n 0 32)) = zx x n := by
  obtain ⟨h0, h1⟩ := cl_bd n 0 32 (by omega)
  obtain ⟨b0, b1⟩ := on_bd _ h0 h1
  rw [u32_and x _ hx0 hx b0 b1, on_toNat, Nat.and_two_pow_sub_one_eq_mod]
  unfold zx zxN; rw [ob_mod]

theorem field_end (x h l : Int) (hx0 : 0 ≤ x) (hx : x < 4294967296) (hle : cl l 0 31 ≤ cl h 0 31) :
    bits .and .u32 (x / 2 ^ (cl l 0 31).toNat) (on (cl h 0 31 - cl l 0 31 + 1)) = fd x h l := by
  obtain ⟨h0, h1⟩ := cl_bd h 0 31 (by omega)
  obtain ⟨l0, l1⟩ := cl_bd l 0 31 (by omega)
  obtain ⟨b0, b1⟩ := on_bd (cl h 0 31 - cl l 0 31 + 1) (by omega) (by omega)
  have hd : x.toNat / 2 ^ (cl l 0 31).toNat ≤ x.toNat := Nat.div_le_self _ _
  have hb : on (cl h 0 31 - cl l 0 31 + 1) = ((2 ^ (cl h 0 31 - cl l 0 31 + 1).toNat - 1 : Nat) : Int) := rfl
  rw [div_nat _ _ hx0, hb, u32_and_nat _ _ (Nat.lt_of_le_of_lt hd (by omega)) (by rw [← on_toNat]; omega), Nat.and_two_pow_sub_one_eq_mod]
  unfold fd
  congr 1
  apply Nat.eq_of_testBit_eq
  intro j
  rw [fdN_bit, Nat.testBit_mod_two_pow, Nat.testBit_div_two_pow, show (cl h 0 31 - cl l 0 31 + 1).toNat = (cl h 0 31).toNat + 1 - (cl l 0 31).toNat by omega]

theorem put_end (x h l v : Int) (hx0 : 0 ≤ x) (hx : x < 4294967296) (hv0 : 0 ≤ v) (hle : cl l 0 31 ≤ cl h 0 31) :
    bits .or .u32 (bits .andNot .u32 x (on (cl h 0 31 - cl l 0 31 + 1) * 2 ^ (cl l 0 31).toNat % 4294967296))
      (bits .and .u32 (v * 2 ^ (cl l 0 31).toNat % 4294967296) (on (cl h 0 31 - cl l 0 31 + 1) * 2 ^ (cl l 0 31).toNat % 4294967296)) = pt x h l v := by
  obtain ⟨h0, h1⟩ := cl_bd h 0 31 (by omega)
  obtain ⟨l0, l1⟩ := cl_bd l 0 31 (by omega)
  obtain ⟨b0, b1⟩ := on_bd (cl h 0 31 - cl l 0 31 + 1) (by omega) (by omega)
  rw [mul_nat _ _ b0, mul_nat _ _ hv0, on_toNat]
  generalize hM : (2 ^ (cl h 0 31 - cl l 0 31 + 1).toNat - 1) * 2 ^ (cl l 0 31).toNat % 4294967296 = M
  generalize hV : v.toNat * 2 ^ (cl l 0 31).toNat % 4294967296 = V
  have hM1 : M < 4294967296 := by rw [← hM]; exact Nat.mod_lt _ (by decide)
  have hV1 : V < 4294967296 := by rw [← hV]; exact Nat.mod_lt _ (by decide)
  have hMb : ∀ j, j < 32 → M.testBit j = (decide ((cl l 0 31).toNat ≤ j ∧ j ≤ (cl h 0 31).toNat)) := by
    intro j hj
    rw [← hM, p32, Nat.testBit_mod_two_pow, Nat.testBit_mul_two_pow, Nat.testBit_two_pow_sub_one]
    rw [Bool.eq_iff_iff]; simp; omega
  have hVb : ∀ j, j < 32 → V.testBit j = (decide ((cl l 0 31).toNat ≤ j) && v.toNat.testBit (j - (cl l 0 31).toNat)) := by
    intro j hj
    rw [← hV, p32, Nat.testBit_mod_two_pow, Nat.testBit_mul_two_pow]
    simp [hj]
  have e1 : bits .andNot .u32 x (M : Int) = ((x.toNat &&& (4294967295 - M) : Nat) : Int) := by
    rw [u32_andNot x _ hx0 hx (by omega) (by omega), Int.toNat_natCast]
  have e2 : bits .and .u32 (V : Int) (M : Int) = ((V &&& M : Nat) : Int) := u32_and_nat V M hV1 hM1
  have k1 : x.toNat &&& (4294967295 - M) ≤ x.toNat := Nat.and_le_left
  have k2 : V &&& M ≤ V := Nat.and_le_left
  rw [e1, e2, u32_or_nat _ _ (by omega) (by omega)]
  unfold pt
  congr 1
  have k3 : x.toNat &&& (4294967295 - M) ||| (V &&& M) < 4294967296 := by
    have := Nat.or_lt_two_pow (n := 32) (x := x.toNat &&& (4294967295 - M)) (y := V &&& M) (by omega) (by omega)
    simpa using this
  apply ext32 k3 (ptN_lt _ _ _ _)
  intro j hj
  rw [ptN_bit, Nat.testBit_or, Nat.testBit_and, Nat.testBit_and, show 4294967295 - M = 2 ^ 32 - (M + 1) by omega, Nat.testBit_two_pow_sub_succ (by omega), hMb j hj, hVb j hj]
  by_cases hc : (cl l 0 31).toNat ≤ j ∧ j ≤ (cl h 0 31).toNat
  · rw [if_pos hc, decide_eq_true hc, decide_eq_true hc.1]; simp [hj]
  · rw [if_neg hc, decide_eq_false hc]; simp [hj]

theorem and31 (n : Int) : bits .and .i64 n 31 = n % 32 := by
  show IntKind.i64.wrap ((BitVec.ofInt 64 n &&& BitVec.ofInt 64 31).toNat : Int) = _
  have h1 : (BitVec.ofInt 64 31).toNat = 2 ^ 5 - 1 := by decide
  rw [BitVec.toNat_and, h1, Nat.and_two_pow_sub_one_eq_mod, BitVec.toNat_ofInt]
  have h2 : ((n % ((2 ^ 64 : Nat) : Int)).toNat % 2 ^ 5 : Nat) = (n % 32).toNat := by
    have : ((2 ^ 64 : Nat) : Int) = 18446744073709551616 := by decide
    rw [this]; omega
  rw [h2]
  simp [IntKind.wrap, IntKind.bits, IntKind.signed]
  omega

theorem rot_end (x k : Int) (hx0 : 0 ≤ x) (hx : x < 4294967296) (k0 : 0 ≤ k) (k1 : k < 32) :
    bits .or .u32 (x / 2 ^ k.toNat) (x * 2 ^ (32 - k).toNat % 4294967296) = ((rtN x.toNat k.toNat : Nat) : Int) := by
  have hd : x.toNat / 2 ^ k.toNat ≤ x.toNat := Nat.div_le_self _ _
  have hm : x.toNat * 2 ^ (32 - k).toNat % 4294967296 < 4294967296 := Nat.mod_lt _ (by decide)
  rw [div_nat _ _ hx0, mul_nat _ _ hx0, u32_or_nat _ _ (by omega) hm]
  congr 1
  have k3 : x.toNat / 2 ^ k.toNat ||| (x.toNat * 2 ^ (32 - k).toNat % 4294967296) < 4294967296 := by
    have := Nat.or_lt_two_pow (n := 32) (x := x.toNat / 2 ^ k.toNat) (y := x.toNat * 2 ^ (32 - k).toNat % 4294967296) (by omega) (by omega)
    simpa using this
  apply ext32 k3 (rtN_lt _ _)
  intro j hj
  rw [rtN_bit, Nat.testBit_or, Nat.testBit_div_two_pow, p32, Nat.testBit_mod_two_pow, Nat.testBit_mul_two_pow]
  by_cases hc : j + k.toNat < 32
  · have h2 : ¬ (32 - k).toNat ≤ j := by omega
    rw [show (j + k.toNat) % 32 = j + k.toNat by omega, decide_eq_false h2]; simp [hj]
  · have h2 : (32 - k).toNat ≤ j := by omega
    have h3 : x.toNat.testBit (j + k.toNat) = false := by
      apply Nat.testBit_lt_two_pow
      have : 2 ^ 32 ≤ 2 ^ (j + k.toNat) := Nat.pow_le_pow_right (by decide) (by omega)
      have h4 : (2 : Nat) ^ 32 = 4294967296 := by decide
      omega
    rw [h3, decide_eq_true h2, show (j + k.toNat) % 32 = j - (32 - k).toNat by omega]; simp [hj]

theorem sxN_sum (X c : Nat) (hc0 : c ≠ 0) (hc : c ≤ 32) : sxN X c = 2 ^ c * (if X.testBit (c - 1) then 2 ^ (32 - c) - 1 else 0) + X % 2 ^ c := by
  have hlt : X % 2 ^ c < 2 ^ c := Nat.mod_lt _ (Nat.two_pow_pos _)
  apply Nat.eq_of_testBit_eq
  intro j
  rw [sxN_bit _ _ _ hc0, Nat.testBit_two_pow_mul_add _ hlt]
  by_cases hj : j < c
  · rw [if_pos hj, Nat.testBit_mod_two_pow, show min j (c - 1) = j by omega, decide_eq_true hj, decide_eq_true (show j < 32 by omega)]
  · rw [if_neg hj, show min j (c - 1) = c - 1 by omega]
    cases hb : X.testBit (c - 1)
    · simp
    · simp only [if_true, Bool.and_true]
      rw [Nat.testBit_two_pow_sub_one, Bool.eq_iff_iff]; simp; omega

theorem top_bit (X c : Nat) (hc0 : c ≠ 0) : X.testBit (c - 1) = decide (2 ^ (c - 1) ≤ X % 2 ^ c) := by
  have e : (X % 2 ^ c).testBit (c - 1) = X.testBit (c - 1) := by rw [Nat.testBit_mod_two_pow, decide_eq_true (by omega), Bool.true_and]
  rw [← e]
  have hp : 2 ^ c = 2 * 2 ^ (c - 1) := by
    conv => lhs; rw [show c = (c - 1) + 1 by omega, Nat.pow_succ]
    omega
  have hlt : X % 2 ^ c < 2 ^ c := Nat.mod_lt _ (Nat.two_pow_pos _)
  generalize X % 2 ^ c = Y at *
  by_cases h : 2 ^ (c - 1) ≤ Y
  · rw [decide_eq_true h]
    have : Y = 2 ^ (c - 1) + (Y - 2 ^ (c - 1)) := by omega
    rw [this, Nat.testBit_two_pow_add_eq, Nat.testBit_lt_two_pow (by omega)]; rfl
  · rw [decide_eq_false h, Nat.testBit_lt_two_pow (by omega)]

theorem sext_end (x n : Int) (hx0 : 0 ≤ x) :
    wrap32 (x * 2 ^ (32 - cl n 0 32).toNat % 4294967296) / 2 ^ (32 - cl n 0 32).toNat % 4294967296 = sx x n := by
  obtain ⟨h0, h1⟩ := cl_bd n 0 32 (by omega)
  rw [mul_nat _ _ hx0]
  unfold sx
  generalize hc : (cl n 0 32).toNat = c
  have hcl : c ≤ 32 := by omega
  rw [show (32 - cl n 0 32).toNat = 32 - c by omega]
  generalize x.toNat = X
  have e1 : X * 2 ^ (32 - c) % 4294967296 = X % 2 ^ c * 2 ^ (32 - c) := by
    rw [show (4294967296 : Nat) = 2 ^ c * 2 ^ (32 - c) by rw [← Nat.pow_add, show c + (32 - c) = 32 by omega], Nat.mul_mod_mul_right]
  have hpp : 2 ^ c * 2 ^ (32 - c) = 4294967296 := by rw [← Nat.pow_add, show c + (32 - c) = 32 by omega]
  rw [e1]
  by_cases hc0 : c = 0
  · subst hc0
    unfold sxN; rw [if_pos rfl]; simp [Nat.mod_one, wrap32]
  rw [sxN_sum X c hc0 hcl, top_bit X c hc0]
  have hlt : X % 2 ^ c < 2 ^ c := Nat.mod_lt _ (Nat.two_pow_pos _)
  generalize X % 2 ^ c = Y at *
  have hp : 2 ^ c = 2 * 2 ^ (c - 1) := by
    conv => lhs; rw [show c = (c - 1) + 1 by omega, Nat.pow_succ]
    omega
  have hpos : 0 < 2 ^ (32 - c) := Nat.two_pow_pos _
  have hhalf : 2 ^ (c - 1) * 2 ^ (32 - c) = 2147483648 := by rw [← Nat.pow_add, show c - 1 + (32 - c) = 31 by omega]
  rw [pow_cast]
  generalize hG : 2 ^ (32 - c) = G at *
  generalize hC : 2 ^ c = C at *
  generalize hH : 2 ^ (c - 1) = Hf at *
  by_cases hb : Hf ≤ Y
  · have hge : Hf * G ≤ Y * G := Nat.mul_le_mul_right G hb
    have hle : Y * G < C * G := (Nat.mul_lt_mul_right hpos).mpr hlt
    have w1 : wrap32 ((Y * G : Nat) : Int) = ((Y : Int) - C) * G := by
      have : ((Y : Int) - C) * G = ((Y * G : Nat) : Int) - 4294967296 := by
        rw [Int.sub_mul]
        have : (C : Int) * G = ((C * G : Nat) : Int) := by simp
        rw [this, hpp]; simp
      rw [this]; unfold wrap32; omega
    rw [w1, Int.mul_ediv_cancel _ (by omega), decide_eq_true hb]
    simp only [if_true]
    have e3 : C * (G - 1) = 4294967296 - C := by rw [Nat.mul_sub, hpp]; omega
    rw [e3]
    have : C ≤ 4294967296 := by rw [← hpp]; exact Nat.le_mul_of_pos_right _ hpos
    omega
  · have hge : Y * G < Hf * G := (Nat.mul_lt_mul_right hpos).mpr (by omega)
    have w1 : wrap32 ((Y * G : Nat) : Int) = (Y : Int) * G := by
      have : (Y : Int) * G = ((Y * G : Nat) : Int) := by simp
      rw [this]; unfold wrap32; omega
    rw [w1, Int.mul_ediv_cancel _ (by omega), decide_eq_false hb]
    have : C ≤ 4294967296 := by rw [← hpp]; exact Nat.le_mul_of_pos_right _ hpos
    simp; omega

/-- A multiple of a size. -/
def al (x n : Int) : Bool := n == 1 || n == 2 && x % 2 == 0 || n == 4 && x % 4 == 0

end BM
end Go.Proofs.Ytfdcnbhnegdlfaa.S01
/- Plain facts: the sums over bits that the reference's loops make, step by step; each under the bounds of its arguments. -/
namespace Go.Proofs.Ytfdcnbhnegdlfaa.S01
namespace BM

/-- A power of two. -/
def pw (n : Int) : Int := ((2 ^ n.toNat : Nat) : Int)
theorem pw_bd (n : Int) (h0 : 0 ≤ n) (h : n ≤ 31) : 1 ≤ pw n ∧ pw n ≤ 2147483648 := by
  have h2 : 2 ^ n.toNat ≤ 2 ^ 31 := Nat.pow_le_pow_right (by decide) (by omega)
  have h3 : 0 < 2 ^ n.toNat := Nat.two_pow_pos _
  have h4 : (2 : Nat) ^ 31 = 2147483648 := by decide
  unfold pw; omega
theorem pw_succ (k : Nat) : pw ((k + 1 : Nat) : Int) = pw (k : Int) * 2 := by
  unfold pw; rw [Int.toNat_natCast, Int.toNat_natCast, Nat.pow_succ]; simp
theorem pw_zero : pw 0 = 1 := by decide
/-- A bit of a word. -/
def bt (x i : Int) : Int := ((x.toNat.testBit i.toNat).toNat : Int)
theorem bt_bd (x i : Int) : 0 ≤ bt x i ∧ bt x i ≤ 1 := by
  have := Bool.toNat_le (x.toNat.testBit i.toNat)
  unfold bt; omega
theorem bt_eq (x i : Int) (hx0 : 0 ≤ x) : x / pw i % 2 = bt x i := by
  unfold bt pw
  obtain ⟨X, rfl⟩ := Int.eq_ofNat_of_zero_le hx0
  rw [Int.toNat_natCast, Nat.toNat_testBit]; simp

/-- A sum over bits, so far. -/
def su (f : Nat → Bool) (k : Nat) : Int := ((ob f k : Nat) : Int)
theorem su_zero (f : Nat → Bool) : su f 0 = 0 := rfl
theorem su_succ (f : Nat → Bool) (k : Nat) (b : Int) (h : b = ((f k).toNat : Int)) : su f (k + 1) = su f k + b * pw (k : Int) := by
  subst h; unfold su pw; rw [Int.toNat_natCast]
  show ((ob f k + (f k).toNat * 2 ^ k : Nat) : Int) = _
  simp
theorem su_bd (f : Nat → Bool) (k : Nat) (h : k ≤ 32) : 0 ≤ su f k ∧ su f k < 4294967296 := by
  have := ob_lt32 f k h
  unfold su; omega
/-- All that a round of such a sum wants. -/
theorem su_step (f : Nat → Bool) (k : Nat) (b : Int) (hk : k < 32) (h : b = ((f k).toNat : Int)) :
    su f (k + 1) = su f k + b * pw (k : Int) ∧ 0 ≤ su f k ∧ su f k < 4294967296 ∧ 0 ≤ b * pw (k : Int) ∧ b * pw (k : Int) < 4294967296 ∧ su f k + b * pw (k : Int) < 4294967296 := by
  have h1 := su_succ f k b h
  have h2 := su_bd f k (by omega)
  have h3 := su_bd f (k + 1) (by omega)
  have hb : 0 ≤ b := by rw [h]; omega
  have hp := pw_bd (k : Int) (by omega) (by omega)
  have h4 : 0 ≤ b * pw (k : Int) := Int.mul_nonneg hb (by omega)
  exact ⟨h1, h2.1, h2.2, h4, by omega, by omega⟩

theorem cl_cl (n lo hi : Int) (h : lo ≤ hi) : cl (cl n lo hi) lo hi = cl n lo hi := by
  obtain ⟨a, b⟩ := cl_bd n lo hi h
  exact cl_in _ _ _ a b
theorem zx_cl (x n : Int) : zx x (cl n 0 32) = zx x n := by unfold zx; rw [cl_cl _ _ _ (by omega)]
theorem zx_su (x n : Int) : su x.toNat.testBit (cl n 0 32).toNat = zx x n := rfl

/- Sext -/
def sg (x : Int) (c : Nat) : Nat → Bool := fun j => x.toNat.testBit (min j (c - 1))
theorem sx_zero (x n : Int) (h : cl n 0 32 = 0) : zx x n = sx x n := by
  unfold zx sx zxN sxN; rw [h]; rfl
theorem sx_plus (x n : Int) (h : cl n 0 32 ≠ 0) (hb : bt x (cl n 0 32 - 1) = 0) : zx x n = sx x n := by
  obtain ⟨a, b⟩ := cl_bd n 0 32 (by omega)
  unfold zx sx
  congr 1
  apply ext32 (zxN_lt _ _ (by omega)) (sxN_lt _ _)
  intro j hj
  rw [zxN_bit, sxN_bit _ _ _ (by omega)]
  have hb' : x.toNat.testBit ((cl n 0 32).toNat - 1) = false := by
    unfold bt at hb
    rw [show (cl n 0 32 - 1).toNat = (cl n 0 32).toNat - 1 by omega] at hb
    cases h' : x.toNat.testBit ((cl n 0 32).toNat - 1)
    · rfl
    · rw [h'] at hb; simp at hb
  by_cases hc : j < (cl n 0 32).toNat
  · rw [show min j ((cl n 0 32).toNat - 1) = j by omega, decide_eq_true hc, decide_eq_true hj]
  · rw [show min j ((cl n 0 32).toNat - 1) = (cl n 0 32).toNat - 1 by omega, hb']; simp [hc]
theorem sg_start (x n : Int) (_h : cl n 0 32 ≠ 0) : zx x n = su (sg x (cl n 0 32).toNat) (cl n 0 32).toNat := by
  obtain ⟨a, b⟩ := cl_bd n 0 32 (by omega)
  unfold zx su
  congr 1
  apply ext32 (zxN_lt _ _ (by omega)) (ob_lt32 _ _ (by omega))
  intro j hj
  rw [zxN_bit, ob_testBit]
  by_cases hc : j < (cl n 0 32).toNat
  · unfold sg; rw [show min j ((cl n 0 32).toNat - 1) = j by omega]
  · simp only [decide_eq_false hc, Bool.false_and]
theorem sg_one (x n : Int) (_h : cl n 0 32 ≠ 0) (hb : bt x (cl n 0 32 - 1) ≠ 0) (k : Nat) (hk : (cl n 0 32).toNat ≤ k) : (1 : Int) = ((sg x (cl n 0 32).toNat k).toNat : Int) := by
  obtain ⟨a, b⟩ := cl_bd n 0 32 (by omega)
  unfold sg
  rw [show min k ((cl n 0 32).toNat - 1) = (cl n 0 32).toNat - 1 by omega]
  unfold bt at hb
  rw [show (cl n 0 32 - 1).toNat = (cl n 0 32).toNat - 1 by omega] at hb
  cases h' : x.toNat.testBit ((cl n 0 32).toNat - 1)
  · rw [h'] at hb; simp at hb
  · rfl
theorem sg_end (x n : Int) (h : cl n 0 32 ≠ 0) : su (sg x (cl n 0 32).toNat) 32 = sx x n := by
  obtain ⟨a, b⟩ := cl_bd n 0 32 (by omega)
  unfold sx sxN su; rw [if_neg (by omega)]; rfl

/- Field -/
def fg (x : Int) (l : Nat) : Nat → Bool := fun j => x.toNat.testBit (j + l)
theorem fg_bit (x l : Int) (k : Nat) (h : 0 ≤ l) : bt x (l + k) = ((fg x l.toNat k).toNat : Int) := by
  unfold bt fg; rw [show (l + k).toNat = k + l.toNat by omega]
theorem fg_end (x h l : Int) : su (fg x (cl l 0 31).toNat) ((cl h 0 31).toNat + 1 - (cl l 0 31).toNat) = fd x h l := rfl

/- Put -/
def pg (x h l v : Int) : Nat → Bool := fun j => if l.toNat ≤ j ∧ j ≤ h.toNat then v.toNat.testBit (j - l.toNat) else x.toNat.testBit j
theorem pg_in (x h l v : Int) (k : Nat) (h1 : 0 ≤ l) (h2 : l ≤ k) (h3 : (k : Int) ≤ h) : bt v (k - l) = ((pg x h l v k).toNat : Int) := by
  unfold bt pg; rw [if_pos (by omega), show ((k : Int) - l).toNat = k - l.toNat by omega]
theorem pg_out (x h l v : Int) (k : Nat) (h2 : ¬ (l ≤ k ∧ (k : Int) ≤ h)) (hh : 0 ≤ h) : bt x k = ((pg x h l v k).toNat : Int) := by
  unfold bt pg; rw [if_neg (by omega), Int.toNat_natCast]
theorem pg_end (x h l v : Int) : su (pg x (cl h 0 31) (cl l 0 31) v) 32 = pt x h l v := rfl

/- Rot -/
def tu (x : Int) (k : Nat) : Int := ((rtN x.toNat k : Nat) : Int)
theorem tu_zero (x : Int) (hx0 : 0 ≤ x) (hx : x < 4294967296) : tu x 0 = x := by
  have := rt_zero x 0 hx0 hx (by decide)
  exact this
theorem tu_bd (x : Int) (k : Nat) : 0 ≤ tu x k ∧ tu x k < 4294967296 := by
  have := rtN_lt x.toNat k
  unfold tu; omega
theorem tu_succ (x : Int) (k : Nat) : tu x (k + 1) = tu x k / 2 + tu x k % 2 * pw 31 := by
  have e : rtN x.toNat (k + 1) = 2 ^ 31 * (rtN x.toNat k % 2) + rtN x.toNat k / 2 := by
    have hlt := rtN_lt x.toNat k
    apply Nat.eq_of_testBit_eq
    intro j
    have hd : rtN x.toNat k / 2 < 2 ^ 31 := by
      have : (2 : Nat) ^ 31 = 2147483648 := by decide
      omega
    rw [Nat.testBit_two_pow_mul_add _ hd, rtN_bit]
    have hdj : (rtN x.toNat k / 2).testBit j = (rtN x.toNat k).testBit (j + 1) := by rw [Nat.testBit_succ]
    have hm : rtN x.toNat k % 2 = ((rtN x.toNat k).testBit 0).toNat := by rw [Nat.toNat_testBit]; simp
    by_cases hj : j < 31
    · rw [if_pos hj, hdj, rtN_bit, decide_eq_true (show j < 32 by omega), decide_eq_true (show j + 1 < 32 by omega), show j + (k + 1) = j + 1 + k by omega]
    · rw [if_neg hj, hm, rtN_bit]
      by_cases hj' : j = 31
      · subst hj'
        rw [show (31 + (k + 1)) % 32 = (0 + k) % 32 by omega]
        cases x.toNat.testBit ((0 + k) % 32) <;> simp
      · rw [show j - 31 = (j - 32) + 1 by omega, Nat.testBit_succ, decide_eq_false (show ¬ j < 32 by omega)]
        cases (decide (0 < 32) && x.toNat.testBit ((0 + k) % 32)) <;> simp
  unfold tu; rw [e]
  have : pw 31 = 2147483648 := by decide
  rw [this]
  have : (2 : Nat) ^ 31 = 2147483648 := by decide
  rw [this]; omega
theorem tu_end (x n : Int) : tu x (n % 32).toNat = rt x n := rfl
theorem tmod_bd (n : Int) : -31 ≤ n.tmod 32 ∧ n.tmod 32 ≤ 31 := by
  by_cases h : 0 ≤ n
  · rw [Int.tmod_eq_emod_of_nonneg h]; omega
  · have : n.tmod 32 = -((-n) % 32) := by
      have e : n = -(-n) := by omega
      conv => lhs; rw [e, Int.neg_tmod]
      rw [Int.tmod_eq_emod_of_nonneg (by omega)]
    omega
theorem tmod_emod (n : Int) : n.tmod 32 % 32 = n % 32 := by
  by_cases h : 0 ≤ n
  · rw [Int.tmod_eq_emod_of_nonneg h]; omega
  · have : n.tmod 32 = -((-n) % 32) := by
      have e : n = -(-n) := by omega
      conv => lhs; rw [e, Int.neg_tmod]
      rw [Int.tmod_eq_emod_of_nonneg (by omega)]
    omega
theorem tmod_up (n : Int) : (n.tmod 32 + 32) % 32 = n % 32 := by
  have := tmod_emod n
  omega

end BM
end Go.Proofs.Ytfdcnbhnegdlfaa.S01
/- What each bit function of the package and of the reference answers, for every argument of its types (a power, a bit: within the word); none changes memory. -/
namespace Go.Proofs.Ytfdcnbhnegdlfaa.S01
open Go.RowKit
theorem ret_int {k : IntKind} {a b : Int} (h : a = b) : Ending.returned (.int k a) = .returned (.int k b) := by rw [h]
theorem ret_bool {a b : Bool} (h : a = b) : Ending.returned (.bool a) = .returned (.bool b) := by rw [h]
/-- In a region that draws: a callee that leaves the world; one that draws. -/
theorem q_same {P : Program} {f : FuncId} {args : Array Value} {v : Value} (h : ∀ W, Calls P f args W fun e w' => e = .returned v ∧ W = w') {w : World} {n : Nat} :
    Calls P f args (w.drewN n) fun e w'' => e = .returned v ∧ ∃ m, w'' = w.drewN m :=
  (h _).mono fun _ _ ⟨he, hw⟩ => ⟨he, n, hw.symm⟩
theorem q_draw {P : Program} {f : FuncId} {args : Array Value} {v : Value} (h : ∀ W, Calls P f args W fun e w' => e = .returned v ∧ ∃ m, w' = W.drewN m) {w : World} {n : Nat} :
    Calls P f args (w.drewN n) fun e w'' => e = .returned v ∧ ∃ m, w'' = w.drewN m :=
  (h _).mono fun _ _ ⟨he, m, hw⟩ => ⟨he, n + m, by rw [hw, World.drewN_drewN]⟩

theorem al_one (x : Int) : BM.al x 1 = true := rfl
theorem al_two (x : Int) : BM.al x 2 = (x % 2 == 0) := by simp [BM.al]
theorem al_four (x : Int) : BM.al x 4 = (x % 4 == 0) := by simp [BM.al]
theorem al_no (x n : Int) (h1 : n ≠ 1) (h2 : n ≠ 2) (h4 : n ≠ 4) : BM.al x n = false := by simp [BM.al, h1, h2, h4]
end Go.Proofs.Ytfdcnbhnegdlfaa.S01
/- What the reference's bit functions answer, whose texts loop over bits, for every argument of their types (a power, a bit: within the word); none changes memory. -/
namespace Go.Proofs.Ytfdcnbhnegdlfaa.S01
open Go.RowKit
theorem bit_end (x i : Int) (hx0 : 0 ≤ x) : x.tdiv (BM.pw i) % 4294967296 % 2 = BM.bt x i := by
  rw [← BM.bt_eq x i hx0, Int.tdiv_eq_ediv_of_nonneg hx0]
  generalize x / BM.pw i = y
  omega
end Go.Proofs.Ytfdcnbhnegdlfaa.S01
/- Plain facts on a word in which bytes are others; each under the bounds of its arguments. -/
namespace Go.Proofs.Ytfdcnbhnegdlfaa.S01
namespace BM

/-- Is byte i of the word one of those that are laid? -/
def inn (a s : Int) (i : Nat) : Bool := decide (0 ≤ (i : Int) - a) && decide ((i : Int) - a < s)
/-- The bits of a word in which, among the first k bytes, those that are laid are v's. -/
def mf (old v a s : Int) (k : Nat) : Nat → Bool := fun j =>
  if j / 8 < k ∧ inn a s (j / 8) = true then v.toNat.testBit (8 * (((j / 8 : Nat) : Int) - a).toNat + j % 8) else old.toNat.testBit j
def mk (old v a s : Int) (k : Nat) : Int := su (mf old v a s k) 32
/-- A word in which bytes are others. -/
def mg (old v at' size : Int) : Int := mk old v (cl at' (-4) 4) (cl size 0 4) 4

theorem mk_bd (old v a s : Int) (k : Nat) : 0 ≤ mk old v a s k ∧ mk old v a s k < 4294967296 := su_bd _ 32 (by omega)
theorem mk_zero (old v a s : Int) (h0 : 0 ≤ old) (h : old < 4294967296) : mk old v a s 0 = old := by
  unfold mk su
  have : ob (mf old v a s 0) 32 = old.toNat := by
    apply ext32 (ob_lt32 _ _ (by omega)) (by omega)
    intro j hj
    rw [ob_testBit]; unfold mf; rw [if_neg (by omega)]; simp [hj]
  rw [this]; omega
theorem mk_skip (old v a s : Int) (k : Nat) (h : inn a s k = false) : mk old v a s (k + 1) = mk old v a s k := by
  unfold mk su
  congr 1
  apply ext32 (ob_lt32 _ _ (by omega)) (ob_lt32 _ _ (by omega))
  intro j hj
  rw [ob_testBit, ob_testBit]; unfold mf
  congr 1
  by_cases hk : j / 8 = k
  · rw [if_neg (by rw [hk, h]; simp), if_neg (by omega)]
  · by_cases hc : j / 8 < k ∧ inn a s (j / 8) = true
    · rw [if_pos hc, if_pos ⟨by omega, hc.2⟩]
    · rw [if_neg hc, if_neg (fun h' => hc ⟨by omega, h'.2⟩)]
theorem mk_put (old v a s : Int) (k : Nat) (hk : k < 4) (hv0 : 0 ≤ v) (h : inn a s k = true) :
    pt (mk old v a s k) (8 * (k : Int) + 7) (8 * (k : Int)) (v / 2 ^ (8 * ((k : Int) - a)).toNat) = mk old v a s (k + 1) := by
  have h' := h
  unfold inn at h'
  simp only [Bool.and_eq_true, decide_eq_true_eq] at h'
  obtain ⟨g0, g1⟩ := h'
  rw [div_nat _ _ hv0]
  unfold pt
  rw [cl_in (8 * (k : Int) + 7) 0 31 (by omega) (by omega), cl_in (8 * (k : Int)) 0 31 (by omega) (by omega), Int.toNat_natCast]
  unfold mk su
  rw [Int.toNat_natCast]
  congr 1
  apply ext32 (ptN_lt _ _ _ _) (ob_lt32 _ _ (by omega))
  intro j hj
  rw [ptN_bit, ob_testBit, ob_testBit]
  by_cases hc : j / 8 = k
  · rw [if_pos (by omega), Nat.testBit_div_two_pow]
    unfold mf
    rw [if_pos (by rw [hc]; exact ⟨by omega, h⟩), hc, show j - (8 * (k : Int)).toNat + (8 * ((k : Int) - a)).toNat = 8 * ((k : Int) - a).toNat + j % 8 by omega]
  · rw [if_neg (by omega)]
    unfold mf
    by_cases hd : j / 8 < k ∧ inn a s (j / 8) = true
    · rw [if_pos hd, if_pos ⟨by omega, hd.2⟩]; simp [hj]
    · rw [if_neg hd, if_neg (fun h' => hd ⟨by omega, h'.2⟩)]; simp [hj]

theorem mg_bd (old v a s : Int) : 0 ≤ mg old v a s ∧ mg old v a s < 4294967296 := mk_bd _ _ _ _ _
/-- The whole word, laid. -/
theorem mg_whole (old v : Int) (h0 : 0 ≤ v) (h : v < 4294967296) : mg old v 0 4 = v := by
  unfold mg mk su
  rw [cl_in 0 (-4) 4 (by omega) (by omega), cl_in 4 0 4 (by omega) (by omega)]
  have : ob (mf old v 0 4 4) 32 = v.toNat := by
    apply ext32 (ob_lt32 _ _ (by omega)) (by omega)
    intro j hj
    rw [ob_testBit]; unfold mf
    rw [if_pos ⟨by omega, by unfold inn; simp only [Bool.and_eq_true, decide_eq_true_eq]; omega⟩, show 8 * (((j / 8 : Nat) : Int) - 0).toNat + j % 8 = j by omega]
    simp [hj]
  rw [this]; omega

end BM
end Go.Proofs.Ytfdcnbhnegdlfaa.S01
/- What bits.Merge and the statements' examples (awake) answer, for every argument; neither changes memory. -/
namespace Go.Proofs.Ytfdcnbhnegdlfaa.S01
open Go.RowKit
theorem ex1 : (BM.sx 128 8 == 4294967168) = true := by decide +kernel
theorem ex2 : (BM.fd 305419896 15 8 == 86) = true := by decide +kernel
theorem ex3 : (BM.mg 287454020 170 1 1 == 287484484) = true := by decide +kernel
theorem ex4 : BM.al 8 4 = true := by decide +kernel
theorem ex5 : (BM.rt 1 1 == 2147483648) = true := by decide +kernel
end Go.Proofs.Ytfdcnbhnegdlfaa.S01
/- The laws on whole words: each returns true for every argument of its types and leaves all memory as it was. -/
namespace Go.Proofs.Ytfdcnbhnegdlfaa.S01
open Go.RowKit

theorem below_draws (w : World) (n : Nat) : Below w.heap.size w (w.drewN n) := below_drewN (Below.refl _ _) n
theorem turn_one (x n m : Int) : BM.rt (BM.rt x n) m = BM.rt x (n.tmod 32 + m.tmod 32) := by
  apply BM.rt_rt
  have h1 := BM.tmod_emod n
  have h2 := BM.tmod_emod m
  omega
theorem turn_back (x n : Int) (hx0 : 0 ≤ x) (hx : x < 4294967296) : BM.rt (BM.rt x n) (32 - n.tmod 32) = x := by
  have h1 := BM.tmod_emod n
  rw [BM.rt_rt x n (32 - n.tmod 32) 0 (by omega)]
  exact BM.rt_zero x 0 hx0 hx (by decide)
end Go.Proofs.Ytfdcnbhnegdlfaa.S01
/- The law on fields that are put and read back: it returns true for every argument of its types and leaves all that was in memory as it was. -/
namespace Go.Proofs.Ytfdcnbhnegdlfaa.S01
open Go.RowKit

/-- In a second region that draws: a callee that leaves the world; one that draws. -/
theorem q_same2 {P : Program} {f : FuncId} {args : Array Value} {v : Value} (h : ∀ W, Calls P f args W fun e w' => e = .returned v ∧ W = w') {w : World} {a n : Nat} :
    Calls P f args (w.drewN (a + n)) fun e w'' => e = .returned v ∧ ∃ m, w'' = w.drewN (a + m) :=
  (h _).mono fun _ _ ⟨he, hw⟩ => ⟨he, n, hw.symm⟩
theorem q_draw2 {P : Program} {f : FuncId} {args : Array Value} {v : Value} (h : ∀ W, Calls P f args W fun e w' => e = .returned v ∧ ∃ m, w' = W.drewN m) {w : World} {a n : Nat} :
    Calls P f args (w.drewN (a + n)) fun e w'' => e = .returned v ∧ ∃ m, w'' = w.drewN (a + m) :=
  (h _).mono fun _ _ ⟨he, m, hw⟩ => ⟨he, n + m, by rw [hw, World.drewN_drewN, Nat.add_assoc]⟩

/-- N is n, brought to 0 and 31. -/
def Cl3 (n N : Int) : Prop := (N = 0 ∧ n < 0) ∨ (N = n ∧ 0 ≤ n ∧ n ≤ 31) ∨ (N = 31 ∧ 31 < n)
theorem cl3 (n : Int) : Cl3 n (BM.cl n 0 31) := by
  unfold Cl3 BM.cl; split
  · omega
  · split <;> omega
end Go.Proofs.Ytfdcnbhnegdlfaa.S01
/- Plain facts on a word's bytes and on the word that bytes are; each under the bounds of its arguments. -/
namespace Go.Proofs.Ytfdcnbhnegdlfaa.S01
namespace BM

/-- A word without its lowest k bytes; its byte k; its first bytes. -/
def vb (v : Int) (k : Nat) : Int := v / ((2 ^ (8 * k) : Nat) : Int)
def bb (v : Int) (k : Nat) : Int := vb v k % 256
def bl (v : Int) (n : Nat) : List Int := (List.range n).map (bb v)
theorem vb_zero (v : Int) : vb v 0 = v := by unfold vb; simp
theorem vb_succ (v : Int) (k : Nat) : vb v (k + 1) = vb v k / 256 := by
  unfold vb
  rw [Int.ediv_ediv_of_nonneg (Int.natCast_nonneg _), show 8 * (k + 1) = 8 * k + 8 by omega, Nat.pow_add]
  congr 1
theorem vb_bd (v : Int) (k : Nat) (h0 : 0 ≤ v) (h : v < 4294967296) : 0 ≤ vb v k ∧ vb v k < 4294967296 := by
  induction k with
  | zero => rw [vb_zero]; omega
  | succ k ih => rw [vb_succ]; omega
theorem bb_bd (v : Int) (k : Nat) : 0 ≤ bb v k ∧ bb v k ≤ 255 := by unfold bb; omega
theorem bl_len (v : Int) (n : Nat) : (bl v n).length = n := by simp [bl]
theorem bl_succ (v : Int) (n : Nat) : bl v (n + 1) = bl v n ++ [bb v n] := by simp [bl, List.range_succ]
theorem bl_get (v : Int) (n i : Nat) (h : i < n) : (bl v n).getD i 0 = bb v i := by simp [bl, h]
theorem bb_shift (v : Int) (k : Nat) : v / 2 ^ (8 * (k : Int)).toNat % 256 = bb v k := by
  unfold bb vb
  rw [pow_cast, show (8 * (k : Int)).toNat = 8 * k by omega]
theorem bb_bit (v : Int) (k j : Nat) (h0 : 0 ≤ v) (hj : j < 8) : (bb v k).toNat.testBit j = v.toNat.testBit (8 * k + j) := by
  obtain ⟨V, rfl⟩ := Int.eq_ofNat_of_zero_le h0
  have : bb (V : Int) k = ((V / 2 ^ (8 * k) % 2 ^ 8 : Nat) : Int) := by unfold bb vb; simp
  rw [this, Int.toNat_natCast, Int.toNat_natCast, Nat.testBit_mod_two_pow, Nat.testBit_div_two_pow, decide_eq_true hj, Bool.true_and, Nat.add_comm]

/-- Each is a byte. -/
def Bs (l : List Int) : Prop := ∀ i, 0 ≤ l.getD i 0 ∧ l.getD i 0 ≤ 255
/-- The word of the first k. -/
def ow (l : List Int) : Nat → Int
  | 0 => 0
  | k + 1 => ow l k + l.getD k 0 * pw (8 * (k : Int))
def wo (l : List Int) : Int := ow l (min 4 l.length)
theorem pw8 (k : Nat) : pw (8 * (k : Int)) = ((2 ^ (8 * k) : Nat) : Int) := by
  unfold pw; rw [show (8 * (k : Int)).toNat = 8 * k by omega]
theorem ow_bd (l : List Int) (hl : Bs l) (k : Nat) : 0 ≤ ow l k ∧ ow l k < ((2 ^ (8 * k) : Nat) : Int) := by
  induction k with
  | zero => simp [ow]
  | succ k ih =>
    obtain ⟨b0, b1⟩ := hl k
    show 0 ≤ ow l k + l.getD k 0 * pw (8 * (k : Int)) ∧ ow l k + l.getD k 0 * pw (8 * (k : Int)) < _
    rw [pw8, show 8 * (k + 1) = 8 * k + 8 by omega, Nat.pow_add]
    have hp : (0 : Int) ≤ ((2 ^ (8 * k) : Nat) : Int) := Int.natCast_nonneg _
    have h1 : 0 ≤ l.getD k 0 * ((2 ^ (8 * k) : Nat) : Int) := Int.mul_nonneg b0 hp
    have h2 : l.getD k 0 * ((2 ^ (8 * k) : Nat) : Int) ≤ 255 * ((2 ^ (8 * k) : Nat) : Int) := Int.mul_le_mul_of_nonneg_right b1 hp
    have h3 : ((2 ^ (8 * k) * 2 ^ 8 : Nat) : Int) = ((2 ^ (8 * k) : Nat) : Int) * 256 := by simp
    rw [h3]
    generalize ((2 ^ (8 * k) : Nat) : Int) = P at *
    omega
theorem pow8_le (k : Nat) (hk : k ≤ 4) : 2 ^ (8 * k) ≤ 4294967296 := by
  have : 2 ^ (8 * k) ≤ 2 ^ 32 := Nat.pow_le_pow_right (by decide) (by omega)
  simpa using this
/-- All that a round wants. -/
theorem ow_step (l : List Int) (hl : Bs l) (k : Nat) (hk : k < 4) :
    ow l (k + 1) = ow l k + l.getD k 0 * pw (8 * (k : Int)) ∧ 0 ≤ ow l k ∧ ow l k < 4294967296 ∧ 0 ≤ l.getD k 0 * pw (8 * (k : Int)) ∧ l.getD k 0 * pw (8 * (k : Int)) < 4294967296 ∧ ow l k + l.getD k 0 * pw (8 * (k : Int)) < 4294967296 := by
  have h1 := ow_bd l hl k
  have h2 := ow_bd l hl (k + 1)
  have h3 := pow8_le k (by omega)
  have h4 := pow8_le (k + 1) (by omega)
  have h5 : ow l (k + 1) = ow l k + l.getD k 0 * pw (8 * (k : Int)) := rfl
  obtain ⟨b0, b1⟩ := hl k
  have hp : 0 ≤ pw (8 * (k : Int)) := by rw [pw8]; exact Int.natCast_nonneg _
  have h6 : 0 ≤ l.getD k 0 * pw (8 * (k : Int)) := Int.mul_nonneg b0 hp
  refine ⟨h5, h1.1, by omega, h6, by omega, by omega⟩
theorem or_add (A C k : Nat) (hA : A < 2 ^ (8 * k)) (hB : A + C * 2 ^ (8 * k) < 4294967296) :
    bits .or .u32 (A : Int) ((C * 2 ^ (8 * k) : Nat) : Int) = ((A + C * 2 ^ (8 * k) : Nat) : Int) := by
  rw [u32_or_nat _ _ (by omega) (by omega), Nat.or_comm, nat_join (8 * k) _ _ (Nat.mul_mod_left _ _) hA, Nat.add_comm]
theorem ow_or (l : List Int) (hl : Bs l) (k : Nat) (hk : k < 4) : bits .or .u32 (ow l k) (l.getD k 0 * 2 ^ (8 * (k : Int)).toNat % 4294967296) = ow l (k + 1) := by
  obtain ⟨h5, a0, a1, a2, a3, a4⟩ := ow_step l hl k hk
  obtain ⟨b0, b1⟩ := hl k
  have h1 := ow_bd l hl k
  rw [h5]
  have e0 : (2 : Int) ^ (8 * (k : Int)).toNat = pw (8 * (k : Int)) := by rw [pow_cast]; rfl
  rw [e0, Int.emod_eq_of_lt a2 a3]
  have hA : ow l k = (((ow l k).toNat : Nat) : Int) := by omega
  have hC : l.getD k 0 * pw (8 * (k : Int)) = (((l.getD k 0).toNat * 2 ^ (8 * k) : Nat) : Int) := by
    rw [pw8]
    conv => lhs; rw [show l.getD k 0 = (((l.getD k 0).toNat : Nat) : Int) by omega]
    simp
  rw [hC] at a4 ⊢
  rw [hA] at a4 h1 ⊢
  generalize (ow l k).toNat = A at *
  generalize (l.getD k 0).toNat = C at *
  have a5 : A + C * 2 ^ (8 * k) < 4294967296 := by
    rw [← Int.natCast_add] at a4
    exact Int.ofNat_lt.mp a4
  rw [or_add A C k (Int.ofNat_lt.mp h1.2) a5, Int.natCast_add]
theorem ow_bit (l : List Int) (hl : Bs l) (k j : Nat) : (ow l k).toNat.testBit j = (decide (j < 8 * k) && (l.getD (j / 8) 0).toNat.testBit (j % 8)) := by
  induction k generalizing j with
  | zero => simp [ow]
  | succ k ih =>
    have h1 := ow_bd l hl k
    obtain ⟨b0, b1⟩ := hl k
    have e : (ow l (k + 1)).toNat = 2 ^ (8 * k) * (l.getD k 0).toNat + (ow l k).toNat := by
      show (ow l k + l.getD k 0 * pw (8 * (k : Int))).toNat = _
      rw [pw8]
      have hC : l.getD k 0 * ((2 ^ (8 * k) : Nat) : Int) = ((2 ^ (8 * k) * (l.getD k 0).toNat : Nat) : Int) := by
        conv => lhs; rw [show l.getD k 0 = (((l.getD k 0).toNat : Nat) : Int) by omega, Int.mul_comm]
        simp
      rw [hC]
      generalize 2 ^ (8 * k) * (l.getD k 0).toNat = D
      omega
    have hlt : (ow l k).toNat < 2 ^ (8 * k) := by
      have := h1.2
      rw [show ow l k = (((ow l k).toNat : Nat) : Int) by omega] at this
      exact Int.ofNat_lt.mp this
    rw [e, Nat.testBit_two_pow_mul_add _ hlt, ih]
    by_cases hj : j < 8 * k
    · rw [if_pos hj, decide_eq_true hj, decide_eq_true (show j < 8 * (k + 1) by omega)]
    · rw [if_neg hj]
      by_cases hj' : j < 8 * (k + 1)
      · rw [decide_eq_true hj', show j / 8 = k by omega, show j - 8 * k = j % 8 by omega]; rfl
      · rw [decide_eq_false hj', Bool.false_and]
        apply Nat.testBit_lt_two_pow
        have : 2 ^ 8 ≤ 2 ^ (j - 8 * k) := Nat.pow_le_pow_right (by decide) (by omega)
        have h8 : (2 : Nat) ^ 8 = 256 := by decide
        omega
theorem wo_bd (l : List Int) (hl : Bs l) : 0 ≤ wo l ∧ wo l < 4294967296 := by
  have h1 := ow_bd l hl (min 4 l.length)
  have h3 := pow8_le (min 4 l.length) (by omega)
  unfold wo; omega

theorem bl_Bs (v : Int) (n : Nat) : Bs (bl v n) := by
  intro i
  by_cases h : i < n
  · rw [bl_get v n i h]; exact bb_bd v i
  · rw [List.getD_eq_getElem?_getD, List.getElem?_eq_none (by rw [bl_len]; omega)]; simp
theorem wo_bl (v : Int) (n : Nat) (hn : n ≤ 4) (h0 : 0 ≤ v) : wo (bl v n) = zx v (8 * (n : Int)) := by
  have hb := wo_bd (bl v n) (bl_Bs v n)
  have hz := zx_bd v (8 * (n : Int))
  have : (wo (bl v n)).toNat = (zx v (8 * (n : Int))).toNat := by
    apply ext32 (by omega) (by omega)
    intro j hj
    unfold wo
    rw [bl_len, show min 4 n = n by omega, ow_bit _ (bl_Bs v n)]
    unfold zx
    rw [Int.toNat_natCast, zxN_bit, cl_in _ 0 32 (by omega) (by omega), show (8 * (n : Int)).toNat = 8 * n by omega]
    by_cases hc : j < 8 * n
    · rw [bl_get v n (j / 8) (by omega), bb_bit v (j / 8) (j % 8) h0 (by omega), show 8 * (j / 8) + j % 8 = j by omega]
    · rw [decide_eq_false hc]; rfl
  omega

/-- The bytes of a word in which, among the first k, those that are laid are v's. -/
def mm (old v a s : Int) (k : Nat) : List Int := (List.range 4).map fun i => if i < k ∧ inn a s i = true then bb v ((i : Int) - a).toNat else bb old i
theorem mm_len (old v a s : Int) (k : Nat) : (mm old v a s k).length = 4 := by simp [mm]
theorem mm_get (old v a s : Int) (k i : Nat) (h : i < 4) : (mm old v a s k).getD i 0 = if i < k ∧ inn a s i = true then bb v ((i : Int) - a).toNat else bb old i := by simp [mm, h]
theorem mm_Bs (old v a s : Int) (k : Nat) : Bs (mm old v a s k) := by
  intro i
  by_cases h : i < 4
  · rw [mm_get _ _ _ _ _ _ h]; split
    · exact bb_bd _ _
    · exact bb_bd _ _
  · rw [List.getD_eq_getElem?_getD, List.getElem?_eq_none (by rw [mm_len]; omega)]; simp
theorem mm_zero (old v a s : Int) : mm old v a s 0 = bl old 4 := by simp [mm, bl]
theorem mm_skip (old v a s : Int) (k : Nat) (h : inn a s k = false) : mm old v a s (k + 1) = mm old v a s k := by
  unfold mm
  apply List.map_congr_left
  intro i hi
  by_cases hk : i = k
  · subst hk; rw [if_neg (by rw [h]; simp), if_neg (by omega)]
  · by_cases hc : i < k ∧ inn a s i = true
    · rw [if_pos hc, if_pos ⟨by omega, hc.2⟩]
    · rw [if_neg hc, if_neg (fun h' => hc ⟨by omega, h'.2⟩)]
theorem mm_set (old v a s : Int) (k : Nat) (h : inn a s k = true) : (mm old v a s k).set k (bb v ((k : Int) - a).toNat) = mm old v a s (k + 1) := by
  apply List.ext_getElem
  · rw [List.length_set, mm_len, mm_len]
  intro i h1 h2
  rw [List.length_set, mm_len] at h1
  rw [List.getElem_set]
  have g1 : ∀ (k' : Nat) (hi : i < (mm old v a s k').length), (mm old v a s k')[i] = (mm old v a s k').getD i 0 := fun k' hi => by simp [List.getD_eq_getElem?_getD, hi]
  rw [g1, g1, mm_get _ _ _ _ _ _ h1, mm_get _ _ _ _ _ _ h1]
  by_cases hi : k = i
  · subst hi; rw [if_pos rfl, if_pos ⟨by omega, h⟩]
  · rw [if_neg hi]
    by_cases hc : i < k ∧ inn a s i = true
    · rw [if_pos hc, if_pos ⟨by omega, hc.2⟩]
    · rw [if_neg hc, if_neg (fun h' => hc ⟨by omega, h'.2⟩)]
theorem wo_mm (old v at' size : Int) (ho : 0 ≤ old) (hv : 0 ≤ v) : wo (mm old v (cl at' (-4) 4) (cl size 0 4) 4) = mg old v at' size := by
  have hb := wo_bd (mm old v (cl at' (-4) 4) (cl size 0 4) 4) (mm_Bs _ _ _ _ _)
  have hz := mg_bd old v at' size
  have : (wo (mm old v (cl at' (-4) 4) (cl size 0 4) 4)).toNat = (mg old v at' size).toNat := by
    apply ext32 (by omega) (by omega)
    intro j hj
    unfold wo
    rw [mm_len, show min 4 4 = 4 from rfl, ow_bit _ (mm_Bs _ _ _ _ _)]
    unfold mg mk su
    rw [Int.toNat_natCast, ob_testBit, mm_get _ _ _ _ _ _ (show j / 8 < 4 by omega)]
    unfold mf
    rw [decide_eq_true (show j < 8 * 4 by omega), Bool.true_and, Bool.true_and]
    by_cases hc : j / 8 < 4 ∧ inn (cl at' (-4) 4) (cl size 0 4) (j / 8) = true
    · rw [if_pos hc, if_pos hc, bb_bit _ _ _ hv (by omega)]
    · rw [if_neg hc, if_neg hc, bb_bit _ _ _ ho (by omega), show 8 * (j / 8) + j % 8 = j by omega]
  omega

end BM
end Go.Proofs.Ytfdcnbhnegdlfaa.S01
/- What bits.Of and the reference's Of answer, for every slice of bytes of at most 100 elements; neither changes memory. -/
namespace Go.Proofs.Ytfdcnbhnegdlfaa.S01
open Go.RowKit

/-- A world that has only drawn since. -/
def Dr (w w' : World) : Prop := ∃ n, w' = w.drewN n
theorem Dr.refl (w : World) : Dr w w := ⟨0, rfl⟩
theorem Dr.more {w w' : World} (h : Dr w w') (m : Nat) : Dr w (w'.drewN m) := by
  obtain ⟨n, rfl⟩ := h
  exact ⟨n + m, by rw [World.drewN_drewN]⟩
theorem Dr.cell {w w' : World} (h : Dr w w') (a : Addr) : w'.cell? a = w.cell? a := by
  obtain ⟨n, rfl⟩ := h; rfl

/-- The slice's first four cells are the list's. -/
def Four (w : World) (g off len : Nat) (l : List Int) : Prop := ∀ i : Nat, i < 4 → i < len → w.cell? ⟨g, off + i, none⟩ = some (.int .u8 (l.getD i 0))
theorem ow_or' (l : List Int) (hl : BM.Bs l) (k : Nat) (hk : k < 4) : bits .or .u32 (BM.ow l k) (l.getD k 0 * 2 ^ (8 * k) % 4294967296) = BM.ow l (k + 1) := by
  have := BM.ow_or l hl k hk
  rwa [show (8 * (k : Int)).toNat = 8 * k by omega] at this

end Go.Proofs.Ytfdcnbhnegdlfaa.S01
/- What bits.Bytes and the reference's Bytes make, for every word and size: new memory that holds the word's bytes; nothing that was there is changed. -/
namespace Go.Proofs.Ytfdcnbhnegdlfaa.S01
open Go.RowKit

theorem info5 : (Try.prog.info? 5).map (fun i => (i.zero, i.size, i.bytes)) = some (some (.int .u8 0), 1, 1) := by kernel_rfl
/-- Bytes as cells. -/
def cs (l : List Int) : List Value := l.map (Value.int .u8)
theorem cs_len (l : List Int) : (cs l).length = l.length := by simp [cs]
/-- New memory that holds n bytes; the rest is as it was. -/
def Made (w : World) (v : Value) (n : Nat) (l : List Int) (w' : World) : Prop := w'.ownsRow w.heap.size 5 1 v n (cs l) ∧ Below w.heap.size w w'

/-- The bytes so far, then noughts. -/
def part (v : Int) (n k : Nat) : List Int := BM.bl v k ++ List.replicate (n - k) 0
theorem part_len (v : Int) (n k : Nat) (h : k ≤ n) : (part v n k).length = n := by simp [part, BM.bl_len]; omega
theorem part_zero (v : Int) (n : Nat) : part v n 0 = List.replicate n 0 := by simp [part, BM.bl]
theorem part_full (v : Int) (n : Nat) : part v n n = BM.bl v n := by simp [part]
theorem part_set (v : Int) (n k : Nat) (h : k < n) : (cs (part v n k)).set k (.int .u8 (BM.bb v k)) = cs (part v n (k + 1)) := by
  unfold cs part
  rw [BM.bl_succ, show n - k = (n - (k + 1)) + 1 by omega, List.replicate_succ, List.map_append, List.map_cons, List.set_append_right _ _ (by simp [BM.bl_len])]
  simp [BM.bl_len]
theorem bb_shift' (v : Int) (k : Nat) : v / 2 ^ (8 * k) % 256 = BM.bb v k := by
  have := BM.bb_shift v k
  rwa [show (8 * (k : Int)).toNat = 8 * k by omega] at this
/-- What a store does to the row. -/
theorem part_step {w wr : World} {v : Int} {n k : Nat} (hk : k < n) (hown : wr.ownsRow w.heap.size 5 1 (.slice (some ⟨w.heap.size, 0, none⟩) n n) n (cs (part v n k))) (hb : Below w.heap.size w wr) :
    (wr.setCell ⟨w.heap.size, k, none⟩ (.int .u8 (BM.bb v k))).ownsRow w.heap.size 5 1 (.slice (some ⟨w.heap.size, 0, none⟩) n n) n (cs (part v n (k + 1))) ∧ Below w.heap.size w (wr.setCell ⟨w.heap.size, k, none⟩ (.int .u8 (BM.bb v k))) := by
  have h1 := (hown.stored k (.int .u8 (BM.bb v k))).1
  rw [part_set v n k hk] at h1
  exact ⟨h1, hb.setCell (Nat.le_refl _) _⟩
theorem part_cell {w wr : World} {v : Int} {n k : Nat} (hk : k < n) (hown : wr.ownsRow w.heap.size 5 1 (.slice (some ⟨w.heap.size, 0, none⟩) n n) n (cs (part v n k))) :
    ∃ c, wr.cell? ⟨w.heap.size, k, none⟩ = some (.int .u8 c) := by
  have h1 := hown.cellAt k (by omega)
  have h2 : k < (part v n k).length := by rw [part_len v n k (by omega)]; exact hk
  exact ⟨(part v n k)[k], by rw [h1]; simp [cs, h2]⟩

/-- What an append does to the row. -/
theorem app_step {w wr w1 : World} {v : Int} {k : Nat} {x x' : Value} {o : Obj} (hown' : w1.ownsRow w.heap.size 5 1 x' (k + 1) (cs (BM.bl v k) ++ [.int .u8 (BM.bb v k)]))
    (hown : wr.ownsRow w.heap.size 5 1 x k (cs (BM.bl v k))) (hb : Below w.heap.size w wr) (hgrow : (wr.alloc o).grownBy w1 x.ownBlock) :
    w1.ownsRow w.heap.size 5 1 x' (k + 1) (cs (BM.bl v (k + 1))) ∧ Below w.heap.size w w1 := by
  refine ⟨?_, (hb.alloc hb.size o).grown hgrow (Nat.le_trans hb.size (by simp)) fun j hj => (hown.lt j hj).1⟩
  have e : cs (BM.bl v (k + 1)) = cs (BM.bl v k) ++ [.int .u8 (BM.bb v k)] := by simp [cs, BM.bl_succ]
  rw [e]; exact hown'
end Go.Proofs.Ytfdcnbhnegdlfaa.S01
/- The comparison of two rows of bytes, and the reference's Merge: what they answer for every row that the call itself made, and for every word and place. -/
namespace Go.Proofs.Ytfdcnbhnegdlfaa.S01
open Go.RowKit

/-- What is known of a row that is owned. -/
theorem own_open {w : World} {B n : Nat} {x : Value} {l : List Int} (h : w.ownsRow B 5 1 x n (cs l)) :
    (n = 0 ∧ ∃ ao cap, x = .slice ao 0 cap) ∨ (∃ g cap, x = .slice (some ⟨g, 0, none⟩) n cap ∧ B ≤ g ∧ g < w.heap.size ∧ ∀ i, i < n → w.cell? ⟨g, i, none⟩ = some (.int .u8 (l.getD i 0))) := by
  have hlen : l.length = n := by have := h.1; rw [cs_len] at this; omega
  have hlt := h.lt
  rcases h.2 with ⟨rfl, rfl⟩ | ⟨g, cap, cur, rfl, hb, _⟩
  · exact .inl ⟨rfl, _, _, rfl⟩
  · refine .inr ⟨g, cap, rfl, hb, (hlt g rfl).2, fun i hi => ?_⟩
    rw [h.cellAt i (by omega)]
    have hi' : i < l.length := by omega
    simp [cs, hi']

end Go.Proofs.Ytfdcnbhnegdlfaa.S01
/- The law on words and bytes: it returns true for every word, size and slice of bytes, and leaves all that was in memory as it was. -/
namespace Go.Proofs.Ytfdcnbhnegdlfaa.S01
open Go.ChangeShapes Go.WideShapes Go.ChangeAt Go.RowKit

/-- A slice of bytes that came in: its elements are the list's. -/
def ArgBytes (w : World) (a : Option Addr) (len : Nat) (l : List Int) : Prop :=
  l.length = len ∧ BM.Bs l ∧ (len = 0 ∨ ∃ g off, a = some ⟨g, off, none⟩ ∧ ∀ i, i < len → w.cell? ⟨g, off + i, none⟩ = some (.int .u8 (l.getD i 0)))
theorem bs_of_wf {l : List Int} (h : ∀ n ∈ l, (Lit.int .u8 n).wf = true) : BM.Bs l := by
  intro i
  by_cases hi : i < l.length
  · have := bounds_u8 (h l[i] (List.getElem_mem hi))
    simp [List.getD_eq_getElem?_getD, hi]; omega
  · rw [List.getD_eq_getElem?_getD, List.getElem?_eq_none (by omega)]; simp
theorem take_getD (l : List Int) (n i : Nat) (h : i < n) : (l.take n).getD i 0 = l.getD i 0 := by
  simp [List.getD_eq_getElem?_getD, h]
theorem own_below {w w' : World} {B n : Nat} {x : Value} {l : List Value} (h : w.ownsRow B 5 1 x n l) (hb : Below w.heap.size w w') : w'.ownsRow B 5 1 x n l := by
  refine ⟨h.1, ?_⟩
  have hlt := h.lt
  rcases h.2 with h' | ⟨g, cap, cur, rfl, h1, h2, h3⟩
  · exact .inl h'
  · exact .inr ⟨g, cap, cur, rfl, h1, (hb.block g (hlt g rfl).2).trans h2, h3⟩
theorem Dr.below {w w' : World} (h : Dr w w') : Below w.heap.size w w' := by
  obtain ⟨n, rfl⟩ := h
  exact below_drewN (Below.refl _ _) n

/-- N is n, brought to 0 and 4. -/
def Cl4 (n N : Int) : Prop := (N = 0 ∧ n < 0) ∨ (N = n ∧ 0 ≤ n ∧ n ≤ 4) ∨ (N = 4 ∧ 4 < n)
theorem cl4 (n : Int) : Cl4 n (BM.cl n 0 4) := by
  unfold Cl4 BM.cl; split
  · omega
  · split <;> omega
end Go.Proofs.Ytfdcnbhnegdlfaa.S01
/- The law on words in which bytes are replaced: it returns true for every two words, place and size, and leaves all that was in memory as it was. -/
namespace Go.Proofs.Ytfdcnbhnegdlfaa.S01
open Go.RowKit

theorem own_four {w : World} {B : Nat} {x : Value} {l : List Int} (h : w.ownsRow B 5 1 x 4 (cs l)) : ∃ g cap, x = .slice (some ⟨g, 0, none⟩) 4 cap ∧ B ≤ g ∧ g < w.heap.size := by
  rcases own_open h with ⟨h0, _⟩ | ⟨g, cap, rfl, h1, h2, _⟩
  · omega
  · exact ⟨g, cap, rfl, h1, h2⟩
/-- The two rows of the reference's Merge after k rounds. -/
structure Two (w wr : World) (old v a s : Int) (B g1 c1 g2 c2 k : Nat) : Prop where
  one : wr.ownsRow w.heap.size 5 1 (.slice (some ⟨g1, 0, none⟩) 4 c1) 4 (cs (BM.mm old v a s k))
  two : wr.ownsRow B 5 1 (.slice (some ⟨g2, 0, none⟩) 4 c2) 4 (cs (BM.bl v 4))
  below : Below w.heap.size w wr
theorem Two.cell1 {w wr : World} {old v a s : Int} {B g1 c1 g2 c2 k : Nat} (h : Two w wr old v a s B g1 c1 g2 c2 k) (hk : k < 4) : ∃ c, wr.cell? ⟨g1, k, none⟩ = some (.int .u8 c) := by
  rcases own_open h.one with ⟨h0, _⟩ | ⟨g, cap, e, _, _, hc⟩
  · omega
  · simp only [Value.slice.injEq, Option.some.injEq, Addr.mk.injEq, and_true, true_and] at e
    obtain ⟨rfl, rfl⟩ := e
    exact ⟨_, hc k hk⟩
theorem Two.cell2 {w wr : World} {old v a s : Int} {B g1 c1 g2 c2 k : Nat} (h : Two w wr old v a s B g1 c1 g2 c2 k) (i : Nat) (hi : i < 4) : wr.cell? ⟨g2, i, none⟩ = some (.int .u8 (BM.bb v i)) := by
  rcases own_open h.two with ⟨h0, _⟩ | ⟨g, cap, e, _, _, hc⟩
  · omega
  · simp only [Value.slice.injEq, Option.some.injEq, Addr.mk.injEq, and_true, true_and] at e
    obtain ⟨rfl, rfl⟩ := e
    rw [hc i hi, BM.bl_get v 4 i hi]
theorem Two.store {w wr : World} {old v a s : Int} {B g1 c1 g2 c2 k : Nat} (h : Two w wr old v a s B g1 c1 g2 c2 k) (hne : g1 ≠ g2) (hb : w.heap.size ≤ g1) (hin : BM.inn a s k = true) :
    Two w (wr.setCell ⟨g1, k, none⟩ (.int .u8 (BM.bb v ((k : Int) - a).toNat))) old v a s B g1 c1 g2 c2 (k + 1) := by
  have h1 := h.one.stored k (.int .u8 (BM.bb v ((k : Int) - a).toNat))
  refine ⟨?_, h.two.kept h1.2 (.inr ?_), h.below.setCell hb _⟩
  · have e : (cs (BM.mm old v a s k)).set k (.int .u8 (BM.bb v ((k : Int) - a).toNat)) = cs (BM.mm old v a s (k + 1)) := by
      rw [← BM.mm_set old v a s k hin]; simp [cs]
    rw [← e]; exact h1.1
  · simp only [Value.ownBlock, ne_eq, Option.some.injEq]; omega
theorem Two.skip {w wr : World} {old v a s : Int} {B g1 c1 g2 c2 k : Nat} (h : Two w wr old v a s B g1 c1 g2 c2 k) (hin : BM.inn a s k = false) : Two w wr old v a s B g1 c1 g2 c2 (k + 1) :=
  ⟨by rw [BM.mm_skip old v a s k hin]; exact h.one, h.two, h.below⟩

end Go.Proofs.Ytfdcnbhnegdlfaa.S01
