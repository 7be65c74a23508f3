/-
  Plain facts on bits of numbers, which the contracts of the bit functions lean on; no condition, nothing of the program.
-/
import Derived.Laws.BitsAllLaws
namespace Go.Proofs.Ytbeenmglgdhbjaa.S01
namespace BM

/-- The number whose bits below k are f's. -/
def ob (f : Nat → Bool) : Nat → Nat
  | 0 => 0
  | k + 1 => ob f k + (f k).toNat * 2 ^ k

theorem ob_lt (f : Nat → Bool) (k : Nat) : ob f k < 2 ^ k := by
  induction k with
  | zero => simp [ob]
  | succ k ih =>
    have h : (f k).toNat ≤ 1 := Bool.toNat_le _
    have h2 : (f k).toNat * 2 ^ k ≤ 2 ^ k := by
      have := Nat.mul_le_mul_right (2 ^ k) h
      omega
    have hp : 2 ^ (k + 1) = 2 * 2 ^ k := by rw [Nat.pow_succ]; omega
    show ob f k + (f k).toNat * 2 ^ k < 2 ^ (k + 1)
    omega

theorem ob_testBit (f : Nat → Bool) (k j : Nat) : (ob f k).testBit j = (decide (j < k) && f j) := by
  induction k generalizing j with
  | zero => simp [ob]
  | succ k ih =>
    have e : ob f (k + 1) = 2 ^ k * (f k).toNat + ob f k := by
      show ob f k + (f k).toNat * 2 ^ k = _
      rw [Nat.mul_comm]; omega
    rw [e, Nat.testBit_two_pow_mul_add _ (ob_lt f k)]
    by_cases h : j < k
    · have h' : j < k + 1 := by omega
      simp [h, h', ih]
    · rw [if_neg h]
      by_cases hj : j = k
      · subst hj
        cases f j <;> simp
      · have h1 : ¬ j < k + 1 := by omega
        have h2 : j - k = (j - k - 1) + 1 := by omega
        rw [h2, Nat.testBit_succ]
        cases f k <;> simp [h1]

theorem ob_lt32 (f : Nat → Bool) (k : Nat) (h : k ≤ 32) : ob f k < 4294967296 := by
  have h1 := ob_lt f k
  have h2 : 2 ^ k ≤ 2 ^ 32 := Nat.pow_le_pow_right (by decide) h
  have h3 : (2 : Nat) ^ 32 = 4294967296 := by decide
  omega

/-- Two words are one if their 32 bits are. -/
theorem ext32 {x y : Nat} (hx : x < 4294967296) (hy : y < 4294967296) (h : ∀ j, j < 32 → x.testBit j = y.testBit j) : x = y := by
  apply Nat.eq_of_testBit_eq
  intro j
  by_cases hj : j < 32
  · exact h j hj
  · have hp : (4294967296 : Nat) ≤ 2 ^ j := by
      have : 2 ^ 32 ≤ 2 ^ j := Nat.pow_le_pow_right (by decide) (by omega)
      simpa using this
    rw [Nat.testBit_lt_two_pow (Nat.lt_of_lt_of_le hx hp), Nat.testBit_lt_two_pow (Nat.lt_of_lt_of_le hy hp)]

theorem ob_self (x : Nat) (hx : x < 4294967296) : ob x.testBit 32 = x :=
  ext32 (ob_lt32 _ _ (by omega)) hx fun j hj => by rw [ob_testBit]; simp [hj]

theorem ob_mod (x k : Nat) : ob x.testBit k = x % 2 ^ k := by
  apply Nat.eq_of_testBit_eq
  intro j
  rw [ob_testBit, Nat.testBit_mod_two_pow]

theorem pow_lt32 {k : Nat} (h : k < 32) : 2 ^ k < 4294967296 := by
  have : 2 ^ k < 2 ^ 32 := Nat.pow_lt_pow_right (by decide) h
  simpa using this

/-- A number brought between two others. -/
def cl (n lo hi : Int) : Int := if n < lo then lo else if hi < n then hi else n
theorem cl_bd (n lo hi : Int) (h : lo ≤ hi) : lo ≤ cl n lo hi ∧ cl n lo hi ≤ hi := by
  unfold cl; split
  · omega
  · split <;> omega
theorem cl_in (n lo hi : Int) (h1 : lo ≤ n) (h2 : n ≤ hi) : cl n lo hi = n := by
  unfold cl; rw [if_neg (by omega), if_neg (by omega)]

/-- The lowest bits. -/
def zxN (x c : Nat) : Nat := ob x.testBit c
def zx (x n : Int) : Int := ((zxN x.toNat (cl n 0 32).toNat : Nat) : Int)
/-- The lowest bits with their sign. -/
def sxN (x c : Nat) : Nat := if c = 0 then 0 else ob (fun j => x.testBit (min j (c - 1))) 32
def sx (x n : Int) : Int := ((sxN x.toNat (cl n 0 32).toNat : Nat) : Int)
/-- The bits from l to h. -/
def fdN (x h l : Nat) : Nat := ob (fun j => x.testBit (j + l)) (h + 1 - l)
def fd (x h l : Int) : Int := ((fdN x.toNat (cl h 0 31).toNat (cl l 0 31).toNat : Nat) : Int)
/-- Other bits from l to h. -/
def ptN (x h l v : Nat) : Nat := ob (fun j => if l ≤ j ∧ j ≤ h then v.testBit (j - l) else x.testBit j) 32
def pt (x h l v : Int) : Int := ((ptN x.toNat (cl h 0 31).toNat (cl l 0 31).toNat v.toNat : Nat) : Int)
/-- Turned to the right. -/
def rtN (x k : Nat) : Nat := ob (fun j => x.testBit ((j + k) % 32)) 32
def rt (x n : Int) : Int := ((rtN x.toNat (n % 32).toNat : Nat) : Int)

theorem zxN_lt (x c : Nat) (h : c ≤ 32) : zxN x c < 4294967296 := ob_lt32 _ _ h
theorem sxN_lt (x c : Nat) : sxN x c < 4294967296 := by
  unfold sxN; split
  · omega
  · exact ob_lt32 _ _ (by omega)
theorem fdN_lt (x h l : Nat) (hh : h ≤ 31) : fdN x h l < 4294967296 := ob_lt32 _ _ (by omega)
theorem ptN_lt (x h l v : Nat) : ptN x h l v < 4294967296 := ob_lt32 _ _ (by omega)
theorem rtN_lt (x k : Nat) : rtN x k < 4294967296 := ob_lt32 _ _ (by omega)
theorem zxN_bit (x c j : Nat) : (zxN x c).testBit j = (decide (j < c) && x.testBit j) := ob_testBit _ _ _
theorem sxN_bit (x c j : Nat) (hc : c ≠ 0) : (sxN x c).testBit j = (decide (j < 32) && x.testBit (min j (c - 1))) := by
  unfold sxN; rw [if_neg hc]; exact ob_testBit _ _ _
theorem fdN_bit (x h l j : Nat) : (fdN x h l).testBit j = (decide (j < h + 1 - l) && x.testBit (j + l)) := ob_testBit _ _ _
theorem ptN_bit (x h l v j : Nat) : (ptN x h l v).testBit j = (decide (j < 32) && if l ≤ j ∧ j ≤ h then v.testBit (j - l) else x.testBit j) := ob_testBit _ _ _
theorem rtN_bit (x k j : Nat) : (rtN x k).testBit j = (decide (j < 32) && x.testBit ((j + k) % 32)) := ob_testBit _ _ _

theorem zx_bd (x n : Int) : 0 ≤ zx x n ∧ zx x n < 4294967296 := by
  have h := cl_bd n 0 32 (by omega)
  have := zxN_lt x.toNat (cl n 0 32).toNat (by omega)
  unfold zx; omega
theorem sx_bd (x n : Int) : 0 ≤ sx x n ∧ sx x n < 4294967296 := by
  have := sxN_lt x.toNat (cl n 0 32).toNat
  unfold sx; omega
theorem fd_bd (x h l : Int) : 0 ≤ fd x h l ∧ fd x h l < 4294967296 := by
  have h1 := cl_bd h 0 31 (by omega)
  have := fdN_lt x.toNat (cl h 0 31).toNat (cl l 0 31).toNat (by omega)
  unfold fd; omega
theorem pt_bd (x h l v : Int) : 0 ≤ pt x h l v ∧ pt x h l v < 4294967296 := by
  have := ptN_lt x.toNat (cl h 0 31).toNat (cl l 0 31).toNat v.toNat
  unfold pt; omega
theorem rt_bd (x n : Int) : 0 ≤ rt x n ∧ rt x n < 4294967296 := by
  have := rtN_lt x.toNat (n % 32).toNat
  unfold rt; omega

/- BitsSigns -/
theorem zx_sx (x n : Int) : zx (sx x n) n = zx x n := by
  have h := cl_bd n 0 32 (by omega)
  unfold zx sx
  rw [Int.toNat_natCast]
  congr 1
  apply ext32 (zxN_lt _ _ (by omega)) (zxN_lt _ _ (by omega))
  intro j hj
  rw [zxN_bit, zxN_bit]
  by_cases hc : j < (cl n 0 32).toNat
  · rw [sxN_bit _ _ _ (by omega), show min j ((cl n 0 32).toNat - 1) = j by omega]
    simp [hj, hc]
  · simp [hc]
theorem sx_zx (x n : Int) : sx (zx x n) n = sx x n := by
  have h := cl_bd n 0 32 (by omega)
  unfold zx sx
  rw [Int.toNat_natCast]
  congr 1
  by_cases hc : (cl n 0 32).toNat = 0
  · unfold sxN; rw [if_pos hc, if_pos hc]
  · apply ext32 (sxN_lt _ _) (sxN_lt _ _)
    intro j hj
    rw [sxN_bit _ _ _ hc, sxN_bit _ _ _ hc, zxN_bit]
    have hm : min j ((cl n 0 32).toNat - 1) < (cl n 0 32).toNat := by omega
    rw [decide_eq_true hm, Bool.true_and]

/- BitsBack -/
theorem pt_none (x h l v : Int) (hx0 : 0 ≤ x) (hx : x < 4294967296) (hlt : cl h 0 31 < cl l 0 31) : pt x h l v = x := by
  have h1 := cl_bd h 0 31 (by omega)
  have h2 := cl_bd l 0 31 (by omega)
  unfold pt
  have : ptN x.toNat (cl h 0 31).toNat (cl l 0 31).toNat v.toNat = x.toNat := by
    apply ext32 (ptN_lt _ _ _ _) (by omega)
    intro j hj
    rw [ptN_bit, if_neg (by omega)]
    simp [hj]
  rw [this]; omega
theorem fd_none (x h l : Int) (hlt : cl h 0 31 < cl l 0 31) : fd x h l = 0 := by
  have h1 := cl_bd h 0 31 (by omega)
  have h2 := cl_bd l 0 31 (by omega)
  unfold fd fdN
  rw [show (cl h 0 31).toNat + 1 - (cl l 0 31).toNat = 0 by omega]
  rfl
theorem fd_pt (x h l v : Int) (hle : cl l 0 31 ≤ cl h 0 31) : fd (pt x h l v) h l = zx v (cl h 0 31 - cl l 0 31 + 1) := by
  have h1 := cl_bd h 0 31 (by omega)
  have h2 := cl_bd l 0 31 (by omega)
  unfold fd pt zx
  rw [Int.toNat_natCast, cl_in (cl h 0 31 - cl l 0 31 + 1) 0 32 (by omega) (by omega)]
  congr 1
  apply ext32 (fdN_lt _ _ _ (by omega)) (zxN_lt _ _ (by omega))
  intro j hj
  rw [fdN_bit, zxN_bit, ptN_bit, show (cl h 0 31 - cl l 0 31 + 1).toNat = (cl h 0 31).toNat + 1 - (cl l 0 31).toNat by omega]
  by_cases hc : j < (cl h 0 31).toNat + 1 - (cl l 0 31).toNat
  · rw [if_pos (by omega), show j + (cl l 0 31).toNat - (cl l 0 31).toNat = j by omega]
    have : j + (cl l 0 31).toNat < 32 := by omega
    simp [this]
  · simp [hc]
theorem pt_fd (y x h l : Int) (hx0 : 0 ≤ x) (hx : x < 4294967296)
    (hy : ∀ j, j < 32 → ¬ ((cl l 0 31).toNat ≤ j ∧ j ≤ (cl h 0 31).toNat) → y.toNat.testBit j = x.toNat.testBit j) : pt y h l (fd x h l) = x := by
  have h1 := cl_bd h 0 31 (by omega)
  have h2 := cl_bd l 0 31 (by omega)
  unfold pt fd
  rw [Int.toNat_natCast]
  have : ptN y.toNat (cl h 0 31).toNat (cl l 0 31).toNat (fdN x.toNat (cl h 0 31).toNat (cl l 0 31).toNat) = x.toNat := by
    apply ext32 (ptN_lt _ _ _ _) (by omega)
    intro j hj
    rw [ptN_bit, fdN_bit]
    by_cases hc : (cl l 0 31).toNat ≤ j ∧ j ≤ (cl h 0 31).toNat
    · rw [if_pos hc, show j - (cl l 0 31).toNat + (cl l 0 31).toNat = j by omega]
      have : j - (cl l 0 31).toNat < (cl h 0 31).toNat + 1 - (cl l 0 31).toNat := by omega
      simp [hj, this]
    · rw [if_neg hc, hy j hj hc]; simp [hj]
  rw [this]; omega
theorem pt_fd_same (x h l : Int) (hx0 : 0 ≤ x) (hx : x < 4294967296) : pt x h l (fd x h l) = x :=
  pt_fd x x h l hx0 hx fun _ _ _ => rfl
theorem pt_fd_back (x h l v : Int) (hx0 : 0 ≤ x) (hx : x < 4294967296) : pt (pt x h l v) h l (fd x h l) = x :=
  pt_fd _ x h l hx0 hx fun j hj hc => by
    unfold pt
    rw [Int.toNat_natCast, ptN_bit, if_neg hc]; simp [hj]

/- BitsTurns -/
theorem rt_rt (x n m k : Int) (h : (n + m) % 32 = k % 32) : rt (rt x n) m = rt x k := by
  unfold rt
  rw [Int.toNat_natCast]
  congr 1
  apply ext32 (rtN_lt _ _) (rtN_lt _ _)
  intro j hj
  rw [rtN_bit, rtN_bit, rtN_bit]
  have h1 : (j + (m % 32).toNat) % 32 < 32 := by omega
  rw [show ((j + (m % 32).toNat) % 32 + (n % 32).toNat) % 32 = (j + (k % 32).toNat) % 32 by omega]
  simp [h1]
theorem rt_zero (x n : Int) (hx0 : 0 ≤ x) (hx : x < 4294967296) (h : n % 32 = 0) : rt x n = x := by
  unfold rt
  have : rtN x.toNat (n % 32).toNat = x.toNat := by
    apply ext32 (rtN_lt _ _) (by omega)
    intro j hj
    rw [rtN_bit, h, show (j + (0 : Int).toNat) % 32 = j by simp; omega]
    simp [hj]
  rw [this]; omega

end BM
end Go.Proofs.Ytbeenmglgdhbjaa.S01
