/-
  Plain facts: the sums over bits that the reference's loops make, step by step; each under the bounds of its arguments.
-/
import Derived.Test.YtbeenmglgdhbjaaS01MathB
namespace Go.Proofs.Ytbeenmglgdhbjaa.S01
namespace BM

/-- A power of two. -/
def pw (n : Int) : Int := ((2 ^ n.toNat : Nat) : Int)
theorem pw_bd (n : Int) (h0 : 0 ≤ n) (h : n ≤ 31) : 1 ≤ pw n ∧ pw n ≤ 2147483648 := by
  have h2 : 2 ^ n.toNat ≤ 2 ^ 31 := Nat.pow_le_pow_right (by decide) (by omega)
  have h3 : 0 < 2 ^ n.toNat := Nat.two_pow_pos _
  have h4 : (2 : Nat) ^ 31 = 2147483648 := by decide
  unfold pw; omega
theorem pw_succ (k : Nat) : pw ((k + 1 : Nat) : Int) = pw (k : Int) * 2 := by
  unfold pw; rw [Int.toNat_natCast, Int.toNat_natCast, Nat.pow_succ]; simp
theorem pw_zero : pw 0 = 1 := by decide
/-- A bit of a word. -/
def bt (x i : Int) : Int := ((x.toNat.testBit i.toNat).toNat : Int)
theorem bt_bd (x i : Int) : 0 ≤ bt x i ∧ bt x i ≤ 1 := by
  have := Bool.toNat_le (x.toNat.testBit i.toNat)
  unfold bt; omega
theorem bt_eq (x i : Int) (hx0 : 0 ≤ x) : x / pw i % 2 = bt x i := by
  unfold bt pw
  obtain ⟨X, rfl⟩ := Int.eq_ofNat_of_zero_le hx0
  rw [Int.toNat_natCast, Nat.toNat_testBit]; simp

/-- A sum over bits, so far. -/
def su (f : Nat → Bool) (k : Nat) : Int := ((ob f k : Nat) : Int)
theorem su_zero (f : Nat → Bool) : su f 0 = 0 := rfl
theorem su_succ (f : Nat → Bool) (k : Nat) (b : Int) (h : b = ((f k).toNat : Int)) : su f (k + 1) = su f k + b * pw (k : Int) := by
  subst h; unfold su pw; rw [Int.toNat_natCast]
  show ((ob f k + (f k).toNat * 2 ^ k : Nat) : Int) = _
  simp
theorem su_bd (f : Nat → Bool) (k : Nat) (h : k ≤ 32) : 0 ≤ su f k ∧ su f k < 4294967296 := by
  have := ob_lt32 f k h
  unfold su; omega
/-- All that a round of such a sum wants. -/
theorem su_step (f : Nat → Bool) (k : Nat) (b : Int) (hk : k < 32) (h : b = ((f k).toNat : Int)) :
    su f (k + 1) = su f k + b * pw (k : Int) ∧ 0 ≤ su f k ∧ su f k < 4294967296 ∧ 0 ≤ b * pw (k : Int) ∧ b * pw (k : Int) < 4294967296 ∧ su f k + b * pw (k : Int) < 4294967296 := by
  have h1 := su_succ f k b h
  have h2 := su_bd f k (by omega)
  have h3 := su_bd f (k + 1) (by omega)
  have hb : 0 ≤ b := by rw [h]; omega
  have hp := pw_bd (k : Int) (by omega) (by omega)
  have h4 : 0 ≤ b * pw (k : Int) := Int.mul_nonneg hb (by omega)
  exact ⟨h1, h2.1, h2.2, h4, by omega, by omega⟩

theorem cl_cl (n lo hi : Int) (h : lo ≤ hi) : cl (cl n lo hi) lo hi = cl n lo hi := by
  obtain ⟨a, b⟩ := cl_bd n lo hi h
  exact cl_in _ _ _ a b
theorem zx_cl (x n : Int) : zx x (cl n 0 32) = zx x n := by unfold zx; rw [cl_cl _ _ _ (by omega)]
theorem zx_su (x n : Int) : su x.toNat.testBit (cl n 0 32).toNat = zx x n := rfl

/- Sext -/
def sg (x : Int) (c : Nat) : Nat → Bool := fun j => x.toNat.testBit (min j (c - 1))
theorem sx_zero (x n : Int) (h : cl n 0 32 = 0) : zx x n = sx x n := by
  unfold zx sx zxN sxN; rw [h]; rfl
theorem sx_plus (x n : Int) (h : cl n 0 32 ≠ 0) (hb : bt x (cl n 0 32 - 1) = 0) : zx x n = sx x n := by
  obtain ⟨a, b⟩ := cl_bd n 0 32 (by omega)
  unfold zx sx
  congr 1
  apply ext32 (zxN_lt _ _ (by omega)) (sxN_lt _ _)
  intro j hj
  rw [zxN_bit, sxN_bit _ _ _ (by omega)]
  have hb' : x.toNat.testBit ((cl n 0 32).toNat - 1) = false := by
    unfold bt at hb
    rw [show (cl n 0 32 - 1).toNat = (cl n 0 32).toNat - 1 by omega] at hb
    cases h' : x.toNat.testBit ((cl n 0 32).toNat - 1)
    · rfl
    · rw [h'] at hb; simp at hb
  by_cases hc : j < (cl n 0 32).toNat
  · rw [show min j ((cl n 0 32).toNat - 1) = j by omega, decide_eq_true hc, decide_eq_true hj]
  · rw [show min j ((cl n 0 32).toNat - 1) = (cl n 0 32).toNat - 1 by omega, hb']; simp [hc]
theorem sg_start (x n : Int) (_h : cl n 0 32 ≠ 0) : zx x n = su (sg x (cl n 0 32).toNat) (cl n 0 32).toNat := by
  obtain ⟨a, b⟩ := cl_bd n 0 32 (by omega)
  unfold zx su
  congr 1
  apply ext32 (zxN_lt _ _ (by omega)) (ob_lt32 _ _ (by omega))
  intro j hj
  rw [zxN_bit, ob_testBit]
  by_cases hc : j < (cl n 0 32).toNat
  · unfold sg; rw [show min j ((cl n 0 32).toNat - 1) = j by omega]
  · simp only [decide_eq_false hc, Bool.false_and]
theorem sg_one (x n : Int) (_h : cl n 0 32 ≠ 0) (hb : bt x (cl n 0 32 - 1) ≠ 0) (k : Nat) (hk : (cl n 0 32).toNat ≤ k) : (1 : Int) = ((sg x (cl n 0 32).toNat k).toNat : Int) := by
  obtain ⟨a, b⟩ := cl_bd n 0 32 (by omega)
  unfold sg
  rw [show min k ((cl n 0 32).toNat - 1) = (cl n 0 32).toNat - 1 by omega]
  unfold bt at hb
  rw [show (cl n 0 32 - 1).toNat = (cl n 0 32).toNat - 1 by omega] at hb
  cases h' : x.toNat.testBit ((cl n 0 32).toNat - 1)
  · rw [h'] at hb; simp at hb
  · rfl
theorem sg_end (x n : Int) (h : cl n 0 32 ≠ 0) : su (sg x (cl n 0 32).toNat) 32 = sx x n := by
  obtain ⟨a, b⟩ := cl_bd n 0 32 (by omega)
  unfold sx sxN su; rw [if_neg (by omega)]; rfl

/- Field -/
def fg (x : Int) (l : Nat) : Nat → Bool := fun j => x.toNat.testBit (j + l)
theorem fg_bit (x l : Int) (k : Nat) (h : 0 ≤ l) : bt x (l + k) = ((fg x l.toNat k).toNat : Int) := by
  unfold bt fg; rw [show (l + k).toNat = k + l.toNat by omega]
theorem fg_end (x h l : Int) : su (fg x (cl l 0 31).toNat) ((cl h 0 31).toNat + 1 - (cl l 0 31).toNat) = fd x h l := rfl

/- Put -/
def pg (x h l v : Int) : Nat → Bool := fun j => if l.toNat ≤ j ∧ j ≤ h.toNat then v.toNat.testBit (j - l.toNat) else x.toNat.testBit j
theorem pg_in (x h l v : Int) (k : Nat) (h1 : 0 ≤ l) (h2 : l ≤ k) (h3 : (k : Int) ≤ h) : bt v (k - l) = ((pg x h l v k).toNat : Int) := by
  unfold bt pg; rw [if_pos (by omega), show ((k : Int) - l).toNat = k - l.toNat by omega]
theorem pg_out (x h l v : Int) (k : Nat) (h2 : ¬ (l ≤ k ∧ (k : Int) ≤ h)) (hh : 0 ≤ h) : bt x k = ((pg x h l v k).toNat : Int) := by
  unfold bt pg; rw [if_neg (by omega), Int.toNat_natCast]
theorem pg_end (x h l v : Int) : su (pg x (cl h 0 31) (cl l 0 31) v) 32 = pt x h l v := rfl

/- Rot -/
def tu (x : Int) (k : Nat) : Int := ((rtN x.toNat k : Nat) : Int)
theorem tu_zero (x : Int) (hx0 : 0 ≤ x) (hx : x < 4294967296) : tu x 0 = x := by
  have := rt_zero x 0 hx0 hx (by decide)
  exact this
theorem tu_bd (x : Int) (k : Nat) : 0 ≤ tu x k ∧ tu x k < 4294967296 := by
  have := rtN_lt x.toNat k
  unfold tu; omega
theorem tu_succ (x : Int) (k : Nat) : tu x (k + 1) = tu x k / 2 + tu x k % 2 * pw 31 := by
  have e : rtN x.toNat (k + 1) = 2 ^ 31 * (rtN x.toNat k % 2) + rtN x.toNat k / 2 := by
    have hlt := rtN_lt x.toNat k
    apply Nat.eq_of_testBit_eq
    intro j
    have hd : rtN x.toNat k / 2 < 2 ^ 31 := by
      have : (2 : Nat) ^ 31 = 2147483648 := by decide
      omega
    rw [Nat.testBit_two_pow_mul_add _ hd, rtN_bit]
    have hdj : (rtN x.toNat k / 2).testBit j = (rtN x.toNat k).testBit (j + 1) := by rw [Nat.testBit_succ]
    have hm : rtN x.toNat k % 2 = ((rtN x.toNat k).testBit 0).toNat := by rw [Nat.toNat_testBit]; simp
    by_cases hj : j < 31
    · rw [if_pos hj, hdj, rtN_bit, decide_eq_true (show j < 32 by omega), decide_eq_true (show j + 1 < 32 by omega), show j + (k + 1) = j + 1 + k by omega]
    · rw [if_neg hj, hm, rtN_bit]
      by_cases hj' : j = 31
      · subst hj'
        rw [show (31 + (k + 1)) % 32 = (0 + k) % 32 by omega]
        cases x.toNat.testBit ((0 + k) % 32) <;> simp
      · rw [show j - 31 = (j - 32) + 1 by omega, Nat.testBit_succ, decide_eq_false (show ¬ j < 32 by omega)]
        cases (decide (0 < 32) && x.toNat.testBit ((0 + k) % 32)) <;> simp
  unfold tu; rw [e]
  have : pw 31 = 2147483648 := by decide
  rw [this]
  have : (2 : Nat) ^ 31 = 2147483648 := by decide
  rw [this]; omega
theorem tu_end (x n : Int) : tu x (n % 32).toNat = rt x n := rfl
theorem tmod_bd (n : Int) : -31 ≤ n.tmod 32 ∧ n.tmod 32 ≤ 31 := by
  by_cases h : 0 ≤ n
  · rw [Int.tmod_eq_emod_of_nonneg h]; omega
  · have : n.tmod 32 = -((-n) % 32) := by
      have e : n = -(-n) := by omega
      conv => lhs; rw [e, Int.neg_tmod]
      rw [Int.tmod_eq_emod_of_nonneg (by omega)]
    omega
theorem tmod_emod (n : Int) : n.tmod 32 % 32 = n % 32 := by
  by_cases h : 0 ≤ n
  · rw [Int.tmod_eq_emod_of_nonneg h]; omega
  · have : n.tmod 32 = -((-n) % 32) := by
      have e : n = -(-n) := by omega
      conv => lhs; rw [e, Int.neg_tmod]
      rw [Int.tmod_eq_emod_of_nonneg (by omega)]
    omega
theorem tmod_up (n : Int) : (n.tmod 32 + 32) % 32 = n % 32 := by
  have := tmod_emod n
  omega

end BM
end Go.Proofs.Ytbeenmglgdhbjaa.S01
