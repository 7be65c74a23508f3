/-
  Plain facts on shift-and-add multiplication: what a step makes of a product's parts, what k steps make of them, the halves of a product; no condition of the program's, nothing of the program.
-/
import Derived.Test.YtplbpbcdafakdaaS01MathC
namespace Go.Proofs.Ytplbpbcdafakdaa
open S01
namespace MM

theorem ob_congr (f g : Nat → Bool) (k : Nat) (h : ∀ j, j < k → f j = g j) : BM.ob f k = BM.ob g k := by
  apply Nat.eq_of_testBit_eq
  intro j
  rw [BM.ob_testBit, BM.ob_testBit]
  by_cases hj : j < k
  · simp [hj, h j hj]
  · simp [hj]
theorem bit0 (x : Nat) : (x.testBit 0).toNat = x % 2 := by
  rw [Nat.testBit_zero]
  by_cases h : x % 2 = 1
  · simp [h]
  · simp [h]; omega
theorem fd_low (x : Int) (h0 : 0 ≤ x) : BM.fd x 0 0 = x % 2 := by
  unfold BM.fd BM.fdN
  rw [show (BM.cl 0 0 31).toNat = 0 by decide]
  show ((0 + (x.toNat.testBit 0).toNat * 1 : Nat) : Int) = _
  rw [bit0]; omega
theorem fd_high (x : Int) (h0 : 0 ≤ x) (h1 : x < 4294967296) : BM.fd x 31 31 = x / 2147483648 := by
  unfold BM.fd BM.fdN
  rw [show (BM.cl 31 0 31).toNat = 31 by decide]
  show ((0 + (x.toNat.testBit (0 + 31)).toNat * 1 : Nat) : Int) = _
  rw [Nat.testBit_eq_decide_div_mod_eq]
  rw [show (2 : Nat) ^ (0 + 31) = 2147483648 by decide]
  by_cases h : x.toNat / 2147483648 % 2 = 1
  · simp [h]; omega
  · simp [h]; omega
theorem pt_high (x v : Int) (x0 : 0 ≤ x) (x1 : x < 2147483648) (v0 : 0 ≤ v) : BM.pt x 31 31 v = x + v % 2 * 2147483648 := by
  unfold BM.pt BM.ptN
  rw [show (BM.cl 31 0 31).toNat = 31 by decide]
  show ((BM.ob _ 31 + (if 31 ≤ 31 ∧ 31 ≤ 31 then v.toNat.testBit (31 - 31) else x.toNat.testBit 31).toNat * 2 ^ 31 : Nat) : Int) = _
  rw [if_pos ⟨Nat.le_refl _, Nat.le_refl _⟩, bit0, ob_congr _ x.toNat.testBit 31 (fun j hj => by rw [if_neg (by omega)]), BM.ob_mod]
  rw [show (2 : Nat) ^ 31 = 2147483648 by decide]
  omega

/-- The sum of a step; the halves behind it. -/
def sm (a b h : Int) : Int := h + b % 2 * a
def sh (a b h : Int) : Int := sm a b h / 2
def sl (a b h l : Int) : Int := l / 2 + sm a b h % 2 * 2147483648
theorem mul01 (c a : Int) (h : c = 0 ∨ c = 1) : c * a = if c = 1 then a else 0 := by
  rcases h with rfl | rfl
  · rw [if_neg (by decide)]; omega
  · rw [if_pos rfl]; omega
theorem sm_odd (a b h : Int) (hb : b % 2 = 1) : sm a b h = h + a := by unfold sm; rw [hb]; omega
theorem sm_even (a b h : Int) (hb : b % 2 = 0) : sm a b h = h := by unfold sm; rw [hb]; omega
theorem sm_bd (a b h : Int) (a0 : 0 ≤ a) (a1 : a < 4294967296) (h0 : 0 ≤ h) (h1 : h < 4294967296) : 0 ≤ sm a b h ∧ sm a b h < 8589934592 := by
  rcases (by omega : b % 2 = 0 ∨ b % 2 = 1) with e | e
  · rw [sm_even a b h e]; omega
  · rw [sm_odd a b h e]; omega
theorem sh_bd (a b h : Int) (a0 : 0 ≤ a) (a1 : a < 4294967296) (h0 : 0 ≤ h) (h1 : h < 4294967296) : 0 ≤ sh a b h ∧ sh a b h < 4294967296 := by
  have := sm_bd a b h a0 a1 h0 h1
  unfold sh; omega
theorem sl_bd (a b h l : Int) (l0 : 0 ≤ l) (l1 : l < 4294967296) : 0 ≤ sl a b h l ∧ sl a b h l < 4294967296 := by
  unfold sl; omega
/-- A step, as a number of 64 bits. -/
theorem step_all (a b h l : Int) : 2 * (sh a b h * 4294967296 + sl a b h l) + l % 2 = h * 4294967296 + l + b % 2 * a * 4294967296 := by
  unfold sh sl
  have : sm a b h = h + b % 2 * a := rfl
  omega

/-- The parts behind k steps. -/
def kb (b : Int) : Nat → Int
  | 0 => b
  | k + 1 => kb (b / 2) k
def kh (a : Int) : Nat → Int → Int → Int
  | 0, _, h => h
  | k + 1, b, h => kh a k (b / 2) (sh a b h)
def kl (a : Int) : Nat → Int → Int → Int → Int
  | 0, _, _, l => l
  | k + 1, b, h, l => kl a k (b / 2) (sh a b h) (sl a b h l)
theorem kh_bd (a : Int) (a0 : 0 ≤ a) (a1 : a < 4294967296) (k : Nat) : ∀ (b h : Int), 0 ≤ h → h < 4294967296 → 0 ≤ kh a k b h ∧ kh a k b h < 4294967296 := by
  induction k with
  | zero => intro b h h0 h1; exact ⟨h0, h1⟩
  | succ k ih => intro b h h0 h1; have := sh_bd a b h a0 a1 h0 h1; exact ih _ _ this.1 this.2
theorem kl_bd (a : Int) (k : Nat) : ∀ (b h l : Int), 0 ≤ l → l < 4294967296 → 0 ≤ kl a k b h l ∧ kl a k b h l < 4294967296 := by
  induction k with
  | zero => intro b h l h0 h1; exact ⟨h0, h1⟩
  | succ k ih => intro b h l h0 h1; have := sl_bd a b h l h0 h1; exact ih _ _ _ this.1 this.2
/-- One step more, at the end. -/
theorem kb_end (k : Nat) : ∀ b : Int, kb b (k + 1) = kb b k / 2 := by
  induction k with
  | zero => intro b; rfl
  | succ k ih => intro b; exact ih (b / 2)
theorem kh_end (a : Int) (k : Nat) : ∀ b h : Int, kh a (k + 1) b h = sh a (kb b k) (kh a k b h) := by
  induction k with
  | zero => intro b h; rfl
  | succ k ih => intro b h; exact ih (b / 2) _
theorem kl_end (a : Int) (k : Nat) : ∀ b h l : Int, kl a (k + 1) b h l = sl a (kb b k) (kh a k b h) (kl a k b h l) := by
  induction k with
  | zero => intro b h l; rfl
  | succ k ih => intro b h l; exact ih (b / 2) _ _
theorem kb_eq (k : Nat) : ∀ b : Int, kb b k = b / 2 ^ k := by
  induction k with
  | zero => intro b; show b = b / 1; omega
  | succ k ih => intro b; rw [kb_end, ih, Int.ediv_ediv_of_nonneg (Int.le_of_lt (Int.pow_pos (by decide)))]; rfl
theorem kb_bd (k : Nat) : ∀ b : Int, 0 ≤ b → b < 4294967296 → 0 ≤ kb b k ∧ kb b k < 4294967296 := by
  induction k with
  | zero => intro b h0 h1; exact ⟨h0, h1⟩
  | succ k ih => intro b h0 h1; exact ih _ (by omega) (by omega)
theorem low_succ (b : Int) (k : Nat) : b % 2 ^ (k + 1) = b % 2 ^ k + b / 2 ^ k % 2 * 2 ^ k := by
  have h1 : (0 : Int) < 2 ^ k := Int.pow_pos (by decide)
  have e : (2 : Int) ^ (k + 1) = 2 * 2 ^ k := by rw [Int.pow_succ, Int.mul_comm]
  generalize hp : (2 : Int) ^ k = p at *
  rw [e, Int.emod_def, Int.emod_def b p, Int.emod_def (b / p) 2, Int.mul_comm 2 p, ← Int.ediv_ediv_of_nonneg (Int.le_of_lt h1)]
  rw [Int.sub_mul, Int.mul_assoc p 2, Int.mul_comm (b / p) p, Int.mul_comm (2 * (b / p / 2)) p]
  omega
/-- Behind k steps from the beginning: the product with the lowest k bits, shifted. -/
theorem part (a b : Int) (k : Nat) (hk : k ≤ 32) : kh a k b 0 * 4294967296 + kl a k b 0 0 = a * (b % 2 ^ k) * 2 ^ (32 - k) := by
  induction k with
  | zero =>
    show (0 : Int) * 4294967296 + 0 = a * (b % 1) * 4294967296
    have : b % 1 = 0 := by omega
    rw [this]; omega
  | succ k ih =>
    have ih := ih (by omega)
    have hs := step_all a (kb b k) (kh a k b 0) (kl a k b 0 0)
    rw [← kh_end, ← kl_end, ih] at hs
    have hw : (2 : Int) ^ (32 - k) = 2 * 2 ^ (32 - (k + 1)) := by
      rw [show 32 - k = (32 - (k + 1)) + 1 by omega, Int.pow_succ, Int.mul_comm]
    have hall : (2 : Int) ^ k * 2 ^ (32 - k) = 4294967296 := by
      rw [← Int.pow_add, show k + (32 - k) = 32 by omega]; rfl
    rw [low_succ, ← kb_eq]
    generalize hB : kb b k % 2 = c at *
    generalize b % 2 ^ k = d at *
    generalize (2 : Int) ^ k = p at *
    generalize kh a (k + 1) b 0 = H at *
    generalize kl a (k + 1) b 0 0 = L at *
    rw [hw] at hs hall ih
    generalize (2 : Int) ^ (32 - (k + 1)) = q at *
    have hl : kl a k b 0 0 % 2 = 0 := by
      have : kl a k b 0 0 = 2 * (a * d * q) - kh a k b 0 * 4294967296 := by
        have : a * d * (2 * q) = 2 * (a * d * q) := by rw [Int.mul_left_comm]
        omega
      omega
    have e1 : a * d * (2 * q) = 2 * (a * d * q) := by rw [Int.mul_left_comm]
    have e2 : c * a * 4294967296 = 2 * (a * (c * p) * q) := by
      rw [← hall]
      have : c * a * (p * (2 * q)) = 2 * (a * (c * p) * q) := by
        rw [show p * (2 * q) = 2 * (p * q) by rw [Int.mul_left_comm], Int.mul_left_comm, show c * a * (p * q) = a * (c * p) * q by rw [Int.mul_comm c a, Int.mul_assoc a c, Int.mul_assoc a (c * p), Int.mul_assoc c p]]
      exact this
    have e3 : a * (d + c * p) * q = a * d * q + a * (c * p) * q := by rw [Int.mul_add, Int.add_mul]
    rw [e3]
    omega
/-- The halves behind all steps that remain, at most 32. -/
def rh (a b h n : Int) : Int := kh a (min n 32).toNat b h
def rl (a b h l n : Int) : Int := kl a (min n 32).toNat b h l
theorem rh_bd (a b h n : Int) (a0 : 0 ≤ a) (a1 : a < 4294967296) (h0 : 0 ≤ h) (h1 : h < 4294967296) : 0 ≤ rh a b h n ∧ rh a b h n < 4294967296 := kh_bd a a0 a1 _ _ _ h0 h1
theorem rl_bd (a b h l n : Int) (l0 : 0 ≤ l) (l1 : l < 4294967296) : 0 ≤ rl a b h l n ∧ rl a b h l n < 4294967296 := kl_bd a _ _ _ _ l0 l1
/-- The whole product. -/
theorem whole (a b : Int) (b0 : 0 ≤ b) (b1 : b < 4294967296) : rh a b 0 32 * 4294967296 + rl a b 0 0 32 = a * b := by
  have h := part a b 32 (by omega)
  rw [show (2 : Int) ^ (32 - 32) = 1 by decide, show b % 2 ^ 32 = b by omega, Int.mul_one] at h
  exact h
theorem prod_bd (a b : Int) (a0 : 0 ≤ a) (a1 : a < 4294967296) (b0 : 0 ≤ b) (b1 : b < 4294967296) : 0 ≤ a * b ∧ a * b ≤ 18446744065119617025 := by
  refine ⟨Int.mul_nonneg a0 b0, ?_⟩
  have := Int.mul_le_mul (show a ≤ 4294967295 by omega) (show b ≤ 4294967295 by omega) b0 (by decide)
  omega
/-- The halves of the product. -/
theorem halves (a b : Int) (a0 : 0 ≤ a) (a1 : a < 4294967296) (b0 : 0 ≤ b) (b1 : b < 4294967296) : rh a b 0 32 = a * b / 4294967296 ∧ rl a b 0 0 32 = a * b % 4294967296 := by
  have h := whole a b b0 b1
  have h1 := rh_bd a b 0 32 a0 a1 (by decide) (by decide)
  have h2 := rl_bd a b 0 0 32 (by decide) (by decide)
  omega
end MM
end Go.Proofs.Ytplbpbcdafakdaa
