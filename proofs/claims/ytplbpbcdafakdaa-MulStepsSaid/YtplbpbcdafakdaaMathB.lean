/-
  Plain facts on the halves of signed and unsigned products; no condition of the program's, nothing of the program.
-/
import Derived.Test.YtplbpbcdafakdaaMath
namespace Go.Proofs.Ytplbpbcdafakdaa
namespace MM
/-- Is a word's signed value below 0? -/
def ng (x : Int) : Bool := decide (2147483648 ≤ x)
theorem ng_eq (x : Int) (h0 : 0 ≤ x) (h1 : x < 4294967296) : (x / 2147483648 == 1) = ng x := by
  unfold ng
  rw [Bool.eq_iff_iff]; simp; omega
/-- A word's signed value. -/
def sv (x : Int) : Int := if 2147483648 ≤ x then x - 4294967296 else x
theorem sv_bd (x : Int) (h0 : 0 ≤ x) (h1 : x < 4294967296) : -2147483648 ≤ sv x ∧ sv x ≤ 2147483647 := by
  unfold sv; split <;> omega
theorem svsv_bd (a b : Int) (a0 : 0 ≤ a) (a1 : a < 4294967296) (b0 : 0 ≤ b) (b1 : b < 4294967296) : -4611686018427387904 ≤ sv a * sv b ∧ sv a * sv b ≤ 4611686018427387904 := by
  have ha := sv_bd a a0 a1
  have hb := sv_bd b b0 b1
  generalize sv a = x at *
  generalize sv b = y at *
  have h : (x * y).natAbs ≤ 2147483648 * 2147483648 := by
    rw [Int.natAbs_mul]
    exact Nat.mul_le_mul (by omega) (by omega)
  omega
/-- The upper half of the signed product, out of the unsigned one's. -/
def sg (h a b : Int) : Int := (h - (if 2147483648 ≤ a then b else 0) - (if 2147483648 ≤ b then a else 0)) % 4294967296
theorem sg_high (a b : Int) (a0 : 0 ≤ a) (a1 : a < 4294967296) (b0 : 0 ≤ b) (b1 : b < 4294967296) : sv a * sv b % 18446744073709551616 / 4294967296 = sg (a * b / 4294967296) a b := by
  unfold sg sv
  by_cases ha : 2147483648 ≤ a
  · by_cases hb : 2147483648 ≤ b
    · rw [if_pos ha, if_pos hb, if_pos ha, if_pos hb]
      have : (a - 4294967296) * (b - 4294967296) = a * b - 4294967296 * b - 4294967296 * a + 18446744073709551616 := by
        rw [Int.sub_mul, Int.mul_sub, Int.mul_comm a 4294967296]; omega
      rw [this]; generalize a * b = p at *; omega
    · rw [if_pos ha, if_neg hb, if_pos ha, if_neg hb]
      have : (a - 4294967296) * b = a * b - 4294967296 * b := by rw [Int.sub_mul]
      rw [this]; generalize a * b = p at *; omega
  · by_cases hb : 2147483648 ≤ b
    · rw [if_neg ha, if_pos hb, if_neg ha, if_pos hb]
      have : a * (b - 4294967296) = a * b - 4294967296 * a := by rw [Int.mul_sub, Int.mul_comm a 4294967296]
      rw [this]; generalize a * b = p at *; omega
    · rw [if_neg ha, if_neg hb, if_neg ha, if_neg hb]
      have := prod_bd a b a0 a1 b0 b1
      generalize a * b = p at *; omega
/-- What an operation answers; whether it is one of the three. -/
def dm (op a b : Int) : Int := if op = 11 then a * b % 4294967296 else if op = 13 then a * b / 4294967296 else if op = 12 then sg (a * b / 4294967296) a b else 0
def dk (op : Int) : Bool := op == 11 || op == 12 || op == 13
theorem sg_comm (h a b : Int) : sg h a b = sg h b a := by
  unfold sg
  generalize (if 2147483648 ≤ a then b else 0) = x
  generalize (if 2147483648 ≤ b then a else 0) = y
  rw [show h - x - y = h - y - x by omega]
theorem dm_comm (op a b : Int) : dm op a b = dm op b a := by
  unfold dm
  rw [Int.mul_comm b a, sg_comm]
theorem dm_other (op a b : Int) (h1 : op ≠ 11) (h2 : op ≠ 13) (h3 : op ≠ 12) : dm op a b = 0 := by
  unfold dm; rw [if_neg h1, if_neg h2, if_neg h3]
theorem dk_other (op : Int) (h1 : op ≠ 11) (h2 : op ≠ 13) (h3 : op ≠ 12) : dk op = false := by
  simp [dk, h1, h2, h3]
theorem dm_mul (a b : Int) : dm 11 a b = a * b % 4294967296 := rfl
theorem dm_high (a b : Int) : dm 13 a b = a * b / 4294967296 := rfl
theorem dm_sign (a b : Int) : dm 12 a b = sg (a * b / 4294967296) a b := rfl
end MM
end Go.Proofs.Ytplbpbcdafakdaa
