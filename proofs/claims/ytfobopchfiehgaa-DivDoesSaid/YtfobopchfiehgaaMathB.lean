/-
  Plain facts on signed quotients and remainders; no condition of the program's, nothing of the program.
-/
import Derived.Test.YtfobopchfiehgaaMath
namespace Go.Proofs.Ytfobopchfiehgaa
namespace DM
/-- A word's size; its signed value. -/
def sz (x : Int) : Int := if 2147483648 ≤ x then 4294967296 - x else x
def sv (x : Int) : Int := if 2147483648 ≤ x then x - 4294967296 else x
theorem sz_bd (x : Int) (h0 : 0 ≤ x) (h1 : x < 4294967296) : 0 ≤ sz x ∧ sz x ≤ 2147483648 := by unfold sz; split <;> omega
theorem sv_bd (x : Int) (h0 : 0 ≤ x) (h1 : x < 4294967296) : -2147483648 ≤ sv x ∧ sv x ≤ 2147483647 := by unfold sv; split <;> omega
theorem sv_neg (x : Int) (h : 2147483648 ≤ x) : sv x = -sz x := by unfold sv sz; rw [if_pos h, if_pos h]; omega
theorem sv_pos (x : Int) (h : ¬ 2147483648 ≤ x) : sv x = sz x := by unfold sv sz; rw [if_neg h, if_neg h]
theorem sv_mod (x : Int) (h0 : 0 ≤ x) (h1 : x < 4294967296) : sv x % 4294967296 = x := by unfold sv; split <;> omega
theorem sz_zero (x : Int) (h1 : x < 4294967296) (h : x ≠ 0) : sz x ≠ 0 := by unfold sz; split <;> omega
theorem sv_zero (x : Int) (h1 : x < 4294967296) (h : x ≠ 0) : sv x ≠ 0 := by unfold sv; split <;> omega
/-- The signed quotient and remainder, as words. -/
def iq (a b : Int) : Int := if b = 0 then 4294967295 else (sv a).tdiv (sv b) % 4294967296
def ir (a b : Int) : Int := if b = 0 then a else (sv a).tmod (sv b) % 4294967296
theorem iq_bd (a b : Int) : 0 ≤ iq a b ∧ iq a b < 4294967296 := by unfold iq; split <;> omega
theorem ir_bd (a b : Int) (a0 : 0 ≤ a) (a1 : a < 4294967296) : 0 ≤ ir a b ∧ ir a b < 4294967296 := by unfold ir; split <;> omega
theorem q_small (x y : Int) (x0 : 0 ≤ x) (x1 : x ≤ 2147483648) (y0 : 0 ≤ y) : 0 ≤ x / y ∧ x / y ≤ 2147483648 :=
  ⟨Int.ediv_nonneg x0 y0, Int.le_trans (Int.ediv_le_self _ x0) x1⟩
theorem r_small (x y : Int) (x0 : 0 ≤ x) (x1 : x ≤ 2147483648) (y0 : 0 ≤ y) (y1 : y ≠ 0) : 0 ≤ x % y ∧ x % y ≤ 2147483648 := by
  refine ⟨Int.emod_nonneg _ y1, Int.le_trans ?_ x1⟩
  have := Int.mul_ediv_add_emod x y
  have h2 : 0 ≤ y * (x / y) := Int.mul_nonneg y0 (Int.ediv_nonneg x0 y0)
  omega
theorem uq_sz (a b : Int) (a0 : 0 ≤ a) (a1 : a < 4294967296) (b0 : 0 ≤ b) (b1 : b < 4294967296) (hb : b ≠ 0) :
    uq (sz a) (sz b) = (sz a).tdiv (sz b) ∧ ur (sz a) (sz b) = (sz a).tmod (sz b) ∧ 0 ≤ uq (sz a) (sz b) ∧ uq (sz a) (sz b) ≤ 2147483648 ∧ 0 ≤ ur (sz a) (sz b) ∧ ur (sz a) (sz b) ≤ 2147483648 := by
  have ha := sz_bd a a0 a1
  have hbb := sz_bd b b0 b1
  have hz := sz_zero b b1 hb
  have h1 := q_small (sz a) (sz b) ha.1 ha.2 hbb.1
  have h2 := r_small (sz a) (sz b) ha.1 ha.2 hbb.1 hz
  unfold uq ur
  rw [if_neg hz, if_neg hz]
  exact ⟨(Int.tdiv_eq_ediv_of_nonneg ha.1).symm, (Int.tmod_eq_emod_of_nonneg ha.1).symm, h1.1, h1.2, h2.1, h2.2⟩
theorem iq_same (a b : Int) (a0 : 0 ≤ a) (a1 : a < 4294967296) (b0 : 0 ≤ b) (b1 : b < 4294967296) (hb : b ≠ 0) (h : decide (2147483648 ≤ a) = decide (2147483648 ≤ b)) : iq a b = uq (sz a) (sz b) := by
  have hu := uq_sz a b a0 a1 b0 b1 hb
  have e : (sv a).tdiv (sv b) = (sz a).tdiv (sz b) := by
    by_cases ha : 2147483648 ≤ a
    · rw [sv_neg a ha, sv_neg b (by simpa [ha] using h.symm), Int.neg_tdiv_neg]
    · rw [sv_pos a ha, sv_pos b (by simpa [ha] using h.symm)]
  unfold iq; rw [if_neg hb, e, ← hu.1]
  omega
theorem iq_diff (a b : Int) (a0 : 0 ≤ a) (a1 : a < 4294967296) (b0 : 0 ≤ b) (b1 : b < 4294967296) (hb : b ≠ 0) (h : decide (2147483648 ≤ a) ≠ decide (2147483648 ≤ b)) : iq a b = -uq (sz a) (sz b) % 4294967296 := by
  have hu := uq_sz a b a0 a1 b0 b1 hb
  have e : (sv a).tdiv (sv b) = -(sz a).tdiv (sz b) := by
    by_cases ha : 2147483648 ≤ a
    · rw [sv_neg a ha, sv_pos b (by simpa [ha] using h), Int.neg_tdiv]
    · rw [sv_pos a ha, sv_neg b (by simpa [ha] using h), Int.tdiv_neg]
  unfold iq; rw [if_neg hb, e, ← hu.1]
theorem ir_neg (a b : Int) (a0 : 0 ≤ a) (a1 : a < 4294967296) (b0 : 0 ≤ b) (b1 : b < 4294967296) (hb : b ≠ 0) (h : 2147483648 ≤ a) : ir a b = -ur (sz a) (sz b) % 4294967296 := by
  have hu := uq_sz a b a0 a1 b0 b1 hb
  have e : (sv a).tmod (sv b) = -(sz a).tmod (sz b) := by
    rw [sv_neg a h, Int.neg_tmod]
    by_cases hb' : 2147483648 ≤ b
    · rw [sv_neg b hb', Int.tmod_neg]
    · rw [sv_pos b hb']
  unfold ir; rw [if_neg hb, e, ← hu.2.1]
theorem ir_pos (a b : Int) (a0 : 0 ≤ a) (a1 : a < 4294967296) (b0 : 0 ≤ b) (b1 : b < 4294967296) (hb : b ≠ 0) (h : ¬ 2147483648 ≤ a) : ir a b = ur (sz a) (sz b) := by
  have hu := uq_sz a b a0 a1 b0 b1 hb
  have e : (sv a).tmod (sv b) = (sz a).tmod (sz b) := by
    rw [sv_pos a h]
    by_cases hb' : 2147483648 ≤ b
    · rw [sv_neg b hb', Int.tmod_neg]
    · rw [sv_pos b hb']
  unfold ir; rw [if_neg hb, e, ← hu.2.1]
  omega
/-- What an operation answers; whether it is one of the four. -/
def dv (op a b : Int) : Int := if op = 15 then uq a b else if op = 17 then ur a b else if op = 14 then iq a b else if op = 16 then ir a b else 0
def dk (op : Int) : Bool := op == 15 || op == 17 || op == 14 || op == 16
theorem dv_15 (a b : Int) : dv 15 a b = uq a b := rfl
theorem dv_17 (a b : Int) : dv 17 a b = ur a b := rfl
theorem dv_14 (a b : Int) : dv 14 a b = iq a b := rfl
theorem dv_16 (a b : Int) : dv 16 a b = ir a b := rfl
theorem dv_other (op a b : Int) (h1 : op ≠ 15) (h2 : op ≠ 17) (h3 : op ≠ 14) (h4 : op ≠ 16) : dv op a b = 0 := by
  unfold dv; rw [if_neg h1, if_neg h2, if_neg h3, if_neg h4]
theorem dk_other (op : Int) (h1 : op ≠ 15) (h2 : op ≠ 17) (h3 : op ≠ 14) (h4 : op ≠ 16) : dk op = false := by
  simp [dk, h1, h2, h3, h4]
/-- Quotient, divisor and remainder make the number: unsigned. -/
theorem u_back (a b : Int) (b0 : 0 ≤ b) (hb : b ≠ 0) : uq a b * b + ur a b = a ∧ ur a b < b := by
  unfold uq ur; rw [if_neg hb, if_neg hb]
  refine ⟨by rw [Int.mul_comm]; exact Int.mul_ediv_add_emod a b, Int.emod_lt_of_pos _ (by omega)⟩
/-- The same, signed, as words. -/
theorem i_back (a b : Int) (a0 : 0 ≤ a) (a1 : a < 4294967296) (b0 : 0 ≤ b) (b1 : b < 4294967296) (hb : b ≠ 0) : (iq a b * b + ir a b) % 4294967296 = a := by
  unfold iq ir; rw [if_neg hb, if_neg hb]
  have hx := Int.mul_tdiv_add_tmod (sv a) (sv b)
  generalize (sv a).tdiv (sv b) = q at *
  generalize (sv a).tmod (sv b) = r at *
  have h1 : (q % 4294967296 * b) % 4294967296 = (q * sv b) % 4294967296 := by
    rw [Int.mul_emod, Int.emod_emod, Int.mul_emod q (sv b), sv_mod b b0 b1, Int.emod_eq_of_lt b0 b1]
  have h2 : sv a % 4294967296 = a := sv_mod a a0 a1
  rw [Int.mul_comm] at hx
  generalize q * sv b = u at *
  generalize q % 4294967296 * b = v at *
  omega
/-- The signed remainder's own value. -/
theorem i_rem (a b : Int) (b0 : 0 ≤ b) (b1 : b < 4294967296) (hb : b ≠ 0) :
    sv (ir a b) = (sv a).tmod (sv b) ∧ ((sv a).tmod (sv b)).natAbs < (sv b).natAbs ∧ ((sv a).tmod (sv b) < 0 → sv a ≤ 0) ∧ (0 < (sv a).tmod (sv b) → 0 ≤ sv a) := by
  have hz := sv_zero b b1 hb
  have hbd := sv_bd b b0 b1
  have h1 : ((sv a).tmod (sv b)).natAbs < (sv b).natAbs := by
    rw [Int.natAbs_tmod]; exact Nat.mod_lt _ (by omega)
  refine ⟨?_, h1, ?_, ?_⟩
  · unfold ir; rw [if_neg hb]
    generalize (sv a).tmod (sv b) = r at *
    unfold sv at *
    split <;> omega
  · intro h
    apply Int.not_lt.1
    intro h'
    have := Int.tmod_nonneg (sv b) (Int.le_of_lt h')
    omega
  · intro h
    apply Int.not_lt.1
    intro h'
    have e : (sv a).tmod (sv b) = -((-sv a).tmod (sv b)) := by rw [Int.neg_tmod]; omega
    have := Int.tmod_nonneg (sv b) (show 0 ≤ -sv a by omega)
    omega
end DM
end Go.Proofs.Ytfobopchfiehgaa
