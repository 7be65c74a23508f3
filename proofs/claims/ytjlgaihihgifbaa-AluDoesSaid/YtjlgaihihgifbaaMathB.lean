/-
  Plain facts on words that are built bit by bit: the three bitwise operations, moved words; nothing of the program, each under the bounds of its arguments.
-/
import Derived.Test.YtjlgaihihgifbaaMath
namespace Go.Proofs.Ytjlgaihihgifbaa
namespace AM
open Go.RowKit S01

theorem ob_cons (f : Nat → Bool) (k : Nat) : BM.ob f (k + 1) = (f 0).toNat + 2 * BM.ob (fun j => f (j + 1)) k := by
  induction k with
  | zero => simp [BM.ob]
  | succ k ih =>
    have e1 : BM.ob f (k + 1 + 1) = BM.ob f (k + 1) + (f (k + 1)).toNat * 2 ^ (k + 1) := rfl
    have e2 : BM.ob (fun j => f (j + 1)) (k + 1) = BM.ob (fun j => f (j + 1)) k + (f (k + 1)).toNat * 2 ^ k := rfl
    have e3 : (f (k + 1)).toNat * 2 ^ (k + 1) = 2 * ((f (k + 1)).toNat * 2 ^ k) := by rw [Nat.pow_succ]; simp only [Nat.mul_comm, Nat.mul_left_comm]
    rw [e1, e2, e3, ih]; omega
/-- The word so far, from bit m upwards. -/
def hw (f : Nat → Bool) (m : Nat) : Int := BM.su (fun j => f (j + m)) (32 - m)
theorem hw_top (f : Nat → Bool) : hw f 32 = 0 := rfl
theorem hw_end (f : Nat → Bool) : hw f 0 = BM.su f 32 := rfl
theorem hw_next (f : Nat → Bool) (m : Nat) (hm : m < 32) : 2 * hw f (m + 1) + ((f m).toNat : Int) = hw f m := by
  unfold hw BM.su
  rw [show 32 - m = (32 - (m + 1)) + 1 by omega, ob_cons]
  have : (fun j => f (j + (m + 1))) = (fun j => f (j + 1 + m)) := by funext j; congr 1; omega
  rw [this, Nat.zero_add]
  omega
theorem hw_bd (f : Nat → Bool) (m : Nat) (hm : m < 32) : 0 ≤ hw f (m + 1) ∧ hw f (m + 1) < 2147483648 := by
  have h1 := BM.ob_lt (fun j => f (j + (m + 1))) (32 - (m + 1))
  have h2 : 2 ^ (32 - (m + 1)) ≤ 2 ^ 31 := Nat.pow_le_pow_right (by decide) (by omega)
  have h3 : (2 : Nat) ^ 31 = 2147483648 := by decide
  unfold hw BM.su
  omega
theorem su_congr (f g : Nat → Bool) (k : Nat) (h : ∀ j, j < k → f j = g j) : BM.su f k = BM.su g k := by
  unfold BM.su
  congr 1
  induction k with
  | zero => rfl
  | succ k ih =>
    show BM.ob f k + (f k).toNat * 2 ^ k = BM.ob g k + (g k).toNat * 2 ^ k
    rw [ih fun j hj => h j (by omega), h k (by omega)]
theorem su_bit (f : Nat → Bool) (j : Nat) (hj : j < 32) : (BM.su f 32).toNat.testBit j = f j := by
  unfold BM.su
  rw [Int.toNat_natCast, BM.ob_testBit, decide_eq_true hj, Bool.true_and]
/-- A word of given bits is given by them. -/
theorem su_of (f : Nat → Bool) (x : Int) (h0 : 0 ≤ x) (h1 : x < 4294967296) (h : ∀ j, j < 32 → x.toNat.testBit j = f j) : x = BM.su f 32 := by
  have hb := BM.su_bd f 32 (by omega)
  have : x.toNat = (BM.su f 32).toNat := BM.ext32 (by omega) (by omega) fun j hj => by rw [h j hj, su_bit f j hj]
  omega

def an (a b : Int) : Int := BM.su (fun j => a.toNat.testBit j && b.toNat.testBit j) 32
def ow (a b : Int) : Int := BM.su (fun j => a.toNat.testBit j || b.toNat.testBit j) 32
def xo (a b : Int) : Int := BM.su (fun j => a.toNat.testBit j != b.toNat.testBit j) 32
theorem and_end (a b : Int) (a0 : 0 ≤ a) (a1 : a < 4294967296) (b0 : 0 ≤ b) (b1 : b < 4294967296) : bits .and .u32 a b = an a b := by
  rw [u32_and a b a0 a1 b0 b1]
  have : a.toNat &&& b.toNat ≤ a.toNat := Nat.and_le_left
  exact su_of _ _ (by omega) (by omega) fun j _ => by rw [Int.toNat_natCast, Nat.testBit_and]
theorem or_end (a b : Int) (a0 : 0 ≤ a) (a1 : a < 4294967296) (b0 : 0 ≤ b) (b1 : b < 4294967296) : bits .or .u32 a b = ow a b := by
  rw [u32_or a b a0 a1 b0 b1]
  have := Nat.or_lt_two_pow (n := 32) (x := a.toNat) (y := b.toNat) (by omega) (by omega)
  exact su_of _ _ (by omega) (by omega) fun j _ => by rw [Int.toNat_natCast, Nat.testBit_or]
theorem xor_end (a b : Int) (a0 : 0 ≤ a) (a1 : a < 4294967296) (b0 : 0 ≤ b) (b1 : b < 4294967296) : bits .xor .u32 a b = xo a b := by
  rw [u32_xor a b a0 a1 b0 b1]
  have := Nat.xor_lt_two_pow (n := 32) (x := a.toNat) (y := b.toNat) (by omega) (by omega)
  exact su_of _ _ (by omega) (by omega) fun j _ => by rw [Int.toNat_natCast, Nat.testBit_xor]
theorem an_bd (a b : Int) : 0 ≤ an a b ∧ an a b < 4294967296 := BM.su_bd _ 32 (by omega)
theorem ow_bd (a b : Int) : 0 ≤ ow a b ∧ ow a b < 4294967296 := BM.su_bd _ 32 (by omega)
theorem xo_bd (a b : Int) : 0 ≤ xo a b ∧ xo a b < 4294967296 := BM.su_bd _ 32 (by omega)
/-- Bit by bit: 1 where both have from l to m ones together. -/
def lgf (a b l m : Int) : Nat → Bool := fun j => decide (l ≤ BM.bt a j + BM.bt b j) && decide (BM.bt a j + BM.bt b j ≤ m)
theorem bt_of (a : Int) (j : Nat) : BM.bt a j = ((a.toNat.testBit j).toNat : Int) := by unfold BM.bt; rw [Int.toNat_natCast]
theorem lg_an (a b : Int) : BM.su (lgf a b 2 2) 32 = an a b := su_congr _ _ _ fun j _ => by
  unfold lgf; rw [bt_of, bt_of]; cases a.toNat.testBit j <;> cases b.toNat.testBit j <;> decide
theorem lg_ow (a b : Int) : BM.su (lgf a b 1 2) 32 = ow a b := su_congr _ _ _ fun j _ => by
  unfold lgf; rw [bt_of, bt_of]; cases a.toNat.testBit j <;> cases b.toNat.testBit j <;> decide
theorem lg_xo (a b : Int) : BM.su (lgf a b 1 1) 32 = xo a b := su_congr _ _ _ fun j _ => by
  unfold lgf; rw [bt_of, bt_of]; cases a.toNat.testBit j <;> cases b.toNat.testBit j <;> decide

/-- A moved word's bits. -/
def mvf (x k : Int) (fill : Bool) : Nat → Bool := fun j => if 0 ≤ (j : Int) + k ∧ (j : Int) + k < 32 then x.toNat.testBit ((j : Int) + k).toNat else fill
def mv (x k : Int) (fill : Bool) : Int := BM.su (mvf x k fill) 32
theorem mv_bd (x k : Int) (fill : Bool) : 0 ≤ mv x k fill ∧ mv x k fill < 4294967296 := BM.su_bd _ 32 (by omega)
theorem sll_end (a b : Int) (a0 : 0 ≤ a) : a * 2 ^ (b % 32).toNat % 4294967296 = mv a (-(b % 32)) false := by
  rw [BM.mul_nat _ _ a0]
  have hm : a.toNat * 2 ^ (b % 32).toNat % 4294967296 < 4294967296 := Nat.mod_lt _ (by decide)
  refine su_of _ _ (by omega) (by omega) fun j hj => ?_
  rw [Int.toNat_natCast, BM.p32, Nat.testBit_mod_two_pow, Nat.testBit_mul_two_pow, decide_eq_true hj, Bool.true_and]
  unfold mvf
  split
  · rw [decide_eq_true (by omega), Bool.true_and]; congr 1; omega
  · rw [decide_eq_false (by omega), Bool.false_and]
theorem high_bit (x i : Nat) (hx : x < 4294967296) (hi : 32 ≤ i) : x.testBit i = false := by
  apply Nat.testBit_lt_two_pow
  exact Nat.lt_of_lt_of_le hx (by have := Nat.pow_le_pow_right (show 0 < 2 by decide) hi; simpa using this)
theorem srl_end (a b : Int) (a0 : 0 ≤ a) (a1 : a < 4294967296) : a / 2 ^ (b % 32).toNat = mv a (b % 32) false := by
  rw [BM.div_nat _ _ a0]
  have hd : a.toNat / 2 ^ (b % 32).toNat ≤ a.toNat := Nat.div_le_self _ _
  refine su_of _ _ (Int.natCast_nonneg _) (by omega) fun j hj => ?_
  rw [Int.toNat_natCast, Nat.testBit_div_two_pow]
  unfold mvf
  split
  · congr 1; omega
  · exact high_bit _ _ (by omega) (by omega)
theorem sra_num (Q S M : Nat) (h1 : Q < S) (h2 : M + S = 4294967296) : ((Q : Int) + -(S : Int)) % 4294967296 = ((M + Q : Nat) : Int) := by omega
theorem sra_lt (Q S M : Nat) (h1 : Q < S) (h2 : M + S = 4294967296) : M + Q < 4294967296 := by omega
theorem sra_end (a b : Int) (a0 : 0 ≤ a) (a1 : a < 4294967296) : sv a / 2 ^ (b % 32).toNat % 4294967296 = mv a (b % 32) (a.toNat.testBit 31) := by
  have hk : (b % 32).toNat < 32 := by omega
  by_cases h : 2147483648 ≤ a
  · have ht : a.toNat.testBit 31 = true := by
      rw [BM.top_bit a.toNat 32 (by decide)]
      simp; omega
    have e1 : sv a = a + 2 ^ (b % 32).toNat * (-(2 ^ (32 - (b % 32).toNat) : Nat) : Int) := by
      have : (2 : Int) ^ (b % 32).toNat * ((2 ^ (32 - (b % 32).toNat) : Nat) : Int) = 4294967296 := by
        rw [BM.pow_cast, ← Int.natCast_mul, ← Nat.pow_add, show (b % 32).toNat + (32 - (b % 32).toNat) = 32 by omega]; rfl
      rw [Int.mul_neg, this]
      unfold sv; rw [if_pos h]; omega
    have hp : (0 : Int) < 2 ^ (b % 32).toNat := by rw [BM.pow_cast]; have := Nat.two_pow_pos (b % 32).toNat; omega
    rw [e1, Int.add_mul_ediv_left _ _ (by omega), BM.div_nat _ _ a0, ht]
    have hq : a.toNat / 2 ^ (b % 32).toNat < 2 ^ (32 - (b % 32).toNat) := by
      rw [Nat.div_lt_iff_lt_mul (Nat.two_pow_pos _), ← Nat.pow_add, show 32 - (b % 32).toNat + (b % 32).toNat = 32 by omega]
      omega
    have hs : 2 ^ (32 - (b % 32).toNat) * (2 ^ (b % 32).toNat - 1) + 2 ^ (32 - (b % 32).toNat) = 4294967296 := by
      have h2 : 2 ^ (32 - (b % 32).toNat) * (2 ^ (b % 32).toNat - 1) = 2 ^ (32 - (b % 32).toNat) * 2 ^ (b % 32).toNat - 2 ^ (32 - (b % 32).toNat) := by rw [Nat.mul_sub, Nat.mul_one]
      have h3 : 2 ^ (32 - (b % 32).toNat) * 2 ^ (b % 32).toNat = 4294967296 := by
        rw [← Nat.pow_add, show 32 - (b % 32).toNat + (b % 32).toNat = 32 by omega]
      have h4 : 2 ^ (32 - (b % 32).toNat) ≤ 2 ^ (32 - (b % 32).toNat) * 2 ^ (b % 32).toNat := Nat.le_mul_of_pos_right _ (Nat.two_pow_pos _)
      omega
    rw [sra_num _ _ _ hq hs]
    refine su_of _ _ (Int.natCast_nonneg _) (by have := sra_lt _ _ _ hq hs; omega) fun j hj => ?_
    rw [Int.toNat_natCast, Nat.testBit_two_pow_mul_add _ hq]
    unfold mvf
    by_cases hc : j < 32 - (b % 32).toNat
    · rw [if_pos hc, if_pos (by omega), Nat.testBit_div_two_pow]; congr 1; omega
    · rw [if_neg hc, if_neg (by omega), Nat.testBit_two_pow_sub_one, decide_eq_true (by omega)]
  · have ht : a.toNat.testBit 31 = false := by
      rw [BM.top_bit a.toNat 32 (by decide)]
      simp; omega
    have e1 : sv a = a := by unfold sv; rw [if_neg h]
    rw [e1, ht, srl_end a b a0 a1]
    have := mv_bd a (b % 32) false
    omega
end AM
end Go.Proofs.Ytjlgaihihgifbaa
