/-
  Plain facts on a word in which bytes are others; each under the bounds of its arguments.
-/
import Derived.Test.YtbeenmglgdhbjaaS01MathC
namespace Go.Proofs.Ytbeenmglgdhbjaa.S01
namespace BM

/-- Is byte i of the word one of those that are laid? -/
def inn (a s : Int) (i : Nat) : Bool := decide (0 ≤ (i : Int) - a) && decide ((i : Int) - a < s)
/-- The bits of a word in which, among the first k bytes, those that are laid are v's. -/
def mf (old v a s : Int) (k : Nat) : Nat → Bool := fun j =>
  if j / 8 < k ∧ inn a s (j / 8) = true then v.toNat.testBit (8 * (((j / 8 : Nat) : Int) - a).toNat + j % 8) else old.toNat.testBit j
def mk (old v a s : Int) (k : Nat) : Int := su (mf old v a s k) 32
/-- A word in which bytes are others. -/
def mg (old v at' size : Int) : Int := mk old v (cl at' (-4) 4) (cl size 0 4) 4

theorem mk_bd (old v a s : Int) (k : Nat) : 0 ≤ mk old v a s k ∧ mk old v a s k < 4294967296 := su_bd _ 32 (by omega)
theorem mk_zero (old v a s : Int) (h0 : 0 ≤ old) (h : old < 4294967296) : mk old v a s 0 = old := by
  unfold mk su
  have : ob (mf old v a s 0) 32 = old.toNat := by
    apply ext32 (ob_lt32 _ _ (by omega)) (by omega)
    intro j hj
    rw [ob_testBit]; unfold mf; rw [if_neg (by omega)]; simp [hj]
  rw [this]; omega
theorem mk_skip (old v a s : Int) (k : Nat) (h : inn a s k = false) : mk old v a s (k + 1) = mk old v a s k := by
  unfold mk su
  congr 1
  apply ext32 (ob_lt32 _ _ (by omega)) (ob_lt32 _ _ (by omega))
  intro j hj
  rw [ob_testBit, ob_testBit]; unfold mf
  congr 1
  by_cases hk : j / 8 = k
  · rw [if_neg (by rw [hk, h]; simp), if_neg (by omega)]
  · by_cases hc : j / 8 < k ∧ inn a s (j / 8) = true
    · rw [if_pos hc, if_pos ⟨by omega, hc.2⟩]
    · rw [if_neg hc, if_neg (fun h' => hc ⟨by omega, h'.2⟩)]
theorem mk_put (old v a s : Int) (k : Nat) (hk : k < 4) (hv0 : 0 ≤ v) (h : inn a s k = true) :
    pt (mk old v a s k) (8 * (k : Int) + 7) (8 * (k : Int)) (v / 2 ^ (8 * ((k : Int) - a)).toNat) = mk old v a s (k + 1) := by
  have h' := h
  unfold inn at h'
  simp only [Bool.and_eq_true, decide_eq_true_eq] at h'
  obtain ⟨g0, g1⟩ := h'
  rw [div_nat _ _ hv0]
  unfold pt
  rw [cl_in (8 * (k : Int) + 7) 0 31 (by omega) (by omega), cl_in (8 * (k : Int)) 0 31 (by omega) (by omega), Int.toNat_natCast]
  unfold mk su
  rw [Int.toNat_natCast]
  congr 1
  apply ext32 (ptN_lt _ _ _ _) (ob_lt32 _ _ (by omega))
  intro j hj
  rw [ptN_bit, ob_testBit, ob_testBit]
  by_cases hc : j / 8 = k
  · rw [if_pos (by omega), Nat.testBit_div_two_pow]
    unfold mf
    rw [if_pos (by rw [hc]; exact ⟨by omega, h⟩), hc, show j - (8 * (k : Int)).toNat + (8 * ((k : Int) - a)).toNat = 8 * ((k : Int) - a).toNat + j % 8 by omega]
  · rw [if_neg (by omega)]
    unfold mf
    by_cases hd : j / 8 < k ∧ inn a s (j / 8) = true
    · rw [if_pos hd, if_pos ⟨by omega, hd.2⟩]; simp [hj]
    · rw [if_neg hd, if_neg (fun h' => hd ⟨by omega, h'.2⟩)]; simp [hj]

theorem mg_bd (old v a s : Int) : 0 ≤ mg old v a s ∧ mg old v a s < 4294967296 := mk_bd _ _ _ _ _
/-- The whole word, laid. -/
theorem mg_whole (old v : Int) (h0 : 0 ≤ v) (h : v < 4294967296) : mg old v 0 4 = v := by
  unfold mg mk su
  rw [cl_in 0 (-4) 4 (by omega) (by omega), cl_in 4 0 4 (by omega) (by omega)]
  have : ob (mf old v 0 4 4) 32 = v.toNat := by
    apply ext32 (ob_lt32 _ _ (by omega)) (by omega)
    intro j hj
    rw [ob_testBit]; unfold mf
    rw [if_pos ⟨by omega, by unfold inn; simp only [Bool.and_eq_true, decide_eq_true_eq]; omega⟩, show 8 * (((j / 8 : Nat) : Int) - 0).toNat + j % 8 = j by omega]
    simp [hj]
  rw [this]; omega

end BM
end Go.Proofs.Ytbeenmglgdhbjaa.S01
