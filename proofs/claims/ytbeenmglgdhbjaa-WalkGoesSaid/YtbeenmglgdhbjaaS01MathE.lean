/-
  Plain facts on a word's bytes and on the word that bytes are; each under the bounds of its arguments.
-/
import Derived.Test.YtbeenmglgdhbjaaS01MathD
namespace Go.Proofs.Ytbeenmglgdhbjaa.S01
namespace BM

/-- A word without its lowest k bytes; its byte k; its first bytes. -/
def vb (v : Int) (k : Nat) : Int := v / ((2 ^ (8 * k) : Nat) : Int)
def bb (v : Int) (k : Nat) : Int := vb v k % 256
def bl (v : Int) (n : Nat) : List Int := (List.range n).map (bb v)
theorem vb_zero (v : Int) : vb v 0 = v := by unfold vb; simp
theorem vb_succ (v : Int) (k : Nat) : vb v (k + 1) = vb v k / 256 := by
  unfold vb
  rw [Int.ediv_ediv_of_nonneg (Int.natCast_nonneg _), show 8 * (k + 1) = 8 * k + 8 by omega, Nat.pow_add]
  congr 1
theorem vb_bd (v : Int) (k : Nat) (h0 : 0 ≤ v) (h : v < 4294967296) : 0 ≤ vb v k ∧ vb v k < 4294967296 := by
  induction k with
  | zero => rw [vb_zero]; omega
  | succ k ih => rw [vb_succ]; omega
theorem bb_bd (v : Int) (k : Nat) : 0 ≤ bb v k ∧ bb v k ≤ 255 := by unfold bb; omega
theorem bl_len (v : Int) (n : Nat) : (bl v n).length = n := by simp [bl]
theorem bl_succ (v : Int) (n : Nat) : bl v (n + 1) = bl v n ++ [bb v n] := by simp [bl, List.range_succ]
theorem bl_get (v : Int) (n i : Nat) (h : i < n) : (bl v n).getD i 0 = bb v i := by simp [bl, h]
theorem bb_shift (v : Int) (k : Nat) : v / 2 ^ (8 * (k : Int)).toNat % 256 = bb v k := by
  unfold bb vb
  rw [pow_cast, show (8 * (k : Int)).toNat = 8 * k by omega]
theorem bb_bit (v : Int) (k j : Nat) (h0 : 0 ≤ v) (hj : j < 8) : (bb v k).toNat.testBit j = v.toNat.testBit (8 * k + j) := by
  obtain ⟨V, rfl⟩ := Int.eq_ofNat_of_zero_le h0
  have : bb (V : Int) k = ((V / 2 ^ (8 * k) % 2 ^ 8 : Nat) : Int) := by unfold bb vb; simp
  rw [this, Int.toNat_natCast, Int.toNat_natCast, Nat.testBit_mod_two_pow, Nat.testBit_div_two_pow, decide_eq_true hj, Bool.true_and, Nat.add_comm]

/-- Each is a byte. -/
def Bs (l : List Int) : Prop := ∀ i, 0 ≤ l.getD i 0 ∧ l.getD i 0 ≤ 255
/-- The word of the first k. -/
def ow (l : List Int) : Nat → Int
  | 0 => 0
  | k + 1 => ow l k + l.getD k 0 * pw (8 * (k : Int))
def wo (l : List Int) : Int := ow l (min 4 l.length)
theorem pw8 (k : Nat) : pw (8 * (k : Int)) = ((2 ^ (8 * k) : Nat) : Int) := by
  unfold pw; rw [show (8 * (k : Int)).toNat = 8 * k by omega]
theorem ow_bd (l : List Int) (hl : Bs l) (k : Nat) : 0 ≤ ow l k ∧ ow l k < ((2 ^ (8 * k) : Nat) : Int) := by
  induction k with
  | zero => simp [ow]
  | succ k ih =>
    obtain ⟨b0, b1⟩ := hl k
    show 0 ≤ ow l k + l.getD k 0 * pw (8 * (k : Int)) ∧ ow l k + l.getD k 0 * pw (8 * (k : Int)) < _
    rw [pw8, show 8 * (k + 1) = 8 * k + 8 by omega, Nat.pow_add]
    have hp : (0 : Int) ≤ ((2 ^ (8 * k) : Nat) : Int) := Int.natCast_nonneg _
    have h1 : 0 ≤ l.getD k 0 * ((2 ^ (8 * k) : Nat) : Int) := Int.mul_nonneg b0 hp
    have h2 : l.getD k 0 * ((2 ^ (8 * k) : Nat) : Int) ≤ 255 * ((2 ^ (8 * k) : Nat) : Int) := Int.mul_le_mul_of_nonneg_right b1 hp
    have h3 : ((2 ^ (8 * k) * 2 ^ 8 : Nat) : Int) = ((2 ^ (8 * k) : Nat) : Int) * 256 := by simp
    rw [h3]
    generalize ((2 ^ (8 * k) : Nat) : Int) = P at *
    omega
theorem pow8_le (k : Nat) (hk : k ≤ 4) : 2 ^ (8 * k) ≤ 4294967296 := by
  have : 2 ^ (8 * k) ≤ 2 ^ 32 := Nat.pow_le_pow_right (by decide) (by omega)
  simpa using this
/-- All that a round wants. -/
theorem ow_step (l : List Int) (hl : Bs l) (k : Nat) (hk : k < 4) :
    ow l (k + 1) = ow l k + l.getD k 0 * pw (8 * (k : Int)) ∧ 0 ≤ ow l k ∧ ow l k < 4294967296 ∧ 0 ≤ l.getD k 0 * pw (8 * (k : Int)) ∧ l.getD k 0 * pw (8 * (k : Int)) < 4294967296 ∧ ow l k + l.getD k 0 * pw (8 * (k : Int)) < 4294967296 := by
  have h1 := ow_bd l hl k
  have h2 := ow_bd l hl (k + 1)
  have h3 := pow8_le k (by omega)
  have h4 := pow8_le (k + 1) (by omega)
  have h5 : ow l (k + 1) = ow l k + l.getD k 0 * pw (8 * (k : Int)) := rfl
  obtain ⟨b0, b1⟩ := hl k
  have hp : 0 ≤ pw (8 * (k : Int)) := by rw [pw8]; exact Int.natCast_nonneg _
  have h6 : 0 ≤ l.getD k 0 * pw (8 * (k : Int)) := Int.mul_nonneg b0 hp
  refine ⟨h5, h1.1, by omega, h6, by omega, by omega⟩
theorem or_add (A C k : Nat) (hA : A < 2 ^ (8 * k)) (hB : A + C * 2 ^ (8 * k) < 4294967296) :
    bits .or .u32 (A : Int) ((C * 2 ^ (8 * k) : Nat) : Int) = ((A + C * 2 ^ (8 * k) : Nat) : Int) := by
  rw [u32_or_nat _ _ (by omega) (by omega), Nat.or_comm, nat_join (8 * k) _ _ (Nat.mul_mod_left _ _) hA, Nat.add_comm]
theorem ow_or (l : List Int) (hl : Bs l) (k : Nat) (hk : k < 4) : bits .or .u32 (ow l k) (l.getD k 0 * 2 ^ (8 * (k : Int)).toNat % 4294967296) = ow l (k + 1) := by
  obtain ⟨h5, a0, a1, a2, a3, a4⟩ := ow_step l hl k hk
  obtain ⟨b0, b1⟩ := hl k
  have h1 := ow_bd l hl k
  rw [h5]
  have e0 : (2 : Int) ^ (8 * (k : Int)).toNat = pw (8 * (k : Int)) := by rw [pow_cast]; rfl
  rw [e0, Int.emod_eq_of_lt a2 a3]
  have hA : ow l k = (((ow l k).toNat : Nat) : Int) := by omega
  have hC : l.getD k 0 * pw (8 * (k : Int)) = (((l.getD k 0).toNat * 2 ^ (8 * k) : Nat) : Int) := by
    rw [pw8]
    conv => lhs; rw [show l.getD k 0 = (((l.getD k 0).toNat : Nat) : Int) by omega]
    simp
  rw [hC] at a4 ⊢
  rw [hA] at a4 h1 ⊢
  generalize (ow l k).toNat = A at *
  generalize (l.getD k 0).toNat = C at *
  have a5 : A + C * 2 ^ (8 * k) < 4294967296 := by
    rw [← Int.natCast_add] at a4
    exact Int.ofNat_lt.mp a4
  rw [or_add A C k (Int.ofNat_lt.mp h1.2) a5, Int.natCast_add]
theorem ow_bit (l : List Int) (hl : Bs l) (k j : Nat) : (ow l k).toNat.testBit j = (decide (j < 8 * k) && (l.getD (j / 8) 0).toNat.testBit (j % 8)) := by
  induction k generalizing j with
  | zero => simp [ow]
  | succ k ih =>
    have h1 := ow_bd l hl k
    obtain ⟨b0, b1⟩ := hl k
    have e : (ow l (k + 1)).toNat = 2 ^ (8 * k) * (l.getD k 0).toNat + (ow l k).toNat := by
      show (ow l k + l.getD k 0 * pw (8 * (k : Int))).toNat = _
      rw [pw8]
      have hC : l.getD k 0 * ((2 ^ (8 * k) : Nat) : Int) = ((2 ^ (8 * k) * (l.getD k 0).toNat : Nat) : Int) := by
        conv => lhs; rw [show l.getD k 0 = (((l.getD k 0).toNat : Nat) : Int) by omega, Int.mul_comm]
        simp
      rw [hC]
      generalize 2 ^ (8 * k) * (l.getD k 0).toNat = D
      omega
    have hlt : (ow l k).toNat < 2 ^ (8 * k) := by
      have := h1.2
      rw [show ow l k = (((ow l k).toNat : Nat) : Int) by omega] at this
      exact Int.ofNat_lt.mp this
    rw [e, Nat.testBit_two_pow_mul_add _ hlt, ih]
    by_cases hj : j < 8 * k
    · rw [if_pos hj, decide_eq_true hj, decide_eq_true (show j < 8 * (k + 1) by omega)]
    · rw [if_neg hj]
      by_cases hj' : j < 8 * (k + 1)
      · rw [decide_eq_true hj', show j / 8 = k by omega, show j - 8 * k = j % 8 by omega]; rfl
      · rw [decide_eq_false hj', Bool.false_and]
        apply Nat.testBit_lt_two_pow
        have : 2 ^ 8 ≤ 2 ^ (j - 8 * k) := Nat.pow_le_pow_right (by decide) (by omega)
        have h8 : (2 : Nat) ^ 8 = 256 := by decide
        omega
theorem wo_bd (l : List Int) (hl : Bs l) : 0 ≤ wo l ∧ wo l < 4294967296 := by
  have h1 := ow_bd l hl (min 4 l.length)
  have h3 := pow8_le (min 4 l.length) (by omega)
  unfold wo; omega

theorem bl_Bs (v : Int) (n : Nat) : Bs (bl v n) := by
  intro i
  by_cases h : i < n
  · rw [bl_get v n i h]; exact bb_bd v i
  · rw [List.getD_eq_getElem?_getD, List.getElem?_eq_none (by rw [bl_len]; omega)]; simp
theorem wo_bl (v : Int) (n : Nat) (hn : n ≤ 4) (h0 : 0 ≤ v) : wo (bl v n) = zx v (8 * (n : Int)) := by
  have hb := wo_bd (bl v n) (bl_Bs v n)
  have hz := zx_bd v (8 * (n : Int))
  have : (wo (bl v n)).toNat = (zx v (8 * (n : Int))).toNat := by
    apply ext32 (by omega) (by omega)
    intro j hj
    unfold wo
    rw [bl_len, show min 4 n = n by omega, ow_bit _ (bl_Bs v n)]
    unfold zx
    rw [Int.toNat_natCast, zxN_bit, cl_in _ 0 32 (by omega) (by omega), show (8 * (n : Int)).toNat = 8 * n by omega]
    by_cases hc : j < 8 * n
    · rw [bl_get v n (j / 8) (by omega), bb_bit v (j / 8) (j % 8) h0 (by omega), show 8 * (j / 8) + j % 8 = j by omega]
    · rw [decide_eq_false hc]; rfl
  omega

/-- The bytes of a word in which, among the first k, those that are laid are v's. -/
def mm (old v a s : Int) (k : Nat) : List Int := (List.range 4).map fun i => if i < k ∧ inn a s i = true then bb v ((i : Int) - a).toNat else bb old i
theorem mm_len (old v a s : Int) (k : Nat) : (mm old v a s k).length = 4 := by simp [mm]
theorem mm_get (old v a s : Int) (k i : Nat) (h : i < 4) : (mm old v a s k).getD i 0 = if i < k ∧ inn a s i = true then bb v ((i : Int) - a).toNat else bb old i := by simp [mm, h]
theorem mm_Bs (old v a s : Int) (k : Nat) : Bs (mm old v a s k) := by
  intro i
  by_cases h : i < 4
  · rw [mm_get _ _ _ _ _ _ h]; split
    · exact bb_bd _ _
    · exact bb_bd _ _
  · rw [List.getD_eq_getElem?_getD, List.getElem?_eq_none (by rw [mm_len]; omega)]; simp
theorem mm_zero (old v a s : Int) : mm old v a s 0 = bl old 4 := by simp [mm, bl]
theorem mm_skip (old v a s : Int) (k : Nat) (h : inn a s k = false) : mm old v a s (k + 1) = mm old v a s k := by
  unfold mm
  apply List.map_congr_left
  intro i hi
  by_cases hk : i = k
  · subst hk; rw [if_neg (by rw [h]; simp), if_neg (by omega)]
  · by_cases hc : i < k ∧ inn a s i = true
    · rw [if_pos hc, if_pos ⟨by omega, hc.2⟩]
    · rw [if_neg hc, if_neg (fun h' => hc ⟨by omega, h'.2⟩)]
theorem mm_set (old v a s : Int) (k : Nat) (h : inn a s k = true) : (mm old v a s k).set k (bb v ((k : Int) - a).toNat) = mm old v a s (k + 1) := by
  apply List.ext_getElem
  · rw [List.length_set, mm_len, mm_len]
  intro i h1 h2
  rw [List.length_set, mm_len] at h1
  rw [List.getElem_set]
  have g1 : ∀ (k' : Nat) (hi : i < (mm old v a s k').length), (mm old v a s k')[i] = (mm old v a s k').getD i 0 := fun k' hi => by simp [List.getD_eq_getElem?_getD, hi]
  rw [g1, g1, mm_get _ _ _ _ _ _ h1, mm_get _ _ _ _ _ _ h1]
  by_cases hi : k = i
  · subst hi; rw [if_pos rfl, if_pos ⟨by omega, h⟩]
  · rw [if_neg hi]
    by_cases hc : i < k ∧ inn a s i = true
    · rw [if_pos hc, if_pos ⟨by omega, hc.2⟩]
    · rw [if_neg hc, if_neg (fun h' => hc ⟨by omega, h'.2⟩)]
theorem wo_mm (old v at' size : Int) (ho : 0 ≤ old) (hv : 0 ≤ v) : wo (mm old v (cl at' (-4) 4) (cl size 0 4) 4) = mg old v at' size := by
  have hb := wo_bd (mm old v (cl at' (-4) 4) (cl size 0 4) 4) (mm_Bs _ _ _ _ _)
  have hz := mg_bd old v at' size
  have : (wo (mm old v (cl at' (-4) 4) (cl size 0 4) 4)).toNat = (mg old v at' size).toNat := by
    apply ext32 (by omega) (by omega)
    intro j hj
    unfold wo
    rw [mm_len, show min 4 4 = 4 from rfl, ow_bit _ (mm_Bs _ _ _ _ _)]
    unfold mg mk su
    rw [Int.toNat_natCast, ob_testBit, mm_get _ _ _ _ _ _ (show j / 8 < 4 by omega)]
    unfold mf
    rw [decide_eq_true (show j < 8 * 4 by omega), Bool.true_and, Bool.true_and]
    by_cases hc : j / 8 < 4 ∧ inn (cl at' (-4) 4) (cl size 0 4) (j / 8) = true
    · rw [if_pos hc, if_pos hc, bb_bit _ _ _ hv (by omega)]
    · rw [if_neg hc, if_neg hc, bb_bit _ _ _ ho (by omega), show 8 * (j / 8) + j % 8 = j by omega]
  omega

end BM
end Go.Proofs.Ytbeenmglgdhbjaa.S01
