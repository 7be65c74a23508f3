/-
  Plain mathematics of the digits of a number: decimal digits from the last one on, hexadecimal digits with and without noughts ahead. No condition.
-/
import Derived.Test.YtfgkcjalfhbjjaaDoorS02MathB
import Derived.Lib.ItoaLen
import Derived.Lib.Repeat
namespace Go.Proofs.YtfgkcjalfhbjjaaDoor.S02
namespace NM
/-- Of the number m the digits acc are written; u is left. -/
def Dst (m u : Nat) (acc : List UInt8) : Prop := (u = 0 ∧ acc = Lib.decDigits m) ∨ (0 < u ∧ Lib.decDigits u ++ acc = Lib.decDigits m)
theorem Dst.start (m : Nat) (h : 0 < m) : Dst m m [] := .inr ⟨h, by simp⟩
theorem Dst.step {m u : Nat} {acc : List UInt8} (h : Dst m u acc) (hu : 0 < u) : Dst m (u / 10) (UInt8.ofNat (48 + u % 10) :: acc) := by
  rcases h with ⟨h, _⟩ | ⟨_, h⟩
  · omega
  · by_cases h10 : u < 10
    · left
      rw [Lib.decDigits_one h10] at h
      exact ⟨by omega, by rw [← h, Nat.mod_eq_of_lt h10]; rfl⟩
    · right
      refine ⟨by omega, ?_⟩
      rw [Lib.decDigits, dif_neg h10] at h
      rw [← h, List.append_assoc]
      rfl
theorem Dst.len {m u : Nat} {acc : List UInt8} (h : Dst m u acc) (hm : m < 18446744073709551616) : acc.length ≤ 20 := by
  have h1 := Lib.nDigits_le20 m hm
  rw [← Lib.decDigits_length] at h1
  rcases h with ⟨_, h⟩ | ⟨_, h⟩
  · rw [h]; exact h1
  · rw [← h, List.length_append] at h1; omega
theorem Dst.done {m : Nat} {acc : List UInt8} (h : Dst m 0 acc) : acc = Lib.decDigits m := by
  rcases h with ⟨_, h⟩ | ⟨h, _⟩
  · exact h
  · omega
theorem dig_toNat (r : Nat) (h : r < 10) : ((UInt8.ofNat (48 + r)).toNat : Int) = 48 + (r : Int) := by
  simp
  omega
theorem neg_mod (u : Nat) : (-(u : Int)).tmod 10 = -((u % 10 : Nat) : Int) := by
  rw [Int.neg_tmod]
  rfl
theorem neg_div (u : Nat) : (-(u : Int)).tdiv 10 = -((u / 10 : Nat) : Int) := by
  rw [Int.neg_tdiv]
  rfl
theorem neg_parts (y : Int) (h0 : -9223372036854775808 ≤ y) (h1 : y ≤ 0) (hy : ¬ y = 0) : ∃ r q : Int, y.tmod 10 = -r ∧ y.tdiv 10 = q ∧ 0 ≤ r ∧ r ≤ 9 ∧ -9223372036854775808 ≤ q ∧ q ≤ 0 ∧ q.natAbs < y.natAbs ∧ (q.natAbs = y.natAbs / 10 ∧ r.toNat = y.natAbs % 10) := by
  have e : y = -((y.natAbs : Nat) : Int) := by omega
  have e1 := neg_mod y.natAbs
  have e2 := neg_div y.natAbs
  rw [← e] at e1 e2
  exact ⟨_, _, e1, e2, by omega, by omega, by omega, by omega, by omega, by omega, by omega⟩
theorem data_app (a b : ByteArray) : (a ++ b).data.toList = a.data.toList ++ b.data.toList := by
  rw [ByteArray.data_append, Array.toList_append]
theorem itoa_of (n : Int) (u : Nat) (h : n = u) : Lib.itoa n = Lib.decDigits u := by rw [h, Lib.itoa_nonneg]
theorem itoa_of_neg (n : Int) (u : Nat) (h : n = -(u : Int)) (hu : 1 ≤ u) : Lib.itoa n = 45 :: Lib.decDigits u := by rw [h, Lib.itoa_neg u hu]
/-- The last k digits of base 16. -/
def hxs (u : Nat) : Nat → List UInt8
  | 0 => []
  | k + 1 => hx (u / 16 ^ k % 16) :: hxs u k
/-- The digits of base 16, without noughts ahead. -/
def hd (u : Nat) : List UInt8 := if _h : u < 16 then [hx u] else hd (u / 16) ++ [hx (u % 16)]
termination_by u
decreasing_by omega
theorem hxs_len (u k : Nat) : (hxs u k).length = k := by
  induction k with
  | zero => rfl
  | succ k ih => rw [hxs, List.length_cons, ih]
theorem hxs_snoc (u k : Nat) : hxs u (k + 1) = hxs (u / 16) k ++ [hx (u % 16)] := by
  induction k with
  | zero => simp [hxs]
  | succ k ih =>
    rw [hxs, ih, hxs, List.cons_append]
    congr 3
    rw [Nat.pow_succ, Nat.mul_comm, Nat.div_div_eq_div_mul]
theorem hd_fill (k u : Nat) (h : u < 16 ^ k) (hk : 0 < k) : (hd u).length ≤ k ∧ hxs u k = List.replicate (k - (hd u).length) 48 ++ hd u := by
  induction k generalizing u with
  | zero => omega
  | succ k ih =>
    rw [hxs_snoc]
    by_cases h16 : u < 16
    · rw [hd, dif_pos h16, Nat.div_eq_of_lt h16, Nat.mod_eq_of_lt h16]
      refine ⟨by simp, ?_⟩
      have e : ∀ j, hxs 0 j = List.replicate j 48 := by
        intro j
        induction j with
        | zero => rfl
        | succ j ihj => rw [hxs, ihj, Nat.zero_div, List.replicate_succ]; rfl
      rw [e]
      rfl
    · have hk0 : 0 < k := by
        rcases Nat.eq_zero_or_pos k with rfl | h1
        · simp at h; omega
        · exact h1
      obtain ⟨i1, i2⟩ := ih (u / 16) (by rw [Nat.pow_succ] at h; omega) hk0
      rw [hd, dif_neg h16, i2]
      refine ⟨by rw [List.length_append, List.length_singleton]; omega, ?_⟩
      rw [List.length_append, List.length_singleton, List.append_assoc, show k + 1 - ((hd (u / 16)).length + 1) = k - (hd (u / 16)).length by omega]
theorem rep_eq (k : Nat) : Lib.repeatL [48] k = List.replicate k 48 := by
  induction k with
  | zero => rfl
  | succ k ih => rw [Lib.repeatL, ih, List.replicate_succ]; rfl
/-- Of the number m the digits acc of base 16 are written; u is left. -/
def Hst (m u : Nat) (acc : List UInt8) : Prop := hd u ++ acc = hd m
theorem Hst.step {m u : Nat} {acc : List UInt8} (h : Hst m u acc) (hu : 16 ≤ u) : Hst m (u / 16) (hx (u % 16) :: acc) := by
  unfold Hst at *
  rw [hd, dif_neg (by omega)] at h
  rw [← h, List.append_assoc]
  rfl
theorem Hst.done {m u : Nat} {acc : List UInt8} (h : Hst m u acc) (hu : u < 16) : hx u :: acc = hd m := by
  unfold Hst at *
  rw [hd, dif_pos hu] at h
  exact h
theorem and15 (v : Nat) (_h : v < 18446744073709551616) : bits .and .u64 (v : Int) 15 = ((v % 16 : Nat) : Int) := by
  show IntKind.u64.wrap ((BitVec.ofInt 64 (v : Int) &&& BitVec.ofInt 64 15).toNat : Int) = _
  have h1 : (BitVec.ofInt 64 15).toNat = 2 ^ 4 - 1 := by decide
  rw [BitVec.toNat_and, h1, Nat.and_two_pow_sub_one_eq_mod, BitVec.toNat_ofInt]
  have h2 : (((v : Int) % ((2 ^ 64 : Nat) : Int)).toNat % 2 ^ 4 : Nat) = v % 16 := by
    have : ((2 ^ 64 : Nat) : Int) = 18446744073709551616 := by decide
    rw [this]; omega
  rw [h2, IntKind.wrap_u64]
  omega
theorem hd_len_pos (u : Nat) : 1 ≤ (hd u).length := by
  rw [hd]
  split
  · simp
  · rw [List.length_append, List.length_singleton]; omega
end NM
end Go.Proofs.YtfgkcjalfhbjjaaDoor.S02
