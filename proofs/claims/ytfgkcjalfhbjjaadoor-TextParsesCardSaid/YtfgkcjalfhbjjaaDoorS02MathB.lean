/-
  Plain mathematics of the number that a text is: the value of its digits modulo 2^64, step by step. No condition.
-/
import Derived.Test.YtfgkcjalfhbjjaaDoorS02Math
import Derived.WalkKit
namespace Go.Proofs.YtfgkcjalfhbjjaaDoor.S02
namespace NM
/-- The digits' number modulo 2^64; 0 where one of them is no digit of the base. -/
def vN (b : Nat) (l : List UInt8) : Nat := if al b l = true then val b l % 18446744073709551616 else 0
/-- Is there a digit, and are all of them digits of the base? -/
def vB (b : Nat) (l : List UInt8) : Bool := al b l && !l.isEmpty
theorem step_mod (v b d : Nat) : IntKind.u64.wrap (IntKind.u64.wrap (((v % 18446744073709551616 : Nat) : Int) * (b : Int)) + (d : Int)) = (((v * b + d) % 18446744073709551616 : Nat) : Int) := by
  have h : ((v % 18446744073709551616) * b % 18446744073709551616 + d) % 18446744073709551616 = (v * b + d) % 18446744073709551616 := by
    rw [Nat.add_mod, Nat.mod_mod, Nat.mod_mul_mod, ← Nat.add_mod]
  rw [← h]
  generalize hx : v % 18446744073709551616 = x
  have e : ((x : Int) * (b : Int)) = ((x * b : Nat) : Int) := by push_cast; rfl
  rw [e]
  generalize x * b = y
  simp only [IntKind.wrap_u64]
  omega
theorem step_mod2 (v b d : Nat) : IntKind.u64.wrap (IntKind.u64.wrap ((v : Int) % 18446744073709551616 * (b : Int)) + (d : Int)) = (((v * b + d) % 18446744073709551616 : Nat) : Int) := by
  rw [show (v : Int) % 18446744073709551616 = ((v % 18446744073709551616 : Nat) : Int) by omega]
  exact step_mod v b d
theorem vN_yes (b : Nat) (l : List UInt8) (h : al b l = true) : vN b l = val b l % 18446744073709551616 := by unfold vN; rw [if_pos h]
theorem vN_no (b : Nat) (l : List UInt8) (h : al b l = false) : vN b l = 0 := by unfold vN; rw [if_neg (by simp [h])]
theorem vB_no (b : Nat) (l : List UInt8) (h : al b l = false) : vB b l = false := by unfold vB; simp [h]
theorem vN_lt (b : Nat) (l : List UInt8) : vN b l < 18446744073709551616 := by
  unfold vN; split <;> omega
theorem vB_al {b : Nat} {l : List UInt8} (h : vB b l = true) : al b l = true ∧ l ≠ [] := by
  unfold vB at h
  simp at h
  exact h
/-- Behind 0x. -/
def phE (l : List UInt8) : Int := if vB 16 l = true ∧ l.length ≤ 8 then 0 else 2
def phN (l : List UInt8) : Int := if vB 16 l = true ∧ l.length ≤ 8 then val 16 l else 0
theorem ph_bad (l : List UInt8) (h : vB 16 l = false ∨ 8 < l.length) : phE l = 2 ∧ phN l = 0 := by
  unfold phE phN
  rw [if_neg (by rcases h with h | h <;> simp [h]), if_neg (by rcases h with h | h <;> simp [h])]
  exact ⟨rfl, rfl⟩
theorem ph_ok (l : List UInt8) (h : vB 16 l = true) (h' : l.length ≤ 8) : phE l = 0 ∧ phN l = val 16 l := by
  unfold phE phN
  rw [if_pos ⟨h, h'⟩, if_pos ⟨h, h'⟩]
  exact ⟨rfl, rfl⟩
theorem pow_le16 (n : Nat) (h : n ≤ 8) : 16 ^ n ≤ 4294967296 := Nat.le_trans (Nat.pow_le_pow_right (by decide) h) (by decide)
theorem pow_le10 (n : Nat) (h : n ≤ 19) : 10 ^ n ≤ 10000000000000000000 := Nat.le_trans (Nat.pow_le_pow_right (by decide) h) (by decide)
theorem val16_lt (l : List UInt8) (h : al 16 l = true) (h' : l.length ≤ 8) : val 16 l < 4294967296 := by
  have := pow_le16 _ h'
  rcases val_lt 16 l h with h | h <;> omega
theorem val10_lt (l : List UInt8) (h : al 10 l = true) (h' : l.length ≤ 19) : val 10 l < 10000000000000000000 := by
  have := pow_le10 _ h'
  rcases val_lt 10 l h with h | h <;> omega
theorem vN16 (l : List UInt8) (h : vB 16 l = true) (h' : l.length ≤ 8) : vN 16 l = val 16 l ∧ val 16 l < 4294967296 := by
  have := val16_lt l (vB_al h).1 h'
  rw [vN_yes _ _ (vB_al h).1]
  omega
theorem vN10 (l : List UInt8) (h : vB 10 l = true) (h' : l.length ≤ 19) : vN 10 l = val 10 l := by
  have := val10_lt l (vB_al h).1 h'
  rw [vN_yes _ _ (vB_al h).1]
  omega
def lim (neg : Bool) : Nat := if neg then 9223372036854775808 else 9223372036854775807
/-- Decimal digits, behind a sign or not. -/
def pdE (l : List UInt8) (neg : Bool) : Int :=
  if vB 10 l = false ∨ (l.head? = some 48 ∧ (neg = true ∨ 1 < l.length)) then 2 else if 19 < l.length ∨ lim neg < val 10 l then 3 else 0
def pdN (l : List UInt8) (neg : Bool) : Int := if pdE l neg = 0 then (if neg then -(val 10 l : Int) else val 10 l) else 0
theorem pd_bad (l : List UInt8) (neg : Bool) (h : vB 10 l = false) : pdE l neg = 2 ∧ pdN l neg = 0 := by
  have e : pdE l neg = 2 := by unfold pdE; rw [if_pos (.inl h)]
  unfold pdN
  rw [e]
  exact ⟨rfl, rfl⟩
theorem pd_zero (l : List UInt8) (neg : Bool) (h : l.head? = some 48) (h' : neg = true ∨ 1 < l.length) : pdE l neg = 2 ∧ pdN l neg = 0 := by
  have e : pdE l neg = 2 := by unfold pdE; rw [if_pos (.inr ⟨h, h'⟩)]
  unfold pdN
  rw [e]
  exact ⟨rfl, rfl⟩
theorem pd_long (l : List UInt8) (neg : Bool) (hb : vB 10 l = true) (hz : ¬ (l.head? = some 48 ∧ (neg = true ∨ 1 < l.length))) (h : 19 < l.length ∨ lim neg < val 10 l) : pdE l neg = 3 ∧ pdN l neg = 0 := by
  have e : pdE l neg = 3 := by
    unfold pdE
    rw [if_neg (by rintro (h1 | h1); (rw [hb] at h1; cases h1); exact hz h1), if_pos h]
  unfold pdN
  rw [e]
  exact ⟨rfl, rfl⟩
theorem pd_ok (l : List UInt8) (neg : Bool) (hb : vB 10 l = true) (hz : ¬ (l.head? = some 48 ∧ (neg = true ∨ 1 < l.length))) (h : l.length ≤ 19) (h' : val 10 l ≤ lim neg) :
    pdE l neg = 0 ∧ pdN l neg = if neg then -(val 10 l : Int) else val 10 l := by
  have e : pdE l neg = 0 := by
    unfold pdE
    rw [if_neg (by rintro (h1 | h1); (rw [hb] at h1; cases h1); exact hz h1), if_neg (by omega)]
  unfold pdN
  rw [e]
  exact ⟨rfl, rfl⟩
theorem head_eq (s : ByteArray) (h : 0 < s.size) : s.data.toList.head? = some 48 ↔ (s[0].toNat : Int) = 48 := by
  have e : s.data.toList.head? = some s[0] := by
    rw [List.head?_eq_getElem?, List.getElem?_eq_getElem (by simpa using h)]
    rfl
  rw [e]
  constructor
  · intro h1
    have := Option.some.inj h1
    rw [this]; rfl
  · intro h1
    congr 1
    apply UInt8.toNat_inj.mp
    show s[0].toNat = 48
    omega
theorem pos_of (s : ByteArray) (b : Nat) (h : vB b s.data.toList = true) : 0 < s.size := by
  have h1 := (vB_al h).2
  have h2 := len_eq s
  rcases Nat.eq_zero_or_pos s.size with h | h
  · exact absurd (List.length_eq_zero_iff.mp (by omega)) h1
  · exact h
/-- The number that a text is, and its error. -/
def pN (l : List UInt8) : Int := if Lib.hasPrefix l [48, 120] = true then phN (l.drop 2) else pdN (Lib.trimPrefix l [45]) (Lib.hasPrefix l [45])
def pE (l : List UInt8) : Int := if Lib.hasPrefix l [48, 120] = true then phE (l.drop 2) else pdE (Lib.trimPrefix l [45]) (Lib.hasPrefix l [45])
end NM
end Go.Proofs.YtfgkcjalfhbjjaaDoor.S02
