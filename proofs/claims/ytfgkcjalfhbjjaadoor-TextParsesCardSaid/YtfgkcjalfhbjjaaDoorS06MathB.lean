/-
  Fields of words as quotients and remainders, and a word put together field by field; no condition, nothing of the program.
-/
import Derived.Test.YtfgkcjalfhbjjaaDoorS06Math
namespace Go.Proofs.YtfgkcjalfhbjjaaDoor.S06
open S01
namespace IM
theorem ptN_at (X h l n v : Nat) (hl : h + 1 = l + n) (_hh : h ≤ 31) (hX : X * 2 ^ (h + 1) + 2 ^ (h + 1) ≤ 4294967296) :
    BM.ptN (X * 2 ^ (h + 1)) h l v = X * 2 ^ (h + 1) + v % 2 ^ n * 2 ^ l := by
  have hv : v % 2 ^ n < 2 ^ n := Nat.mod_lt _ (Nat.two_pow_pos n)
  have hp : (2 : Nat) ^ (h + 1) = 2 ^ l * 2 ^ n := by rw [hl, Nat.pow_add]
  have hq : 2 ^ l * (v % 2 ^ n) + 2 ^ l ≤ 2 ^ l * 2 ^ n := by
    have := Nat.mul_le_mul_left (2 ^ l) (Nat.succ_le_of_lt hv)
    rw [Nat.mul_succ] at this
    exact this
  have hlp : 0 < 2 ^ l := Nat.two_pow_pos l
  have e : X * 2 ^ (h + 1) + v % 2 ^ n * 2 ^ l = 2 ^ l * (2 ^ n * X + v % 2 ^ n) := by
    rw [Nat.mul_add, hp, Nat.mul_comm X, Nat.mul_assoc, Nat.mul_comm (v % 2 ^ n)]
  refine BM.ext32 (BM.ptN_lt _ _ _ _) ?_ ?_
  · rw [Nat.mul_comm (v % 2 ^ n)]; rw [← hp] at hq; omega
  · intro j hj
    rw [BM.ptN_bit, e, Nat.testBit_two_pow_mul, Nat.testBit_two_pow_mul_add _ hv, Nat.testBit_mod_two_pow, Nat.mul_comm X, Nat.testBit_two_pow_mul]
    by_cases h1 : l ≤ j
    · by_cases h2 : j ≤ h
      · have h3 : j - l < n := by omega
        simp [hj, h1, h2, h3]
      · have h3 : ¬ j - l < n := by omega
        have h4 : h + 1 ≤ j := by omega
        have h5 : j - (h + 1) = j - l - n := by omega
        simp [hj, h1, h2, h3, h4, h5]
    · have h4 : ¬ h + 1 ≤ j := by omega
      simp [hj, h1, h4]
theorem pt_at (X v : Int) (h l n : Nat) (hn : 1 ≤ n) (hl : h + 1 = l + n) (hh : h ≤ 31) (h0 : 0 ≤ X) (hv : 0 ≤ v) (hX : X * 2 ^ (h + 1) + 2 ^ (h + 1) ≤ 4294967296) :
    BM.pt (X * 2 ^ (h + 1)) h l v = X * 2 ^ (h + 1) + v % 2 ^ n * 2 ^ l := by
  obtain ⟨X, rfl⟩ := Int.eq_ofNat_of_zero_le h0
  obtain ⟨v, rfl⟩ := Int.eq_ofNat_of_zero_le hv
  unfold BM.pt
  rw [BM.cl_in _ _ _ (by omega) (by omega), BM.cl_in _ _ _ (by omega) (by omega)]
  have e : ((X : Int) * 2 ^ (h + 1)).toNat = X * 2 ^ (h + 1) := by
    rw [show (X : Int) * 2 ^ (h + 1) = ((X * 2 ^ (h + 1) : Nat) : Int) by push_cast; rfl]; rfl
  rw [e]
  simp only [Int.toNat_natCast]
  have hX' : ((X * 2 ^ (h + 1) + 2 ^ (h + 1) : Nat) : Int) ≤ ((4294967296 : Nat) : Int) := by rw [Int.natCast_add, Int.natCast_mul, Int.natCast_pow]; exact hX
  rw [ptN_at X h l n v hl hh (Int.ofNat_le.1 hX')]
  push_cast; rfl
theorem fd_at (x : Int) (h l n : Nat) (hn : 1 ≤ n) (hl : h + 1 = l + n) (hh : h ≤ 31) (h0 : 0 ≤ x) : BM.fd x h l = x / 2 ^ l % 2 ^ n := by
  obtain ⟨x, rfl⟩ := Int.eq_ofNat_of_zero_le h0
  unfold BM.fd BM.fdN
  rw [BM.cl_in _ _ _ (by omega) (by omega), BM.cl_in _ _ _ (by omega) (by omega)]
  simp only [Int.toNat_natCast]
  have e : (fun j => x.testBit (j + l)) = (x / 2 ^ l).testBit := by
    funext j; rw [Nat.testBit_div_two_pow, Nat.add_comm]
  rw [e, BM.ob_mod, show h + 1 - l = n by omega]
  push_cast; rfl
theorem fO (x : Int) (h0 : 0 ≤ x) (h1 : x < 4294967296) : BM.fd x 31 26 = dO x := by
  have := fd_at x 31 26 6 (by decide) (by decide) (by decide) h0
  rw [show ((31 : Nat) : Int) = 31 from rfl, show ((26 : Nat) : Int) = 26 from rfl] at this
  rw [this]; unfold dO; omega
theorem fD (x : Int) (h0 : 0 ≤ x) : BM.fd x 25 22 = dD x := fd_at x 25 22 4 (by decide) (by decide) (by decide) h0
theorem fA (x : Int) (h0 : 0 ≤ x) : BM.fd x 21 18 = dA x := fd_at x 21 18 4 (by decide) (by decide) (by decide) h0
theorem fB (x : Int) (h0 : 0 ≤ x) : BM.fd x 17 14 = x / 16384 % 16 := fd_at x 17 14 4 (by decide) (by decide) (by decide) h0
theorem zx18 (x : Int) (h0 : 0 ≤ x) : BM.zx x 18 = x % 262144 := by
  obtain ⟨x, rfl⟩ := Int.eq_ofNat_of_zero_le h0
  unfold BM.zx BM.zxN
  rw [BM.cl_in _ _ _ (by omega) (by omega), BM.ob_mod]
  simp only [Int.toNat_natCast]
  rw [show (2 : Nat) ^ (18 : Int).toNat = 262144 from rfl]
  omega
/-- A word as a signed number. -/
def sv (x : Int) : Int := if x < 2147483648 then x else x - 4294967296
theorem sx_at (x : Int) (c : Nat) (hc0 : c ≠ 0) (hc : c ≤ 32) (h0 : 0 ≤ x) : BM.sx x c = 2 ^ c * (if 2 ^ (c - 1) ≤ x % 2 ^ c then 2 ^ (32 - c) - 1 else 0) + x % 2 ^ c := by
  obtain ⟨x, rfl⟩ := Int.eq_ofNat_of_zero_le h0
  unfold BM.sx
  rw [BM.cl_in _ _ _ (by omega) (by omega)]
  simp only [Int.toNat_natCast]
  rw [BM.sxN_sum x c hc0 hc, BM.top_bit x c hc0]
  have e : ((2 : Int) ^ (c - 1) ≤ (x : Int) % 2 ^ c) ↔ (2 ^ (c - 1) ≤ x % 2 ^ c) := by
    rw [show (x : Int) % 2 ^ c = ((x % 2 ^ c : Nat) : Int) by push_cast; rfl, show (2 : Int) ^ (c - 1) = ((2 ^ (c - 1) : Nat) : Int) by push_cast; rfl]
    exact Int.ofNat_le
  by_cases hb : 2 ^ (c - 1) ≤ x % 2 ^ c
  · have hb' := e.2 hb
    rw [if_pos hb']
    simp only [hb, decide_true, if_true]
    have h1 : 1 ≤ 2 ^ (32 - c) := Nat.one_le_two_pow
    push_cast [h1]; rfl
  · have hb' : ¬ (2 : Int) ^ (c - 1) ≤ (x : Int) % 2 ^ c := fun h => hb (e.1 h)
    rw [if_neg hb']
    simp only [hb, decide_false]
    push_cast; simp
theorem sv14 (x : Int) (h0 : 0 ≤ x) : sv (BM.sx x 14) = if x % 16384 < 8192 then x % 16384 else x % 16384 - 16384 := by
  have h := sx_at x 14 (by decide) (by decide) h0
  rw [show ((14 : Nat) : Int) = 14 from rfl] at h
  rw [h, show (2 : Int) ^ 14 = 16384 from rfl, show (2 : Int) ^ (14 - 1) = 8192 from rfl, show (2 : Int) ^ (32 - 14) = 262144 from rfl]
  unfold sv
  split <;> split <;> split <;> omega
theorem sv18 (x : Int) (h0 : 0 ≤ x) : sv (BM.sx x 18) = if x % 262144 < 131072 then x % 262144 else x % 262144 - 262144 := by
  have h := sx_at x 18 (by decide) (by decide) h0
  rw [show ((18 : Nat) : Int) = 18 from rfl] at h
  rw [h, show (2 : Int) ^ 18 = 262144 from rfl, show (2 : Int) ^ (18 - 1) = 131072 from rfl, show (2 : Int) ^ (32 - 18) = 16384 from rfl]
  unfold sv
  split <;> split <;> split <;> omega
/-- The word of the operation and the three registers. -/
theorem put_four (op d a b : Int) (ho : 0 ≤ op ∧ op < 64) (hd : 0 ≤ d ∧ d < 16) (ha : 0 ≤ a ∧ a < 16) (hb : 0 ≤ b ∧ b < 16) :
    BM.pt (BM.pt (BM.pt (BM.pt 0 31 26 op) 25 22 d) 21 18 a) 17 14 b = op * 67108864 + d * 4194304 + a * 262144 + b * 16384 := by
  have h1 := pt_at 0 op 31 26 6 (by decide) (by decide) (by decide) (by decide) ho.1 (by decide)
  have h2 := pt_at op d 25 22 4 (by decide) (by decide) (by decide) ho.1 hd.1 (by omega)
  have h3 := pt_at (op * 16 + d) a 21 18 4 (by decide) (by decide) (by decide) (by omega) ha.1 (by omega)
  have h4 := pt_at (op * 256 + d * 16 + a) b 17 14 4 (by decide) (by decide) (by decide) (by omega) hb.1 (by omega)
  have e1 : BM.pt 0 31 26 op = op * 2 ^ 26 := by
    have : BM.pt 0 31 26 op = BM.pt (0 * 2 ^ (31 + 1)) (31 : Nat) (26 : Nat) op := rfl
    rw [this, h1]; omega
  have e2 : BM.pt (op * 2 ^ 26) 25 22 d = (op * 16 + d) * 2 ^ 22 := by
    have : BM.pt (op * 2 ^ 26) 25 22 d = BM.pt (op * 2 ^ (25 + 1)) (25 : Nat) (22 : Nat) d := rfl
    rw [this, h2]; omega
  have e3 : BM.pt ((op * 16 + d) * 2 ^ 22) 21 18 a = (op * 256 + d * 16 + a) * 2 ^ 18 := by
    have : BM.pt ((op * 16 + d) * 2 ^ 22) 21 18 a = BM.pt ((op * 16 + d) * 2 ^ (21 + 1)) (21 : Nat) (18 : Nat) a := rfl
    rw [this, h3]; omega
  have e4 : BM.pt ((op * 256 + d * 16 + a) * 2 ^ 18) 17 14 b = op * 67108864 + d * 4194304 + a * 262144 + b * 16384 := by
    have : BM.pt ((op * 256 + d * 16 + a) * 2 ^ 18) 17 14 b = BM.pt ((op * 256 + d * 16 + a) * 2 ^ (17 + 1)) (17 : Nat) (14 : Nat) b := rfl
    rw [this, h4]; omega
  rw [e1, e2, e3, e4]
theorem put_last (op d a b v : Int) (ho : 0 ≤ op ∧ op < 64) (hd : 0 ≤ d ∧ d < 16) (ha : 0 ≤ a ∧ a < 16) (hb : 0 ≤ b ∧ b < 16) (hv : 0 ≤ v) :
    BM.pt (op * 67108864 + d * 4194304 + a * 262144 + b * 16384) 13 0 v = op * 67108864 + d * 4194304 + a * 262144 + b * 16384 + v % 16384 := by
  have h1 := pt_at (op * 4096 + d * 256 + a * 16 + b) v 13 0 14 (by decide) (by decide) (by decide) (by omega) hv (by omega)
  have e : op * 67108864 + d * 4194304 + a * 262144 + b * 16384 = (op * 4096 + d * 256 + a * 16 + b) * 2 ^ (13 + 1) := by omega
  have : BM.pt (op * 67108864 + d * 4194304 + a * 262144 + b * 16384) 13 0 v = BM.pt ((op * 4096 + d * 256 + a * 16 + b) * 2 ^ (13 + 1)) (13 : Nat) (0 : Nat) v := by rw [e]; rfl
  rw [this, h1]; omega
theorem put_wide (op d a v : Int) (ho : 0 ≤ op ∧ op < 64) (hd : 0 ≤ d ∧ d < 16) (ha : 0 ≤ a ∧ a < 16) (hv : 0 ≤ v) :
    BM.pt (op * 67108864 + d * 4194304 + a * 262144 + 0 * 16384) 17 0 v = op * 67108864 + d * 4194304 + a * 262144 + 0 * 16384 + v % 262144 := by
  have h1 := pt_at (op * 256 + d * 16 + a) v 17 0 18 (by decide) (by decide) (by decide) (by omega) hv (by omega)
  have e : op * 67108864 + d * 4194304 + a * 262144 + 0 * 16384 = (op * 256 + d * 16 + a) * 2 ^ (17 + 1) := by omega
  have : BM.pt (op * 67108864 + d * 4194304 + a * 262144 + 0 * 16384) 17 0 v = BM.pt ((op * 256 + d * 16 + a) * 2 ^ (17 + 1)) (17 : Nat) (0 : Nat) v := by rw [e]; rfl
  rw [this, h1]; omega
end IM
end Go.Proofs.YtfgkcjalfhbjjaaDoor.S06
