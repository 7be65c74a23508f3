/-
  Plain facts on page table entries: their words, their flags, the places of an address. No condition but those named.
-/
import Derived.Test.YtbeenmglgdhbjaaS01MathB
import Derived.Laws.BitsLemmas
namespace Go.Proofs.Ytbeenmglgdhbjaa.S12
open Go.RowKit S01
namespace PT
/-- The bit k of a number. -/
def bt (b : Int) (k : Nat) : Bool := decide (b / 2 ^ k % 2 = 1)
/-- The word of an entry. -/
def wd (b g : Int) : Int := b % 128 + 256 * (g % 256)
/-- The bits that an access asks for in any mode; none if there is no such access. -/
def nd (a : Int) : Int := if a = 1 then 41 else if a = 2 then 35 else if a = 3 then 101 else 0
/-- May the access be? -/
def al (b a : Int) (k : Bool) : Bool := (bt b 0 && (bt b 5 && (k || bt b 4))) && (if a = 1 then bt b 3 else if a = 2 then bt b 1 else if a = 3 then bt b 2 && bt b 6 else false)
/-- Has the entry a page? -/
def lf (b : Int) : Bool := bt b 1 || (bt b 2 || bt b 3)
/-- The number of the entry in a table. -/
def ix (va l : Int) : Int := if l = 0 then va / 1024 % 16 else if l = 1 then va / 64 % 16 else 0
/-- Where an entry leads an address. -/
def ad (g va : Int) : Int := 64 * (g % 256) + va % 64

theorem zx_mod (x n : Int) (k : Nat) (h : BM.cl n 0 32 = k) (hx : 0 ≤ x) : BM.zx x n = x % 2 ^ k := by
  unfold BM.zx BM.zxN
  rw [BM.ob_mod, h, Int.toNat_natCast]
  obtain ⟨X, rfl⟩ := Int.eq_ofNat_of_zero_le hx
  simp
theorem zx7 (x : Int) (hx : 0 ≤ x) : BM.zx x 7 = x % 128 := zx_mod x 7 7 (by decide) hx
theorem zx8 (x : Int) (hx : 0 ≤ x) : BM.zx x 8 = x % 256 := zx_mod x 8 8 (by decide) hx
theorem zx6 (x : Int) (hx : 0 ≤ x) : BM.zx x 6 = x % 64 := zx_mod x 6 6 (by decide) hx
theorem fdN_eq (X h l : Nat) : BM.fdN X h l = X / 2 ^ l % 2 ^ (h + 1 - l) := by
  apply Nat.eq_of_testBit_eq
  intro j
  rw [BM.fdN_bit, Nat.testBit_mod_two_pow, Nat.testBit_div_two_pow]
theorem fd_of (x h l : Int) (H L : Nat) (hh : BM.cl h 0 31 = H) (hl : BM.cl l 0 31 = L) (hx : 0 ≤ x) : BM.fd x h l = x / 2 ^ L % 2 ^ (H + 1 - L) := by
  unfold BM.fd
  rw [hh, hl, Int.toNat_natCast, Int.toNat_natCast, fdN_eq]
  obtain ⟨X, rfl⟩ := Int.eq_ofNat_of_zero_le hx
  simp
theorem fd_page (x : Int) (hx : 0 ≤ x) : BM.fd x 15 8 = x / 256 % 256 := fd_of x 15 8 15 8 (by decide) (by decide) hx
theorem fd_high (x : Int) (hx : 0 ≤ x) : BM.fd x 13 10 = x / 1024 % 16 := fd_of x 13 10 13 10 (by decide) (by decide) hx
theorem fd_low (x : Int) (hx : 0 ≤ x) : BM.fd x 9 6 = x / 64 % 16 := fd_of x 9 6 9 6 (by decide) (by decide) hx
/-- A number against a mask of seven bits. -/
theorem and_low (b : Int) (m : Nat) (hm : m < 128) (h0 : 0 ≤ b) (h1 : b < 4294967296) : bits .and .u32 b m = (((b % 128).toNat &&& m : Nat) : Int) := by
  rw [u32_and b m h0 h1 (by omega) (by omega), Int.toNat_natCast]
  congr 1
  apply Nat.eq_of_testBit_eq
  intro j
  rw [Nat.testBit_and, Nat.testBit_and]
  have e : (b % 128).toNat = b.toNat % 2 ^ 7 := by omega
  rw [e, Nat.testBit_mod_two_pow]
  by_cases hj : j < 7
  · simp [hj]
  · have : m.testBit j = false := Nat.testBit_lt_two_pow (Nat.lt_of_lt_of_le hm (by
      have : 2 ^ 7 ≤ 2 ^ j := Nat.pow_le_pow_right (by decide) (by omega)
      simpa using this))
    rw [this]; simp
theorem bt_low (b : Int) (k : Nat) (h : k < 7) : bt b k = bt (b % 128) k := by
  unfold bt
  obtain rfl | rfl | rfl | rfl | rfl | rfl | rfl : k = 0 ∨ k = 1 ∨ k = 2 ∨ k = 3 ∨ k = 4 ∨ k = 5 ∨ k = 6 := by omega
  all_goals (simp only [show (2 : Int) ^ 0 = 1 from rfl, show (2 : Int) ^ 1 = 2 from rfl, show (2 : Int) ^ 2 = 4 from rfl, show (2 : Int) ^ 3 = 8 from rfl, show (2 : Int) ^ 4 = 16 from rfl, show (2 : Int) ^ 5 = 32 from rfl, show (2 : Int) ^ 6 = 64 from rfl]; congr 1; apply propext; omega)
theorem al_low (b a : Int) (k : Bool) : al b a k = al (b % 128) a k := by
  unfold al
  rw [bt_low b 0 (by omega), bt_low b 1 (by omega), bt_low b 2 (by omega), bt_low b 3 (by omega), bt_low b 4 (by omega), bt_low b 5 (by omega), bt_low b 6 (by omega)]
theorem lf_low (b : Int) : lf b = lf (b % 128) := by
  unfold lf
  rw [bt_low b 1 (by omega), bt_low b 2 (by omega), bt_low b 3 (by omega)]
set_option maxRecDepth 100000 in
theorem masks : ∀ x : Fin 128, ((x.val &&& 41 == 41) = al (x.val : Int) 1 true) ∧ ((x.val &&& 57 == 57) = al (x.val : Int) 1 false) ∧ ((x.val &&& 35 == 35) = al (x.val : Int) 2 true) ∧ ((x.val &&& 51 == 51) = al (x.val : Int) 2 false) ∧
    ((x.val &&& 101 == 101) = al (x.val : Int) 3 true) ∧ ((x.val &&& 117 == 117) = al (x.val : Int) 3 false) ∧ ((x.val &&& 14 != 0) = lf (x.val : Int)) := by
  decide +kernel
/-- The mask of an access and a mode. -/
def mask (a : Int) (k : Bool) : Nat := if a = 1 then (if k then 41 else 57) else if a = 2 then (if k then 35 else 51) else if k then 101 else 117
theorem al_mask (b a : Int) (k : Bool) (ha : a = 1 ∨ a = 2 ∨ a = 3) (h0 : 0 ≤ b) (h1 : b < 4294967296) : (bits .and .u32 b (mask a k) == (mask a k : Int)) = al b a k := by
  have hlt : (b % 128).toNat < 128 := by omega
  have hM := masks ⟨(b % 128).toNat, hlt⟩
  have hc : ((b % 128).toNat : Int) = b % 128 := by omega
  simp only [hc] at hM
  rw [al_low b]
  have key : ∀ m : Nat, m < 128 → ((bits .and .u32 b (m : Int) == (m : Int)) = ((b % 128).toNat &&& m == m)) := by
    intro m hm
    rw [and_low b m hm h0 h1, Bool.eq_iff_iff]
    simp only [beq_iff_eq]
    omega
  rw [key _ (by unfold mask; split <;> (try split) <;> (try split) <;> omega)]
  rcases ha with rfl | rfl | rfl <;> cases k
  · exact hM.2.1
  · exact hM.1
  · exact hM.2.2.2.1
  · exact hM.2.2.1
  · exact hM.2.2.2.2.2.1
  · exact hM.2.2.2.2.1
theorem al_none (b a : Int) (k : Bool) (ha : ¬ (a = 1 ∨ a = 2 ∨ a = 3)) : al b a k = false := by
  unfold al
  rw [if_neg (by omega), if_neg (by omega), if_neg (by omega), Bool.and_false]
theorem lf_mask (b : Int) (h0 : 0 ≤ b) (h1 : b < 4294967296) : (bits .and .u32 b 14 != 0) = lf b := by
  have hlt : (b % 128).toNat < 128 := by omega
  have hM := (masks ⟨(b % 128).toNat, hlt⟩).2.2.2.2.2.2
  have hc : ((b % 128).toNat : Int) = b % 128 := by omega
  simp only [hc] at hM
  rw [lf_low b, ← hM, show (14 : Int) = ((14 : Nat) : Int) from rfl, and_low b 14 (by omega) h0 h1, Bool.eq_iff_iff]
  simp only [bne_iff_ne]
  omega
theorem wd_bd (b g : Int) : 0 ≤ wd b g ∧ wd b g < 65536 := by unfold wd; omega
theorem ad_bd (g va : Int) : 0 ≤ ad g va ∧ ad g va < 16384 := by unfold ad; omega
theorem ix_bd (va l : Int) : 0 ≤ ix va l ∧ ix va l < 16 := by unfold ix; split <;> (try split) <;> omega
/-- The word, put together. -/
theorem wd_or (b g : Int) : bits .or .u32 (g % 256 * 256 % 4294967296) (b % 128) = wd b g := by
  have := bits_join .u32 32 (by decide) (fun n h₀ h₁ => by rw [IntKind.wrap_u32]; omega) 8 (g % 256 * 256) (b % 128) (by omega) (by omega) (by omega) (by omega) (by omega) (by omega)
  rw [show g % 256 * 256 % 4294967296 = g % 256 * 256 by omega, this]
  unfold wd; omega
/-- What is allowed remains so with more bits. -/
theorem bt_or (b m : Int) (k : Nat) (h0 : 0 ≤ b) (h1 : b < 4294967296) (m0 : 0 ≤ m) (m1 : m < 4294967296) (h : bt b k = true) : bt (bits .or .u32 b m) k = true := by
  have e : ∀ X : Nat, bt (X : Int) k = X.testBit k := by
    intro X
    unfold bt
    rw [Nat.testBit_eq_decide_div_mod_eq]
    congr 1
    apply propext
    rw [show (X : Int) / 2 ^ k = ((X / 2 ^ k : Nat) : Int) by simp]
    omega
  obtain ⟨B, rfl⟩ := Int.eq_ofNat_of_zero_le h0
  obtain ⟨M, rfl⟩ := Int.eq_ofNat_of_zero_le m0
  rw [u32_or_nat B M (by omega) (by omega), e, Nat.testBit_or, ← e B, h]
  rfl
theorem or_bd (b m : Int) (h0 : 0 ≤ b) (h1 : b < 4294967296) (m0 : 0 ≤ m) (m1 : m < 4294967296) : 0 ≤ bits .or .u32 b m ∧ bits .or .u32 b m < 4294967296 := by
  obtain ⟨B, rfl⟩ := Int.eq_ofNat_of_zero_le h0
  obtain ⟨M, rfl⟩ := Int.eq_ofNat_of_zero_le m0
  rw [u32_or_nat B M (by omega) (by omega)]
  have := Nat.or_lt_two_pow (n := 32) (x := B) (y := M) (by omega) (by omega)
  omega
theorem al_more (b m a : Int) (k : Bool) (h0 : 0 ≤ b) (h1 : b < 4294967296) (m0 : 0 ≤ m) (m1 : m < 4294967296) (h : al b a k = true) : al (bits .or .u32 b m) a k = true := by
  have g := fun j => bt_or b m j h0 h1 m0 m1
  revert h
  unfold al
  generalize bits .or .u32 b m = c at *
  split
  · cases k <;> simp +contextual [g]
  · split
    · cases k <;> simp +contextual [g]
    · split
      · cases k <;> simp +contextual [g]
      · simp
theorem al_kernel (b a : Int) (h : al b a false = true) : al b a true = true := by
  revert h
  unfold al
  simp +contextual
theorem al_user (b a : Int) (h : al b a false = false) : al b a true = false ∨ bt b 4 = false := by
  revert h
  unfold al
  cases bt b 4 <;> simp
theorem al_leaf (b a : Int) (k : Bool) (h : al b a k = true) : lf b = true := by
  revert h
  unfold al lf
  split
  · simp +contextual
  · split
    · simp +contextual
    · split
      · simp +contextual
      · simp
theorem bt_user (b : Int) (h0 : 0 ≤ b) (h1 : b < 4294967296) : (bits .and .u32 b 16 == 0) = !bt b 4 := by
  rw [show (16 : Int) = ((16 : Nat) : Int) from rfl, and_low b 16 (by omega) h0 h1, bt_low b 4 (by omega)]
  have hlt : (b % 128).toNat < 128 := by omega
  have hc : ((b % 128).toNat : Int) = b % 128 := by omega
  have hM := (show ∀ x : Fin 128, (((x.val &&& 16 : Nat) : Int) == 0) = !bt (x.val : Int) 4 by decide +kernel) ⟨(b % 128).toNat, hlt⟩
  simp only [hc] at hM
  exact hM
/-- An address is told by its two indexes and its lowest bits. -/
theorem told (va : Int) (_h0 : 0 ≤ va) : ix va 0 * 1024 + ix va 1 * 64 + va % 64 = va % 16384 := by
  unfold ix
  simp only [if_true, if_neg (show ¬ (1 : Int) = 0 by decide)]
  omega
end PT
end Go.Proofs.Ytbeenmglgdhbjaa.S12
