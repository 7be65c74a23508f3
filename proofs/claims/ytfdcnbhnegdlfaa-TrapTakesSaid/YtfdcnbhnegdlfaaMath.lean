/-
  The chapter's traps as plain functions on integers: a bit of a word, a word with a bit set or cleared, a core behind a trap and behind the return from it, the interrupt that comes next, breakpoints and single steps; and what follows of them.
-/
import Derived.Test.YtfdcnbhnegdlfaaS11
namespace Go.Proofs.Ytfdcnbhnegdlfaa
open S11
namespace TR
/-- Is the bit of value b set? -/
def hs (s b : Int) : Bool := decide (s / b % 2 = 1)
/-- The word with it set or cleared. -/
def pu (s b : Int) (on : Bool) : Int := s - s / b % 2 * b + (if on then b else 0)
/-- The status behind a trap, the core behind it. -/
def ts (s : Int) : Int := pu (pu (pu (pu s 4 (hs s 1)) 8 (hs s 2)) 1 true) 2 false
def tk (f : Nat → Int) (c v e : Int) : Nat → Int := CM.up (CM.up (CM.up (CM.up (CM.up f 17 (ts (f 17))) 18 (c % 32)) 19 v) 20 e) 0 (f 21)
/-- The status behind a return, the core behind it. -/
def us (s : Int) : Int := pu (pu s 1 (hs s 4)) 2 (hs s 8)
def rg (f : Nat → Int) : Nat → Int := CM.up (CM.up f 17 (us (f 17))) 0 (f 20)
def rt (f : Nat → Int) : Nat → Int := if CM.km f = true then rg f else fun _ => 0
def rh (f : Nat → Int) (h : Bool) : Bool := if CM.km f = true then h else false
def rc (f : Nat → Int) : Int := if CM.km f = true then 0 else 8
/-- The cause that comes of the open lines; the interrupt that comes next. -/
def op (o : Int) : Int := if hs o 1 = true then 16 else if hs o 2 = true then 17 else if hs o 4 = true then 18 else 0
def pd (f : Nat → Int) : Int := if (CM.km f && !hs (f 17) 2) = true then 0 else op (CM.an (f 27) (f 26))
/-- Does a breakpoint apply; a single step? -/
def st (f : Nat → Int) (p : Int) : Bool := !CM.km f && decide (p % 2 = 0 ∧ f 28 = p + 1)
def sg (f : Nat → Int) : Bool := !CM.km f && hs (f 17) 32

/-- One of the values of the lowest six bits. -/
def Bt (b : Int) : Prop := b = 1 ∨ b = 2 ∨ b = 4 ∨ b = 8 ∨ b = 16 ∨ b = 32
theorem low_and : ∀ r : Fin 64, r.val &&& 1 = r.val / 1 % 2 * 1 ∧ r.val &&& 2 = r.val / 2 % 2 * 2 ∧ r.val &&& 4 = r.val / 4 % 2 * 4 ∧ r.val &&& 8 = r.val / 8 % 2 * 8 ∧ r.val &&& 16 = r.val / 16 % 2 * 16 ∧ r.val &&& 32 = r.val / 32 % 2 * 32 := by decide +kernel
theorem low_or : ∀ r : Fin 64, r.val ||| 1 = r.val - r.val / 1 % 2 * 1 + 1 ∧ r.val ||| 2 = r.val - r.val / 2 % 2 * 2 + 2 ∧ r.val ||| 4 = r.val - r.val / 4 % 2 * 4 + 4 ∧ r.val ||| 8 = r.val - r.val / 8 % 2 * 8 + 8 ∧ r.val ||| 16 = r.val - r.val / 16 % 2 * 16 + 16 ∧ r.val ||| 32 = r.val - r.val / 32 % 2 * 32 + 32 := by decide +kernel
theorem low_not : ∀ r : Fin 64, r.val &&& 62 = r.val - r.val / 1 % 2 * 1 ∧ r.val &&& 61 = r.val - r.val / 2 % 2 * 2 ∧ r.val &&& 59 = r.val - r.val / 4 % 2 * 4 ∧ r.val &&& 55 = r.val - r.val / 8 % 2 * 8 ∧ r.val &&& 47 = r.val - r.val / 16 % 2 * 16 ∧ r.val &&& 31 = r.val - r.val / 32 % 2 * 32 := by decide +kernel
theorem low_51 : ∀ r : Fin 64, r.val &&& 51 = r.val % 2 + r.val / 2 % 2 * 2 + r.val / 16 % 2 * 16 + r.val / 32 % 2 * 32 := by decide +kernel
theorem and_low (x m : Nat) (hm : m < 64) : x &&& m = x % 64 &&& m := by
  have h1 : (x &&& m) % 2 ^ 6 = x % 2 ^ 6 &&& m % 2 ^ 6 := Nat.and_mod_two_pow
  have h2 : x &&& m ≤ m := Nat.and_le_right
  have h3 : m % 2 ^ 6 = m := Nat.mod_eq_of_lt (by omega)
  rw [h3, Nat.mod_eq_of_lt (by omega)] at h1
  exact h1
theorem or_low (x m : Nat) (hm : m < 64) : x ||| m = x / 64 * 64 + (x % 64 ||| m) := by
  have h1 : (x ||| m) % 2 ^ 6 = x % 2 ^ 6 ||| m % 2 ^ 6 := Nat.or_mod_two_pow
  have h2 : (x ||| m) / 2 ^ 6 = x / 2 ^ 6 ||| m / 2 ^ 6 := Nat.or_div_two_pow
  have h3 : m % 2 ^ 6 = m := Nat.mod_eq_of_lt (by omega)
  have h4 : m / 2 ^ 6 = 0 := by omega
  rw [h3] at h1
  rw [h4, Nat.or_zero] at h2
  have h5 : x % 2 ^ 6 = x % 64 := rfl
  rw [h5] at h1
  rw [← h1]
  omega
theorem not_low (x m : Nat) (hx : x < 4294967296) (hm : m < 64) : x &&& (4294967295 - m) = x / 64 * 64 + (x % 64 &&& (63 - m)) := by
  have h1 : (x &&& (4294967295 - m)) % 2 ^ 6 = x % 2 ^ 6 &&& (4294967295 - m) % 2 ^ 6 := Nat.and_mod_two_pow
  have h2 : (x &&& (4294967295 - m)) / 2 ^ 6 = x / 2 ^ 6 &&& (4294967295 - m) / 2 ^ 6 := Nat.and_div_two_pow
  have h3 : (4294967295 - m) % 2 ^ 6 = 63 - m := by omega
  have h4 : (4294967295 - m) / 2 ^ 6 = 2 ^ 26 - 1 := by omega
  have h6 : x / 2 ^ 6 &&& (2 ^ 26 - 1) = x / 2 ^ 6 := by
    rw [Nat.and_two_pow_sub_one_eq_mod, Nat.mod_eq_of_lt (by omega)]
  rw [h3] at h1
  rw [h4, h6] at h2
  have h5 : x % 2 ^ 6 = x % 64 := rfl
  rw [h5] at h1
  rw [← h1]
  omega
theorem an_bit (s b : Int) (hs : CM.Wd s) (hb : Bt b) : CM.an s b = s / b % 2 * b := by
  obtain ⟨S, rfl⟩ := Int.eq_ofNat_of_zero_le hs.1
  have hr := low_and ⟨S % 64, Nat.mod_lt _ (by decide)⟩
  simp only at hr
  unfold CM.an
  rcases hb with rfl | rfl | rfl | rfl | rfl | rfl
  all_goals (rw [Int.toNat_natCast]; simp only [Int.reduceToNat]; rw [and_low _ _ (by decide)]; omega)
theorem oq_bit (s b : Int) (hs : CM.Wd s) (hb : Bt b) : CM.oq s b = pu s b true := by
  obtain ⟨S, rfl⟩ := Int.eq_ofNat_of_zero_le hs.1
  have hr := low_or ⟨S % 64, Nat.mod_lt _ (by decide)⟩
  simp only at hr
  unfold CM.oq pu
  rw [if_pos rfl]
  rcases hb with rfl | rfl | rfl | rfl | rfl | rfl
  all_goals (rw [Int.toNat_natCast]; simp only [Int.reduceToNat]; rw [or_low _ _ (by decide)]; omega)
theorem nt_bit (s b : Int) (hs : CM.Wd s) (hb : Bt b) : ((s.toNat &&& (4294967295 - b.toNat) : Nat) : Int) = pu s b false := by
  obtain ⟨S, rfl⟩ := Int.eq_ofNat_of_zero_le hs.1
  have hS : S < 4294967296 := by have := hs.2; omega
  have hr := low_not ⟨S % 64, Nat.mod_lt _ (by decide)⟩
  simp only at hr
  unfold pu
  rw [if_neg (by decide)]
  rcases hb with rfl | rfl | rfl | rfl | rfl | rfl
  all_goals (rw [Int.toNat_natCast]; simp only [Int.reduceToNat]; rw [not_low _ _ hS (by decide)]; simp only [Nat.reduceSub]; omega)
theorem an_51 (s : Int) (hs : CM.Wd s) : CM.an s 51 = s % 2 + s / 2 % 2 * 2 + s / 16 % 2 * 16 + s / 32 % 2 * 32 := by
  obtain ⟨S, rfl⟩ := Int.eq_ofNat_of_zero_le hs.1
  have hr := low_51 ⟨S % 64, Nat.mod_lt _ (by decide)⟩
  simp only at hr
  unfold CM.an
  rw [Int.toNat_natCast]; simp only [Int.reduceToNat]; rw [and_low _ _ (by decide)]; omega
theorem an_31 (s : Int) (hs : CM.Wd s) : CM.an s 31 = s % 32 := by
  obtain ⟨S, rfl⟩ := Int.eq_ofNat_of_zero_le hs.1
  unfold CM.an
  rw [Int.toNat_natCast]
  have : S &&& (31 : Int).toNat = S % 2 ^ 5 := Nat.and_two_pow_sub_one_eq_mod S 5
  rw [this]; omega
theorem hs_ne (s b : Int) (h : CM.Wd s) (hb : Bt b) : (CM.an s b != 0) = hs s b := by
  rw [an_bit s b h hb]
  unfold hs
  rcases hb with rfl | rfl | rfl | rfl | rfl | rfl
  all_goals (generalize hq : s / _ % 2 = q; obtain rfl | rfl : q = 0 ∨ q = 1 := by omega) <;> rfl
theorem pu_bd (s b : Int) (on : Bool) (h : CM.Wd s) (hb : Bt b) : CM.Wd (pu s b on) := by
  obtain ⟨h0, h1⟩ := h
  unfold pu CM.Wd
  rcases hb with rfl | rfl | rfl | rfl | rfl | rfl <;> cases on <;> simp only [if_true, if_false, Bool.false_eq_true] <;> omega
theorem hs_km (f : Nat → Int) : hs (f 17) 1 = CM.km f := by
  unfold hs CM.km
  rw [Int.ediv_one]
theorem or_pc (p : Int) (h : CM.Wd p) (he : p % 2 = 0) : CM.oq p 1 = p + 1 := by
  rw [oq_bit p 1 h (.inl rfl)]
  unfold pu
  rw [if_pos rfl]
  omega
end TR
end Go.Proofs.Ytfdcnbhnegdlfaa
