/-
  Plain facts: the consequences (sums, orders, turns) of what the operations make of words; nothing of the program, each under the bounds of its arguments.
-/
import Derived.Test.YtjlgaihihgifbaaMathC
namespace Go.Proofs.Ytjlgaihihgifbaa
namespace AM
open Go.RowKit S01

theorem beq_yes {a b : Int} (h : a = b) : (a == b) = true := by simpa using h
theorem beq_no {a b : Int} (h : a ≠ b) : (a == b) = false := by simpa using h
/- Sums. -/
theorem sum_sub (a b : Int) (a0 : 0 ≤ a) (a1 : a < 4294967296) : dv 2 (dv 1 a b) b = a := by
  show ((a + b) % 4294967296 - b) % 4294967296 = a
  omega
theorem sum_comm (a b : Int) : dv 1 a b = dv 1 b a := by
  show (a + b) % 4294967296 = (b + a) % 4294967296
  rw [Int.add_comm]
theorem sum_xor (a b : Int) (a0 : 0 ≤ a) (a1 : a < 4294967296) : dv 5 (dv 5 a b) b = a := by
  show xo (xo a b) b = a
  refine (su_of _ a a0 a1 fun j hj => ?_).symm
  unfold xo
  rw [su_bit _ j hj]
  cases a.toNat.testBit j <;> cases b.toNat.testBit j <;> rfl
theorem ob_and_or (f g : Nat → Bool) (k : Nat) : BM.ob (fun j => f j && g j) k + BM.ob (fun j => f j || g j) k = BM.ob f k + BM.ob g k := by
  induction k with
  | zero => rfl
  | succ k ih =>
    have e (h : Nat → Bool) : BM.ob h (k + 1) = BM.ob h k + (h k).toNat * 2 ^ k := rfl
    rw [e, e, e, e]
    cases f k <;> cases g k <;> simp <;> omega
theorem sum_and_or (a b : Int) (a0 : 0 ≤ a) (a1 : a < 4294967296) (b0 : 0 ≤ b) (b1 : b < 4294967296) : dv 3 a b + dv 4 a b = a + b := by
  show an a b + ow a b = a + b
  unfold an ow BM.su
  have h := ob_and_or a.toNat.testBit b.toNat.testBit 32
  rw [BM.ob_self a.toNat (by omega), BM.ob_self b.toNat (by omega)] at h
  omega
/-- The operations of the names of those with an immediate. -/
def ofs : Nat → Int
  | 0 => 1 | 1 => 3 | 2 => 4 | 3 => 5 | 4 => 9 | 5 => 6 | 6 => 7 | 7 => 8 | _ => 0
theorem imm_same (a b : Int) (k : Nat) (hk : k < 8) : dv (25 + (k : Int)) a b = dv (ofs k) a b := by
  rcases k with _ | _ | _ | _ | _ | _ | _ | _ | k
  all_goals first | rfl | omega
theorem imm_is (k : Nat) (hk : k < 8) : dk (25 + (k : Int)) = true := by
  rcases k with _ | _ | _ | _ | _ | _ | _ | _ | k
  all_goals first | rfl | omega
/- Orders. -/
theorem sv_inj (a b : Int) (a0 : 0 ≤ a) (a1 : a < 4294967296) (b0 : 0 ≤ b) (b1 : b < 4294967296) (h : sv a = sv b) : a = b := by
  have h1 := sv_mod a a0 a1
  have h2 := sv_mod b b0 b1
  omega
theorem one_iff (c : Bool) : (((c.toNat : Nat) : Int) == 1) = c := by cases c <;> rfl
theorem ord_of (P : Int → Int → Prop) [∀ x y, Decidable (P x y)] (a b c : Int) (hir : ∀ x, ¬ P x x) (htr : P a b → P b c → P a c) (has : P a b → ¬ P b a) (htot : a ≠ b → P a b ∨ P b a) :
    (decide (P a b) = true ∧ decide (P b a) = false ∧ (a == b) = false ∧ (decide (P b c) = false ∨ decide (P b c) = true ∧ decide (P a c) = true)) ∨
    (decide (P a b) = false ∧ decide (P b a) = true ∧ (a == b) = false) ∨ (decide (P a b) = false ∧ decide (P b a) = false ∧ (a == b) = true) := by
  by_cases h1 : P a b
  · refine .inl ⟨decide_eq_true h1, decide_eq_false (has h1), beq_no fun e => ?_, ?_⟩
    · rw [e] at h1; exact hir b h1
    · by_cases h2 : P b c
      · exact .inr ⟨decide_eq_true h2, decide_eq_true (htr h1 h2)⟩
      · exact .inl (decide_eq_false h2)
  · by_cases h2 : P b a
    · refine .inr (.inl ⟨decide_eq_false h1, decide_eq_true h2, beq_no fun e => ?_⟩)
      rw [e] at h2; exact hir b h2
    · refine .inr (.inr ⟨decide_eq_false h1, decide_eq_false h2, beq_yes ?_⟩)
      apply Classical.byContradiction
      intro hne
      rcases htot hne with h | h
      · exact h1 h
      · exact h2 h
/-- What a round of the law of orders asks, for slt (k = 0) and sltu (k = 1). -/
theorem ord_round (k : Nat) (hk : k < 2) (a b c : Int) (a0 : 0 ≤ a) (a1 : a < 4294967296) (b0 : 0 ≤ b) (b1 : b < 4294967296) :
    ∃ p : Bool, (dv (9 + (k : Int)) a b == 1) = p ∧ tk (45 + 2 * (k : Int)) a b = p ∧ tk (46 + 2 * (k : Int)) a b = !p ∧
    ((p = true ∧ (dv (9 + (k : Int)) b a == 1) = false ∧ (a == b) = false ∧ ((dv (9 + (k : Int)) b c == 1) = false ∨ (dv (9 + (k : Int)) b c == 1) = true ∧ (dv (9 + (k : Int)) a c == 1) = true)) ∨
    (p = false ∧ (dv (9 + (k : Int)) b a == 1) = true ∧ (a == b) = false) ∨ (p = false ∧ (dv (9 + (k : Int)) b a == 1) = false ∧ (a == b) = true)) := by
  rcases k with _ | _ | k
  · have d (x y : Int) : (dv (9 + ((0 : Nat) : Int)) x y == 1) = decide (sv x < sv y) := one_iff _
    refine ⟨decide (sv a < sv b), d a b, rfl, rfl, ?_⟩
    rw [d, d, d]
    exact ord_of (fun x y => sv x < sv y) a b c (fun x => by omega) (fun h1 h2 => by omega) (fun h => by omega) fun hne => by
      have : sv a ≠ sv b := fun e => hne (sv_inj a b a0 a1 b0 b1 e)
      omega
  · have d (x y : Int) : (dv (9 + ((0 + 1 : Nat) : Int)) x y == 1) = decide (x < y) := one_iff _
    refine ⟨decide (a < b), d a b, rfl, rfl, ?_⟩
    rw [d, d, d]
    exact ord_of (fun x y => x < y) a b c (fun x => by omega) (fun h1 h2 => by omega) (fun h => by omega) fun hne => by omega
  · omega
theorem min_max (a b : Int) : (dv 18 a b = a ∧ dv 19 a b = b ∨ dv 18 a b = b ∧ dv 19 a b = a) ∨ sv a = sv b := by
  show ((if sv b < sv a then b else a) = a ∧ (if sv a < sv b then b else a) = b ∨ (if sv b < sv a then b else a) = b ∧ (if sv a < sv b then b else a) = a) ∨ sv a = sv b
  by_cases h : sv b < sv a
  · rw [if_pos h, if_neg (by omega)]; exact .inl (.inr ⟨rfl, rfl⟩)
  · rw [if_neg h]
    by_cases h2 : sv a < sv b
    · rw [if_pos h2]; exact .inl (.inl ⟨rfl, rfl⟩)
    · exact .inr (by omega)
theorem min_max_sum (a b : Int) (a0 : 0 ≤ a) (a1 : a < 4294967296) (b0 : 0 ≤ b) (b1 : b < 4294967296) : dv 18 a b + dv 19 a b = a + b := by
  rcases min_max a b with (⟨h1, h2⟩ | ⟨h1, h2⟩) | h
  · rw [h1, h2]
  · rw [h1, h2, Int.add_comm]
  · have e := sv_inj a b a0 a1 b0 b1 h
    subst e
    show (if sv a < sv a then a else a) + (if sv a < sv a then a else a) = a + a
    rw [if_neg (by omega)]
theorem min_or (a b : Int) : dv 18 a b = a ∨ dv 18 a b = b := by
  show (if sv b < sv a then b else a) = a ∨ (if sv b < sv a then b else a) = b
  split
  · exact .inr rfl
  · exact .inl rfl
theorem max_min (a b : Int) : (dv 9 (dv 19 a b) (dv 18 a b) == 1) = false := by
  refine (one_iff _).trans (decide_eq_false ?_)
  show ¬ sv (if sv a < sv b then b else a) < sv (if sv b < sv a then b else a)
  by_cases h : sv b < sv a
  · rw [if_pos h, if_neg (by omega)]; omega
  · rw [if_neg h]
    by_cases h2 : sv a < sv b
    · rw [if_pos h2]; omega
    · rw [if_neg h2]; omega
/-- The word with the other sign. -/
def fl (a : Int) : Int := (a + 2147483648) % 4294967296
theorem fl_bd (a : Int) : 0 ≤ fl a ∧ fl a < 4294967296 := by unfold fl; omega
theorem fl_xor (a : Int) (a0 : 0 ≤ a) (a1 : a < 4294967296) : bits .xor .u32 a 2147483648 = fl a := by
  rw [xor_end a 2147483648 a0 a1 (by omega) (by omega)]
  obtain ⟨f0, f1⟩ := fl_bd a
  refine (su_of _ (fl a) f0 f1 fun j hj => ?_).symm
  have hc : (2147483648 : Int).toNat.testBit j = decide (j = 31) := by
    rw [show (2147483648 : Int).toNat = 2 ^ 31 by decide, Nat.testBit_two_pow]
    simp [eq_comm]
  rw [hc]
  have hlow : a.toNat = 2 ^ 31 * (a.toNat / 2147483648) + a.toNat % 2147483648 := by omega
  have hfl : (fl a).toNat = 2 ^ 31 * (1 - a.toNat / 2147483648) + a.toNat % 2147483648 := by unfold fl; omega
  have hm : a.toNat % 2147483648 < 2 ^ 31 := by omega
  have hq : a.toNat / 2147483648 = 0 ∨ a.toNat / 2147483648 = 1 := by omega
  have e1 : a.toNat.testBit j = (2 ^ 31 * (a.toNat / 2147483648) + a.toNat % 2147483648).testBit j := by rw [← hlow]
  rw [hfl, e1, Nat.testBit_two_pow_mul_add _ hm, Nat.testBit_two_pow_mul_add _ hm]
  by_cases h : j < 31
  · rw [if_pos h, if_pos h, decide_eq_false (by omega)]; simp
  · obtain rfl : j = 31 := by omega
    rw [if_neg h, if_neg h]
    rcases hq with h | h <;> rw [h] <;> decide
theorem fl_order (a b : Int) (a0 : 0 ≤ a) (a1 : a < 4294967296) (b0 : 0 ≤ b) (b1 : b < 4294967296) : dv 9 a b = dv 10 (fl a) (fl b) := by
  show ((decide (sv a < sv b)).toNat : Int) = ((decide (fl a < fl b)).toNat : Int)
  have : sv a < sv b ↔ fl a < fl b := by
    unfold sv fl
    split <;> split <;> omega
  rw [decide_eq_decide.2 this]
/- Turns. -/
theorem turn_back (x n : Int) (x0 : 0 ≤ x) (x1 : x < 4294967296) : dv 20 (dv 20 x n) (32 - n % 32) = x := by
  show BM.rt (BM.rt x (n % 32)) ((32 - n % 32) % 32) = x
  rw [BM.rt_rt x (n % 32) ((32 - n % 32) % 32) 0 (by omega)]
  exact BM.rt_zero x 0 x0 x1 (by decide)
theorem cn_turn (f : Nat → Bool) (r : Nat) (hr : r < 32) : cn (fun j => f ((j + r) % 32)) 32 = cn f 32 := by
  have h1 := cn_add (fun j => f ((j + r) % 32)) (32 - r) r
  have h2 := cn_add f r (32 - r)
  rw [show 32 - r + r = 32 by omega] at h1
  rw [show r + (32 - r) = 32 by omega] at h2
  have e1 : cn (fun j => f ((j + r) % 32)) (32 - r) = cn (fun j => f (r + j)) (32 - r) := cn_congr _ _ _ fun j hj => by
    show f ((j + r) % 32) = f (r + j)
    rw [show (j + r) % 32 = r + j by omega]
  have e2 : cn (fun j => f ((32 - r + j + r) % 32)) r = cn f r := cn_congr _ _ _ fun j hj => by
    show f ((32 - r + j + r) % 32) = f j
    rw [show (32 - r + j + r) % 32 = j by omega]
  rw [h1, h2]
  show cn (fun j => f ((j + r) % 32)) (32 - r) + cn (fun j => f ((32 - r + j + r) % 32)) r = _
  rw [e1, e2]
  omega
theorem turn_pc (x n : Int) : pc (dv 20 x n) = pc x := by
  show pc (BM.rt x (n % 32)) = pc x
  have hr : (n % 32 % 32).toNat < 32 := by omega
  unfold pc BM.rt
  rw [Int.toNat_natCast, ← cn_turn x.toNat.testBit (n % 32 % 32).toNat hr]
  congr 1
  exact cn_congr _ _ _ fun j hj => by rw [BM.rtN_bit, decide_eq_true hj, Bool.true_and]
theorem not_pc (x : Int) (x0 : 0 ≤ x) (x1 : x < 4294967296) : pc x + pc (4294967295 - x) = 32 := by
  unfold pc
  have h := cn_not x.toNat.testBit 32
  have e : cn (4294967295 - x).toNat.testBit 32 = cn (fun j => !x.toNat.testBit j) 32 := cn_congr _ _ _ fun j hj => by
    rw [show (4294967295 - x).toNat = 2 ^ 32 - (x.toNat + 1) by omega, Nat.testBit_two_pow_sub_succ (by omega), decide_eq_true hj, Bool.true_and]
  rw [e]
  omega
theorem up_down (x n : Int) (x0 : 0 ≤ x) : dv 7 (dv 6 x n) n = x % ((2 ^ (32 - n % 32).toNat : Nat) : Int) := by
  show mv (mv x (-(n % 32)) false) (n % 32) false = _
  have hp : 0 < 2 ^ (32 - n % 32).toNat := Nat.two_pow_pos _
  have hq : 2 ^ (32 - n % 32).toNat ≤ 2 ^ 32 := Nat.pow_le_pow_right (by decide) (by omega)
  have e : x % ((2 ^ (32 - n % 32).toNat : Nat) : Int) = ((x.toNat % 2 ^ (32 - n % 32).toNat : Nat) : Int) := by
    rw [Int.natCast_emod, Int.toNat_of_nonneg x0]
  have hlt : x.toNat % 2 ^ (32 - n % 32).toNat < 2 ^ (32 - n % 32).toNat := Nat.mod_lt _ hp
  rw [e]
  refine (su_of _ _ (Int.natCast_nonneg _) (by omega) fun j hj => ?_).symm
  rw [Int.toNat_natCast, Nat.testBit_mod_two_pow]
  unfold mvf
  split
  · rw [decide_eq_true (by omega), Bool.true_and]
    unfold mv
    rw [su_bit _ _ (by omega)]
    unfold mvf
    rw [if_pos (by omega)]
    congr 1
    omega
  · rw [decide_eq_false (by omega), Bool.false_and]
theorem up_down_zero (x n : Int) (x0 : 0 ≤ x) (x1 : x < 4294967296) (h : n % 32 = 0) : dv 7 (dv 6 x n) n = x := by
  rw [up_down x n x0, h]
  show x % 4294967296 = x
  omega
theorem cz_of_zero : cz 0 = 32 := by decide +kernel
theorem cz_pos (x : Int) (x0 : 0 ≤ x) (x1 : x < 4294967296) (h : x ≠ 0) : 0 ≤ cz x ∧ cz x ≤ 31 ∧ dv 7 x (31 - cz x) = 1 := by
  have hx : x.toNat ≠ 0 := by omega
  have h1 := Nat.log2_self_le hx
  have h2 := Nat.lt_log2_self (n := x.toNat)
  have h3 : x.toNat.log2 < 32 := by
    apply Classical.byContradiction
    intro hn
    have := Nat.pow_le_pow_right (show 0 < 2 by decide) (show 32 ≤ x.toNat.log2 by omega)
    omega
  have hb := bitLen_at x.toNat x.toNat.log2 h1 h2 (by omega)
  have hc : cz x = 31 - x.toNat.log2 := by unfold cz; rw [hb]; omega
  refine ⟨by omega, by omega, ?_⟩
  show mv x ((31 - cz x) % 32) false = 1
  rw [← srl_end x (31 - cz x) x0 x1, BM.div_nat _ _ x0, show ((31 - cz x) % 32).toNat = x.toNat.log2 by omega]
  rw [Nat.pow_succ] at h2
  rw [Nat.div_eq_of_lt_le (by omega) (by omega) (m := x.toNat) (k := 1)]
  rfl
end AM
end Go.Proofs.Ytjlgaihihgifbaa
