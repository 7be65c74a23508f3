/-
  Plain facts on instructions and their words: forms, fields, ranges, words and what is read from them; no condition, nothing of the program.
-/
import Derived.Test.YtfgkcjalfhbjjaaDoorS01MathC
namespace Go.Proofs.YtfgkcjalfhbjjaaDoor.S06
open S01
namespace IM
def fm (op : Int) : Int :=
  if 1 ≤ op ∧ op ≤ 20 ∨ op = 24 then 1 else if 21 ≤ op ∧ op ≤ 23 then 11 else if 25 ≤ op ∧ op ≤ 32 ∨ 34 ≤ op ∧ op ≤ 39 ∨ op = 50 then 2
  else if op = 33 ∨ op = 49 then 5 else if 40 ≤ op ∧ op ≤ 42 then 3 else if 43 ≤ op ∧ op ≤ 48 then 4 else if 51 ≤ op ∧ op ≤ 53 then 6
  else if op = 56 then 7 else if op = 57 then 8 else if op = 60 ∨ op = 62 then 9 else if op = 54 ∨ op = 55 ∨ op = 58 ∨ op = 59 ∨ op = 61 ∨ op = 63 then 10 else 0
theorem fm_bd (op : Int) : 0 ≤ fm op ∧ fm op ≤ 11 := by
  unfold fm; repeat' split
  all_goals omega
theorem fm_op (op : Int) (h : fm op ≠ 0) : 1 ≤ op ∧ op ≤ 63 := by
  unfold fm at h
  repeat' split at h
  all_goals omega
theorem fm_none (op : Int) (h : ¬ (1 ≤ op ∧ op ≤ 63)) : fm op = 0 := by
  unfold fm; repeat' split
  all_goals omega
theorem fm_some (op : Int) (h : 1 ≤ op ∧ op ≤ 63) : fm op ≠ 0 := by
  unfold fm; repeat' split
  all_goals omega
theorem fm_five (op : Int) : fm op = 5 ↔ op = 33 ∨ op = 49 := by
  unfold fm; repeat' split
  all_goals omega
def pv (op : Int) : Bool := decide (op = 55 ∨ op = 57 ∨ op = 59 ∨ op = 61)
/-- Has a form a field: 1 Rd, 2 Ra, 3 Rb, 4 Imm? -/
def hs (f j : Int) : Bool :=
  if j = 1 then decide (f = 1 ∨ f = 2 ∨ f = 5 ∨ f = 6 ∨ f = 7 ∨ f = 11)
  else if j = 2 then decide (f = 1 ∨ f = 2 ∨ f = 3 ∨ f = 4 ∨ f = 6 ∨ f = 8 ∨ f = 9 ∨ f = 11)
  else if j = 3 then decide (f = 1 ∨ f = 3 ∨ f = 4 ∨ f = 6)
  else decide (f = 2 ∨ f = 3 ∨ f = 4 ∨ f = 5 ∨ f = 7 ∨ f = 8)
/-- May a register's field be so? -/
def rg (h : Bool) (n : Int) : Bool := decide (n = 0) || (h && decide (0 ≤ n) && decide (n < 16))
theorem rg_no {n : Int} (h : rg false n = true) : n = 0 := by simpa [rg] using h
theorem rg_yes {b : Bool} {n : Int} (h : rg b n = true) : 0 ≤ n ∧ n < 16 := by
  cases b
  · have := rg_no h; omega
  · simp [rg] at h; omega
def lo (op : Int) : Int := if 30 ≤ op ∧ op ≤ 32 then 0 else if op = 33 then 0 else if op = 49 then -131072 else -8192
def hi (op : Int) : Int := if 30 ≤ op ∧ op ≤ 32 then 31 else if op = 33 then 262143 else if op = 49 then 131071 else 8191
/-- The first error of an instruction. -/
def rc (op d a b m : Int) : Int :=
  if fm op = 0 then 9 else
  if rg (hs (fm op) 1) d = false ∨ rg (hs (fm op) 2) a = false ∨ rg (hs (fm op) 3) b = false then 1 else
  if hs (fm op) 4 = false then (if m = 0 then 0 else 1) else
  if m < lo op ∨ hi op < m then 3 else 0
theorem rc_nine (op d a b m : Int) : rc op d a b m = 9 ↔ fm op = 0 := by
  unfold rc
  constructor
  · intro h
    split at h
    · assumption
    · split at h
      · omega
      · split at h
        · split at h <;> omega
        · split at h <;> omega
  · intro h; rw [if_pos h]
theorem rc_ok {op d a b m : Int} (h : rc op d a b m = 0) :
    (1 ≤ op ∧ op ≤ 63) ∧ (0 ≤ d ∧ d < 16) ∧ (0 ≤ a ∧ a < 16) ∧ (0 ≤ b ∧ b < 16) ∧ ((op = 33 ∨ op = 49) → a = 0 ∧ b = 0) ∧
    (op = 33 → 0 ≤ m ∧ m < 262144) ∧ (op = 49 → -131072 ≤ m ∧ m < 131072) ∧ (¬ op = 33 → ¬ op = 49 → -8192 ≤ m ∧ m < 8192) := by
  unfold rc at h
  split at h
  · omega
  · rename_i h0
    split at h
    · omega
    · rename_i hr
      have hr1 : rg (hs (fm op) 1) d = true := by cases hh : rg (hs (fm op) 1) d; exact absurd (Or.inl hh) hr; rfl
      have hr2 : rg (hs (fm op) 2) a = true := by cases hh : rg (hs (fm op) 2) a; exact absurd (Or.inr (Or.inl hh)) hr; rfl
      have hr3 : rg (hs (fm op) 3) b = true := by cases hh : rg (hs (fm op) 3) b; exact absurd (Or.inr (Or.inr hh)) hr; rfl
      refine ⟨fm_op op h0, rg_yes hr1, rg_yes hr2, rg_yes hr3, ?_, ?_⟩
      · intro h5
        rw [(fm_five op).2 h5] at hr2 hr3
        exact ⟨rg_no hr2, rg_no hr3⟩
      · split at h
        · rename_i h4
          have hm : m = 0 := by split at h; assumption; omega
          have hn : ¬ fm op = 5 := by intro h5; rw [h5] at h4; exact absurd h4 (by decide)
          rw [fm_five] at hn
          refine ⟨?_, ?_, ?_⟩ <;> intros <;> omega
        · split at h
          · omega
          · rename_i hm
            unfold lo hi at hm
            refine ⟨?_, ?_, ?_⟩
            · intro h3; subst h3; simp at hm; omega
            · intro h3; subst h3; simp at hm; omega
            · intro h3 h4
              rw [if_neg h3, if_neg h3, if_neg h4, if_neg h4] at hm
              split at hm <;> omega
/-- Imm at its place. -/
def iw (op m : Int) : Int := if fm op = 5 then m % 262144 else m % 16384
/-- The word of an instruction. -/
def ew (op d a b m : Int) : Int := op * 67108864 + d * 4194304 + a * 262144 + b * 16384 + iw op m
/-- The word, or 0 beside an error. -/
def ec (op d a b m : Int) : Int := if rc op d a b m = 0 then ew op d a b m else 0
/-- What stands in a word. -/
def dO (w : Int) : Int := w / 67108864
def dD (w : Int) : Int := w / 4194304 % 16
def dA (w : Int) : Int := w / 262144 % 16
def dB (w : Int) : Int := if dO w = 33 ∨ dO w = 49 then 0 else w / 16384 % 16
def dI (w : Int) : Int := if dO w = 33 then w % 262144 else if dO w = 49 then (if w % 262144 < 131072 then w % 262144 else w % 262144 - 262144) else (if w % 16384 < 8192 then w % 16384 else w % 16384 - 16384)
def dr (w : Int) : Int := rc (dO w) (dD w) (dA w) (dB w) (dI w)
/-- The code of a word. -/
def dc (w : Int) : Int := if dr w = 0 then 0 else if fm (dO w) = 0 then 9 else 2
def ko (w x : Int) : Int := if dr w = 0 then x else 0
theorem iw_five {op m : Int} (h : op = 33 ∨ op = 49) : iw op m = m % 262144 := by unfold iw; rw [if_pos ((fm_five op).2 h)]
theorem iw_other {op m : Int} (h : ¬ (op = 33 ∨ op = 49)) : iw op m = m % 16384 := by unfold iw; rw [if_neg (fun h5 => h ((fm_five op).1 h5))]
/-- What is written is read as it was. -/
theorem back {op d a b m : Int} (h : rc op d a b m = 0) :
    (0 ≤ ew op d a b m ∧ ew op d a b m < 4294967296) ∧ dO (ew op d a b m) = op ∧ dD (ew op d a b m) = d ∧ dA (ew op d a b m) = a ∧ dB (ew op d a b m) = b ∧ dI (ew op d a b m) = m := by
  obtain ⟨ho, hd, ha, hb, h5, h33, h49, hno⟩ := rc_ok h
  by_cases h3 : op = 33
  · subst h3
    obtain ⟨rfl, rfl⟩ := h5 (Or.inl rfl)
    obtain ⟨m0, m1⟩ := h33 rfl
    have e : ew 33 d 0 0 m = 33 * 67108864 + d * 4194304 + m := by unfold ew; rw [iw_five (Or.inl rfl)]; omega
    rw [e]
    have eO : dO (33 * 67108864 + d * 4194304 + m) = 33 := by unfold dO; omega
    unfold dB dI dD dA
    rw [eO]
    rw [if_pos (Or.inl rfl), if_pos rfl]
    refine ⟨⟨?_, ?_⟩, rfl, ?_, ?_, rfl, ?_⟩ <;> omega
  · by_cases h4 : op = 49
    · subst h4
      obtain ⟨rfl, rfl⟩ := h5 (Or.inr rfl)
      obtain ⟨m0, m1⟩ := h49 rfl
      have e : ew 49 d 0 0 m = 49 * 67108864 + d * 4194304 + m % 262144 := by unfold ew; rw [iw_five (Or.inr rfl)]; omega
      rw [e]
      have eO : dO (49 * 67108864 + d * 4194304 + m % 262144) = 49 := by unfold dO; omega
      unfold dB dI dD dA
      rw [eO]
      rw [if_pos (Or.inr rfl), if_neg (by decide), if_pos rfl]
      split <;> (refine ⟨⟨?_, ?_⟩, rfl, ?_, ?_, rfl, ?_⟩ <;> omega)
    · obtain ⟨m0, m1⟩ := hno h3 h4
      have e : ew op d a b m = op * 67108864 + d * 4194304 + a * 262144 + b * 16384 + m % 16384 := by unfold ew; rw [iw_other (by omega)]
      rw [e]
      have eO : dO (op * 67108864 + d * 4194304 + a * 262144 + b * 16384 + m % 16384) = op := by unfold dO; omega
      unfold dB dI dD dA
      rw [eO]
      rw [if_neg (by omega), if_neg h3, if_neg h4]
      split <;> (refine ⟨⟨?_, ?_⟩, rfl, ?_, ?_, ?_, ?_⟩ <;> omega)
theorem back_dr {op d a b m : Int} (h : rc op d a b m = 0) : dr (ew op d a b m) = 0 := by
  obtain ⟨-, e1, e2, e3, e4, e5⟩ := back h
  unfold dr; rw [e1, e2, e3, e4, e5]; exact h
/-- What is read is written as it was. -/
theorem forth {w : Int} (_h0 : 0 ≤ w) (_h1 : w < 4294967296) (h : dr w = 0) : ew (dO w) (dD w) (dA w) (dB w) (dI w) = w := by
  have h' := h
  unfold dr at h'
  obtain ⟨-, -, -, -, h5, -, -, -⟩ := rc_ok h'
  unfold ew
  by_cases h3 : dO w = 33
  · obtain ⟨ea, eb⟩ := h5 (Or.inl h3)
    rw [iw_five (Or.inl h3), ea, eb]
    have em : dI w = w % 262144 := by unfold dI; rw [if_pos h3]
    rw [em]
    unfold dO dD; unfold dA at ea
    omega
  · by_cases h4 : dO w = 49
    · obtain ⟨ea, eb⟩ := h5 (Or.inr h4)
      rw [iw_five (Or.inr h4), ea, eb]
      have em : dI w % 262144 = w % 262144 := by unfold dI; rw [if_neg h3, if_pos h4]; split <;> omega
      rw [em]
      unfold dO dD; unfold dA at ea
      omega
    · rw [iw_other (by omega)]
      have em : dI w % 16384 = w % 16384 := by unfold dI; rw [if_neg h3, if_neg h4]; split <;> omega
      have eb : dB w = w / 16384 % 16 := by unfold dB; rw [if_neg (by omega)]
      rw [em, eb]
      unfold dO dD dA
      omega
theorem apart {op d a b m op' d' a' b' m' : Int} (h : rc op d a b m = 0) (h' : rc op' d' a' b' m' = 0) (e : ew op d a b m = ew op' d' a' b' m') :
    op = op' ∧ d = d' ∧ a = a' ∧ b = b' ∧ m = m' := by
  obtain ⟨-, e1, e2, e3, e4, e5⟩ := back h
  obtain ⟨-, g1, g2, g3, g4, g5⟩ := back h'
  rw [e] at e1 e2 e3 e4 e5
  exact ⟨e1.symm.trans g1, e2.symm.trans g2, e3.symm.trans g3, e4.symm.trans g4, e5.symm.trans g5⟩
end IM
end Go.Proofs.YtfgkcjalfhbjjaaDoor.S06
