/-
  An argument that is a struct whose fields take one cell each, of any number of fields: its values, each with its own reading; no condition besides, nothing of the program.
  Plain facts on instructions and their words: forms, fields, ranges, words and what is read from them; no condition, nothing of the program.
  Fields of words as quotients and remainders, and a word put together field by field; no condition, nothing of the program.
-/
import Derived.Lib.SmallJoins
import Derived.Test.YtcnmnkgnaknpdaaGreatDoorGa

/-! S06Open -/
namespace Go.Proofs.YtcnmnkgnaknpdaaGreatDoor.S06
open Go.ChangeShapes Go.WideShapes Go.RowKit Go.Joins Go.Deep
theorem one_taken {l : List Value} {j : Nat} (h : j < l.length) : ∃ c, l[j]? = some c ∧ (l.drop j).take 1 = [c] := by
  refine ⟨l[j], List.getElem?_eq_getElem h, ?_⟩
  rw [List.drop_eq_getElem_cons h]; rfl
theorem open_fields {H : Type} {enc : TypeId × Value → H} {P : Program} {w : World} {base b0 : Nat} {spare : Nat → Bool} {held : Bool} {r : Reach} {t : TypeId} {fs : Array Field} {v : Value} {d : DataW H} {p : List MemPlace}
    (hs : P.underlying t = some (.struct fs)) (hone : oneCellFields P fs = true) (hC : P.cellsOf t = fs.size) (hv : Value.okWide P w r b0 t v) (h : DataW.Trod enc P w base spare held t v d p) :
    ∃ l : List Value, v = .agg l.toArray ∧ l.length = fs.size ∧ ∀ (j : Nat) (f : Field), fs[j]? = some f → ∃ (c : Value) (y : DataW H × List MemPlace) (n : Nat), l[j]? = some c ∧ DataW.trod enc P w base spare held n f.type [c] = some y := by
  obtain ⟨⟨l⟩, rfl, hsz⟩ := okWide_struct hs hv
  have hl : l.length = fs.size := hsz.trans hC
  obtain ⟨fuel, hf⟩ := h
  obtain ⟨xs, n, -, -, -, hlen, hg⟩ := DataW.trod_struct hs hf
  refine ⟨l, rfl, hl, fun j f hj => ?_⟩
  obtain ⟨ho, hk⟩ := hone_of hone j f hj
  have hjs : j < fs.size := (Array.getElem?_eq_some_iff.1 hj).1
  obtain ⟨c, hc, ht⟩ := one_taken (l := l) (j := j) (by omega)
  have h1 := hg j f hj
  rw [ho, hk] at h1
  have h2 : (Value.agg l.toArray).cells.toList = l := rfl
  rw [h2, ht, List.getElem?_eq_getElem (by omega)] at h1
  exact ⟨c, _, n, hc, h1⟩
end Go.Proofs.YtcnmnkgnaknpdaaGreatDoor.S06
/-! S06Math -/
namespace Go.Proofs.YtcnmnkgnaknpdaaGreatDoor.S06
open S01
namespace IM
def fm (op : Int) : Int :=
  if 1 ≤ op ∧ op ≤ 20 ∨ op = 24 then 1 else if 21 ≤ op ∧ op ≤ 23 then 11 else if 25 ≤ op ∧ op ≤ 32 ∨ 34 ≤ op ∧ op ≤ 39 ∨ op = 50 then 2
  else if op = 33 ∨ op = 49 then 5 else if 40 ≤ op ∧ op ≤ 42 then 3 else if 43 ≤ op ∧ op ≤ 48 then 4 else if 51 ≤ op ∧ op ≤ 53 then 6
  else if op = 56 then 7 else if op = 57 then 8 else if op = 60 ∨ op = 62 then 9 else if op = 54 ∨ op = 55 ∨ op = 58 ∨ op = 59 ∨ op = 61 ∨ op = 63 then 10 else 0
theorem fm_bd (op : Int) : 0 ≤ fm op ∧ fm op ≤ 11 := by
  unfold fm; repeat' split
  all_goals omega
theorem fm_op (op : Int) (h : fm op ≠ 0) : 1 ≤ op ∧ op ≤ 63 := by
  unfold fm at h
  repeat' split at h
  all_goals omega
theorem fm_none (op : Int) (h : ¬ (1 ≤ op ∧ op ≤ 63)) : fm op = 0 := by
  unfold fm; repeat' split
  all_goals omega
theorem fm_some (op : Int) (h : 1 ≤ op ∧ op ≤ 63) : fm op ≠ 0 := by
  unfold fm; repeat' split
  all_goals omega
theorem fm_five (op : Int) : fm op = 5 ↔ op = 33 ∨ op = 49 := by
  unfold fm; repeat' split
  all_goals omega
def pv (op : Int) : Bool := decide (op = 55 ∨ op = 57 ∨ op = 59 ∨ op = 61)
/-- Has a form a field: 1 Rd, 2 Ra, 3 Rb, 4 Imm? -/
def hs (f j : Int) : Bool :=
  if j = 1 then decide (f = 1 ∨ f = 2 ∨ f = 5 ∨ f = 6 ∨ f = 7 ∨ f = 11)
  else if j = 2 then decide (f = 1 ∨ f = 2 ∨ f = 3 ∨ f = 4 ∨ f = 6 ∨ f = 8 ∨ f = 9 ∨ f = 11)
  else if j = 3 then decide (f = 1 ∨ f = 3 ∨ f = 4 ∨ f = 6)
  else decide (f = 2 ∨ f = 3 ∨ f = 4 ∨ f = 5 ∨ f = 7 ∨ f = 8)
/-- May a register's field be so? -/
def rg (h : Bool) (n : Int) : Bool := decide (n = 0) || (h && decide (0 ≤ n) && decide (n < 16))
theorem rg_no {n : Int} (h : rg false n = true) : n = 0 := by simpa [rg] using h
theorem rg_yes {b : Bool} {n : Int} (h : rg b n = true) : 0 ≤ n ∧ n < 16 := by
  cases b
  · have := rg_no h; omega
  · simp [rg] at h; omega
def lo (op : Int) : Int := if 30 ≤ op ∧ op ≤ 32 then 0 else if op = 33 then 0 else if op = 49 then -131072 else -8192
def hi (op : Int) : Int := if 30 ≤ op ∧ op ≤ 32 then 31 else if op = 33 then 262143 else if op = 49 then 131071 else 8191
/-- The first error of an instruction. -/
def rc (op d a b m : Int) : Int :=
  if fm op = 0 then 9 else
  if rg (hs (fm op) 1) d = false ∨ rg (hs (fm op) 2) a = false ∨ rg (hs (fm op) 3) b = false then 1 else
  if hs (fm op) 4 = false then (if m = 0 then 0 else 1) else
  if m < lo op ∨ hi op < m then 3 else 0
theorem rc_nine (op d a b m : Int) : rc op d a b m = 9 ↔ fm op = 0 := by
  unfold rc
  constructor
  · intro h
    split at h
    · assumption
    · split at h
      · omega
      · split at h
        · split at h <;> omega
        · split at h <;> omega
  · intro h; rw [if_pos h]
theorem rc_ok {op d a b m : Int} (h : rc op d a b m = 0) :
    (1 ≤ op ∧ op ≤ 63) ∧ (0 ≤ d ∧ d < 16) ∧ (0 ≤ a ∧ a < 16) ∧ (0 ≤ b ∧ b < 16) ∧ ((op = 33 ∨ op = 49) → a = 0 ∧ b = 0) ∧
    (op = 33 → 0 ≤ m ∧ m < 262144) ∧ (op = 49 → -131072 ≤ m ∧ m < 131072) ∧ (¬ op = 33 → ¬ op = 49 → -8192 ≤ m ∧ m < 8192) := by
  unfold rc at h
  split at h
  · omega
  · rename_i h0
    split at h
    · omega
    · rename_i hr
      have hr1 : rg (hs (fm op) 1) d = true := by cases hh : rg (hs (fm op) 1) d; exact absurd (Or.inl hh) hr; rfl
      have hr2 : rg (hs (fm op) 2) a = true := by cases hh : rg (hs (fm op) 2) a; exact absurd (Or.inr (Or.inl hh)) hr; rfl
      have hr3 : rg (hs (fm op) 3) b = true := by cases hh : rg (hs (fm op) 3) b; exact absurd (Or.inr (Or.inr hh)) hr; rfl
      refine ⟨fm_op op h0, rg_yes hr1, rg_yes hr2, rg_yes hr3, ?_, ?_⟩
      · intro h5
        rw [(fm_five op).2 h5] at hr2 hr3
        exact ⟨rg_no hr2, rg_no hr3⟩
      · split at h
        · rename_i h4
          have hm : m = 0 := by split at h; assumption; omega
          have hn : ¬ fm op = 5 := by intro h5; rw [h5] at h4; exact absurd h4 (by decide)
          rw [fm_five] at hn
          refine ⟨?_, ?_, ?_⟩ <;> intros <;> omega
        · split at h
          · omega
          · rename_i hm
            unfold lo hi at hm
            refine ⟨?_, ?_, ?_⟩
            · intro h3; subst h3; simp at hm; omega
            · intro h3; subst h3; simp at hm; omega
            · intro h3 h4
              rw [if_neg h3, if_neg h3, if_neg h4, if_neg h4] at hm
              split at hm <;> omega
/-- Imm at its place. -/
def iw (op m : Int) : Int := if fm op = 5 then m % 262144 else m % 16384
/-- The word of an instruction. -/
def ew (op d a b m : Int) : Int := op * 67108864 + d * 4194304 + a * 262144 + b * 16384 + iw op m
/-- The word, or 0 beside an error. -/
def ec (op d a b m : Int) : Int := if rc op d a b m = 0 then ew op d a b m else 0
/-- What stands in a word. -/
def dO (w : Int) : Int := w / 67108864
def dD (w : Int) : Int := w / 4194304 % 16
def dA (w : Int) : Int := w / 262144 % 16
def dB (w : Int) : Int := if dO w = 33 ∨ dO w = 49 then 0 else w / 16384 % 16
def dI (w : Int) : Int := if dO w = 33 then w % 262144 else if dO w = 49 then (if w % 262144 < 131072 then w % 262144 else w % 262144 - 262144) else (if w % 16384 < 8192 then w % 16384 else w % 16384 - 16384)
def dr (w : Int) : Int := rc (dO w) (dD w) (dA w) (dB w) (dI w)
/-- The code of a word. -/
def dc (w : Int) : Int := if dr w = 0 then 0 else if fm (dO w) = 0 then 9 else 2
def ko (w x : Int) : Int := if dr w = 0 then x else 0
theorem iw_five {op m : Int} (h : op = 33 ∨ op = 49) : iw op m = m % 262144 := by unfold iw; rw [if_pos ((fm_five op).2 h)]
theorem iw_other {op m : Int} (h : ¬ (op = 33 ∨ op = 49)) : iw op m = m % 16384 := by unfold iw; rw [if_neg (fun h5 => h ((fm_five op).1 h5))]
/-- What is written is read as it was. -/
theorem back {op d a b m : Int} (h : rc op d a b m = 0) :
    (0 ≤ ew op d a b m ∧ ew op d a b m < 4294967296) ∧ dO (ew op d a b m) = op ∧ dD (ew op d a b m) = d ∧ dA (ew op d a b m) = a ∧ dB (ew op d a b m) = b ∧ dI (ew op d a b m) = m := by
  obtain ⟨ho, hd, ha, hb, h5, h33, h49, hno⟩ := rc_ok h
  by_cases h3 : op = 33
  · subst h3
    obtain ⟨rfl, rfl⟩ := h5 (Or.inl rfl)
    obtain ⟨m0, m1⟩ := h33 rfl
    have e : ew 33 d 0 0 m = 33 * 67108864 + d * 4194304 + m := by unfold ew; rw [iw_five (Or.inl rfl)]; omega
    rw [e]
    have eO : dO (33 * 67108864 + d * 4194304 + m) = 33 := by unfold dO; omega
    unfold dB dI dD dA
    rw [eO]
    rw [if_pos (Or.inl rfl), if_pos rfl]
    refine ⟨⟨?_, ?_⟩, rfl, ?_, ?_, rfl, ?_⟩ <;> omega
  · by_cases h4 : op = 49
    · subst h4
      obtain ⟨rfl, rfl⟩ := h5 (Or.inr rfl)
      obtain ⟨m0, m1⟩ := h49 rfl
      have e : ew 49 d 0 0 m = 49 * 67108864 + d * 4194304 + m % 262144 := by unfold ew; rw [iw_five (Or.inr rfl)]; omega
      rw [e]
      have eO : dO (49 * 67108864 + d * 4194304 + m % 262144) = 49 := by unfold dO; omega
      unfold dB dI dD dA
      rw [eO]
      rw [if_pos (Or.inr rfl), if_neg (by decide), if_pos rfl]
      split <;> (refine ⟨⟨?_, ?_⟩, rfl, ?_, ?_, rfl, ?_⟩ <;> omega)
    · obtain ⟨m0, m1⟩ := hno h3 h4
      have e : ew op d a b m = op * 67108864 + d * 4194304 + a * 262144 + b * 16384 + m % 16384 := by unfold ew; rw [iw_other (by omega)]
      rw [e]
      have eO : dO (op * 67108864 + d * 4194304 + a * 262144 + b * 16384 + m % 16384) = op := by unfold dO; omega
      unfold dB dI dD dA
      rw [eO]
      rw [if_neg (by omega), if_neg h3, if_neg h4]
      split <;> (refine ⟨⟨?_, ?_⟩, rfl, ?_, ?_, ?_, ?_⟩ <;> omega)
theorem back_dr {op d a b m : Int} (h : rc op d a b m = 0) : dr (ew op d a b m) = 0 := by
  obtain ⟨-, e1, e2, e3, e4, e5⟩ := back h
  unfold dr; rw [e1, e2, e3, e4, e5]; exact h
/-- What is read is written as it was. -/
theorem forth {w : Int} (_h0 : 0 ≤ w) (_h1 : w < 4294967296) (h : dr w = 0) : ew (dO w) (dD w) (dA w) (dB w) (dI w) = w := by
  have h' := h
  unfold dr at h'
  obtain ⟨-, -, -, -, h5, -, -, -⟩ := rc_ok h'
  unfold ew
  by_cases h3 : dO w = 33
  · obtain ⟨ea, eb⟩ := h5 (Or.inl h3)
    rw [iw_five (Or.inl h3), ea, eb]
    have em : dI w = w % 262144 := by unfold dI; rw [if_pos h3]
    rw [em]
    unfold dO dD; unfold dA at ea
    omega
  · by_cases h4 : dO w = 49
    · obtain ⟨ea, eb⟩ := h5 (Or.inr h4)
      rw [iw_five (Or.inr h4), ea, eb]
      have em : dI w % 262144 = w % 262144 := by unfold dI; rw [if_neg h3, if_pos h4]; split <;> omega
      rw [em]
      unfold dO dD; unfold dA at ea
      omega
    · rw [iw_other (by omega)]
      have em : dI w % 16384 = w % 16384 := by unfold dI; rw [if_neg h3, if_neg h4]; split <;> omega
      have eb : dB w = w / 16384 % 16 := by unfold dB; rw [if_neg (by omega)]
      rw [em, eb]
      unfold dO dD dA
      omega
theorem apart {op d a b m op' d' a' b' m' : Int} (h : rc op d a b m = 0) (h' : rc op' d' a' b' m' = 0) (e : ew op d a b m = ew op' d' a' b' m') :
    op = op' ∧ d = d' ∧ a = a' ∧ b = b' ∧ m = m' := by
  obtain ⟨-, e1, e2, e3, e4, e5⟩ := back h
  obtain ⟨-, g1, g2, g3, g4, g5⟩ := back h'
  rw [e] at e1 e2 e3 e4 e5
  exact ⟨e1.symm.trans g1, e2.symm.trans g2, e3.symm.trans g3, e4.symm.trans g4, e5.symm.trans g5⟩
end IM
end Go.Proofs.YtcnmnkgnaknpdaaGreatDoor.S06
/-! S06MathB -/
namespace Go.Proofs.YtcnmnkgnaknpdaaGreatDoor.S06
open S01
namespace IM
theorem ptN_at (X h l n v : Nat) (hl : h + 1 = l + n) (_hh : h ≤ 31) (hX : X * 2 ^ (h + 1) + 2 ^ (h + 1) ≤ 4294967296) :
    BM.ptN (X * 2 ^ (h + 1)) h l v = X * 2 ^ (h + 1) + v % 2 ^ n * 2 ^ l := by
  have hv : v % 2 ^ n < 2 ^ n := Nat.mod_lt _ (Nat.two_pow_pos n)
  have hp : (2 : Nat) ^ (h + 1) = 2 ^ l * 2 ^ n := by rw [hl, Nat.pow_add]
  have hq : 2 ^ l * (v % 2 ^ n) + 2 ^ l ≤ 2 ^ l * 2 ^ n := by
    have := Nat.mul_le_mul_left (2 ^ l) (Nat.succ_le_of_lt hv)
    rw [Nat.mul_succ] at this
    exact this
  have hlp : 0 < 2 ^ l := Nat.two_pow_pos l
  have e : X * 2 ^ (h + 1) + v % 2 ^ n * 2 ^ l = 2 ^ l * (2 ^ n * X + v % 2 ^ n) := by
    rw [Nat.mul_add, hp, Nat.mul_comm X, Nat.mul_assoc, Nat.mul_comm (v % 2 ^ n)]
  refine BM.ext32 (BM.ptN_lt _ _ _ _) ?_ ?_
  · rw [Nat.mul_comm (v % 2 ^ n)]; rw [← hp] at hq; omega
  · intro j hj
    rw [BM.ptN_bit, e, Nat.testBit_two_pow_mul, Nat.testBit_two_pow_mul_add _ hv, Nat.testBit_mod_two_pow, Nat.mul_comm X, Nat.testBit_two_pow_mul]
    by_cases h1 : l ≤ j
    · by_cases h2 : j ≤ h
      · have h3 : j - l < n := by omega
        simp [hj, h1, h2, h3]
      · have h3 : ¬ j - l < n := by omega
        have h4 : h + 1 ≤ j := by omega
        have h5 : j - (h + 1) = j - l - n := by omega
        simp [hj, h1, h2, h3, h4, h5]
    · have h4 : ¬ h + 1 ≤ j := by omega
      simp [hj, h1, h4]
theorem pt_at (X v : Int) (h l n : Nat) (hn : 1 ≤ n) (hl : h + 1 = l + n) (hh : h ≤ 31) (h0 : 0 ≤ X) (hv : 0 ≤ v) (hX : X * 2 ^ (h + 1) + 2 ^ (h + 1) ≤ 4294967296) :
    BM.pt (X * 2 ^ (h + 1)) h l v = X * 2 ^ (h + 1) + v % 2 ^ n * 2 ^ l := by
  obtain ⟨X, rfl⟩ := Int.eq_ofNat_of_zero_le h0
  obtain ⟨v, rfl⟩ := Int.eq_ofNat_of_zero_le hv
  unfold BM.pt
  rw [BM.cl_in _ _ _ (by omega) (by omega), BM.cl_in _ _ _ (by omega) (by omega)]
  have e : ((X : Int) * 2 ^ (h + 1)).toNat = X * 2 ^ (h + 1) := by
    rw [show (X : Int) * 2 ^ (h + 1) = ((X * 2 ^ (h + 1) : Nat) : Int) by push_cast; rfl]; rfl
  rw [e]
  simp only [Int.toNat_natCast]
  have hX' : ((X * 2 ^ (h + 1) + 2 ^ (h + 1) : Nat) : Int) ≤ ((4294967296 : Nat) : Int) := by rw [Int.natCast_add, Int.natCast_mul, Int.natCast_pow]; exact hX
  rw [ptN_at X h l n v hl hh (Int.ofNat_le.1 hX')]
  push_cast; rfl
theorem fd_at (x : Int) (h l n : Nat) (hn : 1 ≤ n) (hl : h + 1 = l + n) (hh : h ≤ 31) (h0 : 0 ≤ x) : BM.fd x h l = x / 2 ^ l % 2 ^ n := by
  obtain ⟨x, rfl⟩ := Int.eq_ofNat_of_zero_le h0
  unfold BM.fd BM.fdN
  rw [BM.cl_in _ _ _ (by omega) (by omega), BM.cl_in _ _ _ (by omega) (by omega)]
  simp only [Int.toNat_natCast]
  have e : (fun j => x.testBit (j + l)) = (x / 2 ^ l).testBit := by
    funext j; rw [Nat.testBit_div_two_pow, Nat.add_comm]
  rw [e, BM.ob_mod, show h + 1 - l = n by omega]
  push_cast; rfl
theorem fO (x : Int) (h0 : 0 ≤ x) (h1 : x < 4294967296) : BM.fd x 31 26 = dO x := by
  have := fd_at x 31 26 6 (by decide) (by decide) (by decide) h0
  rw [show ((31 : Nat) : Int) = 31 from rfl, show ((26 : Nat) : Int) = 26 from rfl] at this
  rw [this]; unfold dO; omega
theorem fD (x : Int) (h0 : 0 ≤ x) : BM.fd x 25 22 = dD x := fd_at x 25 22 4 (by decide) (by decide) (by decide) h0
theorem fA (x : Int) (h0 : 0 ≤ x) : BM.fd x 21 18 = dA x := fd_at x 21 18 4 (by decide) (by decide) (by decide) h0
theorem fB (x : Int) (h0 : 0 ≤ x) : BM.fd x 17 14 = x / 16384 % 16 := fd_at x 17 14 4 (by decide) (by decide) (by decide) h0
theorem zx18 (x : Int) (h0 : 0 ≤ x) : BM.zx x 18 = x % 262144 := by
  obtain ⟨x, rfl⟩ := Int.eq_ofNat_of_zero_le h0
  unfold BM.zx BM.zxN
  rw [BM.cl_in _ _ _ (by omega) (by omega), BM.ob_mod]
  simp only [Int.toNat_natCast]
  rw [show (2 : Nat) ^ (18 : Int).toNat = 262144 from rfl]
  omega
/-- A word as a signed number. -/
def sv (x : Int) : Int := if x < 2147483648 then x else x - 4294967296
theorem sx_at (x : Int) (c : Nat) (hc0 : c ≠ 0) (hc : c ≤ 32) (h0 : 0 ≤ x) : BM.sx x c = 2 ^ c * (if 2 ^ (c - 1) ≤ x % 2 ^ c then 2 ^ (32 - c) - 1 else 0) + x % 2 ^ c := by
  obtain ⟨x, rfl⟩ := Int.eq_ofNat_of_zero_le h0
  unfold BM.sx
  rw [BM.cl_in _ _ _ (by omega) (by omega)]
  simp only [Int.toNat_natCast]
  rw [BM.sxN_sum x c hc0 hc, BM.top_bit x c hc0]
  have e : ((2 : Int) ^ (c - 1) ≤ (x : Int) % 2 ^ c) ↔ (2 ^ (c - 1) ≤ x % 2 ^ c) := by
    rw [show (x : Int) % 2 ^ c = ((x % 2 ^ c : Nat) : Int) by push_cast; rfl, show (2 : Int) ^ (c - 1) = ((2 ^ (c - 1) : Nat) : Int) by push_cast; rfl]
    exact Int.ofNat_le
  by_cases hb : 2 ^ (c - 1) ≤ x % 2 ^ c
  · have hb' := e.2 hb
    rw [if_pos hb']
    simp only [hb, decide_true, if_true]
    have h1 : 1 ≤ 2 ^ (32 - c) := Nat.one_le_two_pow
    push_cast [h1]; rfl
  · have hb' : ¬ (2 : Int) ^ (c - 1) ≤ (x : Int) % 2 ^ c := fun h => hb (e.1 h)
    rw [if_neg hb']
    simp only [hb, decide_false]
    push_cast; simp
theorem sv14 (x : Int) (h0 : 0 ≤ x) : sv (BM.sx x 14) = if x % 16384 < 8192 then x % 16384 else x % 16384 - 16384 := by
  have h := sx_at x 14 (by decide) (by decide) h0
  rw [show ((14 : Nat) : Int) = 14 from rfl] at h
  rw [h, show (2 : Int) ^ 14 = 16384 from rfl, show (2 : Int) ^ (14 - 1) = 8192 from rfl, show (2 : Int) ^ (32 - 14) = 262144 from rfl]
  unfold sv
  split <;> split <;> split <;> omega
theorem sv18 (x : Int) (h0 : 0 ≤ x) : sv (BM.sx x 18) = if x % 262144 < 131072 then x % 262144 else x % 262144 - 262144 := by
  have h := sx_at x 18 (by decide) (by decide) h0
  rw [show ((18 : Nat) : Int) = 18 from rfl] at h
  rw [h, show (2 : Int) ^ 18 = 262144 from rfl, show (2 : Int) ^ (18 - 1) = 131072 from rfl, show (2 : Int) ^ (32 - 18) = 16384 from rfl]
  unfold sv
  split <;> split <;> split <;> omega
/-- The word of the operation and the three registers. -/
theorem put_four (op d a b : Int) (ho : 0 ≤ op ∧ op < 64) (hd : 0 ≤ d ∧ d < 16) (ha : 0 ≤ a ∧ a < 16) (hb : 0 ≤ b ∧ b < 16) :
    BM.pt (BM.pt (BM.pt (BM.pt 0 31 26 op) 25 22 d) 21 18 a) 17 14 b = op * 67108864 + d * 4194304 + a * 262144 + b * 16384 := by
  have h1 := pt_at 0 op 31 26 6 (by decide) (by decide) (by decide) (by decide) ho.1 (by decide)
  have h2 := pt_at op d 25 22 4 (by decide) (by decide) (by decide) ho.1 hd.1 (by omega)
  have h3 := pt_at (op * 16 + d) a 21 18 4 (by decide) (by decide) (by decide) (by omega) ha.1 (by omega)
  have h4 := pt_at (op * 256 + d * 16 + a) b 17 14 4 (by decide) (by decide) (by decide) (by omega) hb.1 (by omega)
  have e1 : BM.pt 0 31 26 op = op * 2 ^ 26 := by
    have : BM.pt 0 31 26 op = BM.pt (0 * 2 ^ (31 + 1)) (31 : Nat) (26 : Nat) op := rfl
    rw [this, h1]; omega
  have e2 : BM.pt (op * 2 ^ 26) 25 22 d = (op * 16 + d) * 2 ^ 22 := by
    have : BM.pt (op * 2 ^ 26) 25 22 d = BM.pt (op * 2 ^ (25 + 1)) (25 : Nat) (22 : Nat) d := rfl
    rw [this, h2]; omega
  have e3 : BM.pt ((op * 16 + d) * 2 ^ 22) 21 18 a = (op * 256 + d * 16 + a) * 2 ^ 18 := by
    have : BM.pt ((op * 16 + d) * 2 ^ 22) 21 18 a = BM.pt ((op * 16 + d) * 2 ^ (21 + 1)) (21 : Nat) (18 : Nat) a := rfl
    rw [this, h3]; omega
  have e4 : BM.pt ((op * 256 + d * 16 + a) * 2 ^ 18) 17 14 b = op * 67108864 + d * 4194304 + a * 262144 + b * 16384 := by
    have : BM.pt ((op * 256 + d * 16 + a) * 2 ^ 18) 17 14 b = BM.pt ((op * 256 + d * 16 + a) * 2 ^ (17 + 1)) (17 : Nat) (14 : Nat) b := rfl
    rw [this, h4]; omega
  rw [e1, e2, e3, e4]
theorem put_last (op d a b v : Int) (ho : 0 ≤ op ∧ op < 64) (hd : 0 ≤ d ∧ d < 16) (ha : 0 ≤ a ∧ a < 16) (hb : 0 ≤ b ∧ b < 16) (hv : 0 ≤ v) :
    BM.pt (op * 67108864 + d * 4194304 + a * 262144 + b * 16384) 13 0 v = op * 67108864 + d * 4194304 + a * 262144 + b * 16384 + v % 16384 := by
  have h1 := pt_at (op * 4096 + d * 256 + a * 16 + b) v 13 0 14 (by decide) (by decide) (by decide) (by omega) hv (by omega)
  have e : op * 67108864 + d * 4194304 + a * 262144 + b * 16384 = (op * 4096 + d * 256 + a * 16 + b) * 2 ^ (13 + 1) := by omega
  have : BM.pt (op * 67108864 + d * 4194304 + a * 262144 + b * 16384) 13 0 v = BM.pt ((op * 4096 + d * 256 + a * 16 + b) * 2 ^ (13 + 1)) (13 : Nat) (0 : Nat) v := by rw [e]; rfl
  rw [this, h1]; omega
theorem put_wide (op d a v : Int) (ho : 0 ≤ op ∧ op < 64) (hd : 0 ≤ d ∧ d < 16) (ha : 0 ≤ a ∧ a < 16) (hv : 0 ≤ v) :
    BM.pt (op * 67108864 + d * 4194304 + a * 262144 + 0 * 16384) 17 0 v = op * 67108864 + d * 4194304 + a * 262144 + 0 * 16384 + v % 262144 := by
  have h1 := pt_at (op * 256 + d * 16 + a) v 17 0 18 (by decide) (by decide) (by decide) (by omega) hv (by omega)
  have e : op * 67108864 + d * 4194304 + a * 262144 + 0 * 16384 = (op * 256 + d * 16 + a) * 2 ^ (17 + 1) := by omega
  have : BM.pt (op * 67108864 + d * 4194304 + a * 262144 + 0 * 16384) 17 0 v = BM.pt ((op * 256 + d * 16 + a) * 2 ^ (17 + 1)) (17 : Nat) (0 : Nat) v := by rw [e]; rfl
  rw [this, h1]; omega
end IM
end Go.Proofs.YtcnmnkgnaknpdaaGreatDoor.S06
