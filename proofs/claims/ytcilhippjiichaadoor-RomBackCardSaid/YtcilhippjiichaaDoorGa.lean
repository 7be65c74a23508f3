/-
  Plain mathematics of digits, separators and bytes of a text: what a byte stands for, the number that digits are, and what a rune that is read off a text tells of its bytes. No condition.
  Plain mathematics of the number that a text is: the value of its digits modulo 2^64, step by step. No condition.
  Plain mathematics of words and lines: the pieces of a text between separators, and between line feeds, byte by byte. No condition.
  Plain mathematics of the reference's reading of numbers, held against the package's. No condition.
  Plain mathematics of the digits of a number: decimal digits from the last one on, hexadecimal digits with and without noughts ahead. No condition.
  Plain mathematics: the number of a number's digits is the number. No condition.
  Plain mathematics of lines: the texts ahead of each line feed, and what is wrong with a text. No condition.
  Plain mathematics: words that are joined with separators are the words of the joined text; lines that are each followed by a line feed are its lines. No condition.
-/
import Derived.Lib.ItoaMem
import Derived.Lib.Strings
import Derived.Laws.RangeAny
import Derived.WalkKit
import Derived.Lib.ItoaLen
import Derived.Lib.Repeat
import Derived.Lib.Bytealg

/-! S02Math -/
namespace Go.Proofs.YtcilhippjiichaaDoor.S02
namespace NM
/-- What a byte stands for as a digit; 16: it is none. -/
def dv (c : UInt8) : Nat := if 48 ≤ c.toNat ∧ c.toNat ≤ 57 then c.toNat - 48 else if 97 ≤ c.toNat ∧ c.toNat ≤ 102 then c.toNat - 87 else 16
/-- What a rune stands for as a digit; 16: it is none. -/
def rd (r : Int) : Int := if 48 ≤ r ∧ r ≤ 57 then r - 48 else if 97 ≤ r ∧ r ≤ 102 then r - 87 else 16
/-- The number that digits of a base are. -/
def val (b : Nat) (l : List UInt8) : Nat := l.foldl (fun n c => n * b + dv c) 0
/-- Are all bytes digits of the base? -/
def al (b : Nat) (l : List UInt8) : Bool := l.all fun c => decide (dv c < b)
def sepR (r : Int) : Bool := r == 32 || r == 9 || r == 44
def sepB (c : UInt8) : Bool := sepR (c.toNat : Int)
def prR (r : Int) : Bool := (decide (32 ≤ r) && decide (r ≤ 126)) || r == 9
def prB (c : UInt8) : Bool := prR (c.toNat : Int)

/-- A byte's digit as the reference has it: -1: it is none. -/
def rvl (c : UInt8) : Int := if dv c < 16 then dv c else -1
theorem rvl_a (c : UInt8) (h : 48 ≤ (c.toNat : Int) ∧ (c.toNat : Int) ≤ 57) : rvl c = c.toNat - 48 := by
  have e : dv c = c.toNat - 48 := by unfold dv; rw [if_pos (by omega)]
  unfold rvl; rw [e, if_pos (by omega)]; omega
theorem rvl_b (c : UInt8) (h : 97 ≤ (c.toNat : Int) ∧ (c.toNat : Int) ≤ 102) : rvl c = c.toNat - 87 := by
  have e : dv c = c.toNat - 87 := by unfold dv; rw [if_neg (by omega), if_pos (by omega)]
  unfold rvl; rw [e, if_pos (by omega)]; omega
theorem rvl_c (c : UInt8) (h : ¬ (48 ≤ (c.toNat : Int) ∧ (c.toNat : Int) ≤ 57)) (h' : ¬ (97 ≤ (c.toNat : Int) ∧ (c.toNat : Int) ≤ 102)) : rvl c = -1 := by
  have e : dv c = 16 := by unfold dv; rw [if_neg (by omega), if_neg (by omega)]
  unfold rvl; rw [e, if_neg (by omega)]
/-- A digit of base 16. -/
def hx (d : Nat) : UInt8 := if d < 10 then UInt8.ofNat (48 + d) else UInt8.ofNat (87 + d)
theorem hx_lo (d : Nat) (h : d < 10) : (hx d).toNat = 48 + d := by
  unfold hx; rw [if_pos h]; simp; omega
theorem hx_hi (d : Nat) (h : 10 ≤ d) (h1 : d < 16) : (hx d).toNat = 87 + d := by
  unfold hx; rw [if_neg (by omega)]; simp; omega
theorem dv_le (c : UInt8) : dv c ≤ 16 := by unfold dv; split <;> (try split) <;> omega
theorem rd_bd (r : Int) : 0 ≤ rd r ∧ rd r ≤ 16 := by unfold rd; split <;> (try split) <;> omega
theorem val_nil (b : Nat) : val b [] = 0 := rfl
theorem val_snoc (b : Nat) (l : List UInt8) (c : UInt8) : val b (l ++ [c]) = val b l * b + dv c := by simp [val, List.foldl_append]
theorem al_nil (b : Nat) : al b [] = true := rfl
theorem al_snoc (b : Nat) (l : List UInt8) (c : UInt8) : al b (l ++ [c]) = (al b l && decide (dv c < b)) := by simp [al, List.all_append]
theorem take_snoc (s : ByteArray) (k : Nat) (h : k < s.size) : s.data.toList.take (k + 1) = s.data.toList.take k ++ [s[k]] := by
  rw [List.take_succ_eq_append_getElem (by simpa using h)]; rfl
theorem al_take {b : Nat} {l : List UInt8} (k : Nat) (h : al b l = true) : al b (l.take k) = true := by
  simp only [al, List.all_eq_true] at *
  exact fun x hx => h x (List.mem_of_mem_take hx)
theorem take_all (s : ByteArray) (k : Nat) (h : s.size ≤ k) : s.data.toList.take k = s.data.toList := List.take_of_length_le (by simp; omega)
theorem len_eq (s : ByteArray) : s.data.toList.length = s.size := by simp
/-- A bad byte spoils the text. -/
theorem al_bad (b : Nat) (s : ByteArray) (k : Nat) (h : k < s.size) (hb : b ≤ dv s[k]) : al b s.data.toList = false := by
  rw [← Bool.not_eq_true]
  intro hh
  have h1 := al_take (k + 1) hh
  rw [take_snoc s k h, al_snoc] at h1
  simp at h1
  omega
theorem snoc_ind {P : List UInt8 → Prop} (h0 : P []) (h1 : ∀ l c, P l → P (l ++ [c])) (l : List UInt8) : P l := by
  have h : ∀ m : List UInt8, P m.reverse := by
    intro m
    induction m with
    | nil => exact h0
    | cons c t ih => rw [List.reverse_cons]; exact h1 _ _ ih
  have := h l.reverse
  rwa [List.reverse_reverse] at this
theorem val_lt (b : Nat) (l : List UInt8) (h : al b l = true) : val b l < b ^ l.length ∨ l = [] ∧ val b l = 0 := by
  by_cases hb : b = 0
  · subst hb
    cases l with
    | nil => right; exact ⟨rfl, rfl⟩
    | cons c t => simp [al] at h
  · left
    revert h
    refine snoc_ind (P := fun l => al b l = true → val b l < b ^ l.length) (fun _ => by simp [val_nil]) (fun t c ih h => ?_) l
    rw [al_snoc] at h
    simp only [Bool.and_eq_true, decide_eq_true_eq] at h
    have := ih h.1
    rw [val_snoc, List.length_append, List.length_singleton, Nat.pow_succ]
    calc val b t * b + dv c < val b t * b + b := by omega
      _ = (val b t + 1) * b := by rw [Nat.add_mul, Nat.one_mul]
      _ ≤ b ^ t.length * b := Nat.mul_le_mul_right b (by omega)
/-- The rune that is read at a place tells whether a digit stands there, and which. -/
theorem dec_dv (s : ByteArray) (pos : Nat) (h : pos < s.size) : rd ((Utf8.decode s pos).1 : Int) = dv s[pos] ∧ (dv s[pos] < 16 → (Utf8.decode s pos).2 = 1) := by
  by_cases ha : (s[pos]'h).toNat < 128
  · rw [decode_ascii s pos h ha]
    refine ⟨?_, fun _ => rfl⟩
    unfold rd dv
    split <;> split <;> (try split) <;> (try split) <;> omega
  · have hh := decode_high s pos h (by omega)
    have e1 : rd ((Utf8.decode s pos).1 : Int) = 16 := by unfold rd; rw [if_neg (by omega), if_neg (by omega)]
    have e2 : dv s[pos] = 16 := by unfold dv; rw [if_neg (by omega), if_neg (by omega)]
    exact ⟨by rw [e1, e2]; rfl, fun h => by omega⟩
theorem get_bang (s : ByteArray) (k : Nat) (h : k < s.size) : s.get! k = s[k] := by
  simp [ByteArray.get!, getElem!_pos, h]
  rfl
/-- The bytes of one rune that is no ASCII: none of them is ASCII. -/
theorem dec_wide (s : ByteArray) (pos : Nat) (h : pos < s.size) (ha : 128 ≤ (s[pos]'h).toNat) :
    pos + (Utf8.decode s pos).2 ≤ s.size ∧ ∀ k (hk : k < s.size), pos ≤ k → k < pos + (Utf8.decode s pos).2 → 128 ≤ (s[k]'hk).toNat := by
  have hn : ¬ (s[pos]'h).toNat < 128 := by omega
  have e0 : s.get! (pos + 0) = s[pos]'h := get_bang s pos h
  have c1 : ∀ j, (pos + j < s.size && (s.get! (pos + j)).toNat / 64 == 2) = true → pos + j < s.size ∧ 128 ≤ (s.get! (pos + j)).toNat := by
    intro j hj
    simp at hj
    omega
  have fin : ∀ n, (∀ j, j < n → pos + j < s.size ∧ 128 ≤ (s.get! (pos + j)).toNat) → 0 < n → pos + n ≤ s.size ∧ ∀ k (hk : k < s.size), pos ≤ k → k < pos + n → 128 ≤ (s[k]'hk).toNat := by
    intro n hj h0
    refine ⟨by have := (hj (n - 1) (by omega)).1; omega, fun k hk h1 h2 => ?_⟩
    have := (hj (k - pos) (by omega)).2
    rw [show pos + (k - pos) = k by omega, get_bang s k hk] at this
    exact this
  have z : pos + 0 < s.size ∧ 128 ≤ (s.get! (pos + 0)).toNat := ⟨h, by rw [e0]; exact ha⟩
  have one := fin 1 (fun j hj => by obtain rfl : j = 0 := by omega
                                    exact z) (by omega)
  simp only [Utf8.decode, e0, hn, if_false]
  split
  · rename_i hc
    simp only [Bool.and_eq_true] at hc
    have d1 := c1 1 (by simpa using hc.2)
    split
    · exact fin 2 (fun j hj => by
        rcases (show j = 0 ∨ j = 1 by omega) with rfl | rfl
        · exact z
        · exact d1) (by omega)
    · exact one
  · split
    · rename_i hc
      simp only [Bool.and_eq_true] at hc
      have d1 := c1 1 (by simpa using hc.1.2)
      have d2 := c1 2 (by simpa using hc.2)
      split
      · exact fin 3 (fun j hj => by
          rcases (show j = 0 ∨ j = 1 ∨ j = 2 by omega) with rfl | rfl | rfl
          · exact z
          · exact d1
          · exact d2) (by omega)
      · exact one
    · split
      · rename_i hc
        simp only [Bool.and_eq_true] at hc
        have d1 := c1 1 (by simpa using hc.1.1.2)
        have d2 := c1 2 (by simpa using hc.1.2)
        have d3 := c1 3 (by simpa using hc.2)
        split
        · exact fin 4 (fun j hj => by
            rcases (show j = 0 ∨ j = 1 ∨ j = 2 ∨ j = 3 by omega) with rfl | rfl | rfl | rfl
            · exact z
            · exact d1
            · exact d2
            · exact d3) (by omega)
        · exact one
      · exact one
theorem sepR_high (r : Int) (h : 128 ≤ r) : sepR r = false := by unfold sepR; simp; omega
theorem prR_high (r : Int) (h : 128 ≤ r) : prR r = false := by unfold prR; simp; omega
theorem dec_sep (s : ByteArray) (pos : Nat) (h : pos < s.size) : sepR ((Utf8.decode s pos).1 : Int) = sepB s[pos] := by
  by_cases ha : (s[pos]'h).toNat < 128
  · rw [decode_ascii s pos h ha]; rfl
  · have hh := decode_high s pos h (by omega)
    rw [sepR_high _ (by omega), sepB, sepR_high _ (by omega)]
theorem dec_pr (s : ByteArray) (pos : Nat) (h : pos < s.size) : prR ((Utf8.decode s pos).1 : Int) = prB s[pos] := by
  by_cases ha : (s[pos]'h).toNat < 128
  · rw [decode_ascii s pos h ha]; rfl
  · have hh := decode_high s pos h (by omega)
    rw [prR_high _ (by omega), prB, prR_high _ (by omega)]
end NM
end Go.Proofs.YtcilhippjiichaaDoor.S02
/-! S02MathB -/
namespace Go.Proofs.YtcilhippjiichaaDoor.S02
namespace NM
/-- The digits' number modulo 2^64; 0 where one of them is no digit of the base. -/
def vN (b : Nat) (l : List UInt8) : Nat := if al b l = true then val b l % 18446744073709551616 else 0
/-- Is there a digit, and are all of them digits of the base? -/
def vB (b : Nat) (l : List UInt8) : Bool := al b l && !l.isEmpty
theorem step_mod (v b d : Nat) : IntKind.u64.wrap (IntKind.u64.wrap (((v % 18446744073709551616 : Nat) : Int) * (b : Int)) + (d : Int)) = (((v * b + d) % 18446744073709551616 : Nat) : Int) := by
  have h : ((v % 18446744073709551616) * b % 18446744073709551616 + d) % 18446744073709551616 = (v * b + d) % 18446744073709551616 := by
    rw [Nat.add_mod, Nat.mod_mod, Nat.mod_mul_mod, ← Nat.add_mod]
  rw [← h]
  generalize hx : v % 18446744073709551616 = x
  have e : ((x : Int) * (b : Int)) = ((x * b : Nat) : Int) := by push_cast; rfl
  rw [e]
  generalize x * b = y
  simp only [IntKind.wrap_u64]
  omega
theorem step_mod2 (v b d : Nat) : IntKind.u64.wrap (IntKind.u64.wrap ((v : Int) % 18446744073709551616 * (b : Int)) + (d : Int)) = (((v * b + d) % 18446744073709551616 : Nat) : Int) := by
  rw [show (v : Int) % 18446744073709551616 = ((v % 18446744073709551616 : Nat) : Int) by omega]
  exact step_mod v b d
theorem vN_yes (b : Nat) (l : List UInt8) (h : al b l = true) : vN b l = val b l % 18446744073709551616 := by unfold vN; rw [if_pos h]
theorem vN_no (b : Nat) (l : List UInt8) (h : al b l = false) : vN b l = 0 := by unfold vN; rw [if_neg (by simp [h])]
theorem vB_no (b : Nat) (l : List UInt8) (h : al b l = false) : vB b l = false := by unfold vB; simp [h]
theorem vN_lt (b : Nat) (l : List UInt8) : vN b l < 18446744073709551616 := by
  unfold vN; split <;> omega
theorem vB_al {b : Nat} {l : List UInt8} (h : vB b l = true) : al b l = true ∧ l ≠ [] := by
  unfold vB at h
  simp at h
  exact h
/-- Behind 0x. -/
def phE (l : List UInt8) : Int := if vB 16 l = true ∧ l.length ≤ 8 then 0 else 2
def phN (l : List UInt8) : Int := if vB 16 l = true ∧ l.length ≤ 8 then val 16 l else 0
theorem ph_bad (l : List UInt8) (h : vB 16 l = false ∨ 8 < l.length) : phE l = 2 ∧ phN l = 0 := by
  unfold phE phN
  rw [if_neg (by rcases h with h | h <;> simp [h]), if_neg (by rcases h with h | h <;> simp [h])]
  exact ⟨rfl, rfl⟩
theorem ph_ok (l : List UInt8) (h : vB 16 l = true) (h' : l.length ≤ 8) : phE l = 0 ∧ phN l = val 16 l := by
  unfold phE phN
  rw [if_pos ⟨h, h'⟩, if_pos ⟨h, h'⟩]
  exact ⟨rfl, rfl⟩
theorem pow_le16 (n : Nat) (h : n ≤ 8) : 16 ^ n ≤ 4294967296 := Nat.le_trans (Nat.pow_le_pow_right (by decide) h) (by decide)
theorem pow_le10 (n : Nat) (h : n ≤ 19) : 10 ^ n ≤ 10000000000000000000 := Nat.le_trans (Nat.pow_le_pow_right (by decide) h) (by decide)
theorem val16_lt (l : List UInt8) (h : al 16 l = true) (h' : l.length ≤ 8) : val 16 l < 4294967296 := by
  have := pow_le16 _ h'
  rcases val_lt 16 l h with h | h <;> omega
theorem val10_lt (l : List UInt8) (h : al 10 l = true) (h' : l.length ≤ 19) : val 10 l < 10000000000000000000 := by
  have := pow_le10 _ h'
  rcases val_lt 10 l h with h | h <;> omega
theorem vN16 (l : List UInt8) (h : vB 16 l = true) (h' : l.length ≤ 8) : vN 16 l = val 16 l ∧ val 16 l < 4294967296 := by
  have := val16_lt l (vB_al h).1 h'
  rw [vN_yes _ _ (vB_al h).1]
  omega
theorem vN10 (l : List UInt8) (h : vB 10 l = true) (h' : l.length ≤ 19) : vN 10 l = val 10 l := by
  have := val10_lt l (vB_al h).1 h'
  rw [vN_yes _ _ (vB_al h).1]
  omega
def lim (neg : Bool) : Nat := if neg then 9223372036854775808 else 9223372036854775807
/-- Decimal digits, behind a sign or not. -/
def pdE (l : List UInt8) (neg : Bool) : Int :=
  if vB 10 l = false ∨ (l.head? = some 48 ∧ (neg = true ∨ 1 < l.length)) then 2 else if 19 < l.length ∨ lim neg < val 10 l then 3 else 0
def pdN (l : List UInt8) (neg : Bool) : Int := if pdE l neg = 0 then (if neg then -(val 10 l : Int) else val 10 l) else 0
theorem pd_bad (l : List UInt8) (neg : Bool) (h : vB 10 l = false) : pdE l neg = 2 ∧ pdN l neg = 0 := by
  have e : pdE l neg = 2 := by unfold pdE; rw [if_pos (.inl h)]
  unfold pdN
  rw [e]
  exact ⟨rfl, rfl⟩
theorem pd_zero (l : List UInt8) (neg : Bool) (h : l.head? = some 48) (h' : neg = true ∨ 1 < l.length) : pdE l neg = 2 ∧ pdN l neg = 0 := by
  have e : pdE l neg = 2 := by unfold pdE; rw [if_pos (.inr ⟨h, h'⟩)]
  unfold pdN
  rw [e]
  exact ⟨rfl, rfl⟩
theorem pd_long (l : List UInt8) (neg : Bool) (hb : vB 10 l = true) (hz : ¬ (l.head? = some 48 ∧ (neg = true ∨ 1 < l.length))) (h : 19 < l.length ∨ lim neg < val 10 l) : pdE l neg = 3 ∧ pdN l neg = 0 := by
  have e : pdE l neg = 3 := by
    unfold pdE
    rw [if_neg (by rintro (h1 | h1); (rw [hb] at h1; cases h1); exact hz h1), if_pos h]
  unfold pdN
  rw [e]
  exact ⟨rfl, rfl⟩
theorem pd_ok (l : List UInt8) (neg : Bool) (hb : vB 10 l = true) (hz : ¬ (l.head? = some 48 ∧ (neg = true ∨ 1 < l.length))) (h : l.length ≤ 19) (h' : val 10 l ≤ lim neg) :
    pdE l neg = 0 ∧ pdN l neg = if neg then -(val 10 l : Int) else val 10 l := by
  have e : pdE l neg = 0 := by
    unfold pdE
    rw [if_neg (by rintro (h1 | h1); (rw [hb] at h1; cases h1); exact hz h1), if_neg (by omega)]
  unfold pdN
  rw [e]
  exact ⟨rfl, rfl⟩
theorem head_eq (s : ByteArray) (h : 0 < s.size) : s.data.toList.head? = some 48 ↔ (s[0].toNat : Int) = 48 := by
  have e : s.data.toList.head? = some s[0] := by
    rw [List.head?_eq_getElem?, List.getElem?_eq_getElem (by simpa using h)]
    rfl
  rw [e]
  constructor
  · intro h1
    have := Option.some.inj h1
    rw [this]; rfl
  · intro h1
    congr 1
    apply UInt8.toNat_inj.mp
    show s[0].toNat = 48
    omega
theorem pos_of (s : ByteArray) (b : Nat) (h : vB b s.data.toList = true) : 0 < s.size := by
  have h1 := (vB_al h).2
  have h2 := len_eq s
  rcases Nat.eq_zero_or_pos s.size with h | h
  · exact absurd (List.length_eq_zero_iff.mp (by omega)) h1
  · exact h
/-- The number that a text is, and its error. -/
def pN (l : List UInt8) : Int := if Lib.hasPrefix l [48, 120] = true then phN (l.drop 2) else pdN (Lib.trimPrefix l [45]) (Lib.hasPrefix l [45])
def pE (l : List UInt8) : Int := if Lib.hasPrefix l [48, 120] = true then phE (l.drop 2) else pdE (Lib.trimPrefix l [45]) (Lib.hasPrefix l [45])
end NM
end Go.Proofs.YtcilhippjiichaaDoor.S02
/-! S02MathC -/
namespace Go.Proofs.YtcilhippjiichaaDoor.S02
namespace NM
/-- A piece of a text. -/
def sl (l : List UInt8) (a b : Nat) : List UInt8 := (l.drop a).take (b - a)
def tv (x : List UInt8) : Value := .string ⟨x.toArray⟩
theorem tv_extract (s : ByteArray) (a b : Nat) : Value.string (s.extract a b) = tv (sl s.data.toList a b) := by
  have h := Lib.extract_data s a b
  unfold tv sl
  rw [← h]
/-- The words that end ahead of a byte, and where the next one begins. -/
def ws (l : List UInt8) : Nat → List (List UInt8) × Nat
  | 0 => ([], 0)
  | k + 1 => if sepB (l.getD k 0) = true then ((if (ws l k).2 < k then (ws l k).1 ++ [sl l (ws l k).2 k] else (ws l k).1), k + 1) else ws l k
def wd (l : List UInt8) : List (List UInt8) := if (ws l l.length).2 < l.length then (ws l l.length).1 ++ [sl l (ws l l.length).2 l.length] else (ws l l.length).1
theorem ws_no (l : List UInt8) (k : Nat) (h : sepB (l.getD k 0) = false) : ws l (k + 1) = ws l k := by rw [ws, if_neg (by rw [h]; decide)]
theorem ws_cut (l : List UInt8) (k : Nat) (h : sepB (l.getD k 0) = true) (h' : (ws l k).2 < k) : ws l (k + 1) = ((ws l k).1 ++ [sl l (ws l k).2 k], k + 1) := by rw [ws, if_pos h, if_pos h']
theorem ws_gap (l : List UInt8) (k : Nat) (h : sepB (l.getD k 0) = true) (h' : ¬ (ws l k).2 < k) : ws l (k + 1) = ((ws l k).1, k + 1) := by rw [ws, if_pos h, if_neg h']
theorem ws_bd (l : List UInt8) (k : Nat) : (ws l k).2 ≤ k ∧ (ws l k).1.length ≤ k := by
  induction k with
  | zero => exact ⟨Nat.le_refl _, Nat.le_refl _⟩
  | succ k ih =>
    rw [ws]
    split
    · refine ⟨Nat.le_refl _, ?_⟩
      show (if (ws l k).2 < k then (ws l k).1 ++ [sl l (ws l k).2 k] else (ws l k).1).length ≤ k + 1
      split
      · rw [List.length_append, List.length_singleton]; omega
      · omega
    · omega
theorem ws_skip (l : List UInt8) (k n : Nat) (h : ∀ j, k ≤ j → j < k + n → sepB (l.getD j 0) = false) : ws l (k + n) = ws l k := by
  induction n with
  | zero => rfl
  | succ n ih =>
    rw [← Nat.add_assoc, ws_no l (k + n) (h _ (by omega) (by omega)), ih fun j h1 h2 => h j h1 (by omega)]
theorem getD_eq (s : ByteArray) (k : Nat) (h : k < s.size) : s.data.toList.getD k 0 = s[k] := by
  rw [List.getD_eq_getElem?_getD, List.getElem?_eq_getElem (by simpa using h)]
  rfl
theorem sepB_low (c : UInt8) (h : sepB c = true) : c.toNat < 128 := by
  unfold sepB sepR at h
  simp at h
  omega
theorem dec_one (s : ByteArray) (pos : Nat) (h : pos < s.size) (ha : (s[pos]'h).toNat < 128) : (Utf8.decode s pos).2 = 1 := by rw [decode_ascii s pos h ha]
theorem dec_skip (s : ByteArray) (pos : Nat) (h : pos < s.size) (hn : sepB s[pos] = false) :
    pos + (Utf8.decode s pos).2 ≤ s.size ∧ 1 ≤ (Utf8.decode s pos).2 ∧ ws s.data.toList (pos + (Utf8.decode s pos).2) = ws s.data.toList pos := by
  by_cases ha : (s[pos]'h).toNat < 128
  · rw [dec_one s pos h ha]
    exact ⟨by omega, Nat.le_refl _, ws_no _ _ (by rw [getD_eq s pos h]; exact hn)⟩
  · obtain ⟨h1, h2⟩ := dec_wide s pos h (by omega)
    refine ⟨h1, (decode_high s pos h (by omega)).2, ws_skip _ _ _ fun j hj hk => ?_⟩
    rw [getD_eq s j (by omega)]
    have := h2 j (by omega) hj hk
    unfold sepB
    exact sepR_high _ (by omega)
end NM
end Go.Proofs.YtcilhippjiichaaDoor.S02
/-! S02MathE -/
namespace Go.Proofs.YtcilhippjiichaaDoor.S02
namespace NM
theorem pre2 (s : ByteArray) (h : 1 < s.size) : Lib.hasPrefix s.data.toList [48, 120] = true ↔ (s[0].toNat : Int) = 48 ∧ (s[1].toNat : Int) = 120 := by
  have e0 : s.data.toList.getD 0 0 = s[0] := getD_eq s 0 (by omega)
  have e1 : s.data.toList.getD 1 0 = s[1] := getD_eq s 1 h
  have hl := len_eq s
  generalize s.data.toList = l at *
  match l, hl, e0, e1 with
  | [], hl, _, _ => simp at hl; omega
  | [a], hl, _, _ => simp at hl; omega
  | a :: b :: t, hl, e0, e1 =>
    replace e0 : a = s[0] := e0
    replace e1 : b = s[1] := e1
    rw [← e0, ← e1]
    simp only [Lib.hasPrefix, List.isPrefixOf, Bool.and_true, Bool.and_eq_true, beq_iff_eq]
    constructor
    · rintro ⟨h1, h2⟩; rw [← h1, ← h2]; exact ⟨rfl, rfl⟩
    · rintro ⟨h1, h2⟩; exact ⟨(UInt8.toNat_inj.mp (by show a.toNat = 48; omega)).symm, (UInt8.toNat_inj.mp (by show b.toNat = 120; omega)).symm⟩
theorem pre2_short (s : ByteArray) (h : s.size ≤ 1) : Lib.hasPrefix s.data.toList [48, 120] = false := by
  have hl := len_eq s
  generalize s.data.toList = l at *
  match l, hl with
  | [], _ => rfl
  | [a], _ => simp [Lib.hasPrefix, List.isPrefixOf]
  | a :: b :: t, hl => simp at hl; omega
theorem pre1 (s : ByteArray) (h : 0 < s.size) : Lib.hasPrefix s.data.toList [45] = true ↔ (s[0].toNat : Int) = 45 := by
  have e0 : s.data.toList.getD 0 0 = s[0] := getD_eq s 0 (by omega)
  have hl := len_eq s
  generalize s.data.toList = l at *
  match l, hl, e0 with
  | [], hl, _ => simp at hl; omega
  | a :: t, hl, e0 =>
    replace e0 : a = s[0] := e0
    rw [← e0]
    simp only [Lib.hasPrefix, List.isPrefixOf, Bool.and_true, beq_iff_eq]
    constructor
    · intro h1; rw [← h1]; rfl
    · intro h1; exact (UInt8.toNat_inj.mp (by show a.toNat = 45; omega)).symm
theorem pre1_empty (s : ByteArray) (h : s.size = 0) : Lib.hasPrefix s.data.toList [45] = false := by
  have hl := len_eq s
  rw [List.length_eq_zero_iff.mp (by omega : s.data.toList.length = 0)]
  rfl
/-- The reference's number behind 0x. -/
def rhB (l : List UInt8) : Bool := Lib.hasPrefix l [48, 120] && (vB 16 (l.drop 2) && decide ((l.drop 2).length ≤ 8))
def rhN (l : List UInt8) : Int := if rhB l = true then val 16 (l.drop 2) else 0
theorem rh_pre (l : List UInt8) (h : Lib.hasPrefix l [48, 120] = false) : rhB l = false ∧ rhN l = 0 := by
  have e : rhB l = false := by unfold rhB; rw [h]; rfl
  unfold rhN
  rw [e]
  exact ⟨rfl, rfl⟩
theorem rh_bad (l : List UInt8) (h : vB 16 (l.drop 2) = false ∨ 8 < (l.drop 2).length) : rhB l = false ∧ rhN l = 0 := by
  have e : rhB l = false := by
    unfold rhB
    rcases h with h | h
    · rw [h]; simp
    · rw [show decide ((l.drop 2).length ≤ 8) = false by simp only [decide_eq_false_iff_not]; omega]; simp
  unfold rhN
  rw [e]
  exact ⟨rfl, rfl⟩
theorem rh_ok (l : List UInt8) (h0 : Lib.hasPrefix l [48, 120] = true) (h : vB 16 (l.drop 2) = true) (h8 : (l.drop 2).length ≤ 8) : rhB l = true ∧ rhN l = val 16 (l.drop 2) := by
  have e : rhB l = true := by
    unfold rhB
    rw [h0, h, show decide ((l.drop 2).length ≤ 8) = true by simpa using h8]; rfl
  unfold rhN
  rw [e]
  exact ⟨rfl, rfl⟩
theorem dtake (s : ByteArray) (k : Nat) (h2 : 2 ≤ k) (h : k < s.size) : (s.data.toList.drop 2).take (k + 1 - 2) = (s.data.toList.drop 2).take (k - 2) ++ [s[k]] := by
  rw [show k + 1 - 2 = (k - 2) + 1 by omega, List.take_succ_eq_append_getElem (by rw [List.length_drop, len_eq]; omega), List.getElem_drop]
  congr 2
  show s.data.toList[2 + (k - 2)]'_ = s.data.toList[k]'_
  congr 1
  omega
theorem dtake_all (s : ByteArray) (_h2 : 2 ≤ s.size) : (s.data.toList.drop 2).take (s.size - 2) = s.data.toList.drop 2 :=
  List.take_of_length_le (by rw [List.length_drop, len_eq]; omega)
theorem dlen (s : ByteArray) : (s.data.toList.drop 2).length = s.size - 2 := by rw [List.length_drop, len_eq]
theorem al_dbad (b : Nat) (s : ByteArray) (k : Nat) (h2 : 2 ≤ k) (h : k < s.size) (hb : b ≤ dv s[k]) : vB b (s.data.toList.drop 2) = false := by
  apply vB_no
  rw [← Bool.not_eq_true]
  intro hh
  have h1 := al_take (k + 1 - 2) hh
  rw [dtake s k h2 h, al_snoc] at h1
  simp at h1
  omega
theorem vB_of (b : Nat) (l : List UInt8) (h : al b l = true) (h' : l ≠ []) : vB b l = true := by
  unfold vB; rw [h]; simpa using h'
theorem rvl_yes (c : UInt8) (h : dv c < 16) : rvl c = dv c := by unfold rvl; rw [if_pos h]
theorem rvl_no (c : UInt8) (h : ¬ dv c < 16) : rvl c = -1 := by unfold rvl; rw [if_neg h]
/-- Decimal digits without a nought ahead. -/
def db (l : List UInt8) : Bool := vB 10 l && !(decide (l.head? = some 48) && decide (1 < l.length))
theorem dv10 (c : UInt8) : dv c < 10 ↔ 48 ≤ (c.toNat : Int) ∧ (c.toNat : Int) ≤ 57 := by
  unfold dv
  split
  · omega
  · split <;> omega
theorem db_no (l : List UInt8) (h : vB 10 l = false) : db l = false := by unfold db; rw [h]; rfl
theorem db_zero (l : List UInt8) (h : l.head? = some 48) (h' : 1 < l.length) : db l = false := by
  unfold db; rw [show decide (l.head? = some 48) = true by simpa using h, show decide (1 < l.length) = true by simpa using h']; simp
theorem db_yes (l : List UInt8) (h : vB 10 l = true) (h' : ¬ (l.head? = some 48 ∧ 1 < l.length)) : db l = true := by
  unfold db
  rw [h]
  by_cases h1 : l.head? = some 48
  · have h2 : ¬ 1 < l.length := fun h2 => h' ⟨h1, h2⟩
    simp [h2]
  · simp [h1]
theorem db_open (l : List UInt8) (h : db l = true) : vB 10 l = true ∧ ¬ (l.head? = some 48 ∧ 1 < l.length) := by
  unfold db at h
  simp only [Bool.and_eq_true, Bool.not_eq_true', Bool.and_eq_false_iff, decide_eq_false_iff_not] at h
  exact ⟨h.1, fun h1 => h.2.elim (fun h2 => h2 h1.1) (fun h2 => h2 h1.2)⟩
theorem pd_db (l : List UInt8) (neg : Bool) (h : db l = false) : pdE l neg = 2 ∧ pdN l neg = 0 := by
  cases hv : vB 10 l
  · exact pd_bad l neg hv
  · by_cases hz : l.head? = some 48 ∧ 1 < l.length
    · exact pd_zero l neg hz.1 (.inr hz.2)
    · rw [db_yes l hv hz] at h
      cases h
theorem val_mono (b : Nat) (h : 1 ≤ b) (l m : List UInt8) : val b l ≤ val b (l ++ m) := by
  refine snoc_ind (P := fun m => val b l ≤ val b (l ++ m)) (by simp) (fun m c ih => ?_) m
  rw [← List.append_assoc, val_snoc]
  have : val b (l ++ m) * 1 ≤ val b (l ++ m) * b := Nat.mul_le_mul_left _ h
  omega
theorem val_take (b : Nat) (h : 1 ≤ b) (l : List UInt8) (k : Nat) : val b (l.take k) ≤ val b l := by
  have := val_mono b h (l.take k) (l.drop k)
  rwa [List.take_append_drop] at this
theorem al_at (b : Nat) (s : ByteArray) (k : Nat) (h : k < s.size) (ha : al b s.data.toList = true) : dv s[k] < b := by
  apply Classical.byContradiction
  intro hh
  have := al_bad b s k h (by omega)
  rw [ha] at this
  cases this
theorem dv_dec (c : UInt8) (h : dv c < 10) : (dv c : Int) = c.toNat - 48 ∧ 48 ≤ (c.toNat : Int) ∧ (c.toNat : Int) ≤ 57 := by
  have h1 := (dv10 c).mp h
  refine ⟨?_, h1⟩
  unfold dv
  rw [if_pos (by omega)]
  omega
/-- Where it is no number behind 0x, it is what its decimal digits are. -/
theorem p_dec (s : ByteArray) (h : rhB s.data.toList = false) : pE s.data.toList = pdE (Lib.trimPrefix s.data.toList [45]) (Lib.hasPrefix s.data.toList [45]) ∧ pN s.data.toList = pdN (Lib.trimPrefix s.data.toList [45]) (Lib.hasPrefix s.data.toList [45]) := by
  cases hp : Lib.hasPrefix s.data.toList [48, 120]
  · unfold pE pN
    rw [hp]
    exact ⟨rfl, rfl⟩
  · have h2 : 1 < s.size := by
      apply Classical.byContradiction
      intro hh
      have := pre2_short s (by omega)
      rw [hp] at this
      cases this
    have h48 := (pre2 s h2).mp hp
    have hm : Lib.hasPrefix s.data.toList [45] = false := by
      rw [← Bool.not_eq_true, pre1 s (by omega)]
      omega
    have ht : Lib.trimPrefix s.data.toList [45] = s.data.toList := by unfold Lib.trimPrefix; rw [hm]; rfl
    have hv : vB 10 s.data.toList = false := by
      apply vB_no
      apply al_bad 10 s 1 h2
      unfold dv
      rw [if_neg (by omega), if_neg (by omega)]
      omega
    have e1 := pd_bad s.data.toList false hv
    have hb : vB 16 (s.data.toList.drop 2) = false ∨ 8 < (s.data.toList.drop 2).length := by
      unfold rhB at h
      rw [hp] at h
      cases hv : vB 16 (s.data.toList.drop 2)
      · exact .inl rfl
      · rw [hv] at h
        simp at h
        right
        rw [dlen] 
        omega
    have e2 := ph_bad _ hb
    rw [ht, hm]
    unfold pE pN
    rw [hp]
    simp only [if_true]
    rw [e1.1, e1.2, e2.1, e2.2]
    exact ⟨rfl, rfl⟩
theorem p_hex (l : List UInt8) (h : rhB l = true) : pE l = 0 ∧ pN l = rhN l := by
  have h' := h
  unfold rhB at h
  simp only [Bool.and_eq_true, decide_eq_true_eq] at h
  have e := ph_ok _ h.2.1 h.2.2
  unfold pE pN rhN
  rw [if_pos h.1, if_pos h.1, h', if_pos rfl]
  exact e
theorem trim_minus (s : ByteArray) (h : Lib.hasPrefix s.data.toList [45] = true) : Lib.trimPrefix s.data.toList [45] = (s.extract 1 s.size).data.toList := by
  unfold Lib.trimPrefix
  rw [if_pos h, Lib.extract_data, List.take_of_length_le (by rw [List.length_drop, len_eq]; omega)]
  rfl
theorem trim_plus (s : ByteArray) (h : Lib.hasPrefix s.data.toList [45] = false) : Lib.trimPrefix s.data.toList [45] = s.data.toList := by
  unfold Lib.trimPrefix
  rw [h]
  rfl
end NM
end Go.Proofs.YtcilhippjiichaaDoor.S02
/-! S02MathF -/
namespace Go.Proofs.YtcilhippjiichaaDoor.S02
namespace NM
/-- Of the number m the digits acc are written; u is left. -/
def Dst (m u : Nat) (acc : List UInt8) : Prop := (u = 0 ∧ acc = Lib.decDigits m) ∨ (0 < u ∧ Lib.decDigits u ++ acc = Lib.decDigits m)
theorem Dst.start (m : Nat) (h : 0 < m) : Dst m m [] := .inr ⟨h, by simp⟩
theorem Dst.step {m u : Nat} {acc : List UInt8} (h : Dst m u acc) (hu : 0 < u) : Dst m (u / 10) (UInt8.ofNat (48 + u % 10) :: acc) := by
  rcases h with ⟨h, _⟩ | ⟨_, h⟩
  · omega
  · by_cases h10 : u < 10
    · left
      rw [Lib.decDigits_one h10] at h
      exact ⟨by omega, by rw [← h, Nat.mod_eq_of_lt h10]; rfl⟩
    · right
      refine ⟨by omega, ?_⟩
      rw [Lib.decDigits, dif_neg h10] at h
      rw [← h, List.append_assoc]
      rfl
theorem Dst.len {m u : Nat} {acc : List UInt8} (h : Dst m u acc) (hm : m < 18446744073709551616) : acc.length ≤ 20 := by
  have h1 := Lib.nDigits_le20 m hm
  rw [← Lib.decDigits_length] at h1
  rcases h with ⟨_, h⟩ | ⟨_, h⟩
  · rw [h]; exact h1
  · rw [← h, List.length_append] at h1; omega
theorem Dst.done {m : Nat} {acc : List UInt8} (h : Dst m 0 acc) : acc = Lib.decDigits m := by
  rcases h with ⟨_, h⟩ | ⟨h, _⟩
  · exact h
  · omega
theorem dig_toNat (r : Nat) (h : r < 10) : ((UInt8.ofNat (48 + r)).toNat : Int) = 48 + (r : Int) := by
  simp
  omega
theorem neg_mod (u : Nat) : (-(u : Int)).tmod 10 = -((u % 10 : Nat) : Int) := by
  rw [Int.neg_tmod]
  rfl
theorem neg_div (u : Nat) : (-(u : Int)).tdiv 10 = -((u / 10 : Nat) : Int) := by
  rw [Int.neg_tdiv]
  rfl
theorem neg_parts (y : Int) (h0 : -9223372036854775808 ≤ y) (h1 : y ≤ 0) (hy : ¬ y = 0) : ∃ r q : Int, y.tmod 10 = -r ∧ y.tdiv 10 = q ∧ 0 ≤ r ∧ r ≤ 9 ∧ -9223372036854775808 ≤ q ∧ q ≤ 0 ∧ q.natAbs < y.natAbs ∧ (q.natAbs = y.natAbs / 10 ∧ r.toNat = y.natAbs % 10) := by
  have e : y = -((y.natAbs : Nat) : Int) := by omega
  have e1 := neg_mod y.natAbs
  have e2 := neg_div y.natAbs
  rw [← e] at e1 e2
  exact ⟨_, _, e1, e2, by omega, by omega, by omega, by omega, by omega, by omega, by omega⟩
theorem data_app (a b : ByteArray) : (a ++ b).data.toList = a.data.toList ++ b.data.toList := by
  rw [ByteArray.data_append, Array.toList_append]
theorem itoa_of (n : Int) (u : Nat) (h : n = u) : Lib.itoa n = Lib.decDigits u := by rw [h, Lib.itoa_nonneg]
theorem itoa_of_neg (n : Int) (u : Nat) (h : n = -(u : Int)) (hu : 1 ≤ u) : Lib.itoa n = 45 :: Lib.decDigits u := by rw [h, Lib.itoa_neg u hu]
/-- The last k digits of base 16. -/
def hxs (u : Nat) : Nat → List UInt8
  | 0 => []
  | k + 1 => hx (u / 16 ^ k % 16) :: hxs u k
/-- The digits of base 16, without noughts ahead. -/
def hd (u : Nat) : List UInt8 := if _h : u < 16 then [hx u] else hd (u / 16) ++ [hx (u % 16)]
termination_by u
decreasing_by omega
theorem hxs_len (u k : Nat) : (hxs u k).length = k := by
  induction k with
  | zero => rfl
  | succ k ih => rw [hxs, List.length_cons, ih]
theorem hxs_snoc (u k : Nat) : hxs u (k + 1) = hxs (u / 16) k ++ [hx (u % 16)] := by
  induction k with
  | zero => simp [hxs]
  | succ k ih =>
    rw [hxs, ih, hxs, List.cons_append]
    congr 3
    rw [Nat.pow_succ, Nat.mul_comm, Nat.div_div_eq_div_mul]
theorem hd_fill (k u : Nat) (h : u < 16 ^ k) (hk : 0 < k) : (hd u).length ≤ k ∧ hxs u k = List.replicate (k - (hd u).length) 48 ++ hd u := by
  induction k generalizing u with
  | zero => omega
  | succ k ih =>
    rw [hxs_snoc]
    by_cases h16 : u < 16
    · rw [hd, dif_pos h16, Nat.div_eq_of_lt h16, Nat.mod_eq_of_lt h16]
      refine ⟨by simp, ?_⟩
      have e : ∀ j, hxs 0 j = List.replicate j 48 := by
        intro j
        induction j with
        | zero => rfl
        | succ j ihj => rw [hxs, ihj, Nat.zero_div, List.replicate_succ]; rfl
      rw [e]
      rfl
    · have hk0 : 0 < k := by
        rcases Nat.eq_zero_or_pos k with rfl | h1
        · simp at h; omega
        · exact h1
      obtain ⟨i1, i2⟩ := ih (u / 16) (by rw [Nat.pow_succ] at h; omega) hk0
      rw [hd, dif_neg h16, i2]
      refine ⟨by rw [List.length_append, List.length_singleton]; omega, ?_⟩
      rw [List.length_append, List.length_singleton, List.append_assoc, show k + 1 - ((hd (u / 16)).length + 1) = k - (hd (u / 16)).length by omega]
theorem rep_eq (k : Nat) : Lib.repeatL [48] k = List.replicate k 48 := by
  induction k with
  | zero => rfl
  | succ k ih => rw [Lib.repeatL, ih, List.replicate_succ]; rfl
/-- Of the number m the digits acc of base 16 are written; u is left. -/
def Hst (m u : Nat) (acc : List UInt8) : Prop := hd u ++ acc = hd m
theorem Hst.step {m u : Nat} {acc : List UInt8} (h : Hst m u acc) (hu : 16 ≤ u) : Hst m (u / 16) (hx (u % 16) :: acc) := by
  unfold Hst at *
  rw [hd, dif_neg (by omega)] at h
  rw [← h, List.append_assoc]
  rfl
theorem Hst.done {m u : Nat} {acc : List UInt8} (h : Hst m u acc) (hu : u < 16) : hx u :: acc = hd m := by
  unfold Hst at *
  rw [hd, dif_pos hu] at h
  exact h
theorem and15 (v : Nat) (_h : v < 18446744073709551616) : bits .and .u64 (v : Int) 15 = ((v % 16 : Nat) : Int) := by
  show IntKind.u64.wrap ((BitVec.ofInt 64 (v : Int) &&& BitVec.ofInt 64 15).toNat : Int) = _
  have h1 : (BitVec.ofInt 64 15).toNat = 2 ^ 4 - 1 := by decide
  rw [BitVec.toNat_and, h1, Nat.and_two_pow_sub_one_eq_mod, BitVec.toNat_ofInt]
  have h2 : (((v : Int) % ((2 ^ 64 : Nat) : Int)).toNat % 2 ^ 4 : Nat) = v % 16 := by
    have : ((2 ^ 64 : Nat) : Int) = 18446744073709551616 := by decide
    rw [this]; omega
  rw [h2, IntKind.wrap_u64]
  omega
theorem hd_len_pos (u : Nat) : 1 ≤ (hd u).length := by
  rw [hd]
  split
  · simp
  · rw [List.length_append, List.length_singleton]; omega
end NM
end Go.Proofs.YtcilhippjiichaaDoor.S02
/-! S02MathG -/
namespace Go.Proofs.YtcilhippjiichaaDoor.S02
namespace NM
theorem dv_dig (r : Nat) (h : r < 10) : dv (UInt8.ofNat (48 + r)) = r := by
  have e : (UInt8.ofNat (48 + r)).toNat = 48 + r := by simp; omega
  unfold dv
  rw [e, if_pos (by omega)]
  omega
theorem dec_all (u : Nat) : al 10 (Lib.decDigits u) = true ∧ val 10 (Lib.decDigits u) = u := by
  induction u using Nat.strongRecOn with
  | _ u ih =>
    by_cases h : u < 10
    · rw [Lib.decDigits_one h]
      have e1 := al_snoc 10 [] (UInt8.ofNat (48 + u))
      have e2 := val_snoc 10 [] (UInt8.ofNat (48 + u))
      rw [List.nil_append, dv_dig u h] at e1 e2
      rw [e1, e2]
      exact ⟨by rw [al_nil]; simpa using h, by rw [val_nil]; omega⟩
    · rw [Lib.decDigits, dif_neg h]
      obtain ⟨h1, h2⟩ := ih (u / 10) (by omega)
      have hr : u % 10 < 10 := Nat.mod_lt _ (by omega)
      rw [al_snoc, val_snoc, h1, h2, dv_dig _ hr]
      exact ⟨by simpa using hr, by omega⟩
theorem dec_head (u : Nat) (h : 0 < u) : ∃ c t, Lib.decDigits u = c :: t ∧ 49 ≤ c.toNat ∧ c.toNat ≤ 57 := by
  induction u using Nat.strongRecOn with
  | _ u ih =>
    by_cases h10 : u < 10
    · exact ⟨_, _, Lib.decDigits_one h10, by simp; omega, by simp; omega⟩
    · rw [Lib.decDigits, dif_neg h10]
      obtain ⟨c, t, h1, h2⟩ := ih (u / 10) (by omega) (by omega)
      exact ⟨c, t ++ _, by rw [h1]; rfl, h2⟩
theorem dec_len (k u : Nat) (hk : 0 < k) (h : u < 10 ^ k) : (Lib.decDigits u).length ≤ k := by
  induction k generalizing u with
  | zero => omega
  | succ k ih =>
    by_cases h10 : u < 10
    · rw [Lib.decDigits_one h10]; simp
    · rw [Lib.decDigits, dif_neg h10, List.length_append, List.length_singleton]
      have hk0 : 0 < k := by
        rcases Nat.eq_zero_or_pos k with rfl | h1
        · simp at h; omega
        · exact h1
      have := ih (u / 10) hk0 (by rw [Nat.pow_succ] at h; omega)
      omega
theorem pre_no (c : UInt8) (t p : List UInt8) (b : UInt8) (h : b ≠ c) : Lib.hasPrefix (c :: t) (b :: p) = false := by
  simp [Lib.hasPrefix, List.isPrefixOf, h]
theorem toNat_ne {a b : UInt8} (h : a.toNat ≠ b.toNat) : a ≠ b := fun e => h (by rw [e])
theorem vB_dec (u : Nat) : vB 10 (Lib.decDigits u) = true :=
  vB_of _ _ (dec_all u).1 (by
    rcases Nat.eq_zero_or_pos u with rfl | h
    · rw [Lib.decDigits_one (by omega)]; simp
    · obtain ⟨c, t, h1, _⟩ := dec_head u h
      rw [h1]; simp)
theorem pd_dec (u : Nat) (neg : Bool) (hz : 0 < u ∨ neg = false) (h : u ≤ lim neg) : pdE (Lib.decDigits u) neg = 0 ∧ pdN (Lib.decDigits u) neg = if neg then -(u : Int) else u := by
  have hu : u < 10 ^ 19 := by
    have h1 : lim neg ≤ 9223372036854775808 := by cases neg <;> decide
    have h2 : (10 : Nat) ^ 19 = 10000000000000000000 := by decide
    omega
  have hl := dec_len 19 u (by omega) hu
  have := pd_ok (Lib.decDigits u) neg (vB_dec u) (by
    rintro ⟨h1, h2⟩
    rcases Nat.eq_zero_or_pos u with rfl | h0
    · rw [Lib.decDigits_one (by omega)] at h2
      rcases h2 with h2 | h2
      · rcases hz with hz | hz
        · omega
        · rw [hz] at h2; cases h2
      · simp at h2
    · obtain ⟨c, t, e, hc⟩ := dec_head u h0
      rw [e] at h1
      simp at h1
      rw [h1] at hc
      exact absurd hc.1 (by decide)) hl (by rw [(dec_all u).2]; exact h)
  rw [(dec_all u).2] at this
  exact this
theorem p_itoa (n : Int) (h0 : -9223372036854775808 ≤ n) (h1 : n ≤ 9223372036854775807) : pN (Lib.itoa n) = n ∧ pE (Lib.itoa n) = 0 := by
  by_cases hn : n < 0
  · obtain ⟨u, rfl⟩ : ∃ u : Nat, n = -(u : Int) := ⟨n.natAbs, by omega⟩
    have hu : 1 ≤ u := by omega
    rw [Lib.itoa_neg u hu]
    have e1 : Lib.hasPrefix (45 :: Lib.decDigits u) [48, 120] = false := pre_no _ _ _ _ (by decide)
    have e2 : Lib.hasPrefix (45 :: Lib.decDigits u) [45] = true := by simp [Lib.hasPrefix, List.isPrefixOf]
    have e3 : Lib.trimPrefix (45 :: Lib.decDigits u) [45] = Lib.decDigits u := by unfold Lib.trimPrefix; rw [if_pos e2]; rfl
    have := pd_dec u true (.inl (by omega)) (by show u ≤ 9223372036854775808; omega)
    unfold pN pE
    rw [e1, e2, e3]
    exact ⟨this.2, this.1⟩
  · obtain ⟨u, rfl⟩ : ∃ u : Nat, n = u := ⟨n.toNat, by omega⟩
    rw [Lib.itoa_nonneg]
    have hh : ∃ c t, Lib.decDigits u = c :: t ∧ 48 ≤ c.toNat ∧ c.toNat ≤ 57 ∧ (c.toNat = 48 → t = []) := by
      rcases Nat.eq_zero_or_pos u with rfl | h
      · exact ⟨48, [], Lib.decDigits_one (by omega), by decide, by decide, fun _ => rfl⟩
      · obtain ⟨c, t, h1, h2, h3⟩ := dec_head u h
        exact ⟨c, t, h1, by omega, h3, fun h => by omega⟩
    obtain ⟨c, t, e, hc1, hc2, hc3⟩ := hh
    have e1 : Lib.hasPrefix (Lib.decDigits u) [48, 120] = false := by
      rw [e]
      by_cases h48 : c.toNat = 48
      · rw [hc3 h48]; simp [Lib.hasPrefix, List.isPrefixOf]
      · exact pre_no _ _ _ _ (toNat_ne (by show 48 ≠ c.toNat; omega))
    have e2 : Lib.hasPrefix (Lib.decDigits u) [45] = false := by rw [e]; exact pre_no _ _ _ _ (toNat_ne (by show 45 ≠ c.toNat; omega))
    have e3 : Lib.trimPrefix (Lib.decDigits u) [45] = Lib.decDigits u := by unfold Lib.trimPrefix; rw [e2]; rfl
    have := pd_dec u false (.inr rfl) (by show u ≤ 9223372036854775807; omega)
    unfold pN pE
    rw [e1, e2, e3]
    exact ⟨this.2, this.1⟩
theorem dv_hx (d : Nat) (h : d < 16) : dv (hx d) = d := by
  by_cases h10 : d < 10
  · unfold dv; rw [hx_lo d h10, if_pos (by omega)]; omega
  · unfold dv; rw [hx_hi d (by omega) h, if_neg (by omega), if_pos (by omega)]; omega
theorem hxs_all (k u : Nat) : al 16 (hxs u k) = true ∧ val 16 (hxs u k) = u % 16 ^ k := by
  induction k generalizing u with
  | zero => exact ⟨rfl, by rw [Nat.pow_zero, Nat.mod_one]; rfl⟩
  | succ k ih =>
    rw [hxs_snoc, al_snoc, val_snoc, (ih (u / 16)).1, (ih (u / 16)).2, dv_hx _ (Nat.mod_lt _ (by omega))]
    refine ⟨by simpa using Nat.mod_lt u (by omega : 16 > 0), ?_⟩
    rw [Nat.pow_succ, Nat.mul_comm (16 ^ k) 16, Nat.mod_mul]
    omega
theorem p_hexs (u : Nat) (h : u < 4294967296) : pN (48 :: 120 :: hxs u 8) = u ∧ pE (48 :: 120 :: hxs u 8) = 0 := by
  have e1 : Lib.hasPrefix (48 :: 120 :: hxs u 8) [48, 120] = true := by simp [Lib.hasPrefix, List.isPrefixOf]
  have e2 := ph_ok (hxs u 8) (vB_of _ _ (hxs_all 8 u).1 (by simp [hxs])) (by rw [hxs_len]; exact Nat.le_refl _)
  rw [(hxs_all 8 u).2, Nat.mod_eq_of_lt (by simpa using h)] at e2
  unfold pN pE
  rw [e1]
  exact ⟨e2.2, e2.1⟩
end NM
end Go.Proofs.YtcilhippjiichaaDoor.S02
/-! S02MathD -/
namespace Go.Proofs.YtcilhippjiichaaDoor.S02
namespace NM
/-- May a byte stand in a text of lines? -/
def okb (c : UInt8) : Bool := c == 10 || prB c
def aok (l : List UInt8) : Bool := l.all okb
/-- The lines that end ahead of a byte, and where the next one begins. -/
def ln (l : List UInt8) : Nat → List (List UInt8) × Nat
  | 0 => ([], 0)
  | k + 1 => if (l.getD k 0 == 10) = true then ((ln l k).1 ++ [sl l (ln l k).2 k], k + 1) else ln l k
def lE (l : List UInt8) : Int := if 65536 < l.length ∨ 4096 < Lib.countByte l 10 then 4 else if aok l = false ∨ (ln l l.length).2 < l.length then 2 else 0
def lL (l : List UInt8) : List (List UInt8) := if lE l = 0 then (ln l l.length).1 else []
theorem ln_no (l : List UInt8) (k : Nat) (h : l.getD k 0 ≠ 10) : ln l (k + 1) = ln l k := by rw [ln, if_neg (by simpa using h)]
theorem ln_cut (l : List UInt8) (k : Nat) (h : l.getD k 0 = 10) : ln l (k + 1) = ((ln l k).1 ++ [sl l (ln l k).2 k], k + 1) := by rw [ln, if_pos (by rw [h]; decide)]
theorem ln_bd (l : List UInt8) (k : Nat) : (ln l k).2 ≤ k ∧ (ln l k).1.length ≤ k := by
  induction k with
  | zero => exact ⟨Nat.le_refl _, Nat.le_refl _⟩
  | succ k ih =>
    rw [ln]
    split
    · exact ⟨Nat.le_refl _, by show ((ln l k).1 ++ [sl l (ln l k).2 k]).length ≤ k + 1; rw [List.length_append, List.length_singleton]; omega⟩
    · omega
theorem ln_last (l : List UInt8) (k : Nat) : (ln l (k + 1)).2 < k + 1 ↔ l.getD k 0 ≠ 10 := by
  by_cases h : l.getD k 0 = 10
  · rw [ln_cut l k h]
    exact ⟨fun h1 => absurd h1 (Nat.lt_irrefl _), fun h1 => absurd h h1⟩
  · rw [ln_no l k h]
    have := (ln_bd l k).1
    exact ⟨fun _ => h, fun _ => by omega⟩
theorem l_long (l : List UInt8) (h : 65536 < l.length ∨ 4096 < Lib.countByte l 10) : lE l = 4 ∧ lL l = [] := by
  have e : lE l = 4 := by unfold lE; rw [if_pos h]
  unfold lL
  rw [e]
  exact ⟨rfl, rfl⟩
theorem l_bad (l : List UInt8) (h : ¬ (65536 < l.length ∨ 4096 < Lib.countByte l 10)) (h' : aok l = false ∨ (ln l l.length).2 < l.length) : lE l = 2 ∧ lL l = [] := by
  have e : lE l = 2 := by unfold lE; rw [if_neg h, if_pos h']
  unfold lL
  rw [e]
  exact ⟨rfl, rfl⟩
theorem l_ok (l : List UInt8) (h : ¬ (65536 < l.length ∨ 4096 < Lib.countByte l 10)) (h1 : aok l = true) (h2 : ¬ (ln l l.length).2 < l.length) : lE l = 0 ∧ lL l = (ln l l.length).1 := by
  have e : lE l = 0 := by unfold lE; rw [if_neg h, if_neg (by rintro (h3 | h3); (rw [h1] at h3; cases h3); exact h2 h3)]
  unfold lL
  rw [e]
  exact ⟨rfl, rfl⟩
theorem aok_snoc (l : List UInt8) (c : UInt8) : aok (l ++ [c]) = (aok l && okb c) := by simp [aok, List.all_append]
theorem aok_bad (s : ByteArray) (k : Nat) (h : k < s.size) (hb : okb s[k] = false) : aok s.data.toList = false := by
  rw [← Bool.not_eq_true]
  intro hh
  have h1 : aok (s.data.toList.take (k + 1)) = true := by
    simp only [aok, List.all_eq_true] at *
    exact fun x hx => hh x (List.mem_of_mem_take hx)
  rw [take_snoc s k h, aok_snoc, hb] at h1
  simp at h1
theorem byte_eq (c : UInt8) (n : UInt8) (h : (c.toNat : Int) = (n.toNat : Int)) : c = n := UInt8.toNat_inj.mp (by omega)
theorem okb_lf (c : UInt8) (h : (c.toNat : Int) = 10) : okb c = true ∧ c = 10 := by
  have := byte_eq c 10 h
  subst this
  exact ⟨rfl, rfl⟩
theorem okb_not (c : UInt8) (h : ¬ (c.toNat : Int) = 10) : okb c = prB c ∧ c ≠ 10 := by
  have hn : c ≠ 10 := fun e => h (by rw [e]; rfl)
  unfold okb
  exact ⟨by simp [hn], hn⟩
theorem okb_high (c : UInt8) (h : 128 ≤ c.toNat) : okb c = false := by
  rw [(okb_not c (by omega)).1]
  unfold prB
  exact prR_high _ (by omega)
theorem okb_tab (c : UInt8) (h : (c.toNat : Int) = 9) : okb c = true ∧ c ≠ 10 := by
  have := byte_eq c 9 h
  subst this
  exact ⟨rfl, by decide⟩
theorem okb_in (c : UInt8) (h : ¬ (c.toNat : Int) = 10) (h1 : 32 ≤ (c.toNat : Int)) (h2 : (c.toNat : Int) ≤ 126) : okb c = true ∧ c ≠ 10 := by
  refine ⟨?_, (okb_not c h).2⟩
  rw [(okb_not c h).1]
  unfold prB prR
  simp
  omega
theorem okb_out (c : UInt8) (h : ¬ (c.toNat : Int) = 10) (h1 : ¬ (c.toNat : Int) = 9) (h2 : (c.toNat : Int) < 32 ∨ 126 < (c.toNat : Int)) : okb c = false := by
  rw [(okb_not c h).1]
  unfold prB prR
  simp
  omega
theorem ln_last' (s : ByteArray) (h : 0 < s.size) : (ln s.data.toList s.size).2 < s.size ↔ ¬ (s[s.size - 1].toNat : Int) = 10 := by
  have e := ln_last s.data.toList (s.size - 1)
  rw [show s.size - 1 + 1 = s.size by omega, getD_eq s (s.size - 1) (by omega)] at e
  rw [e]
  exact ⟨fun h1 h2 => h1 (okb_lf _ h2).2, fun h1 => (okb_not _ h1).2⟩
theorem count_snoc (s : ByteArray) (k : Nat) (h : k < s.size) : Lib.countByte (s.data.toList.take (k + 1)) 10 = Lib.countByte (s.data.toList.take k) 10 + if (s[k].toNat : Int) = 10 then 1 else 0 := by
  rw [take_snoc s k h]
  unfold Lib.countByte
  rw [List.count_append, List.count_singleton]
  congr 1
  by_cases e : (s[k].toNat : Int) = 10
  · rw [if_pos e, (okb_lf _ e).2]; rfl
  · rw [if_neg e, if_neg (by simpa using (okb_not _ e).2)]
theorem count_le (l : List UInt8) (k : Nat) : Lib.countByte (l.take k) 10 ≤ k := by
  unfold Lib.countByte
  have h1 := List.count_le_length (a := (10 : UInt8)) (l := l.take k)
  have h2 : (l.take k).length ≤ k := List.length_take_le _ _
  omega
end NM
end Go.Proofs.YtcilhippjiichaaDoor.S02
/-! S02MathH -/
namespace Go.Proofs.YtcilhippjiichaaDoor.S02
namespace NM
/-- May a byte stand in a word (false) or in a line (true)? -/
def plB (bl : Bool) (c : UInt8) : Bool := (decide (32 ≤ (c.toNat : Int)) && decide ((c.toNat : Int) ≤ 126)) && (bl || (!(decide ((c.toNat : Int) = 32)) && !(decide ((c.toNat : Int) = 44))))
def pl (bl : Bool) (l : List UInt8) : Bool := l.all (plB bl)
theorem pl_snoc (bl : Bool) (l : List UInt8) (c : UInt8) : pl bl (l ++ [c]) = (pl bl l && plB bl c) := by simp [pl, List.all_append]
theorem pl_bad (bl : Bool) (s : ByteArray) (k : Nat) (h : k < s.size) (hb : plB bl s[k] = false) : pl bl s.data.toList = false := by
  rw [← Bool.not_eq_true]
  intro hh
  have h1 : pl bl (s.data.toList.take (k + 1)) = true := by
    simp only [pl, List.all_eq_true] at *
    exact fun x hx => hh x (List.mem_of_mem_take hx)
  rw [take_snoc s k h, pl_snoc, hb] at h1
  simp at h1
theorem plB_lo (bl : Bool) (c : UInt8) (h : (c.toNat : Int) < 32) : plB bl c = false := by
  unfold plB
  rw [show decide (32 ≤ (c.toNat : Int)) = false by simp only [decide_eq_false_iff_not]; omega]
  rfl
theorem plB_hi (bl : Bool) (c : UInt8) (h : 126 < (c.toNat : Int)) : plB bl c = false := by
  unfold plB
  rw [show decide ((c.toNat : Int) ≤ 126) = false by simp only [decide_eq_false_iff_not]; omega]
  simp
theorem plB_in (c : UInt8) (h1 : ¬ (c.toNat : Int) < 32) (h2 : ¬ 126 < (c.toNat : Int)) : plB true c = true := by
  unfold plB
  simp
  omega
theorem plB_32 (c : UInt8) (h : (c.toNat : Int) = 32) : plB false c = false := by
  unfold plB
  simp [h]
theorem plB_44 (c : UInt8) (h : (c.toNat : Int) = 44) : plB false c = false := by
  unfold plB
  simp [h]
theorem plB_word (c : UInt8) (h1 : ¬ (c.toNat : Int) < 32) (h2 : ¬ 126 < (c.toNat : Int)) (h3 : ¬ (c.toNat : Int) = 32) (h4 : ¬ (c.toNat : Int) = 44) : plB false c = true := by
  unfold plB
  rw [show decide (32 ≤ (c.toNat : Int)) = true by simp only [decide_eq_true_eq]; omega, show decide ((c.toNat : Int) ≤ 126) = true by simp only [decide_eq_true_eq]; omega, show decide ((c.toNat : Int) = 32) = false by simp only [decide_eq_false_iff_not]; exact h3, show decide ((c.toNat : Int) = 44) = false by simp only [decide_eq_false_iff_not]; exact h4]
  rfl
theorem plB_open (bl : Bool) (c : UInt8) (h : plB bl c = true) : 32 ≤ (c.toNat : Int) ∧ (c.toNat : Int) ≤ 126 ∧ (bl = false → (c.toNat : Int) ≠ 32 ∧ (c.toNat : Int) ≠ 44) := by
  unfold plB at h
  simp only [Bool.and_eq_true, decide_eq_true_eq, Bool.or_eq_true, Bool.not_eq_true', decide_eq_false_iff_not] at h
  refine ⟨h.1.1, h.1.2, fun hb => ?_⟩
  rcases h.2 with h3 | h3
  · rw [hb] at h3; cases h3
  · exact h3
theorem pl_line (l : List UInt8) (h : pl false l = true) : pl true l = true := by
  simp only [pl, List.all_eq_true] at *
  intro c hc
  have := plB_open false c (h c hc)
  exact plB_in c (by omega) (by omega)
theorem pl_sep (l : List UInt8) (h : pl false l = true) : ∀ c ∈ l, sepB c = false := by
  simp only [pl, List.all_eq_true] at h
  intro c hc
  have h1 := plB_open false c (h c hc)
  have h2 := h1.2.2 rfl
  unfold sepB sepR
  simp
  omega
theorem pl_ok (l : List UInt8) (h : pl true l = true) : ∀ c ∈ l, okb c = true ∧ c ≠ 10 := by
  simp only [pl, List.all_eq_true] at h
  intro c hc
  have h1 := plB_open true c (h c hc)
  exact okb_in c (by omega) (by omega) (by omega)
theorem sl_app (l m : List UInt8) (a k : Nat) (ha : a ≤ k) (hk : k ≤ l.length) : sl (l ++ m) a k = sl l a k := by
  unfold sl
  rw [List.drop_append_of_le_length (by omega), List.take_append_of_le_length (by rw [List.length_drop]; omega)]
theorem getD_app (l m : List UInt8) (k : Nat) (h : k < l.length) : (l ++ m).getD k 0 = l.getD k 0 := by
  rw [List.getD_eq_getElem?_getD, List.getD_eq_getElem?_getD, List.getElem?_append_left h]
theorem getD_right (l m : List UInt8) (k : Nat) : (l ++ m).getD (l.length + k) 0 = m.getD k 0 := by
  rw [List.getD_eq_getElem?_getD, List.getD_eq_getElem?_getD, List.getElem?_append_right (by omega), Nat.add_sub_cancel_left]
theorem getD_mem (m : List UInt8) (k : Nat) (h : k < m.length) : m.getD k 0 ∈ m := by
  rw [List.getD_eq_getElem?_getD, List.getElem?_eq_getElem h]
  exact List.getElem_mem h
theorem ws_app (l m : List UInt8) (k : Nat) (h : k ≤ l.length) : ws (l ++ m) k = ws l k := by
  induction k with
  | zero => rfl
  | succ k ih =>
    have ih := ih (by omega)
    rw [ws, ws, ih, getD_app l m k (by omega), sl_app l m _ k (ws_bd l k).1 (by omega)]
theorem ln_app (l m : List UInt8) (k : Nat) (h : k ≤ l.length) : ln (l ++ m) k = ln l k := by
  induction k with
  | zero => rfl
  | succ k ih =>
    have ih := ih (by omega)
    rw [ln, ln, ih, getD_app l m k (by omega), sl_app l m _ k (ln_bd l k).1 (by omega)]
/-- The words of a text that ends with a separator. -/
def Sw (l : List UInt8) (acc : List (List UInt8)) : Prop := ws l l.length = (acc, l.length)
theorem ws_word (l x : List UInt8) (hx : ∀ c ∈ x, sepB c = false) : ws (l ++ x) (l ++ x).length = ws l l.length := by
  rw [List.length_append, ws_skip (l ++ x) l.length x.length fun j h1 h2 => ?_, ws_app l x _ (Nat.le_refl _)]
  obtain ⟨i, rfl⟩ : ∃ i, j = l.length + i := ⟨j - l.length, by omega⟩
  rw [getD_right]
  exact hx _ (getD_mem x i (by omega))
theorem ws_one (l : List UInt8) (c : UInt8) (hc : sepB c = true) : ws (l ++ [c]) (l ++ [c]).length = ((if (ws l l.length).2 < l.length then (ws l l.length).1 ++ [sl l (ws l l.length).2 l.length] else (ws l l.length).1), l.length + 1) := by
  have e : (l ++ [c]).getD l.length 0 = c := getD_right l [c] 0
  rw [List.length_append, List.length_singleton, ws, e, if_pos hc, ws_app l [c] _ (Nat.le_refl _), sl_app l [c] _ _ (ws_bd l _).1 (Nat.le_refl _)]
theorem Sw.gap {l : List UInt8} {acc : List (List UInt8)} (h : Sw l acc) (g : List UInt8) (hg : ∀ c ∈ g, sepB c = true) : Sw (l ++ g) acc := by
  revert hg
  refine snoc_ind (P := fun g => (∀ c ∈ g, sepB c = true) → Sw (l ++ g) acc) (fun _ => by simpa using h) (fun g c ih hg => ?_) g
  have ih := ih fun d hd => hg d (List.mem_append_left _ hd)
  unfold Sw at *
  rw [← List.append_assoc, ws_one _ c (hg c (by simp)), ih]
  simp
  omega
theorem Sw.word {l : List UInt8} {acc : List (List UInt8)} (h : Sw l acc) (x g : List UInt8) (hx : ∀ c ∈ x, sepB c = false) (h0 : x ≠ []) (hg : ∀ c ∈ g, sepB c = true) (g0 : g ≠ []) : Sw (l ++ x ++ g) (acc ++ [x]) := by
  match g, g0, hg with
  | c :: t, _, hg =>
    have h1 : Sw (l ++ x ++ [c]) (acc ++ [x]) := by
      have e := ws_word l x hx
      unfold Sw at *
      rw [h] at e
      have hl : 0 < x.length := List.length_pos_iff.mpr h0
      rw [ws_one _ c (hg c (by simp)), e]
      rw [if_pos (by rw [List.length_append]; show l.length < _; omega)]
      have e2 : sl (l ++ x) l.length (l ++ x).length = x := by
        unfold sl
        rw [List.drop_left, List.length_append, Nat.add_sub_cancel_left, List.take_length]
      show (acc ++ [sl (l ++ x) l.length (l ++ x).length], (l ++ x).length + 1) = (acc ++ [x], (l ++ x ++ [c]).length)
      rw [e2, @List.length_append _ (l ++ x) _, List.length_singleton]
    have h2 := h1.gap t fun d hd => hg d (by simp [hd])
    rwa [List.append_assoc, List.singleton_append] at h2
theorem Sw.done {l : List UInt8} {acc : List (List UInt8)} (h : Sw l acc) : wd l = acc := by
  unfold Sw at h
  unfold wd
  rw [h, if_neg (by show ¬ l.length < l.length; omega)]
/-- The lines of a text that ends with a line feed. -/
def Sl (l : List UInt8) (acc : List (List UInt8)) : Prop := ln l l.length = (acc, l.length) ∧ aok l = true ∧ Lib.countByte l 10 = acc.length
theorem ln_line (l x : List UInt8) (hx : ∀ c ∈ x, c ≠ 10) : ln (l ++ x) (l ++ x).length = ln l l.length := by
  refine snoc_ind (P := fun x => (∀ c ∈ x, c ≠ 10) → ln (l ++ x) (l ++ x).length = ln l l.length) (fun _ => by simp) (fun x c ih hx => ?_) x hx
  have ih := ih fun d hd => hx d (List.mem_append_left _ hd)
  have e : (l ++ x ++ [c]).getD (l ++ x).length 0 = c := getD_right (l ++ x) [c] 0
  rw [← List.append_assoc, @List.length_append _ (l ++ x) _, List.length_singleton, ln_no _ _ (by rw [e]; exact hx c (by simp)), ln_app _ [c] _ (Nat.le_refl _), ih]
theorem aok_app (l m : List UInt8) : aok (l ++ m) = (aok l && aok m) := by simp [aok, List.all_append]
theorem Sl.line {l : List UInt8} {acc : List (List UInt8)} (h : Sl l acc) (x : List UInt8) (hx : ∀ c ∈ x, okb c = true ∧ c ≠ 10) : Sl (l ++ x ++ [10]) (acc ++ [x]) := by
  obtain ⟨h1, h2, h3⟩ := h
  refine ⟨?_, ?_, ?_⟩
  · have e : (l ++ x ++ [10]).getD (l ++ x).length 0 = 10 := getD_right (l ++ x) [10] 0
    rw [@List.length_append _ (l ++ x) _, List.length_singleton, ln_cut _ _ e, ln_app _ [10] _ (Nat.le_refl _), ln_line l x fun c hc => (hx c hc).2, h1]
    have e2 : sl (l ++ x ++ [10]) l.length (l ++ x).length = x := by
      rw [sl_app _ _ _ _ (by rw [List.length_append]; omega) (Nat.le_refl _)]
      unfold sl
      rw [List.drop_left, List.length_append, Nat.add_sub_cancel_left, List.take_length]
    show (acc ++ [sl (l ++ x ++ [10]) l.length (l ++ x).length], (l ++ x).length + 1) = _
    rw [e2]
  · rw [aok_app, aok_app, h2, show aok x = true from List.all_eq_true.mpr fun c hc => (hx c hc).1]
    rfl
  · unfold Lib.countByte at *
    rw [List.count_append, List.count_append, h3, List.count_eq_zero.mpr fun hc => (hx 10 hc).2 rfl, List.length_append]
    rfl
theorem Sl.done {l : List UInt8} {acc : List (List UInt8)} (h : Sl l acc) (h1 : l.length ≤ 65536) (h2 : acc.length ≤ 4096) : lE l = 0 ∧ lL l = acc := by
  obtain ⟨e1, e2, e3⟩ := h
  have := l_ok l (by rw [e3]; omega) e2 (by rw [e1]; show ¬ l.length < l.length; omega)
  rw [e1] at this
  exact this
end NM
end Go.Proofs.YtcilhippjiichaaDoor.S02
