/-
  Plain mathematics of digits, separators and bytes of a text: what a byte stands for, the number that digits are, and what a rune that is read off a text tells of its bytes. No condition.
-/
import Derived.Lib.ItoaMem
import Derived.Lib.Strings
import Derived.Laws.RangeAny
namespace Go.Proofs.YtfgkcjalfhbjjaaDoor.S02
namespace NM
/-- What a byte stands for as a digit; 16: it is none. -/
def dv (c : UInt8) : Nat := if 48 ≤ c.toNat ∧ c.toNat ≤ 57 then c.toNat - 48 else if 97 ≤ c.toNat ∧ c.toNat ≤ 102 then c.toNat - 87 else 16
/-- What a rune stands for as a digit; 16: it is none. -/
def rd (r : Int) : Int := if 48 ≤ r ∧ r ≤ 57 then r - 48 else if 97 ≤ r ∧ r ≤ 102 then r - 87 else 16
/-- The number that digits of a base are. -/
def val (b : Nat) (l : List UInt8) : Nat := l.foldl (fun n c => n * b + dv c) 0
/-- Are all bytes digits of the base? -/
def al (b : Nat) (l : List UInt8) : Bool := l.all fun c => decide (dv c < b)
def sepR (r : Int) : Bool := r == 32 || r == 9 || r == 44
def sepB (c : UInt8) : Bool := sepR (c.toNat : Int)
def prR (r : Int) : Bool := (decide (32 ≤ r) && decide (r ≤ 126)) || r == 9
def prB (c : UInt8) : Bool := prR (c.toNat : Int)

/-- A byte's digit as the reference has it: -1: it is none. -/
def rvl (c : UInt8) : Int := if dv c < 16 then dv c else -1
theorem rvl_a (c : UInt8) (h : 48 ≤ (c.toNat : Int) ∧ (c.toNat : Int) ≤ 57) : rvl c = c.toNat - 48 := by
  have e : dv c = c.toNat - 48 := by unfold dv; rw [if_pos (by omega)]
  unfold rvl; rw [e, if_pos (by omega)]; omega
theorem rvl_b (c : UInt8) (h : 97 ≤ (c.toNat : Int) ∧ (c.toNat : Int) ≤ 102) : rvl c = c.toNat - 87 := by
  have e : dv c = c.toNat - 87 := by unfold dv; rw [if_neg (by omega), if_pos (by omega)]
  unfold rvl; rw [e, if_pos (by omega)]; omega
theorem rvl_c (c : UInt8) (h : ¬ (48 ≤ (c.toNat : Int) ∧ (c.toNat : Int) ≤ 57)) (h' : ¬ (97 ≤ (c.toNat : Int) ∧ (c.toNat : Int) ≤ 102)) : rvl c = -1 := by
  have e : dv c = 16 := by unfold dv; rw [if_neg (by omega), if_neg (by omega)]
  unfold rvl; rw [e, if_neg (by omega)]
/-- A digit of base 16. -/
def hx (d : Nat) : UInt8 := if d < 10 then UInt8.ofNat (48 + d) else UInt8.ofNat (87 + d)
theorem hx_lo (d : Nat) (h : d < 10) : (hx d).toNat = 48 + d := by
  unfold hx; rw [if_pos h]; simp; omega
theorem hx_hi (d : Nat) (h : 10 ≤ d) (h1 : d < 16) : (hx d).toNat = 87 + d := by
  unfold hx; rw [if_neg (by omega)]; simp; omega
theorem dv_le (c : UInt8) : dv c ≤ 16 := by unfold dv; split <;> (try split) <;> omega
theorem rd_bd (r : Int) : 0 ≤ rd r ∧ rd r ≤ 16 := by unfold rd; split <;> (try split) <;> omega
theorem val_nil (b : Nat) : val b [] = 0 := rfl
theorem val_snoc (b : Nat) (l : List UInt8) (c : UInt8) : val b (l ++ [c]) = val b l * b + dv c := by simp [val, List.foldl_append]
theorem al_nil (b : Nat) : al b [] = true := rfl
theorem al_snoc (b : Nat) (l : List UInt8) (c : UInt8) : al b (l ++ [c]) = (al b l && decide (dv c < b)) := by simp [al, List.all_append]
theorem take_snoc (s : ByteArray) (k : Nat) (h : k < s.size) : s.data.toList.take (k + 1) = s.data.toList.take k ++ [s[k]] := by
  rw [List.take_succ_eq_append_getElem (by simpa using h)]; rfl
theorem al_take {b : Nat} {l : List UInt8} (k : Nat) (h : al b l = true) : al b (l.take k) = true := by
  simp only [al, List.all_eq_true] at *
  exact fun x hx => h x (List.mem_of_mem_take hx)
theorem take_all (s : ByteArray) (k : Nat) (h : s.size ≤ k) : s.data.toList.take k = s.data.toList := List.take_of_length_le (by simp; omega)
theorem len_eq (s : ByteArray) : s.data.toList.length = s.size := by simp
/-- A bad byte spoils the text. -/
theorem al_bad (b : Nat) (s : ByteArray) (k : Nat) (h : k < s.size) (hb : b ≤ dv s[k]) : al b s.data.toList = false := by
  rw [← Bool.not_eq_true]
  intro hh
  have h1 := al_take (k + 1) hh
  rw [take_snoc s k h, al_snoc] at h1
  simp at h1
  omega
theorem snoc_ind {P : List UInt8 → Prop} (h0 : P []) (h1 : ∀ l c, P l → P (l ++ [c])) (l : List UInt8) : P l := by
  have h : ∀ m : List UInt8, P m.reverse := by
    intro m
    induction m with
    | nil => exact h0
    | cons c t ih => rw [List.reverse_cons]; exact h1 _ _ ih
  have := h l.reverse
  rwa [List.reverse_reverse] at this
theorem val_lt (b : Nat) (l : List UInt8) (h : al b l = true) : val b l < b ^ l.length ∨ l = [] ∧ val b l = 0 := by
  by_cases hb : b = 0
  · subst hb
    cases l with
    | nil => right; exact ⟨rfl, rfl⟩
    | cons c t => simp [al] at h
  · left
    revert h
    refine snoc_ind (P := fun l => al b l = true → val b l < b ^ l.length) (fun _ => by simp [val_nil]) (fun t c ih h => ?_) l
    rw [al_snoc] at h
    simp only [Bool.and_eq_true, decide_eq_true_eq] at h
    have := ih h.1
    rw [val_snoc, List.length_append, List.length_singleton, Nat.pow_succ]
    calc val b t * b + dv c < val b t * b + b := by omega
      _ = (val b t + 1) * b := by rw [Nat.add_mul, Nat.one_mul]
      _ ≤ b ^ t.length * b := Nat.mul_le_mul_right b (by omega)
/-- The rune that is read at a place tells whether a digit stands there, and which. -/
theorem dec_dv (s : ByteArray) (pos : Nat) (h : pos < s.size) : rd ((Utf8.decode s pos).1 : Int) = dv s[pos] ∧ (dv s[pos] < 16 → (Utf8.decode s pos).2 = 1) := by
  by_cases ha : (s[pos]'h).toNat < 128
  · rw [decode_ascii s pos h ha]
    refine ⟨?_, fun _ => rfl⟩
    unfold rd dv
    split <;> split <;> (try split) <;> (try split) <;> omega
  · have hh := decode_high s pos h (by omega)
    have e1 : rd ((Utf8.decode s pos).1 : Int) = 16 := by unfold rd; rw [if_neg (by omega), if_neg (by omega)]
    have e2 : dv s[pos] = 16 := by unfold dv; rw [if_neg (by omega), if_neg (by omega)]
    exact ⟨by rw [e1, e2]; rfl, fun h => by omega⟩
theorem get_bang (s : ByteArray) (k : Nat) (h : k < s.size) : s.get! k = s[k] := by
  simp [ByteArray.get!, getElem!_pos, h]
  rfl
/-- The bytes of one rune that is no ASCII: none of them is ASCII. -/
theorem dec_wide (s : ByteArray) (pos : Nat) (h : pos < s.size) (ha : 128 ≤ (s[pos]'h).toNat) :
    pos + (Utf8.decode s pos).2 ≤ s.size ∧ ∀ k (hk : k < s.size), pos ≤ k → k < pos + (Utf8.decode s pos).2 → 128 ≤ (s[k]'hk).toNat := by
  have hn : ¬ (s[pos]'h).toNat < 128 := by omega
  have e0 : s.get! (pos + 0) = s[pos]'h := get_bang s pos h
  have c1 : ∀ j, (pos + j < s.size && (s.get! (pos + j)).toNat / 64 == 2) = true → pos + j < s.size ∧ 128 ≤ (s.get! (pos + j)).toNat := by
    intro j hj
    simp at hj
    omega
  have fin : ∀ n, (∀ j, j < n → pos + j < s.size ∧ 128 ≤ (s.get! (pos + j)).toNat) → 0 < n → pos + n ≤ s.size ∧ ∀ k (hk : k < s.size), pos ≤ k → k < pos + n → 128 ≤ (s[k]'hk).toNat := by
    intro n hj h0
    refine ⟨by have := (hj (n - 1) (by omega)).1; omega, fun k hk h1 h2 => ?_⟩
    have := (hj (k - pos) (by omega)).2
    rw [show pos + (k - pos) = k by omega, get_bang s k hk] at this
    exact this
  have z : pos + 0 < s.size ∧ 128 ≤ (s.get! (pos + 0)).toNat := ⟨h, by rw [e0]; exact ha⟩
  have one := fin 1 (fun j hj => by obtain rfl : j = 0 := by omega
                                    exact z) (by omega)
  simp only [Utf8.decode, e0, hn, if_false]
  split
  · rename_i hc
    simp only [Bool.and_eq_true] at hc
    have d1 := c1 1 (by simpa using hc.2)
    split
    · exact fin 2 (fun j hj => by
        rcases (show j = 0 ∨ j = 1 by omega) with rfl | rfl
        · exact z
        · exact d1) (by omega)
    · exact one
  · split
    · rename_i hc
      simp only [Bool.and_eq_true] at hc
      have d1 := c1 1 (by simpa using hc.1.2)
      have d2 := c1 2 (by simpa using hc.2)
      split
      · exact fin 3 (fun j hj => by
          rcases (show j = 0 ∨ j = 1 ∨ j = 2 by omega) with rfl | rfl | rfl
          · exact z
          · exact d1
          · exact d2) (by omega)
      · exact one
    · split
      · rename_i hc
        simp only [Bool.and_eq_true] at hc
        have d1 := c1 1 (by simpa using hc.1.1.2)
        have d2 := c1 2 (by simpa using hc.1.2)
        have d3 := c1 3 (by simpa using hc.2)
        split
        · exact fin 4 (fun j hj => by
            rcases (show j = 0 ∨ j = 1 ∨ j = 2 ∨ j = 3 by omega) with rfl | rfl | rfl | rfl
            · exact z
            · exact d1
            · exact d2
            · exact d3) (by omega)
        · exact one
      · exact one
theorem sepR_high (r : Int) (h : 128 ≤ r) : sepR r = false := by unfold sepR; simp; omega
theorem prR_high (r : Int) (h : 128 ≤ r) : prR r = false := by unfold prR; simp; omega
theorem dec_sep (s : ByteArray) (pos : Nat) (h : pos < s.size) : sepR ((Utf8.decode s pos).1 : Int) = sepB s[pos] := by
  by_cases ha : (s[pos]'h).toNat < 128
  · rw [decode_ascii s pos h ha]; rfl
  · have hh := decode_high s pos h (by omega)
    rw [sepR_high _ (by omega), sepB, sepR_high _ (by omega)]
theorem dec_pr (s : ByteArray) (pos : Nat) (h : pos < s.size) : prR ((Utf8.decode s pos).1 : Int) = prB s[pos] := by
  by_cases ha : (s[pos]'h).toNat < 128
  · rw [decode_ascii s pos h ha]; rfl
  · have hh := decode_high s pos h (by omega)
    rw [prR_high _ (by omega), prB, prR_high _ (by omega)]
end NM
end Go.Proofs.YtfgkcjalfhbjjaaDoor.S02
