/-
  Plain mathematics of lines: the texts ahead of each line feed, and what is wrong with a text. No condition.
-/
import Derived.Test.YtfeekgepmemanaaDoorMathC
import Derived.Lib.Bytealg
namespace Go.Proofs.YtfeekgepmemanaaDoor
namespace NM
/-- May a byte stand in a text of lines? -/
def okb (c : UInt8) : Bool := c == 10 || prB c
def aok (l : List UInt8) : Bool := l.all okb
/-- The lines that end ahead of a byte, and where the next one begins. -/
def ln (l : List UInt8) : Nat → List (List UInt8) × Nat
  | 0 => ([], 0)
  | k + 1 => if (l.getD k 0 == 10) = true then ((ln l k).1 ++ [sl l (ln l k).2 k], k + 1) else ln l k
def lE (l : List UInt8) : Int := if 65536 < l.length ∨ 4096 < Lib.countByte l 10 then 4 else if aok l = false ∨ (ln l l.length).2 < l.length then 2 else 0
def lL (l : List UInt8) : List (List UInt8) := if lE l = 0 then (ln l l.length).1 else []
theorem ln_no (l : List UInt8) (k : Nat) (h : l.getD k 0 ≠ 10) : ln l (k + 1) = ln l k := by rw [ln, if_neg (by simpa using h)]
theorem ln_cut (l : List UInt8) (k : Nat) (h : l.getD k 0 = 10) : ln l (k + 1) = ((ln l k).1 ++ [sl l (ln l k).2 k], k + 1) := by rw [ln, if_pos (by rw [h]; decide)]
theorem ln_bd (l : List UInt8) (k : Nat) : (ln l k).2 ≤ k ∧ (ln l k).1.length ≤ k := by
  induction k with
  | zero => exact ⟨Nat.le_refl _, Nat.le_refl _⟩
  | succ k ih =>
    rw [ln]
    split
    · exact ⟨Nat.le_refl _, by show ((ln l k).1 ++ [sl l (ln l k).2 k]).length ≤ k + 1; rw [List.length_append, List.length_singleton]; omega⟩
    · omega
theorem ln_last (l : List UInt8) (k : Nat) : (ln l (k + 1)).2 < k + 1 ↔ l.getD k 0 ≠ 10 := by
  by_cases h : l.getD k 0 = 10
  · rw [ln_cut l k h]
    exact ⟨fun h1 => absurd h1 (Nat.lt_irrefl _), fun h1 => absurd h h1⟩
  · rw [ln_no l k h]
    have := (ln_bd l k).1
    exact ⟨fun _ => h, fun _ => by omega⟩
theorem l_long (l : List UInt8) (h : 65536 < l.length ∨ 4096 < Lib.countByte l 10) : lE l = 4 ∧ lL l = [] := by
  have e : lE l = 4 := by unfold lE; rw [if_pos h]
  unfold lL
  rw [e]
  exact ⟨rfl, rfl⟩
theorem l_bad (l : List UInt8) (h : ¬ (65536 < l.length ∨ 4096 < Lib.countByte l 10)) (h' : aok l = false ∨ (ln l l.length).2 < l.length) : lE l = 2 ∧ lL l = [] := by
  have e : lE l = 2 := by unfold lE; rw [if_neg h, if_pos h']
  unfold lL
  rw [e]
  exact ⟨rfl, rfl⟩
theorem l_ok (l : List UInt8) (h : ¬ (65536 < l.length ∨ 4096 < Lib.countByte l 10)) (h1 : aok l = true) (h2 : ¬ (ln l l.length).2 < l.length) : lE l = 0 ∧ lL l = (ln l l.length).1 := by
  have e : lE l = 0 := by unfold lE; rw [if_neg h, if_neg (by rintro (h3 | h3); (rw [h1] at h3; cases h3); exact h2 h3)]
  unfold lL
  rw [e]
  exact ⟨rfl, rfl⟩
theorem aok_snoc (l : List UInt8) (c : UInt8) : aok (l ++ [c]) = (aok l && okb c) := by simp [aok, List.all_append]
theorem aok_bad (s : ByteArray) (k : Nat) (h : k < s.size) (hb : okb s[k] = false) : aok s.data.toList = false := by
  rw [← Bool.not_eq_true]
  intro hh
  have h1 : aok (s.data.toList.take (k + 1)) = true := by
    simp only [aok, List.all_eq_true] at *
    exact fun x hx => hh x (List.mem_of_mem_take hx)
  rw [take_snoc s k h, aok_snoc, hb] at h1
  simp at h1
theorem byte_eq (c : UInt8) (n : UInt8) (h : (c.toNat : Int) = (n.toNat : Int)) : c = n := UInt8.toNat_inj.mp (by omega)
theorem okb_lf (c : UInt8) (h : (c.toNat : Int) = 10) : okb c = true ∧ c = 10 := by
  have := byte_eq c 10 h
  subst this
  exact ⟨rfl, rfl⟩
theorem okb_not (c : UInt8) (h : ¬ (c.toNat : Int) = 10) : okb c = prB c ∧ c ≠ 10 := by
  have hn : c ≠ 10 := fun e => h (by rw [e]; rfl)
  unfold okb
  exact ⟨by simp [hn], hn⟩
theorem okb_high (c : UInt8) (h : 128 ≤ c.toNat) : okb c = false := by
  rw [(okb_not c (by omega)).1]
  unfold prB
  exact prR_high _ (by omega)
theorem okb_tab (c : UInt8) (h : (c.toNat : Int) = 9) : okb c = true ∧ c ≠ 10 := by
  have := byte_eq c 9 h
  subst this
  exact ⟨rfl, by decide⟩
theorem okb_in (c : UInt8) (h : ¬ (c.toNat : Int) = 10) (h1 : 32 ≤ (c.toNat : Int)) (h2 : (c.toNat : Int) ≤ 126) : okb c = true ∧ c ≠ 10 := by
  refine ⟨?_, (okb_not c h).2⟩
  rw [(okb_not c h).1]
  unfold prB prR
  simp
  omega
theorem okb_out (c : UInt8) (h : ¬ (c.toNat : Int) = 10) (h1 : ¬ (c.toNat : Int) = 9) (h2 : (c.toNat : Int) < 32 ∨ 126 < (c.toNat : Int)) : okb c = false := by
  rw [(okb_not c h).1]
  unfold prB prR
  simp
  omega
theorem ln_last' (s : ByteArray) (h : 0 < s.size) : (ln s.data.toList s.size).2 < s.size ↔ ¬ (s[s.size - 1].toNat : Int) = 10 := by
  have e := ln_last s.data.toList (s.size - 1)
  rw [show s.size - 1 + 1 = s.size by omega, getD_eq s (s.size - 1) (by omega)] at e
  rw [e]
  exact ⟨fun h1 h2 => h1 (okb_lf _ h2).2, fun h1 => (okb_not _ h1).2⟩
theorem count_snoc (s : ByteArray) (k : Nat) (h : k < s.size) : Lib.countByte (s.data.toList.take (k + 1)) 10 = Lib.countByte (s.data.toList.take k) 10 + if (s[k].toNat : Int) = 10 then 1 else 0 := by
  rw [take_snoc s k h]
  unfold Lib.countByte
  rw [List.count_append, List.count_singleton]
  congr 1
  by_cases e : (s[k].toNat : Int) = 10
  · rw [if_pos e, (okb_lf _ e).2]; rfl
  · rw [if_neg e, if_neg (by simpa using (okb_not _ e).2)]
theorem count_le (l : List UInt8) (k : Nat) : Lib.countByte (l.take k) 10 ≤ k := by
  unfold Lib.countByte
  have h1 := List.count_le_length (a := (10 : UInt8)) (l := l.take k)
  have h2 : (l.take k).length ≤ k := List.length_take_le _ _
  omega
end NM
end Go.Proofs.YtfeekgepmemanaaDoor
