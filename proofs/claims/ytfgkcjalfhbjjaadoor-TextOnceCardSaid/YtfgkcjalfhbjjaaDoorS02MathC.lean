/-
  Plain mathematics of words and lines: the pieces of a text between separators, and between line feeds, byte by byte. No condition.
-/
import Derived.Test.YtfgkcjalfhbjjaaDoorS02Math
import Derived.WalkKit
namespace Go.Proofs.YtfgkcjalfhbjjaaDoor.S02
namespace NM
/-- A piece of a text. -/
def sl (l : List UInt8) (a b : Nat) : List UInt8 := (l.drop a).take (b - a)
def tv (x : List UInt8) : Value := .string ⟨x.toArray⟩
theorem tv_extract (s : ByteArray) (a b : Nat) : Value.string (s.extract a b) = tv (sl s.data.toList a b) := by
  have h := Lib.extract_data s a b
  unfold tv sl
  rw [← h]
/-- The words that end ahead of a byte, and where the next one begins. -/
def ws (l : List UInt8) : Nat → List (List UInt8) × Nat
  | 0 => ([], 0)
  | k + 1 => if sepB (l.getD k 0) = true then ((if (ws l k).2 < k then (ws l k).1 ++ [sl l (ws l k).2 k] else (ws l k).1), k + 1) else ws l k
def wd (l : List UInt8) : List (List UInt8) := if (ws l l.length).2 < l.length then (ws l l.length).1 ++ [sl l (ws l l.length).2 l.length] else (ws l l.length).1
theorem ws_no (l : List UInt8) (k : Nat) (h : sepB (l.getD k 0) = false) : ws l (k + 1) = ws l k := by rw [ws, if_neg (by rw [h]; decide)]
theorem ws_cut (l : List UInt8) (k : Nat) (h : sepB (l.getD k 0) = true) (h' : (ws l k).2 < k) : ws l (k + 1) = ((ws l k).1 ++ [sl l (ws l k).2 k], k + 1) := by rw [ws, if_pos h, if_pos h']
theorem ws_gap (l : List UInt8) (k : Nat) (h : sepB (l.getD k 0) = true) (h' : ¬ (ws l k).2 < k) : ws l (k + 1) = ((ws l k).1, k + 1) := by rw [ws, if_pos h, if_neg h']
theorem ws_bd (l : List UInt8) (k : Nat) : (ws l k).2 ≤ k ∧ (ws l k).1.length ≤ k := by
  induction k with
  | zero => exact ⟨Nat.le_refl _, Nat.le_refl _⟩
  | succ k ih =>
    rw [ws]
    split
    · refine ⟨Nat.le_refl _, ?_⟩
      show (if (ws l k).2 < k then (ws l k).1 ++ [sl l (ws l k).2 k] else (ws l k).1).length ≤ k + 1
      split
      · rw [List.length_append, List.length_singleton]; omega
      · omega
    · omega
theorem ws_skip (l : List UInt8) (k n : Nat) (h : ∀ j, k ≤ j → j < k + n → sepB (l.getD j 0) = false) : ws l (k + n) = ws l k := by
  induction n with
  | zero => rfl
  | succ n ih =>
    rw [← Nat.add_assoc, ws_no l (k + n) (h _ (by omega) (by omega)), ih fun j h1 h2 => h j h1 (by omega)]
theorem getD_eq (s : ByteArray) (k : Nat) (h : k < s.size) : s.data.toList.getD k 0 = s[k] := by
  rw [List.getD_eq_getElem?_getD, List.getElem?_eq_getElem (by simpa using h)]
  rfl
theorem sepB_low (c : UInt8) (h : sepB c = true) : c.toNat < 128 := by
  unfold sepB sepR at h
  simp at h
  omega
theorem dec_one (s : ByteArray) (pos : Nat) (h : pos < s.size) (ha : (s[pos]'h).toNat < 128) : (Utf8.decode s pos).2 = 1 := by rw [decode_ascii s pos h ha]
theorem dec_skip (s : ByteArray) (pos : Nat) (h : pos < s.size) (hn : sepB s[pos] = false) :
    pos + (Utf8.decode s pos).2 ≤ s.size ∧ 1 ≤ (Utf8.decode s pos).2 ∧ ws s.data.toList (pos + (Utf8.decode s pos).2) = ws s.data.toList pos := by
  by_cases ha : (s[pos]'h).toNat < 128
  · rw [dec_one s pos h ha]
    exact ⟨by omega, Nat.le_refl _, ws_no _ _ (by rw [getD_eq s pos h]; exact hn)⟩
  · obtain ⟨h1, h2⟩ := dec_wide s pos h (by omega)
    refine ⟨h1, (decode_high s pos h (by omega)).2, ws_skip _ _ _ fun j hj hk => ?_⟩
    rw [getD_eq s j (by omega)]
    have := h2 j (by omega) hj hk
    unfold sepB
    exact sepR_high _ (by omega)
end NM
end Go.Proofs.YtfgkcjalfhbjjaaDoor.S02
