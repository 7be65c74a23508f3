/-
  Plain mathematics: words that are joined with separators are the words of the joined text; lines that are each followed by a line feed are its lines. No condition.
-/
import Derived.Test.YtfeekgepmemanaaDoorMathD
namespace Go.Proofs.YtfeekgepmemanaaDoor
namespace NM
/-- May a byte stand in a word (false) or in a line (true)? -/
def plB (bl : Bool) (c : UInt8) : Bool := (decide (32 ≤ (c.toNat : Int)) && decide ((c.toNat : Int) ≤ 126)) && (bl || (!(decide ((c.toNat : Int) = 32)) && !(decide ((c.toNat : Int) = 44))))
def pl (bl : Bool) (l : List UInt8) : Bool := l.all (plB bl)
theorem pl_snoc (bl : Bool) (l : List UInt8) (c : UInt8) : pl bl (l ++ [c]) = (pl bl l && plB bl c) := by simp [pl, List.all_append]
theorem pl_bad (bl : Bool) (s : ByteArray) (k : Nat) (h : k < s.size) (hb : plB bl s[k] = false) : pl bl s.data.toList = false := by
  rw [← Bool.not_eq_true]
  intro hh
  have h1 : pl bl (s.data.toList.take (k + 1)) = true := by
    simp only [pl, List.all_eq_true] at *
    exact fun x hx => hh x (List.mem_of_mem_take hx)
  rw [take_snoc s k h, pl_snoc, hb] at h1
  simp at h1
theorem plB_lo (bl : Bool) (c : UInt8) (h : (c.toNat : Int) < 32) : plB bl c = false := by
  unfold plB
  rw [show decide (32 ≤ (c.toNat : Int)) = false by simp only [decide_eq_false_iff_not]; omega]
  rfl
theorem plB_hi (bl : Bool) (c : UInt8) (h : 126 < (c.toNat : Int)) : plB bl c = false := by
  unfold plB
  rw [show decide ((c.toNat : Int) ≤ 126) = false by simp only [decide_eq_false_iff_not]; omega]
  simp
theorem plB_in (c : UInt8) (h1 : ¬ (c.toNat : Int) < 32) (h2 : ¬ 126 < (c.toNat : Int)) : plB true c = true := by
  unfold plB
  simp
  omega
theorem plB_32 (c : UInt8) (h : (c.toNat : Int) = 32) : plB false c = false := by
  unfold plB
  simp [h]
theorem plB_44 (c : UInt8) (h : (c.toNat : Int) = 44) : plB false c = false := by
  unfold plB
  simp [h]
theorem plB_word (c : UInt8) (h1 : ¬ (c.toNat : Int) < 32) (h2 : ¬ 126 < (c.toNat : Int)) (h3 : ¬ (c.toNat : Int) = 32) (h4 : ¬ (c.toNat : Int) = 44) : plB false c = true := by
  unfold plB
  rw [show decide (32 ≤ (c.toNat : Int)) = true by simp only [decide_eq_true_eq]; omega, show decide ((c.toNat : Int) ≤ 126) = true by simp only [decide_eq_true_eq]; omega, show decide ((c.toNat : Int) = 32) = false by simp only [decide_eq_false_iff_not]; exact h3, show decide ((c.toNat : Int) = 44) = false by simp only [decide_eq_false_iff_not]; exact h4]
  rfl
theorem plB_open (bl : Bool) (c : UInt8) (h : plB bl c = true) : 32 ≤ (c.toNat : Int) ∧ (c.toNat : Int) ≤ 126 ∧ (bl = false → (c.toNat : Int) ≠ 32 ∧ (c.toNat : Int) ≠ 44) := by
  unfold plB at h
  simp only [Bool.and_eq_true, decide_eq_true_eq, Bool.or_eq_true, Bool.not_eq_true', decide_eq_false_iff_not] at h
  refine ⟨h.1.1, h.1.2, fun hb => ?_⟩
  rcases h.2 with h3 | h3
  · rw [hb] at h3; cases h3
  · exact h3
theorem pl_line (l : List UInt8) (h : pl false l = true) : pl true l = true := by
  simp only [pl, List.all_eq_true] at *
  intro c hc
  have := plB_open false c (h c hc)
  exact plB_in c (by omega) (by omega)
theorem pl_sep (l : List UInt8) (h : pl false l = true) : ∀ c ∈ l, sepB c = false := by
  simp only [pl, List.all_eq_true] at h
  intro c hc
  have h1 := plB_open false c (h c hc)
  have h2 := h1.2.2 rfl
  unfold sepB sepR
  simp
  omega
theorem pl_ok (l : List UInt8) (h : pl true l = true) : ∀ c ∈ l, okb c = true ∧ c ≠ 10 := by
  simp only [pl, List.all_eq_true] at h
  intro c hc
  have h1 := plB_open true c (h c hc)
  exact okb_in c (by omega) (by omega) (by omega)
theorem sl_app (l m : List UInt8) (a k : Nat) (ha : a ≤ k) (hk : k ≤ l.length) : sl (l ++ m) a k = sl l a k := by
  unfold sl
  rw [List.drop_append_of_le_length (by omega), List.take_append_of_le_length (by rw [List.length_drop]; omega)]
theorem getD_app (l m : List UInt8) (k : Nat) (h : k < l.length) : (l ++ m).getD k 0 = l.getD k 0 := by
  rw [List.getD_eq_getElem?_getD, List.getD_eq_getElem?_getD, List.getElem?_append_left h]
theorem getD_right (l m : List UInt8) (k : Nat) : (l ++ m).getD (l.length + k) 0 = m.getD k 0 := by
  rw [List.getD_eq_getElem?_getD, List.getD_eq_getElem?_getD, List.getElem?_append_right (by omega), Nat.add_sub_cancel_left]
theorem getD_mem (m : List UInt8) (k : Nat) (h : k < m.length) : m.getD k 0 ∈ m := by
  rw [List.getD_eq_getElem?_getD, List.getElem?_eq_getElem h]
  exact List.getElem_mem h
theorem ws_app (l m : List UInt8) (k : Nat) (h : k ≤ l.length) : ws (l ++ m) k = ws l k := by
  induction k with
  | zero => rfl
  | succ k ih =>
    have ih := ih (by omega)
    rw [ws, ws, ih, getD_app l m k (by omega), sl_app l m _ k (ws_bd l k).1 (by omega)]
theorem ln_app (l m : List UInt8) (k : Nat) (h : k ≤ l.length) : ln (l ++ m) k = ln l k := by
  induction k with
  | zero => rfl
  | succ k ih =>
    have ih := ih (by omega)
    rw [ln, ln, ih, getD_app l m k (by omega), sl_app l m _ k (ln_bd l k).1 (by omega)]
/-- The words of a text that ends with a separator. -/
def Sw (l : List UInt8) (acc : List (List UInt8)) : Prop := ws l l.length = (acc, l.length)
theorem ws_word (l x : List UInt8) (hx : ∀ c ∈ x, sepB c = false) : ws (l ++ x) (l ++ x).length = ws l l.length := by
  rw [List.length_append, ws_skip (l ++ x) l.length x.length fun j h1 h2 => ?_, ws_app l x _ (Nat.le_refl _)]
  obtain ⟨i, rfl⟩ : ∃ i, j = l.length + i := ⟨j - l.length, by omega⟩
  rw [getD_right]
  exact hx _ (getD_mem x i (by omega))
theorem ws_one (l : List UInt8) (c : UInt8) (hc : sepB c = true) : ws (l ++ [c]) (l ++ [c]).length = ((if (ws l l.length).2 < l.length then (ws l l.length).1 ++ [sl l (ws l l.length).2 l.length] else (ws l l.length).1), l.length + 1) := by
  have e : (l ++ [c]).getD l.length 0 = c := getD_right l [c] 0
  rw [List.length_append, List.length_singleton, ws, e, if_pos hc, ws_app l [c] _ (Nat.le_refl _), sl_app l [c] _ _ (ws_bd l _).1 (Nat.le_refl _)]
theorem Sw.gap {l : List UInt8} {acc : List (List UInt8)} (h : Sw l acc) (g : List UInt8) (hg : ∀ c ∈ g, sepB c = true) : Sw (l ++ g) acc := by
  revert hg
  refine snoc_ind (P := fun g => (∀ c ∈ g, sepB c = true) → Sw (l ++ g) acc) (fun _ => by simpa using h) (fun g c ih hg => ?_) g
  have ih := ih fun d hd => hg d (List.mem_append_left _ hd)
  unfold Sw at *
  rw [← List.append_assoc, ws_one _ c (hg c (by simp)), ih]
  simp
  omega
theorem Sw.word {l : List UInt8} {acc : List (List UInt8)} (h : Sw l acc) (x g : List UInt8) (hx : ∀ c ∈ x, sepB c = false) (h0 : x ≠ []) (hg : ∀ c ∈ g, sepB c = true) (g0 : g ≠ []) : Sw (l ++ x ++ g) (acc ++ [x]) := by
  match g, g0, hg with
  | c :: t, _, hg =>
    have h1 : Sw (l ++ x ++ [c]) (acc ++ [x]) := by
      have e := ws_word l x hx
      unfold Sw at *
      rw [h] at e
      have hl : 0 < x.length := List.length_pos_iff.mpr h0
      rw [ws_one _ c (hg c (by simp)), e]
      rw [if_pos (by rw [List.length_append]; show l.length < _; omega)]
      have e2 : sl (l ++ x) l.length (l ++ x).length = x := by
        unfold sl
        rw [List.drop_left, List.length_append, Nat.add_sub_cancel_left, List.take_length]
      show (acc ++ [sl (l ++ x) l.length (l ++ x).length], (l ++ x).length + 1) = (acc ++ [x], (l ++ x ++ [c]).length)
      rw [e2, List.length_append (as := l ++ x), List.length_singleton]
    have h2 := h1.gap t fun d hd => hg d (by simp [hd])
    rwa [List.append_assoc, List.singleton_append] at h2
theorem Sw.done {l : List UInt8} {acc : List (List UInt8)} (h : Sw l acc) : wd l = acc := by
  unfold Sw at h
  unfold wd
  rw [h, if_neg (by show ¬ l.length < l.length; omega)]
/-- The lines of a text that ends with a line feed. -/
def Sl (l : List UInt8) (acc : List (List UInt8)) : Prop := ln l l.length = (acc, l.length) ∧ aok l = true ∧ Lib.countByte l 10 = acc.length
theorem ln_line (l x : List UInt8) (hx : ∀ c ∈ x, c ≠ 10) : ln (l ++ x) (l ++ x).length = ln l l.length := by
  refine snoc_ind (P := fun x => (∀ c ∈ x, c ≠ 10) → ln (l ++ x) (l ++ x).length = ln l l.length) (fun _ => by simp) (fun x c ih hx => ?_) x hx
  have ih := ih fun d hd => hx d (List.mem_append_left _ hd)
  have e : (l ++ x ++ [c]).getD (l ++ x).length 0 = c := getD_right (l ++ x) [c] 0
  rw [← List.append_assoc, List.length_append (as := l ++ x), List.length_singleton, ln_no _ _ (by rw [e]; exact hx c (by simp)), ln_app _ [c] _ (Nat.le_refl _), ih]
theorem aok_app (l m : List UInt8) : aok (l ++ m) = (aok l && aok m) := by simp [aok, List.all_append]
theorem Sl.line {l : List UInt8} {acc : List (List UInt8)} (h : Sl l acc) (x : List UInt8) (hx : ∀ c ∈ x, okb c = true ∧ c ≠ 10) : Sl (l ++ x ++ [10]) (acc ++ [x]) := by
  obtain ⟨h1, h2, h3⟩ := h
  refine ⟨?_, ?_, ?_⟩
  · have e : (l ++ x ++ [10]).getD (l ++ x).length 0 = 10 := getD_right (l ++ x) [10] 0
    rw [List.length_append (as := l ++ x), List.length_singleton, ln_cut _ _ e, ln_app _ [10] _ (Nat.le_refl _), ln_line l x fun c hc => (hx c hc).2, h1]
    have e2 : sl (l ++ x ++ [10]) l.length (l ++ x).length = x := by
      rw [sl_app _ _ _ _ (by rw [List.length_append]; omega) (Nat.le_refl _)]
      unfold sl
      rw [List.drop_left, List.length_append, Nat.add_sub_cancel_left, List.take_length]
    show (acc ++ [sl (l ++ x ++ [10]) l.length (l ++ x).length], (l ++ x).length + 1) = _
    rw [e2]
  · rw [aok_app, aok_app, h2, show aok x = true from List.all_eq_true.mpr fun c hc => (hx c hc).1]
    rfl
  · unfold Lib.countByte at *
    rw [List.count_append, List.count_append, h3, List.count_eq_zero.mpr fun hc => (hx 10 hc).2 rfl, List.length_append]
    rfl
theorem Sl.done {l : List UInt8} {acc : List (List UInt8)} (h : Sl l acc) (h1 : l.length ≤ 65536) (h2 : acc.length ≤ 4096) : lE l = 0 ∧ lL l = acc := by
  obtain ⟨e1, e2, e3⟩ := h
  have := l_ok l (by rw [e3]; omega) e2 (by rw [e1]; show ¬ l.length < l.length; omega)
  rw [e1] at this
  exact this
end NM
end Go.Proofs.YtfeekgepmemanaaDoor
