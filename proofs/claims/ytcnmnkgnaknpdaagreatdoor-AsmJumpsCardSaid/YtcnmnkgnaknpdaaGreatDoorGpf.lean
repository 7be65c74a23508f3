/-
  Plain mathematics of assembling, further: what the reference's ways of saying it come to (what is ahead of a comment, what overlaps, a label's last byte, a value).
-/
import Derived.Test.YtcnmnkgnaknpdaaGreatDoorGi

/-! MathF -/
namespace Go.Proofs.YtcnmnkgnaknpdaaGreatDoor
open S02 S06 S07
namespace AS
theorem index_59 : ∀ l : List UInt8, (Lib.index l [59] = -1 ∧ l.takeWhile (fun c => c != 59) = l) ∨ (Lib.index l [59] = ((l.takeWhile (fun c => c != 59)).length : Int))
  | [] => .inl ⟨rfl, rfl⟩
  | b :: l => by
    rw [Lib.index, List.takeWhile_cons]
    by_cases h : b = 59
    · subst h
      right
      rfl
    · have h1 : ([59] : List UInt8).isPrefixOf (b :: l) = false := by
        simp [List.isPrefixOf]
        exact fun e => h e.symm
      have h2 : (b != 59) = true := by simp [h]
      rw [h1, h2]
      simp only [Bool.false_eq_true, if_false, if_true]
      rcases index_59 l with ⟨h3, h4⟩ | h3
      · rw [h3, h4]
        exact .inl ⟨rfl, rfl⟩
      · right
        rw [h3, if_neg (by simp only [beq_iff_eq]; omega)]
        simp
theorem tw_take (p : UInt8 → Bool) : ∀ l : List UInt8, l.take (l.takeWhile p).length = l.takeWhile p
  | [] => rfl
  | b :: l => by
    rw [List.takeWhile_cons]
    split
    · rw [List.length_cons, List.take_succ_cons, tw_take p l]
    · rfl
theorem code_tw (l : List UInt8) : code l = l.takeWhile (fun c => c != 59) := by
  unfold code Lib.cut
  rcases index_59 l with ⟨h, h'⟩ | h
  · rw [h, if_neg (by decide), h']
  · rw [h, if_pos (by omega)]
    exact tw_take _ l
theorem tw_stop : ∀ {l : List UInt8} {i : Nat}, i < l.length → l.getD i 0 = 59 → (∀ j, j < i → ¬ l.getD j 0 = 59) → l.takeWhile (fun c => c != 59) = l.take i
  | [], _, h, _, _ => by simp at h
  | b :: l, 0, _, h, _ => by simp at h; subst h; rfl
  | b :: l, i + 1, h, h', hn => by
    have h0 := hn 0 (by omega)
    simp at h0
    rw [List.takeWhile_cons, if_pos (by simp [h0]), List.take_succ_cons, tw_stop (i := i) (by simpa using h) (by simpa using h') (fun j hj => by have := hn (j + 1) (by omega); simpa using this)]
theorem code_stop {l : List UInt8} {i : Nat} (h : i < l.length) (h' : l.getD i 0 = 59) (hn : ∀ j, j < i → ¬ l.getD j 0 = 59) : code l = l.take i := (code_tw l).trans (tw_stop h h' hn)
theorem code_all {l : List UInt8} (hn : ∀ j, j < l.length → ¬ l.getD j 0 = 59) : code l = l := by
  rw [code_tw]
  induction l with
  | nil => rfl
  | cons b l ih =>
    have h0 := hn 0 (by simp)
    simp at h0
    rw [List.takeWhile_cons, if_pos (by simp [h0]), ih (fun j hj => by have := hn (j + 1) (by simp; omega); simpa using this)]
/-! ### What overlaps -/
theorem ovl_ex {pl : Nat → Bool} {a : Nat} : ∀ {n : Nat}, ovl pl a n = true ↔ ∃ i, a ≤ i ∧ i < a + n ∧ pl i = true
  | 0 => by simp [ovl]; intro i h1 h2; omega
  | n + 1 => by
    rw [ovl, Bool.or_eq_true, ovl_ex]
    constructor
    · rintro (⟨i, h1, h2, h3⟩ | h)
      · exact ⟨i, h1, by omega, h3⟩
      · exact ⟨a + n, by omega, by omega, h⟩
    · rintro ⟨i, h1, h2, h3⟩
      by_cases e : i = a + n
      · subst e; exact .inr h3
      · exact .inl ⟨i, h1, by omega, h3⟩
theorem cov_ex {l : List It} {i : Nat} : cov l i = true ↔ ∃ y ∈ l, y.pos ≤ i ∧ i < y.pos + y.size := by
  induction l with
  | nil => simp [cov]
  | cons y r ih => rw [cov, Bool.or_eq_true, ih]; simp
/-- Do two lie on one another? -/
def lap (a n : Nat) (y : It) : Bool := decide (0 < n) && decide (0 < y.size) && decide (a < y.pos + y.size) && decide (y.pos < a + n)
theorem lap_yes {l : List It} {a n : Nat} {y : It} (hy : y ∈ l) (h : lap a n y = true) : ovl (cov l) a n = true := by
  unfold lap at h
  simp at h
  rw [ovl_ex]
  by_cases e : a ≤ y.pos
  · exact ⟨y.pos, e, by omega, cov_ex.2 ⟨y, hy, by omega, by omega⟩⟩
  · exact ⟨a, by omega, by omega, cov_ex.2 ⟨y, hy, by omega, by omega⟩⟩
theorem lap_no {l : List It} {a n : Nat} (h : ∀ y ∈ l, lap a n y = false) : ovl (cov l) a n = false := by
  rw [Bool.eq_false_iff]
  intro h'
  rw [ovl_ex] at h'
  obtain ⟨i, h1, h2, h3⟩ := h'
  obtain ⟨y, hy, h4, h5⟩ := cov_ex.1 h3
  have := h y hy
  unfold lap at this
  simp at this
  omega
/-! ### Words -/
theorem suf_one {s : List UInt8} (h : s ≠ []) : Lib.hasSuffix s [58] = decide (s.getD (s.length - 1) 0 = 58) := by
  have hl : 1 ≤ s.length := by cases s with | nil => exact absurd rfl h | cons => simp
  rw [← Lib.hasSuffix_of_drop]
  simp only [List.length_cons, List.length_nil, Nat.zero_add]
  rw [show decide (1 ≤ s.length) = true by simpa using hl, Bool.true_and]
  have : s.drop (s.length - 1) = [s.getD (s.length - 1) 0] := by
    rw [List.drop_eq_getElem_cons (by omega), List.drop_of_length_le (by omega), List.getD_eq_getElem?_getD, List.getElem?_eq_getElem (by omega)]
    rfl
  rw [this, Bool.eq_iff_iff]
  simp
theorem trim_one {s : List UInt8} (h : Lib.hasSuffix s [58] = true) : Lib.trimSuffix s [58] = s.take (s.length - 1) := by
  unfold Lib.trimSuffix
  rw [if_pos h]
  rfl
theorem pre_one {s : List UInt8} (h : s ≠ []) : Lib.hasPrefix s [46] = decide (s.getD 0 0 = 46) := by
  cases s with
  | nil => exact absurd rfl h
  | cons c r =>
    unfold Lib.hasPrefix
    rw [Bool.eq_iff_iff]
    simp [List.isPrefixOf]
    exact ⟨fun h => h.symm, fun h => h.symm⟩
theorem ws_ne (l : List UInt8) : ∀ k, k ≤ l.length → ∀ y ∈ (NM.ws l k).1, y ≠ []
  | 0, _, y, h => by simp [NM.ws] at h
  | k + 1, hk, y, h => by
    have ih := ws_ne l k (by omega)
    have hb := NM.ws_bd l k
    rw [NM.ws] at h
    split at h
    · split at h
      · rename_i c
        rcases List.mem_append.1 h with h | h
        · exact ih y h
        · rw [List.mem_singleton] at h
          subst h
          intro e
          have := congrArg List.length e
          unfold NM.sl at this
          simp at this
          omega
      · exact ih y h
    · exact ih y h
theorem wd_ne (l : List UInt8) : ∀ y ∈ NM.wd l, y ≠ [] := by
  intro y h
  have ih := ws_ne l l.length (Nat.le_refl _)
  unfold NM.wd at h
  split at h
  · rename_i c
    rcases List.mem_append.1 h with h | h
    · exact ih y h
    · rw [List.mem_singleton] at h
      subst h
      intro e
      have := congrArg List.length e
      unfold NM.sl at this
      simp at this
      omega
  · exact ih y h
/-! ### Values -/
def rvE (ns : List (List UInt8 × Nat)) (s : List UInt8) : Int := if nbE s (-2147483648) 4294967295 = 0 ∨ nbE s (-2147483648) 4294967295 = 3 then nbE s (-2147483648) 4294967295 else if isNm s = false then 2 else if (fnd ns s).isSome then 0 else 10
def rvN (ns : List (List UInt8 × Nat)) (s : List UInt8) : Int := if nbE s (-2147483648) 4294967295 = 0 then nbN s (-2147483648) 4294967295 else ((fnd ns s).getD 0 : Nat)
theorem nb_cases (s : List UInt8) (lo hi : Int) : nbE s lo hi = 0 ∨ nbE s lo hi = 2 ∨ nbE s lo hi = 3 := by
  unfold nbE
  split
  · exact .inr (.inr rfl)
  · exact pE_cases s
theorem nb_name {s : List UInt8} (h : isNm s = true) (lo hi : Int) : nbE s lo hi = 2 := by
  unfold nbE
  rw [pE_name h]
  simp
theorem rv_name {ns : List (List UInt8 × Nat)} {s : List UInt8} (h : isNm s = true) : rvE ns s = (if (fnd ns s).isSome then 0 else 10) ∧ rvN ns s = ((fnd ns s).getD 0 : Nat) := by
  unfold rvE rvN
  rw [nb_name h]
  simp [h]
theorem rv_num {ns : List (List UInt8 × Nat)} {s : List UInt8} (h : isNm s = false) : rvE ns s = nbE s (-2147483648) 4294967295 ∧ (rvE ns s = 0 → rvN ns s = nbN s (-2147483648) 4294967295) := by
  have e : rvE ns s = nbE s (-2147483648) 4294967295 := by
    unfold rvE
    rcases nb_cases s (-2147483648) 4294967295 with h' | h' | h' <;> rw [h'] <;> simp [h]
  refine ⟨e, fun h0 => ?_⟩
  unfold rvN
  rw [← e, if_pos h0]
theorem va_name {ns : List (List UInt8 × Nat)} {s : List UInt8} (h : isNm s = true) (lo hi : Int) : vaE ns s lo hi = (if (fnd ns s).isSome then (if hi < ((fnd ns s).getD 0 : Nat) then 3 else 0) else 10) ∧ (vaE ns s lo hi = 0 → vaN ns s lo hi = ((fnd ns s).getD 0 : Nat)) := by
  unfold vaE vaN lkE lkN
  rw [h]
  cases hf : fnd ns s with
  | none => simp
  | some u =>
    simp
    intro c
    omega
theorem va_num {ns : List (List UInt8 × Nat)} {s : List UInt8} (h : isNm s = false) (lo hi : Int) : vaE ns s lo hi = nbE s lo hi ∧ vaN ns s lo hi = nbN s lo hi % 4294967296 := by
  unfold vaE vaN
  rw [h]
  exact ⟨rfl, rfl⟩
theorem fnd_bd {ns : List (List UInt8 × Nat)} (hu : ∀ p ∈ ns, p.2 < 4294967296) (s : List UInt8) : (fnd ns s).getD 0 < 4294967296 := by
  induction ns with
  | nil => exact (by decide : (0 : Nat) < 4294967296)
  | cons p r ih =>
    rw [fnd]
    split
    · exact hu p (by simp)
    · exact ih fun p hp => hu p (List.mem_cons_of_mem _ hp)
theorem va_word (ns : List (List UInt8 × Nat)) (hu : ∀ p ∈ ns, p.2 < 4294967296) (s : List UInt8) : vaE ns s (-2147483648) 4294967295 = rvE ns s ∧ (rvE ns s = 0 → vaN ns s (-2147483648) 4294967295 = rvN ns s % 4294967296) := by
  have hl := fnd_bd hu s
  cases h : isNm s
  · obtain ⟨h1, h2⟩ := rv_num (ns := ns) h
    obtain ⟨h3, h4⟩ := va_num (ns := ns) h (-2147483648) 4294967295
    exact ⟨h3.trans h1.symm, fun h0 => by rw [h4, h2 h0]⟩
  · obtain ⟨h1, h2⟩ := rv_name (ns := ns) h
    obtain ⟨h3, h4⟩ := va_name (ns := ns) h (-2147483648) 4294967295
    have e : vaE ns s (-2147483648) 4294967295 = rvE ns s := by
      rw [h3, h1]
      split
      · rw [if_neg (by omega)]
      · rfl
    exact ⟨e, fun h0 => by rw [h4 (e.trans h0), h2]; omega⟩
theorem nb_in (s : List UInt8) : nbE s (-128) 255 = (if nbE s (-2147483648) 4294967295 = 0 then (if nbN s (-2147483648) 4294967295 < -128 ∨ 255 < nbN s (-2147483648) 4294967295 then 3 else 0) else nbE s (-2147483648) 4294967295) ∧ (nbE s (-128) 255 = 0 → nbN s (-128) 255 = nbN s (-2147483648) 4294967295) := by
  unfold nbE nbN
  rcases pE_cases s with h | h | h
  · rw [h]
    by_cases c : NM.pN s < -2147483648 ∨ 4294967295 < NM.pN s
    · simp [c]
      omega
    · simp only [c, and_false, if_false, true_and]
      refine ⟨rfl, fun h0 => ?_⟩
      rw [if_neg]
      intro c'
      rw [if_pos c'] at h0
      cases h0
  · rw [h]; simp
  · rw [h]; simp
theorem va_byte (ns : List (List UInt8 × Nat)) (hu : ∀ p ∈ ns, p.2 < 4294967296) (s : List UInt8) : vaE ns s (-128) 255 = (if rvE ns s = 0 then (if rvN ns s < -128 ∨ 255 < rvN ns s then 3 else 0) else rvE ns s) ∧ (vaE ns s (-128) 255 = 0 → vaN ns s (-128) 255 = rvN ns s % 4294967296) := by
  have hl := fnd_bd hu s
  cases h : isNm s
  · obtain ⟨h1, h2⟩ := rv_num (ns := ns) h
    obtain ⟨h3, h4⟩ := va_num (ns := ns) h (-128) 255
    obtain ⟨h5, h6⟩ := nb_in s
    by_cases h0 : rvE ns s = 0
    · rw [if_pos h0, h3, h5, if_pos (h1.symm.trans h0), h2 h0]
      refine ⟨rfl, fun h7 => ?_⟩
      rw [h4, h6 (by rw [h5, if_pos (h1.symm.trans h0)]; exact h7)]
    · rw [if_neg h0, h3, h5, if_neg (by rw [← h1]; exact h0), h1]
      exact ⟨rfl, fun h7 => absurd (h1.trans h7) h0⟩
  · obtain ⟨h1, h2⟩ := rv_name (ns := ns) h
    obtain ⟨h3, h4⟩ := va_name (ns := ns) h (-128) 255
    refine ⟨?_, fun h0 => by rw [h4 h0, h2]; omega⟩
    rw [h3, h1, h2]
    cases hf : fnd ns s with
    | none => rfl
    | some u =>
      simp only [Option.isSome_some, if_true, Option.getD_some]
      by_cases c : (255 : Int) < u
      · rw [if_pos c, if_pos (.inr c)]
      · rw [if_neg c, if_neg (by omega)]
end AS
end Go.Proofs.YtcnmnkgnaknpdaaGreatDoor
