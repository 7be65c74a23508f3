/-
  Plain mathematics: words that are joined with separators are the words of the joined text; lines that are each followed by a line feed are its lines. No condition.
  Plain mathematics of assembling, further: segments of a run of bytes; bytes written one behind another; what a line of words comes to.
  Plain mathematics of assembling, further: instructions, printed one a line, come to their words.
  Plain mathematics of assembling, further: a program of printed instructions, assembled.
  Plain mathematics of assembling, further: a program of addresses and bytes, assembled.
-/
import Derived.Test.YtcnmnkgnaknpdaaGreatDoorGb
import Derived.Test.YtcnmnkgnaknpdaaGreatDoorGi
import Derived.Test.YtcnmnkgnaknpdaaGreatDoorGpf

/-! S02MathH -/
namespace Go.Proofs.YtcnmnkgnaknpdaaGreatDoor.S02
namespace NM
/-- May a byte stand in a word (false) or in a line (true)? -/
def plB (bl : Bool) (c : UInt8) : Bool := (decide (32 ≤ (c.toNat : Int)) && decide ((c.toNat : Int) ≤ 126)) && (bl || (!(decide ((c.toNat : Int) = 32)) && !(decide ((c.toNat : Int) = 44))))
def pl (bl : Bool) (l : List UInt8) : Bool := l.all (plB bl)
theorem pl_snoc (bl : Bool) (l : List UInt8) (c : UInt8) : pl bl (l ++ [c]) = (pl bl l && plB bl c) := by simp [pl, List.all_append]
theorem pl_bad (bl : Bool) (s : ByteArray) (k : Nat) (h : k < s.size) (hb : plB bl s[k] = false) : pl bl s.data.toList = false := by
  rw [← Bool.not_eq_true]
  intro hh
  have h1 : pl bl (s.data.toList.take (k + 1)) = true := by
    simp only [pl, List.all_eq_true] at *
    exact fun x hx => hh x (List.mem_of_mem_take hx)
  rw [take_snoc s k h, pl_snoc, hb] at h1
  simp at h1
theorem plB_lo (bl : Bool) (c : UInt8) (h : (c.toNat : Int) < 32) : plB bl c = false := by
  unfold plB
  rw [show decide (32 ≤ (c.toNat : Int)) = false by simp only [decide_eq_false_iff_not]; omega]
  rfl
theorem plB_hi (bl : Bool) (c : UInt8) (h : 126 < (c.toNat : Int)) : plB bl c = false := by
  unfold plB
  rw [show decide ((c.toNat : Int) ≤ 126) = false by simp only [decide_eq_false_iff_not]; omega]
  simp
theorem plB_in (c : UInt8) (h1 : ¬ (c.toNat : Int) < 32) (h2 : ¬ 126 < (c.toNat : Int)) : plB true c = true := by
  unfold plB
  simp
  omega
theorem plB_32 (c : UInt8) (h : (c.toNat : Int) = 32) : plB false c = false := by
  unfold plB
  simp [h]
theorem plB_44 (c : UInt8) (h : (c.toNat : Int) = 44) : plB false c = false := by
  unfold plB
  simp [h]
theorem plB_word (c : UInt8) (h1 : ¬ (c.toNat : Int) < 32) (h2 : ¬ 126 < (c.toNat : Int)) (h3 : ¬ (c.toNat : Int) = 32) (h4 : ¬ (c.toNat : Int) = 44) : plB false c = true := by
  unfold plB
  rw [show decide (32 ≤ (c.toNat : Int)) = true by simp only [decide_eq_true_eq]; omega, show decide ((c.toNat : Int) ≤ 126) = true by simp only [decide_eq_true_eq]; omega, show decide ((c.toNat : Int) = 32) = false by simp only [decide_eq_false_iff_not]; exact h3, show decide ((c.toNat : Int) = 44) = false by simp only [decide_eq_false_iff_not]; exact h4]
  rfl
theorem plB_open (bl : Bool) (c : UInt8) (h : plB bl c = true) : 32 ≤ (c.toNat : Int) ∧ (c.toNat : Int) ≤ 126 ∧ (bl = false → (c.toNat : Int) ≠ 32 ∧ (c.toNat : Int) ≠ 44) := by
  unfold plB at h
  simp only [Bool.and_eq_true, decide_eq_true_eq, Bool.or_eq_true, Bool.not_eq_true', decide_eq_false_iff_not] at h
  refine ⟨h.1.1, h.1.2, fun hb => ?_⟩
  rcases h.2 with h3 | h3
  · rw [hb] at h3; cases h3
  · exact h3
theorem pl_line (l : List UInt8) (h : pl false l = true) : pl true l = true := by
  simp only [pl, List.all_eq_true] at *
  intro c hc
  have := plB_open false c (h c hc)
  exact plB_in c (by omega) (by omega)
theorem pl_sep (l : List UInt8) (h : pl false l = true) : ∀ c ∈ l, sepB c = false := by
  simp only [pl, List.all_eq_true] at h
  intro c hc
  have h1 := plB_open false c (h c hc)
  have h2 := h1.2.2 rfl
  unfold sepB sepR
  simp
  omega
theorem pl_ok (l : List UInt8) (h : pl true l = true) : ∀ c ∈ l, okb c = true ∧ c ≠ 10 := by
  simp only [pl, List.all_eq_true] at h
  intro c hc
  have h1 := plB_open true c (h c hc)
  exact okb_in c (by omega) (by omega) (by omega)
theorem sl_app (l m : List UInt8) (a k : Nat) (ha : a ≤ k) (hk : k ≤ l.length) : sl (l ++ m) a k = sl l a k := by
  unfold sl
  rw [List.drop_append_of_le_length (by omega), List.take_append_of_le_length (by rw [List.length_drop]; omega)]
theorem getD_app (l m : List UInt8) (k : Nat) (h : k < l.length) : (l ++ m).getD k 0 = l.getD k 0 := by
  rw [List.getD_eq_getElem?_getD, List.getD_eq_getElem?_getD, List.getElem?_append_left h]
theorem getD_right (l m : List UInt8) (k : Nat) : (l ++ m).getD (l.length + k) 0 = m.getD k 0 := by
  rw [List.getD_eq_getElem?_getD, List.getD_eq_getElem?_getD, List.getElem?_append_right (by omega), Nat.add_sub_cancel_left]
theorem getD_mem (m : List UInt8) (k : Nat) (h : k < m.length) : m.getD k 0 ∈ m := by
  rw [List.getD_eq_getElem?_getD, List.getElem?_eq_getElem h]
  exact List.getElem_mem h
theorem ws_app (l m : List UInt8) (k : Nat) (h : k ≤ l.length) : ws (l ++ m) k = ws l k := by
  induction k with
  | zero => rfl
  | succ k ih =>
    have ih := ih (by omega)
    rw [ws, ws, ih, getD_app l m k (by omega), sl_app l m _ k (ws_bd l k).1 (by omega)]
theorem ln_app (l m : List UInt8) (k : Nat) (h : k ≤ l.length) : ln (l ++ m) k = ln l k := by
  induction k with
  | zero => rfl
  | succ k ih =>
    have ih := ih (by omega)
    rw [ln, ln, ih, getD_app l m k (by omega), sl_app l m _ k (ln_bd l k).1 (by omega)]
/-- The words of a text that ends with a separator. -/
def Sw (l : List UInt8) (acc : List (List UInt8)) : Prop := ws l l.length = (acc, l.length)
theorem ws_word (l x : List UInt8) (hx : ∀ c ∈ x, sepB c = false) : ws (l ++ x) (l ++ x).length = ws l l.length := by
  rw [List.length_append, ws_skip (l ++ x) l.length x.length fun j h1 h2 => ?_, ws_app l x _ (Nat.le_refl _)]
  obtain ⟨i, rfl⟩ : ∃ i, j = l.length + i := ⟨j - l.length, by omega⟩
  rw [getD_right]
  exact hx _ (getD_mem x i (by omega))
theorem ws_one (l : List UInt8) (c : UInt8) (hc : sepB c = true) : ws (l ++ [c]) (l ++ [c]).length = ((if (ws l l.length).2 < l.length then (ws l l.length).1 ++ [sl l (ws l l.length).2 l.length] else (ws l l.length).1), l.length + 1) := by
  have e : (l ++ [c]).getD l.length 0 = c := getD_right l [c] 0
  rw [List.length_append, List.length_singleton, ws, e, if_pos hc, ws_app l [c] _ (Nat.le_refl _), sl_app l [c] _ _ (ws_bd l _).1 (Nat.le_refl _)]
theorem Sw.gap {l : List UInt8} {acc : List (List UInt8)} (h : Sw l acc) (g : List UInt8) (hg : ∀ c ∈ g, sepB c = true) : Sw (l ++ g) acc := by
  revert hg
  refine snoc_ind (P := fun g => (∀ c ∈ g, sepB c = true) → Sw (l ++ g) acc) (fun _ => by simpa using h) (fun g c ih hg => ?_) g
  have ih := ih fun d hd => hg d (List.mem_append_left _ hd)
  unfold Sw at *
  rw [← List.append_assoc, ws_one _ c (hg c (by simp)), ih]
  simp
  omega
theorem Sw.word {l : List UInt8} {acc : List (List UInt8)} (h : Sw l acc) (x g : List UInt8) (hx : ∀ c ∈ x, sepB c = false) (h0 : x ≠ []) (hg : ∀ c ∈ g, sepB c = true) (g0 : g ≠ []) : Sw (l ++ x ++ g) (acc ++ [x]) := by
  match g, g0, hg with
  | c :: t, _, hg =>
    have h1 : Sw (l ++ x ++ [c]) (acc ++ [x]) := by
      have e := ws_word l x hx
      unfold Sw at *
      rw [h] at e
      have hl : 0 < x.length := List.length_pos_iff.mpr h0
      rw [ws_one _ c (hg c (by simp)), e]
      rw [if_pos (by rw [List.length_append]; show l.length < _; omega)]
      have e2 : sl (l ++ x) l.length (l ++ x).length = x := by
        unfold sl
        rw [List.drop_left, List.length_append, Nat.add_sub_cancel_left, List.take_length]
      show (acc ++ [sl (l ++ x) l.length (l ++ x).length], (l ++ x).length + 1) = (acc ++ [x], (l ++ x ++ [c]).length)
      rw [e2, @List.length_append _ (l ++ x) _, List.length_singleton]
    have h2 := h1.gap t fun d hd => hg d (by simp [hd])
    rwa [List.append_assoc, List.singleton_append] at h2
theorem Sw.done {l : List UInt8} {acc : List (List UInt8)} (h : Sw l acc) : wd l = acc := by
  unfold Sw at h
  unfold wd
  rw [h, if_neg (by show ¬ l.length < l.length; omega)]
/-- The lines of a text that ends with a line feed. -/
def Sl (l : List UInt8) (acc : List (List UInt8)) : Prop := ln l l.length = (acc, l.length) ∧ aok l = true ∧ Lib.countByte l 10 = acc.length
theorem ln_line (l x : List UInt8) (hx : ∀ c ∈ x, c ≠ 10) : ln (l ++ x) (l ++ x).length = ln l l.length := by
  refine snoc_ind (P := fun x => (∀ c ∈ x, c ≠ 10) → ln (l ++ x) (l ++ x).length = ln l l.length) (fun _ => by simp) (fun x c ih hx => ?_) x hx
  have ih := ih fun d hd => hx d (List.mem_append_left _ hd)
  have e : (l ++ x ++ [c]).getD (l ++ x).length 0 = c := getD_right (l ++ x) [c] 0
  rw [← List.append_assoc, @List.length_append _ (l ++ x) _, List.length_singleton, ln_no _ _ (by rw [e]; exact hx c (by simp)), ln_app _ [c] _ (Nat.le_refl _), ih]
theorem aok_app (l m : List UInt8) : aok (l ++ m) = (aok l && aok m) := by simp [aok, List.all_append]
theorem Sl.line {l : List UInt8} {acc : List (List UInt8)} (h : Sl l acc) (x : List UInt8) (hx : ∀ c ∈ x, okb c = true ∧ c ≠ 10) : Sl (l ++ x ++ [10]) (acc ++ [x]) := by
  obtain ⟨h1, h2, h3⟩ := h
  refine ⟨?_, ?_, ?_⟩
  · have e : (l ++ x ++ [10]).getD (l ++ x).length 0 = 10 := getD_right (l ++ x) [10] 0
    rw [@List.length_append _ (l ++ x) _, List.length_singleton, ln_cut _ _ e, ln_app _ [10] _ (Nat.le_refl _), ln_line l x fun c hc => (hx c hc).2, h1]
    have e2 : sl (l ++ x ++ [10]) l.length (l ++ x).length = x := by
      rw [sl_app _ _ _ _ (by rw [List.length_append]; omega) (Nat.le_refl _)]
      unfold sl
      rw [List.drop_left, List.length_append, Nat.add_sub_cancel_left, List.take_length]
    show (acc ++ [sl (l ++ x ++ [10]) l.length (l ++ x).length], (l ++ x).length + 1) = _
    rw [e2]
  · rw [aok_app, aok_app, h2, show aok x = true from List.all_eq_true.mpr fun c hc => (hx c hc).1]
    rfl
  · unfold Lib.countByte at *
    rw [List.count_append, List.count_append, h3, List.count_eq_zero.mpr fun hc => (hx 10 hc).2 rfl, List.length_append]
    rfl
theorem Sl.done {l : List UInt8} {acc : List (List UInt8)} (h : Sl l acc) (h1 : l.length ≤ 65536) (h2 : acc.length ≤ 4096) : lE l = 0 ∧ lL l = acc := by
  obtain ⟨e1, e2, e3⟩ := h
  have := l_ok l (by rw [e3]; omega) e2 (by rw [e1]; show ¬ l.length < l.length; omega)
  rw [e1] at this
  exact this
end NM
end Go.Proofs.YtcnmnkgnaknpdaaGreatDoor.S02
/-! MathI -/
namespace Go.Proofs.YtcnmnkgnaknpdaaGreatDoor
open S02 S06 S07
namespace AS
theorem ext_last (l : List (Nat × List UInt8)) (a : Nat) (bs : List UInt8) (c : UInt8) : ext (l ++ [(a, bs)]) c = l ++ [(a, bs ++ [c])] := by
  induction l with
  | nil => rfl
  | cons p r ih =>
    cases r with
    | nil => rfl
    | cons q r => rw [List.cons_append, List.cons_append, ext, ← List.cons_append, ih]; rfl
/-- The bytes of a run. -/
def run (m : Nat → UInt8) (a : Nat) (n : Nat) : List UInt8 := (List.range n).map fun j => m (a + j)
theorem run_succ (m : Nat → UInt8) (a n : Nat) : run m a (n + 1) = run m a n ++ [m (a + n)] := by simp [run, List.range_succ]
theorem run_len (m : Nat → UInt8) (a n : Nat) : (run m a n).length = n := by simp [run]
theorem segs_run {pl : Nat → Bool} {m : Nat → UInt8} {a : Nat} (h0 : a = 0 ∨ pl (a - 1) = false) : ∀ n : Nat, (∀ i, a ≤ i → i < a + (n + 1) → pl i = true) → segs pl m (a + (n + 1)) = segs pl m a ++ [(a, run m a (n + 1))]
  | 0, h => by
    rw [show a + (0 + 1) = a + 1 from rfl, segs, if_pos (h a (by omega) (by omega)), if_pos h0]
    rfl
  | n + 1, h => by
    have ih := segs_run (m := m) h0 n fun i h1 h2 => h i h1 (by omega)
    rw [show a + (n + 1 + 1) = a + (n + 1) + 1 by omega, segs, if_pos (h (a + (n + 1)) (by omega) (by omega)), if_neg ?_, ih, ext_last, run_succ m a (n + 1)]
    rintro (e | e)
    · omega
    · rw [h (a + (n + 1) - 1) (by omega) (by omega)] at e
      cases e
/-- A run more: nothing lies between k and a. -/
theorem segs_more_run {pl : Nat → Bool} {m : Nat → UInt8} {k a n : Nat} (hk : k ≤ a) (hgap : ∀ i, k ≤ i → i < a → pl i = false) (h0 : a = 0 ∨ pl (a - 1) = false) (hn : 0 < n) (h : ∀ i, a ≤ i → i < a + n → pl i = true) : segs pl m (a + n) = segs pl m k ++ [(a, run m a n)] := by
  obtain ⟨j, rfl⟩ : ∃ j, n = j + 1 := ⟨n - 1, by omega⟩
  rw [segs_run h0 j h, segs_low hk hgap]
theorem run_wr (m : Nat → UInt8) (a : Nat) (l : List UInt8) : run (wr m a l) a l.length = l := by
  refine List.ext_getElem (by simp [run]) fun i h1 h2 => ?_
  simp only [run, List.getElem_map, List.getElem_range]
  unfold wr
  rw [if_pos (by omega), show a + i - a = i by omega, List.getD_eq_getElem?_getD, List.getElem?_eq_getElem h2]
  rfl
theorem run_off {m : Nat → UInt8} {a b n : Nat} {l : List UInt8} (h : b + n ≤ a ∨ a + l.length ≤ b) : run (wr m a l) b n = run m b n := by
  refine List.map_congr_left fun j hj => ?_
  rw [List.mem_range] at hj
  unfold wr
  rw [if_neg (by omega)]
theorem wr_app (m : Nat → UInt8) (a : Nat) (x y : List UInt8) : wr (wr m a x) (a + x.length) y = wr m a (x ++ y) := by
  funext i
  unfold wr
  rw [List.length_append]
  by_cases h1 : a + x.length ≤ i ∧ i < a + x.length + y.length
  · rw [if_pos h1, if_pos (by omega), List.getD_eq_getElem?_getD, List.getD_eq_getElem?_getD, List.getElem?_append_right (by omega), show i - (a + x.length) = i - a - x.length by omega]
  · rw [if_neg h1]
    by_cases h2 : a ≤ i ∧ i < a + x.length
    · rw [if_pos h2, if_pos (by omega), List.getD_eq_getElem?_getD, List.getD_eq_getElem?_getD, List.getElem?_append_left (by omega)]
    · rw [if_neg h2, if_neg (by omega)]
/-! ### Lines of words -/
/-- A word of a line that is no label: it has bytes, none of them parts words, its last one is no colon. -/
def wok (x : List UInt8) : Prop := x ≠ [] ∧ ∀ c ∈ x, NM.sepB c = false ∧ c ≠ 59 ∧ c ≠ 58 ∧ NM.okb c = true ∧ c ≠ 10
theorem wok_suf {x : List UInt8} (h : wok x) : Lib.hasSuffix x [58] = false := by
  rw [suf_one h.1, decide_eq_false_iff_not]
  intro e
  have hl : x.length - 1 < x.length := by have := List.length_pos_iff.2 h.1; omega
  rw [List.getD_eq_getElem?_getD, List.getElem?_eq_getElem hl] at e
  exact (h.2 _ (List.getElem_mem hl)).2.2.1 e
theorem code_no {l : List UInt8} (h : ∀ c ∈ l, c ≠ 59) : code l = l := by
  rw [code_tw]
  induction l with
  | nil => rfl
  | cons b l ih =>
    rw [List.takeWhile_cons, if_pos (by simpa using h b (by simp)), ih fun c hc => h c (List.mem_cons_of_mem _ hc)]
theorem labs_none {p : St} {d : List UInt8} {r : List (List UInt8)} (h : wok d) : labs p (d :: r) = (0, p, d :: r) := labs_no (wok_suf h)
/-- Words with a gap ahead of each. -/
def gaps (g : List UInt8) : List (List UInt8) → List UInt8
  | [] => []
  | x :: r => g ++ (x ++ gaps g r)
theorem wd_gaps {g : List UInt8} (hg : ∀ c ∈ g, NM.sepB c = true) (g0 : g ≠ []) : ∀ (r : List (List UInt8)) (l : List UInt8) (acc : List (List UInt8)) (y : List UInt8), NM.Sw l acc → (y ≠ [] ∧ ∀ c ∈ y, NM.sepB c = false) → (∀ x ∈ r, wok x) → NM.wd (l ++ y ++ gaps g r) = acc ++ y :: r
  | [], l, acc, y, h, hy, _ => by
    have h1 : NM.Sw (l ++ y ++ [32]) (acc ++ [y]) := h.word y [32] hy.2 hy.1 (by decide) (by simp)
    have h2 := h1.done
    rw [gaps, List.append_nil]
    have e1 := NM.ws_word l y hy.2
    have h' := h
    unfold NM.Sw at h'
    rw [h'] at e1
    have hl : 0 < y.length := List.length_pos_iff.mpr hy.1
    unfold NM.wd
    rw [e1, if_pos (by rw [List.length_append]; show l.length < _; omega)]
    have e2 : NM.sl (l ++ y) l.length (l ++ y).length = y := by
      unfold NM.sl
      rw [List.drop_left, List.length_append, Nat.add_sub_cancel_left, List.take_length]
    show acc ++ [NM.sl (l ++ y) l.length (l ++ y).length] = acc ++ [y]
    rw [e2]
  | x :: r, l, acc, y, h, hy, hr => by
    have h1 : NM.Sw (l ++ y ++ g) (acc ++ [y]) := h.word y g hy.2 hy.1 hg g0
    have hx := hr x (by simp)
    have ih := wd_gaps hg g0 r (l ++ y ++ g) (acc ++ [y]) x h1 ⟨hx.1, fun c hc => (hx.2 c hc).1⟩ fun z hz => hr z (List.mem_cons_of_mem _ hz)
    rw [gaps]
    rw [show l ++ y ++ (g ++ (x ++ gaps g r)) = l ++ y ++ g ++ x ++ gaps g r by simp only [List.append_assoc], ih]
    simp
theorem gaps_mem {g : List UInt8} {P : UInt8 → Prop} (hg : ∀ c ∈ g, P c) : ∀ {r : List (List UInt8)}, (∀ x ∈ r, ∀ c ∈ x, P c) → ∀ c ∈ gaps g r, P c
  | [], _, c, h => by cases h
  | x :: r, hr, c, h => by
    rw [gaps] at h
    rcases List.mem_append.1 h with h | h
    · exact hg c h
    · rcases List.mem_append.1 h with h | h
      · exact hr x (by simp) c h
      · exact gaps_mem hg (fun z hz => hr z (List.mem_cons_of_mem _ hz)) c h
theorem sw_nil : NM.Sw [] [] := rfl
theorem sw_gap {g : List UInt8} (hg : ∀ c ∈ g, NM.sepB c = true) : NM.Sw g [] := by
  have := sw_nil.gap g hg
  simpa using this
theorem line_one {st : St} {k : Nat} {l d : List UInt8} {r : List (List UInt8)} (hc : ∀ c ∈ l, c ≠ 59) (hw : NM.wd l = d :: r) (hd : wok d) : lineE st k l = (one st (k + 1) (d :: r)).1 ∧ lineS st k l = (one st (k + 1) (d :: r)).2 :=
  line_end (by rw [code_no hc, hw]; exact labs_none hd)
end AS
end Go.Proofs.YtcnmnkgnaknpdaaGreatDoor
/-! MathJ -/
namespace Go.Proofs.YtcnmnkgnaknpdaaGreatDoor
open S02 S06 S07
namespace AS
def okW (c : UInt8) : Bool := !NM.sepB c && c != 59 && c != 58 && NM.okb c && c != 10
theorem okW_open {c : UInt8} (h : okW c = true) : NM.sepB c = false ∧ c ≠ 59 ∧ c ≠ 58 ∧ NM.okb c = true ∧ c ≠ 10 := by
  unfold okW at h
  simp only [Bool.and_eq_true, Bool.not_eq_true', bne_iff_ne, ne_eq] at h
  obtain ⟨⟨⟨⟨h1, h2⟩, h3⟩, h4⟩, h5⟩ := h
  exact ⟨h1, h2, h3, h4, h5⟩
theorem wok_of {x : List UInt8} (h0 : x ≠ []) (h : ∀ c ∈ x, okW c = true) : wok x := ⟨h0, fun c hc => okW_open (h c hc)⟩
theorem fin_okW : ∀ k : Fin 256, (k.val = 114 ∨ k.val = 45 ∨ (48 ≤ k.val ∧ k.val ≤ 57) ∨ (97 ≤ k.val ∧ k.val ≤ 122)) → okW (UInt8.ofNat k.val) = true := by decide +kernel
theorem okW_num {c : UInt8} (h : c.toNat = 114 ∨ c.toNat = 45 ∨ (48 ≤ c.toNat ∧ c.toNat ≤ 57) ∨ (97 ≤ c.toNat ∧ c.toNat ≤ 122)) : okW c = true := by
  have := fin_okW ⟨c.toNat, c.toNat_lt⟩ h
  rwa [show UInt8.ofNat (⟨c.toNat, c.toNat_lt⟩ : Fin 256).val = c from UInt8.ofNat_toNat] at this
theorem fin_nmW : ∀ k : Fin 64, k.val ≠ 0 → (TX.nmL.getD k.val []).all okW = true ∧ (TX.nmL.getD k.val []).head? ≠ some 46 := by decide +kernel
theorem nm_wok {op : Int} (h : 1 ≤ op ∧ op ≤ 63) : wok (TX.nm op) ∧ Lib.hasPrefix (TX.nm op) [46] = false := by
  obtain ⟨h1, h2⟩ := fin_nmW ⟨op.toNat, by omega⟩ (by show op.toNat ≠ 0; omega)
  have hne := TX.nm_ne h
  refine ⟨wok_of hne fun c hc => List.all_eq_true.1 h1 c hc, ?_⟩
  rw [pre_one hne, decide_eq_false_iff_not]
  intro e
  refine h2 ?_
  change (TX.nm op).head? = some 46
  revert e hne
  cases TX.nm op with
  | nil => exact fun hne _ => absurd rfl hne
  | cons c r => intro _ e; simp at e; simp [e]
theorem itoa_wok (n : Int) : wok (Lib.itoa n) := by
  obtain ⟨c, t, e, _⟩ := TX.itoa_ne n
  refine wok_of (by rw [e]; simp) fun c hc => okW_num ?_
  rcases TX.itoa_mem n c hc with h | h
  · exact .inr (.inl h)
  · exact .inr (.inr (.inl h))
theorem wr_wok (d a b m : Int) (o : Nat) : wok (TX.wr d a b m o) := by
  refine wok_of ?_ fun c hc => okW_num ?_
  · unfold TX.wr
    split
    · simp
    · split
      · simp
      · split
        · simp
        · exact (itoa_wok m).1
  · rcases TX.wr_mem d a b m o c hc with h | h | h
    · exact .inl h
    · exact .inr (.inl h)
    · exact .inr (.inr (.inl h))
/-- An instruction: its operation, its operands. -/
abbrev In := Int × Int × Int × Int × Int
def rcI (i : In) : Int := IM.rc i.1 i.2.1 i.2.2.1 i.2.2.2.1 i.2.2.2.2
def prI (i : In) : List UInt8 := TX.pr i.1 i.2.1 i.2.2.1 i.2.2.2.1 i.2.2.2.2
def ecI (i : In) : Nat := (IM.ec i.1 i.2.1 i.2.2.1 i.2.2.2.1 i.2.2.2.2).toNat
def opI (i : In) : List (List UInt8) := (TX.os (IM.fm i.1)).map (TX.wr i.2.1 i.2.2.1 i.2.2.2.1 i.2.2.2.2)
theorem op_rng {i : In} (h : rcI i = 0) : 1 ≤ i.1 ∧ i.1 ≤ 63 := IM.fm_op _ (by have := TX.fm_rng h; omega)
theorem opI_wok {i : In} : ∀ x ∈ opI i, wok x := by
  intro x hx
  obtain ⟨o, _, rfl⟩ := List.mem_map.1 hx
  exact wr_wok _ _ _ _ _
theorem pr_txt {i : In} (h : rcI i = 0) : prI i = txt (TX.nm i.1) (opI i) := by
  unfold prI
  rw [TX.pr_tx h]
  unfold opI
  rcases TX.os_shape (IM.fm i.1) with e | ⟨o, e⟩ | ⟨o, p, e⟩ | ⟨o, p, q, e⟩ <;> rw [e] <;> simp [TX.tx, txt, Lib.join_cons, Lib.joinTail]
theorem pr_line {i : In} (h : rcI i = 0) : NM.wd ([9] ++ prI i) = TX.nm i.1 :: opI i ∧ ∀ c ∈ [9] ++ prI i, c ≠ 59 ∧ NM.okb c = true ∧ c ≠ 10 := by
  have hn := (nm_wok (op_rng h)).1
  have hs : ∀ o, wok (TX.wr i.2.1 i.2.2.1 i.2.2.2.1 i.2.2.2.2 o) := fun o => wr_wok _ _ _ _ o
  have h9 : NM.Sw [9] [] := sw_gap (by decide)
  unfold prI
  rw [TX.pr_tx h]
  unfold opI
  have hn2 : TX.nm i.1 ≠ [] ∧ ∀ c ∈ TX.nm i.1, NM.sepB c = false := ⟨hn.1, fun c hc => (hn.2 c hc).1⟩
  have h32 : NM.Sw ([9] ++ TX.nm i.1 ++ [32]) ([] ++ [TX.nm i.1]) := h9.word _ [32] hn2.2 hn2.1 (by decide) (by simp)
  have key : ∀ (o : Nat) (r : List Nat), NM.wd ([9] ++ TX.nm i.1 ++ [32] ++ TX.wr i.2.1 i.2.2.1 i.2.2.2.1 i.2.2.2.2 o ++ gaps [44, 32] (r.map (TX.wr i.2.1 i.2.2.1 i.2.2.2.1 i.2.2.2.2))) = [] ++ [TX.nm i.1] ++ TX.wr i.2.1 i.2.2.1 i.2.2.2.1 i.2.2.2.2 o :: r.map (TX.wr i.2.1 i.2.2.1 i.2.2.2.1 i.2.2.2.2) := fun o r =>
    wd_gaps (by decide) (by simp) _ _ _ _ h32 ⟨(hs o).1, fun c hc => ((hs o).2 c hc).1⟩ fun x hx => by
      obtain ⟨q, _, rfl⟩ := List.mem_map.1 hx
      exact hs q
  have hb : ∀ o, ∀ c ∈ TX.wr i.2.1 i.2.2.1 i.2.2.2.1 i.2.2.2.2 o, c ≠ 59 ∧ NM.okb c = true ∧ c ≠ 10 := fun o c hc => by obtain ⟨_, h1, _, h2, h3⟩ := (hs o).2 c hc; exact ⟨h1, h2, h3⟩
  have hnb : ∀ c ∈ TX.nm i.1, c ≠ 59 ∧ NM.okb c = true ∧ c ≠ 10 := fun c hc => by obtain ⟨_, h1, _, h2, h3⟩ := hn.2 c hc; exact ⟨h1, h2, h3⟩
  have hg : ∀ c ∈ ([9] : List UInt8) ++ [32] ++ [44, 32], c ≠ 59 ∧ NM.okb c = true ∧ c ≠ 10 := by decide
  rcases TX.os_shape (IM.fm i.1) with e | ⟨o, e⟩ | ⟨o, p, e⟩ | ⟨o, p, q, e⟩
  · rw [e]
    refine ⟨?_, fun c hc => ?_⟩
    · have := wd_gaps (g := [32]) (by decide) (by simp) [] [9] [] _ h9 hn2 (fun x hx => by cases hx)
      simpa [gaps, TX.tx] using this
    · simp only [TX.tx, List.mem_append] at hc
      rcases hc with hc | hc
      · exact hg c (by simp at hc; simp [hc])
      · exact hnb c hc
  · rw [e]
    refine ⟨?_, fun c hc => ?_⟩
    · have := key o []
      simpa [gaps, TX.tx, List.append_assoc] using this
    · simp only [TX.tx, List.mem_append] at hc
      rcases hc with hc | hc | hc | hc
      · exact hg c (by simp at hc; simp [hc])
      · exact hnb c hc
      · exact hg c (by simp at hc; simp [hc])
      · exact hb _ c hc
  · rw [e]
    refine ⟨?_, fun c hc => ?_⟩
    · have := key o [p]
      simpa [gaps, TX.tx, List.append_assoc] using this
    · simp only [TX.tx, List.mem_append] at hc
      rcases hc with hc | hc | hc | hc | hc | hc
      · exact hg c (by simp at hc; simp [hc])
      · exact hnb c hc
      · exact hg c (by simp at hc; simp [hc])
      · exact hb _ c hc
      · exact hg c (by simp at hc; rcases hc with hc | hc <;> simp [hc])
      · exact hb _ c hc
  · rw [e]
    refine ⟨?_, fun c hc => ?_⟩
    · have := key o [p, q]
      simpa [gaps, TX.tx, List.append_assoc] using this
    · simp only [TX.tx, List.mem_append] at hc
      rcases hc with hc | hc | hc | hc | hc | hc | hc | hc
      · exact hg c (by simp at hc; simp [hc])
      · exact hnb c hc
      · exact hg c (by simp at hc; simp [hc])
      · exact hb _ c hc
      · exact hg c (by simp at hc; rcases hc with hc | hc <;> simp [hc])
      · exact hb _ c hc
      · exact hg c (by simp at hc; rcases hc with hc | hc <;> simp [hc])
      · exact hb _ c hc
/-- A number that is the last operand is left as it is. -/
theorem im_itoa (ns : List (List UInt8 × Nat)) (pos : Nat) (op n : Int) (h : -9223372036854775808 ≤ n ∧ n ≤ 9223372036854775807) : imE ns pos op [] (Lib.itoa n) = 0 ∧ imT ns pos op [] (Lib.itoa n) = Lib.itoa n := by
  obtain ⟨h1, h2⟩ := NM.p_itoa n h.1 h.2
  have h3 : isNm (Lib.itoa n) = false := by
    cases hn : isNm (Lib.itoa n)
    · rfl
    · have := pE_name hn
      rw [h2] at this
      cases this
  refine ⟨?_, ?_⟩
  · unfold imE
    rw [if_pos ⟨rfl, h3⟩, if_pos (.inl h2)]
  · unfold imT
    rw [if_pos ⟨rfl, h3⟩, if_pos h2, h1]
theorem reg_not {d a b m : Int} {o : Nat} (h : o ≤ 2) : TX.wr d a b m o ≠ tHi ∧ TX.wr d a b m o ≠ tLo := by
  have : ∃ t, TX.wr d a b m o = 114 :: t := by
    unfold TX.wr
    split
    · exact ⟨_, rfl⟩
    · split
      · exact ⟨_, rfl⟩
      · split
        · exact ⟨_, rfl⟩
        · omega
  obtain ⟨t, e⟩ := this
  rw [e]
  exact ⟨by simp [tHi], by simp [tLo]⟩
theorem rs_num {ns : List (List UInt8 × Nat)} {pos : Nat} {op m : Int} {l : List (List UInt8)} (hm : -9223372036854775808 ≤ m ∧ m ≤ 9223372036854775807) (h : ∀ x ∈ l, x ≠ tHi ∧ x ≠ tLo) : rsE ns pos op (l ++ [Lib.itoa m]) = 0 ∧ rsL ns pos op (l ++ [Lib.itoa m]) = l ++ [Lib.itoa m] := by
  obtain ⟨h1, h2⟩ := im_itoa ns pos op m hm
  have e1 : (l ++ [Lib.itoa m]).getD ((l ++ [Lib.itoa m]).length - 1) [] = Lib.itoa m := by simp
  have e2 : (l ++ [Lib.itoa m]).take ((l ++ [Lib.itoa m]).length - 1) = l := by simp
  have hno : ¬ (2 ≤ (l ++ [Lib.itoa m]).length ∧ ((l ++ [Lib.itoa m]).getD ((l ++ [Lib.itoa m]).length - 2) [] = tHi ∨ (l ++ [Lib.itoa m]).getD ((l ++ [Lib.itoa m]).length - 2) [] = tLo)) := by
    rintro ⟨hl, hc⟩
    simp only [List.length_append, List.length_singleton] at hl hc
    have hi : l.length + 1 - 2 < l.length := by omega
    rw [List.getD_eq_getElem?_getD, List.getElem?_append_left hi, List.getElem?_eq_getElem hi] at hc
    obtain ⟨q1, q2⟩ := h _ (List.getElem_mem hi)
    exact hc.elim q1 q2
  unfold rsE rsL
  split
  · exact ⟨rfl, rfl⟩
  · rw [e1, e2, h1, h2]
    exact ⟨rfl, rfl⟩
theorem rs_none {ns : List (List UInt8 × Nat)} {pos : Nat} {op : Int} {l : List (List UInt8)} (h : l = [] ∨ hasI (IM.fm op) = false) : rsE ns pos op l = 0 ∧ rsL ns pos op l = l := by
  unfold rsE rsL
  rw [if_pos h, if_pos h]
  exact ⟨rfl, rfl⟩
theorem rs_op (ns : List (List UInt8 × Nat)) (pos : Nat) {i : In} (h : rcI i = 0) : rsE ns pos i.1 (opI i) = 0 ∧ rsL ns pos i.1 (opI i) = opI i := by
  have hf := TX.fm_rng h
  have hm : -131072 ≤ i.2.2.2.2 ∧ i.2.2.2.2 < 262144 := (TX.rc_parts h).2.2.2.2
  have hw : ∀ o, o = 3 → TX.wr i.2.1 i.2.2.1 i.2.2.2.1 i.2.2.2.2 o = Lib.itoa i.2.2.2.2 := fun o e => by subst e; rfl
  have hr : ∀ o, o ≤ 2 → TX.wr i.2.1 i.2.2.1 i.2.2.2.1 i.2.2.2.2 o ≠ tHi ∧ TX.wr i.2.1 i.2.2.1 i.2.2.2.1 i.2.2.2.2 o ≠ tLo := fun o ho => reg_not ho
  cases hi : hasI (IM.fm i.1)
  · exact rs_none (.inr hi)
  · have hform : IM.fm i.1 = 2 ∨ IM.fm i.1 = 3 ∨ IM.fm i.1 = 4 ∨ IM.fm i.1 = 5 ∨ IM.fm i.1 = 7 ∨ IM.fm i.1 = 8 := by
      unfold hasI at hi
      simp at hi
      omega
    have hos : ∃ l : List Nat, (∀ o ∈ l, o ≤ 2) ∧ TX.os (IM.fm i.1) = l ++ [3] := by
      unfold TX.os
      rcases hform with e | e | e | e | e | e <;> rw [e]
      · exact ⟨[0, 1], by decide, by decide⟩
      · exact ⟨[1, 2], by decide, by decide⟩
      · exact ⟨[1, 2], by decide, by decide⟩
      · exact ⟨[0], by decide, by decide⟩
      · exact ⟨[0], by decide, by decide⟩
      · exact ⟨[1], by decide, by decide⟩
    obtain ⟨l, hl, e⟩ := hos
    have e2 : opI i = l.map (TX.wr i.2.1 i.2.2.1 i.2.2.2.1 i.2.2.2.2) ++ [Lib.itoa i.2.2.2.2] := by
      unfold opI
      rw [e, List.map_append]
      rfl
    rw [e2]
    exact rs_num (by omega) fun x hx => by
      obtain ⟨o, ho, rfl⟩ := List.mem_map.1 hx
      exact hr o (hl o ho)
theorem en_op (ns : List (List UInt8 × Nat)) (pos : Nat) {i : In} (h : rcI i = 0) : enE ns pos (TX.nm i.1) (opI i) = 0 ∧ (enN ns pos (TX.nm i.1) (opI i)).toNat = ecI i := by
  obtain ⟨h1, h2⟩ := rs_op ns pos h
  obtain ⟨h3, h4⟩ := TX.pe_pr h
  have ho := TX.oo_nm (op_rng h)
  have ht : txt (TX.nm i.1) (opI i) = TX.pr i.1 i.2.1 i.2.2.1 i.2.2.2.1 i.2.2.2.2 := (pr_txt h).symm
  have hr : ¬ i.1 = 0 := by have := op_rng h; omega
  refine ⟨?_, ?_⟩
  · unfold enE
    rw [ho, if_neg hr, h1, if_pos rfl, h2, ht, h3, if_pos rfl, h4]
    exact h
  · unfold enN
    rw [ho, h2, ht, h4]
    rfl
end AS
end Go.Proofs.YtcnmnkgnaknpdaaGreatDoor
/-! MathK -/
namespace Go.Proofs.YtcnmnkgnaknpdaaGreatDoor
open S02 S06 S07
namespace AS
/-- The text of instructions, one a line behind a tab. -/
def srcI (l : List In) : List UInt8 := l.flatMap fun i => ([9] ++ prI i) ++ [10]
theorem srcI_snoc (l : List In) (i : In) : srcI (l ++ [i]) = srcI l ++ ([9] ++ prI i) ++ [10] := by simp [srcI]
theorem srcI_len (l : List In) : (srcI l).length ≤ 102 * l.length := by
  induction l with
  | nil => simp [srcI]
  | cons i r ih =>
    have := TX.pr_len i.1 i.2.1 i.2.2.1 i.2.2.2.1 i.2.2.2.2
    have e : srcI (i :: r) = (([9] ++ prI i) ++ [10]) ++ srcI r := by simp [srcI]
    rw [e]
    simp only [List.length_append, List.length_cons, List.length_nil]
    change (prI i).length ≤ 100 at this
    omega
theorem rev_ind {α : Type} {C : List α → Prop} (h0 : C []) (h1 : ∀ l x, C l → C (l ++ [x])) (l : List α) : C l := by
  suffices h : ∀ r : List α, C r.reverse by have := h l.reverse; rwa [List.reverse_reverse] at this
  intro r
  induction r with
  | nil => exact h0
  | cons p r ih => rw [List.reverse_cons]; exact h1 _ _ ih
theorem srcI_sl (l : List In) : (∀ i ∈ l, rcI i = 0) → NM.Sl (srcI l) (l.map fun i => [9] ++ prI i) := by
  refine rev_ind (C := fun l => (∀ i ∈ l, rcI i = 0) → NM.Sl (srcI l) (l.map fun i => [9] ++ prI i)) (fun _ => ⟨rfl, rfl, rfl⟩) (fun l i ih h => ?_) l
  rw [srcI_snoc, List.map_append]
  exact (ih fun x hx => h x (List.mem_append_left _ hx)).line ([9] ++ prI i) fun c hc => ⟨((pr_line (h i (by simp))).2 c hc).2.1, ((pr_line (h i (by simp))).2 c hc).2.2⟩
theorem srcI_lines {l : List In} (h : ∀ i ∈ l, rcI i = 0) (hl : l.length ≤ 60) : NM.lE (srcI l) = 0 ∧ NM.lL (srcI l) = l.map fun i => [9] ++ prI i := by
  have := srcI_len l
  exact (srcI_sl l h).done (by omega) (by rw [List.length_map]; omega)
/-- The items of instructions from a line on. -/
def itsI : Nat → List In → List It
  | _, [] => []
  | k, i :: r => ⟨1, k + 1, 4 * k, 4, TX.nm i.1 :: opI i⟩ :: itsI (k + 1) r
theorem cov_low {l : List It} {a n : Nat} (h : ∀ x ∈ l, x.pos + x.size ≤ a) : ovl (cov l) a n = false := by
  rw [Bool.eq_false_iff]
  intro h'
  obtain ⟨i, h1, h2, h3⟩ := ovl_ex.1 h'
  rw [cov_high h i h1] at h3
  cases h3
theorem one_ins {st : St} {line : Nat} {i : In} (h : rcI i = 0) (h4 : st.pos % 4 = 0) (hm : st.pos + 4 ≤ 16384) (hl : ∀ x ∈ st.items, x.pos + x.size ≤ st.pos) : one st line (TX.nm i.1 :: opI i) = (0, ⟨st.names, st.pos + 4, st.items ++ [⟨1, line, st.pos, 4, TX.nm i.1 :: opI i⟩]⟩) := by
  rw [one]
  rw [if_pos (nm_wok (op_rng h)).2]
  unfold lay laE
  rw [if_neg (by omega), cov_low hl, if_neg (by simp)]
  rfl
theorem first_ins : ∀ (r : List In) (k : Nat) (its : List It), (∀ i ∈ r, rcI i = 0) → k + r.length ≤ 4096 → (∀ x ∈ its, x.pos + x.size ≤ 4 * k) → first (r.map fun i => [9] ++ prI i) k ⟨[], 4 * k, its⟩ = (0, 0, ⟨[], 4 * (k + r.length), its ++ itsI k r⟩)
  | [], k, its, _, _, _ => by simp [first, itsI]
  | i :: r, k, its, h, hk, hl => by
    rw [List.length_cons] at hk
    obtain ⟨h1, h2⟩ := pr_line (h i (by simp))
    have ho := one_ins (st := ⟨[], 4 * k, its⟩) (line := k + 1) (h i (by simp)) (by show 4 * k % 4 = 0; omega) (by show 4 * k + 4 ≤ 16384; omega) hl
    obtain ⟨e1, e2⟩ := line_one (st := ⟨[], 4 * k, its⟩) (k := k) (fun c hc => (h2 c hc).1) h1 (nm_wok (op_rng (h i (by simp)))).1
    rw [ho] at e1 e2
    rw [List.map_cons, first, if_pos e1, e2]
    have ih := first_ins r (k + 1) (its ++ [⟨1, k + 1, 4 * k, 4, TX.nm i.1 :: opI i⟩]) (fun x hx => h x (List.mem_cons_of_mem _ hx)) (by omega) (fun x hx => by
      rcases List.mem_append.1 hx with hx | hx
      · have := hl x hx; omega
      · rw [List.mem_singleton] at hx; subst hx; show 4 * k + 4 ≤ 4 * (k + 1); omega)
    rw [show 4 * (k + 1) = 4 * k + 4 by omega] at ih
    rw [ih, List.length_cons, itsI, List.append_assoc, show k + 1 + r.length = k + (r.length + 1) by omega]
    rfl
/-- The bytes of instructions. -/
def bytI (l : List In) : List UInt8 := l.flatMap fun i => le (ecI i) 4
theorem bytI_len (l : List In) : (bytI l).length = 4 * l.length := by
  induction l with
  | nil => rfl
  | cons i r ih =>
    rw [bytI, List.flatMap_cons, List.length_append, ← bytI, ih, show (le (ecI i) 4).length = 4 by simp [le], List.length_cons]
    omega
theorem second_ins (ns : List (List UInt8 × Nat)) : ∀ (r : List In) (k : Nat) (m : Nat → UInt8), (∀ i ∈ r, rcI i = 0) → second ns (itsI k r) m = (0, 0, wr m (4 * k) (bytI r))
  | [], k, m, _ => by
    rw [itsI, second]
    refine congrArg (fun x => ((0 : Int), (0 : Nat), x)) ?_
    funext i
    unfold wr
    rw [if_neg (by simp [bytI])]
  | i :: r, k, m, h => by
    obtain ⟨h1, h2⟩ := en_op ns (4 * k) (h i (by simp))
    have e : itB ns ⟨1, k + 1, 4 * k, 4, TX.nm i.1 :: opI i⟩ = (0, le (ecI i) 4) := by
      unfold itB
      rw [if_pos rfl]
      simp only [List.getD_cons_zero, List.tail_cons]
      rw [h1, h2]
    rw [itsI, second_ok (by rw [e]), e, second_ins ns r (k + 1) _ fun x hx => h x (List.mem_cons_of_mem _ hx)]
    refine congrArg (fun x => ((0 : Int), (0 : Nat), x)) ?_
    rw [show bytI (i :: r) = le (ecI i) 4 ++ bytI r by simp [bytI], ← wr_app]
    rw [show 4 * (k + 1) = 4 * k + (le (ecI i) 4).length by simp [le]; omega]
theorem cov_ins : ∀ (r : List In) (k a : Nat), cov (itsI k r) a = (decide (4 * k ≤ a) && decide (a < 4 * (k + r.length)))
  | [], k, a => by
    simp [itsI, cov]
  | i :: r, k, a => by
    rw [itsI, cov, cov_ins r (k + 1) a, List.length_cons, Bool.eq_iff_iff]
    simp
    omega
/-- What printed instructions are assembled to. -/
theorem asm_ins {l : List In} (h : ∀ i ∈ l, rcI i = 0) (hl : l.length ≤ 60) : asm (srcI l) = ⟨0, if l = [] then [] else [(0, bytI l)], [], 0, 0⟩ := by
  obtain ⟨h1, h2⟩ := srcI_lines h hl
  have hF := first_ins l 0 [] h (by omega) (fun x hx => by cases hx)
  have hG := second_ins [] l 0 (fun _ => 0) h
  rw [Nat.mul_zero, Nat.zero_add, List.nil_append] at hF
  rw [Nat.mul_zero] at hG
  unfold asm
  rw [if_pos h1, h2, hF, if_pos rfl]
  simp only []
  rw [hG, if_pos rfl]
  have hs : segs (cov (itsI 0 l)) (wr (fun _ => 0) 0 (bytI l)) 16384 = if l = [] then [] else [(0, bytI l)] := by
    by_cases h0 : l = []
    · subst h0
      rw [if_pos rfl, segs_low (pl := cov (itsI 0 [])) (k := 0) (by omega) fun i _ _ => rfl]
      rfl
    · rw [if_neg h0, segs_low (k := 0 + 4 * l.length) (by omega) fun i h1 _ => by rw [cov_ins]; simp; omega]
      rw [segs_more_run (k := 0) (a := 0) (n := 4 * l.length) (by omega) (fun i _ hi => by omega) (.inl rfl) (by have := List.length_pos_iff.2 h0; omega) (fun i _ h2 => by rw [cov_ins]; simp; omega)]
      rw [← bytI_len l, run_wr]
      rfl
  rw [hs]
  by_cases h0 : l = []
  · rw [if_pos h0]; rfl
  · rw [if_neg h0]; rfl
end AS
end Go.Proofs.YtcnmnkgnaknpdaaGreatDoor
/-! MathL -/
namespace Go.Proofs.YtcnmnkgnaknpdaaGreatDoor
open S02 S06 S07
namespace AS
/-- A byte's text. -/
def hxw (b : UInt8) : List UInt8 := 48 :: 120 :: NM.hxs b.toNat 8
theorem hxs_mem (u k : Nat) : ∀ c ∈ NM.hxs u k, okW c = true := by
  induction k generalizing u with
  | zero => intro c h; simp [NM.hxs] at h
  | succ k ih =>
    intro c h
    rw [NM.hxs_snoc] at h
    rcases List.mem_append.1 h with h | h
    · exact ih _ c h
    · rw [List.mem_singleton] at h
      subst h
      have : ∀ d : Fin 16, okW (NM.hx d.val) = true := by decide +kernel
      exact this ⟨u % 16, Nat.mod_lt _ (by decide)⟩
theorem hxw_wok (b : UInt8) : wok (hxw b) := wok_of (by simp [hxw]) fun c hc => by
  unfold hxw at hc
  rcases List.mem_cons.1 hc with rfl | hc
  · decide
  · rcases List.mem_cons.1 hc with rfl | hc
    · decide
    · exact hxs_mem _ _ c hc
theorem hxw_len (b : UInt8) : (hxw b).length = 10 := by simp [hxw, NM.hxs_len]
theorem hxw_num (b : UInt8) : NM.pE (hxw b) = 0 ∧ NM.pN (hxw b) = (b.toNat : Int) := by
  have h := NM.p_hexs b.toNat (by have := b.toNat_lt; omega)
  exact ⟨h.2, h.1⟩
theorem not_name {l : List UInt8} (h : NM.pE l = 0) : isNm l = false := by
  cases hn : isNm l
  · rfl
  · have := pE_name hn
    rw [h] at this
    cases this
theorem nb_ok {l : List UInt8} {n lo hi : Int} (h : NM.pE l = 0) (hn : NM.pN l = n) (h1 : lo ≤ n) (h2 : n ≤ hi) : nbE l lo hi = 0 ∧ nbN l lo hi = n := by
  unfold nbE nbN
  rw [h, hn, if_neg (by omega), if_neg (by omega)]
  exact ⟨rfl, rfl⟩
theorem hxw_va (ns : List (List UInt8 × Nat)) (b : UInt8) : vaE ns (hxw b) (-128) 255 = 0 ∧ vaN ns (hxw b) (-128) 255 = (b.toNat : Int) := by
  obtain ⟨h1, h2⟩ := hxw_num b
  have hb := b.toNat_lt
  obtain ⟨h3, h4⟩ := nb_ok (lo := -128) (hi := 255) h1 h2 (by omega) (by omega)
  obtain ⟨h5, h6⟩ := va_num (ns := ns) (not_name h1) (-128) 255
  rw [h5, h6, h3, h4]
  exact ⟨rfl, by omega⟩
theorem byt_self (b : UInt8) : le b.toNat 1 = [b] := by
  show [byt b.toNat 0] = [b]
  unfold byt
  have hb := b.toNat_lt
  rw [Nat.pow_zero, Nat.div_one, Nat.mod_eq_of_lt (by omega), UInt8.ofNat_toNat]
theorem vals_hx (ns : List (List UInt8 × Nat)) : ∀ l : List UInt8, vals ns 1 (-128) 255 (l.map hxw) = (0, l)
  | [] => rfl
  | b :: r => by
    obtain ⟨h1, h2⟩ := hxw_va ns b
    rw [List.map_cons, vals, if_pos h1, vals_hx ns r, h2, Int.toNat_natCast, byt_self]
    rfl
/-- The two lines of a segment. -/
def lnA (p : Nat × List UInt8) : List UInt8 := dOrg ++ gaps [32] [Lib.itoa p.1]
def lnB (p : Nat × List UInt8) : List UInt8 := dByte ++ gaps [32] (p.2.map hxw)
def lnsB (l : List (Nat × List UInt8)) : List (List UInt8) := l.flatMap fun p => [lnA p, lnB p]
def srcB (l : List (Nat × List UInt8)) : List UInt8 := l.flatMap fun p => (lnA p ++ [10]) ++ (lnB p ++ [10])
theorem gaps_wd {d : List UInt8} (hd : wok d) {r : List (List UInt8)} (hr : ∀ x ∈ r, wok x) : NM.wd (d ++ gaps [32] r) = d :: r ∧ ∀ c ∈ d ++ gaps [32] r, c ≠ 59 ∧ NM.okb c = true ∧ c ≠ 10 := by
  refine ⟨?_, fun c hc => ?_⟩
  · have := wd_gaps (g := [32]) (by decide) (by simp) r [] [] d sw_nil ⟨hd.1, fun c hc => (hd.2 c hc).1⟩ hr
    simpa using this
  · have hw : ∀ x, wok x → ∀ c ∈ x, c ≠ 59 ∧ NM.okb c = true ∧ c ≠ 10 := fun x hx c hc => by obtain ⟨_, h1, _, h2, h3⟩ := hx.2 c hc; exact ⟨h1, h2, h3⟩
    rcases List.mem_append.1 hc with hc | hc
    · exact hw d hd c hc
    · exact gaps_mem (P := fun c => c ≠ 59 ∧ NM.okb c = true ∧ c ≠ 10) (by decide) (fun x hx c hc => hw x (hr x hx) c hc) c hc
theorem dOrg_wok : wok dOrg := wok_of (by decide) (by decide)
theorem dByte_wok : wok dByte := wok_of (by decide) (by decide)
theorem lnA_wd (p : Nat × List UInt8) : NM.wd (lnA p) = [dOrg, Lib.itoa p.1] ∧ ∀ c ∈ lnA p, c ≠ 59 ∧ NM.okb c = true ∧ c ≠ 10 := gaps_wd dOrg_wok fun x hx => by rw [List.mem_singleton] at hx; subst hx; exact itoa_wok _
theorem lnB_wd (p : Nat × List UInt8) : NM.wd (lnB p) = dByte :: p.2.map hxw ∧ ∀ c ∈ lnB p, c ≠ 59 ∧ NM.okb c = true ∧ c ≠ 10 := gaps_wd dByte_wok fun x hx => by
  obtain ⟨b, _, rfl⟩ := List.mem_map.1 hx
  exact hxw_wok b
theorem gaps_len : ∀ l : List UInt8, (gaps [32] (l.map hxw)).length = 11 * l.length
  | [] => rfl
  | b :: r => by
    rw [List.map_cons, gaps, List.length_append, List.length_append, gaps_len r, hxw_len]
    simp only [List.length_cons, List.length_nil]
    omega
theorem srcB_snoc (l : List (Nat × List UInt8)) (p : Nat × List UInt8) : srcB (l ++ [p]) = srcB l ++ lnA p ++ [10] ++ lnB p ++ [10] := by simp [srcB]
theorem srcB_sl (l : List (Nat × List UInt8)) : NM.Sl (srcB l) (lnsB l) := by
  refine rev_ind (C := fun l => NM.Sl (srcB l) (lnsB l)) ⟨rfl, rfl, rfl⟩ (fun l p ih => ?_) l
  rw [srcB_snoc, show lnsB (l ++ [p]) = lnsB l ++ [lnA p] ++ [lnB p] by simp [lnsB]]
  exact (ih.line (lnA p) fun c hc => ((lnA_wd p).2 c hc).2).line (lnB p) fun c hc => ((lnB_wd p).2 c hc).2
theorem srcB_len (l : List (Nat × List UInt8)) (hd : ∀ p ∈ l, p.2.length ≤ 200 ∧ p.1 ≤ 16384) : (srcB l).length ≤ 2300 * l.length ∧ (lnsB l).length = 2 * l.length := by
  induction l with
  | nil => exact ⟨by simp [srcB], rfl⟩
  | cons p r ih =>
    obtain ⟨h1, h2⟩ := ih fun q hq => hd q (List.mem_cons_of_mem _ hq)
    obtain ⟨h3, h4⟩ := hd p (by simp)
    have h5 := ito (p.1 : Int) (by omega)
    have e : srcB (p :: r) = ((lnA p ++ [10]) ++ (lnB p ++ [10])) ++ srcB r := by simp [srcB]
    have e2 : lnsB (p :: r) = [lnA p, lnB p] ++ lnsB r := by simp [lnsB]
    have ea : (lnA p).length = 5 + (Lib.itoa p.1).length := by simp [lnA, gaps, dOrg]; omega
    have eb : (lnB p).length = 5 + 11 * p.2.length := by simp [lnB, dByte, gaps_len]; omega
    rw [e, e2]
    simp only [List.length_append, List.length_cons, List.length_nil, ea, eb, h2]
    omega
/-- Segments that lie apart, in order, within memory. -/
def Ap : Bool → Nat → List (Nat × List UInt8) → Prop
  | _, _, [] => True
  | f, n, p :: r => p.2 ≠ [] ∧ (f = false → n < p.1) ∧ p.1 + p.2.length ≤ 16384 ∧ Ap false (p.1 + p.2.length) r
theorem Ap.above : ∀ {f : Bool} {n : Nat} {l : List (Nat × List UInt8)}, Ap f n l → (f = false → ∀ q ∈ l, n < q.1) ∧ ∀ q ∈ l, q.1 + q.2.length ≤ 16384
  | _, _, [], _ => ⟨fun _ q hq => (by cases hq), fun q hq => (by cases hq)⟩
  | f, n, p :: r, h => by
    obtain ⟨h1, h2, h3, h4⟩ := h
    obtain ⟨a1, a2⟩ := h4.above
    refine ⟨fun hf q hq => ?_, fun q hq => ?_⟩
    · rcases List.mem_cons.1 hq with rfl | hq
      · exact h2 hf
      · have := a1 rfl q hq; have := h2 hf; omega
    · rcases List.mem_cons.1 hq with rfl | hq
      · exact h3
      · exact a2 q hq
/-- The items of segments from a line on. -/
def itsB : Nat → List (Nat × List UInt8) → List It
  | _, [] => []
  | k, p :: r => ⟨3, k + 2, p.1, 1 * p.2.length, p.2.map hxw⟩ :: itsB (k + 2) r
theorem one_org {st : St} {line n : Nat} (hn : n ≤ 16384) : one st line [dOrg, Lib.itoa n] = (0, ⟨st.names, n, st.items⟩) := by
  obtain ⟨h1, h2⟩ := NM.p_itoa (n : Int) (by omega) (by omega)
  obtain ⟨h3, h4⟩ := nb_ok (lo := 0) (hi := 16384) h2 h1 (by omega) (by omega)
  rw [one]
  rw [if_neg (by decide), if_pos ⟨rfl, rfl⟩]
  show (nbE (Lib.itoa n) 0 16384, (⟨st.names, (nbN (Lib.itoa n) 0 16384).toNat, st.items⟩ : St)) = _
  rw [h3, h4]
  rfl
theorem one_byte {st : St} {line : Nat} {l : List UInt8} (h0 : l ≠ []) (hm : st.pos + l.length ≤ 16384) (hl : ∀ x ∈ st.items, x.pos + x.size ≤ st.pos) : one st line (dByte :: l.map hxw) = (0, ⟨st.names, st.pos + 1 * l.length, st.items ++ [⟨3, line, st.pos, 1 * l.length, l.map hxw⟩]⟩) := by
  have hlen : 1 ≤ (l.map hxw).length := by rw [List.length_map]; exact List.length_pos_iff.2 h0
  rw [one]
  rw [if_neg (by decide), if_neg (by rintro ⟨h, _⟩; exact absurd h (by decide)), if_neg (by rintro ⟨h, _⟩; exact absurd h (by decide)), if_neg (by rintro ⟨h, _⟩; exact absurd h (by decide)), if_pos ⟨rfl, hlen⟩]
  unfold lay laE
  rw [List.length_map, if_neg (by omega), cov_low hl, if_neg (by simp)]
  rfl
theorem first_seg : ∀ (r : List (Nat × List UInt8)) (f : Bool) (n k : Nat) (pos : Nat) (its : List It), Ap f n r → (f = true → its = []) → (∀ x ∈ its, x.pos + x.size ≤ n) → ∃ pos', first (lnsB r) k ⟨[], pos, its⟩ = (0, 0, ⟨[], pos', its ++ itsB k r⟩)
  | [], _, _, k, pos, its, _, _, _ => ⟨pos, by simp [lnsB, first, itsB]⟩
  | p :: r, f, n, k, pos, its, h, hf, hi => by
    obtain ⟨h1, h2, h3, h4⟩ := h
    have hlow : ∀ x ∈ its, x.pos + x.size ≤ p.1 := fun x hx => by
      cases f
      · have := hi x hx; have := h2 rfl; omega
      · rw [hf rfl] at hx; cases hx
    have oA := one_org (st := ⟨[], pos, its⟩) (line := k + 1) (n := p.1) (by omega)
    have oB := one_byte (st := ⟨[], p.1, its⟩) (line := k + 1 + 1) h1 h3 hlow
    obtain ⟨a1, a2⟩ := line_one (st := ⟨[], pos, its⟩) (k := k) (fun c hc => ((lnA_wd p).2 c hc).1) (lnA_wd p).1 dOrg_wok
    obtain ⟨b1, b2⟩ := line_one (st := ⟨[], p.1, its⟩) (k := k + 1) (fun c hc => ((lnB_wd p).2 c hc).1) (lnB_wd p).1 dByte_wok
    rw [oA] at a1 a2
    rw [oB] at b1 b2
    obtain ⟨pos', ih⟩ := first_seg r false (p.1 + p.2.length) (k + 1 + 1) (p.1 + 1 * p.2.length) (its ++ [⟨3, k + 1 + 1, p.1, 1 * p.2.length, p.2.map hxw⟩]) h4 (fun h => by cases h) (fun x hx => by
      rcases List.mem_append.1 hx with hx | hx
      · have := hlow x hx; omega
      · rw [List.mem_singleton] at hx; subst hx; show p.1 + 1 * p.2.length ≤ _; omega)
    refine ⟨pos', ?_⟩
    rw [show lnsB (p :: r) = lnA p :: lnB p :: lnsB r by simp [lnsB]]
    rw [first, if_pos a1, a2]
    simp only []
    rw [first, if_pos b1, b2]
    simp only []
    rw [ih, itsB, List.append_assoc]
    rfl
/-- Memory behind the segments. -/
def memB : (Nat → UInt8) → List (Nat × List UInt8) → Nat → UInt8
  | m, [] => m
  | m, p :: r => memB (wr m p.1 p.2) r
theorem second_seg (ns : List (List UInt8 × Nat)) : ∀ (r : List (Nat × List UInt8)) (k : Nat) (m : Nat → UInt8), second ns (itsB k r) m = (0, 0, memB m r)
  | [], k, m => rfl
  | p :: r, k, m => by
    have e : itB ns ⟨3, k + 2, p.1, 1 * p.2.length, p.2.map hxw⟩ = (0, p.2) := by
      unfold itB
      rw [if_neg (show ¬ (3 : Nat) = 1 by decide), if_neg (show ¬ (3 : Nat) = 2 by decide), if_pos rfl]
      exact vals_hx ns p.2
    rw [itsB, second_ok (by rw [e]), e, second_seg ns r, memB]
theorem memB_off : ∀ {r : List (Nat × List UInt8)} {m : Nat → UInt8} {b n : Nat}, (∀ q ∈ r, b + n ≤ q.1) → run (memB m r) b n = run m b n
  | [], _, _, _, _ => rfl
  | p :: r, m, b, n, h => by
    rw [memB, memB_off fun q hq => h q (List.mem_cons_of_mem _ hq)]
    exact run_off (.inl (h p (by simp)))
theorem cov_seg : ∀ (r : List (Nat × List UInt8)) (k a : Nat), cov (itsB k r) a = r.any fun p => decide (p.1 ≤ a) && decide (a < p.1 + p.2.length)
  | [], _, _ => rfl
  | p :: r, k, a => by rw [itsB, cov, cov_seg r, List.any_cons, Nat.one_mul]
theorem segs_all (pl : Nat → Bool) : ∀ (r : List (Nat × List UInt8)) (m : Nat → UInt8) (f : Bool) (n : Nat), Ap f n r → n ≤ 16384 → (f = true → n = 0) → (∀ i, n ≤ i → i < 16384 → pl i = r.any fun p => decide (p.1 ≤ i) && decide (i < p.1 + p.2.length)) → segs pl (memB m r) 16384 = segs pl (memB m r) n ++ r
  | [], m, f, n, _, hn, _, hp => by rw [segs_low hn fun i h1 h2 => by rw [hp i h1 h2]; rfl, List.append_nil]
  | p :: r, m, f, n, h, hn, hf, hp => by
    obtain ⟨h1, h2, h3, h4⟩ := h
    obtain ⟨a1, a2⟩ := h4.above
    have hlen : 0 < p.2.length := List.length_pos_iff.2 h1
    have hnp : n ≤ p.1 := by
      cases f
      · have := h2 rfl; omega
      · rw [hf rfl]; omega
    have hlow : ∀ i, n ≤ i → i < p.1 → pl i = false := fun i i1 i2 => by
      rw [hp i i1 (by omega), Bool.eq_false_iff]
      intro hc
      obtain ⟨q, hq, hq2⟩ := List.any_eq_true.1 hc
      simp only [Bool.and_eq_true, decide_eq_true_eq] at hq2
      rcases List.mem_cons.1 hq with rfl | hq
      · omega
      · have := a1 rfl q hq; omega
    have hin : ∀ i, p.1 ≤ i → i < p.1 + p.2.length → pl i = true := fun i i1 i2 => by
      rw [hp i (by omega) (by omega), List.any_cons]
      simp [i1, i2]
    have hst : p.1 = 0 ∨ pl (p.1 - 1) = false := by
      by_cases e : p.1 = 0
      · exact .inl e
      · refine .inr (hlow _ ?_ (by omega))
        cases f
        · have := h2 rfl; omega
        · rw [hf rfl]; omega
    have hr := segs_more_run (m := memB m (p :: r)) hnp hlow hst hlen hin
    have ih := segs_all pl r (wr m p.1 p.2) false (p.1 + p.2.length) h4 h3 (fun h => by cases h) fun i i1 i2 => by
      rw [hp i (by omega) i2, List.any_cons, show decide (i < p.1 + p.2.length) = false by simp; omega, Bool.and_false, Bool.false_or]
    change segs pl (memB m (p :: r)) 16384 = segs pl (memB m (p :: r)) (p.1 + p.2.length) ++ r at ih
    rw [ih, hr, memB, memB_off fun q hq => by have := a1 rfl q hq; omega, run_wr, List.append_assoc]
    rfl
def at0 : List (Nat × List UInt8) → Nat | p :: _ => p.1 | [] => 0
/-- What addresses and bytes are assembled to. -/
theorem asm_seg {l : List (Nat × List UInt8)} (h : Ap true 0 l) (hl : l.length ≤ 20) (hd : ∀ p ∈ l, p.2.length ≤ 200) : asm (srcB l) = ⟨at0 l, l, [], 0, 0⟩ := by
  have ha := h.above.2
  obtain ⟨e1, e2⟩ := srcB_len l fun p hp => ⟨hd p hp, by have := ha p hp; omega⟩
  obtain ⟨h1, h2⟩ := (srcB_sl l).done (by omega) (by omega)
  obtain ⟨pos', hF⟩ := first_seg l true 0 0 0 [] h (fun _ => rfl) (fun x hx => by cases hx)
  rw [List.nil_append] at hF
  unfold asm
  rw [if_pos h1, h2, hF, if_pos rfl]
  simp only []
  rw [second_seg, if_pos rfl]
  simp only []
  have hs := segs_all (cov (itsB 0 l)) l (fun _ => 0) true 0 h (by omega) (fun _ => rfl) fun i _ _ => cov_seg l 0 i
  rw [hs, show segs (cov (itsB 0 l)) (memB (fun _ => 0) l) 0 = [] from rfl, List.nil_append]
  cases l <;> rfl
end AS
end Go.Proofs.YtcnmnkgnaknpdaaGreatDoor
