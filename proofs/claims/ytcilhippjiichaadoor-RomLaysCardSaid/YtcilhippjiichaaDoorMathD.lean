/-
  Plain mathematics of a text that is read: line by line, what stands behind each. No condition.
-/
import Derived.Test.YtcilhippjiichaaDoorWalkP
import Derived.Test.YtcilhippjiichaaDoorWalkH
namespace Go.Proofs.YtcilhippjiichaaDoor
open S02
namespace RM
/-- Segments of which the last one has more bytes. -/
def ext (l : List (Nat × List UInt8)) (bs : List UInt8) : List (Nat × List UInt8) := l.dropLast ++ [((l.getLastD (0, [])).1, (l.getLastD (0, [])).2 ++ bs)]
theorem ext_snoc (l : List (Nat × List UInt8)) (a : Nat) (b bs : List UInt8) : ext (l ++ [(a, b)]) bs = l ++ [(a, b ++ bs)] := by
  unfold ext
  rw [List.dropLast_concat, List.getLastD_concat]
/-- Segments with what a line tells. -/
def ad (x : Ln) (l : List (Nat × List UInt8)) : List (Nat × List UInt8) := if x.k = 1 then l ++ [(x.a, x.bs)] else if x.k = 2 then ext l x.bs else l
/-- The end of the last segment. -/
def en (f : Nat) : List (Nat × List UInt8) → Nat
  | [] => f
  | p :: r => en (p.1 + p.2.length) r
theorem en_snoc (f : Nat) (l : List (Nat × List UInt8)) (p : Nat × List UInt8) : en f (l ++ [p]) = p.1 + p.2.length := by
  induction l generalizing f with
  | nil => rfl
  | cons q r ih => rw [List.cons_append, en, ih]
def r1 (f : Nat) (p : Nat × List UInt8) : Int := if p.2 = [] then 1 else if 16384 < p.1 + p.2.length then 3 else if p.1 < f then 7 else 0
theorem rtA_snoc (f : Nat) (l : List (Nat × List UInt8)) (p : Nat × List UInt8) : rtA f (l ++ [p]) = if rtA f l = 0 then r1 (en f l) p else rtA f l := by
  induction l generalizing f with
  | nil => rfl
  | cons q r ih =>
    rw [List.cons_append, rtA, rtA, en]
    split
    · rw [if_neg (by decide)]
    · split
      · rw [if_neg (by decide)]
      · split
        · rw [if_neg (by decide)]
        · exact ih _
theorem rt_snoc {l : List (Nat × List UInt8)} (h : rt l = 0) (p : Nat × List UInt8) : rt (l ++ [p]) = if l.length = 64 then 4 else r1 (en 0 l) p := by
  obtain ⟨h1, h2, -⟩ := rt_open h
  unfold rt
  rw [List.length_append, List.length_singleton, rtA_snoc, if_pos h2]
  by_cases h64 : l.length = 64
  · rw [if_pos (by omega), if_pos h64]
  · rw [if_neg (by omega), if_neg h64]
theorem rt_init {l : List (Nat × List UInt8)} {p : Nat × List UInt8} (h : rt (l ++ [p]) = 0) : l.length < 64 ∧ rt l = 0 ∧ r1 (en 0 l) p = 0 := by
  obtain ⟨h1, h2, -⟩ := rt_open h
  rw [List.length_append, List.length_singleton] at h1
  rw [rtA_snoc] at h2
  split at h2
  · rename_i h3
    refine ⟨by omega, ?_, h2⟩
    unfold rt
    rw [if_neg (by omega), h3]
  · exact absurd h2 (by assumption)
theorem r1_open {f : Nat} {p : Nat × List UInt8} : r1 f p = 0 ↔ p.2 ≠ [] ∧ p.1 + p.2.length ≤ 16384 ∧ f ≤ p.1 := by
  unfold r1
  constructor
  · intro h
    split at h
    · cases h
    · split at h
      · cases h
      · split at h
        · cases h
        · exact ⟨by assumption, by omega, by omega⟩
  · rintro ⟨h1, h2, h3⟩
    rw [if_neg h1, if_neg (by omega), if_neg (by omega)]
theorem rt_ext {l : List (Nat × List UInt8)} {a : Nat} {b : List UInt8} (h : rt (l ++ [(a, b)]) = 0) (bs : List UInt8) : rt (l ++ [(a, b ++ bs)]) = if 16384 < a + b.length + bs.length then 3 else 0 := by
  obtain ⟨h1, h2, h3⟩ := rt_init h
  obtain ⟨h4, h5, h6⟩ := r1_open.1 h3
  simp only [] at h4 h5 h6
  rw [rt_snoc h2, if_neg (by omega)]
  unfold r1
  simp only []
  rw [if_neg (by simp [h4]), List.length_append]
  by_cases h7 : 16384 < a + b.length + bs.length
  · rw [if_pos (by omega), if_pos h7]
  · rw [if_neg (by omega), if_neg (by omega), if_neg h7]
/-- Why a line is wrong behind segments, the last line ahead of it of a kind, an address, a number of bytes: a code. -/
def lnE (kl al nl : Nat) (l : List (Nat × List UInt8)) (t : List UInt8) : Int := if tkE kl al nl t = 0 then (match rd t with
  | none => 2
  | some x => rt (ad x l)) else tkE kl al nl t
/-- The lines from one on: segments, the start, the line's number, a code. -/
def PL : List (List UInt8) → Nat → Nat → Nat → Nat → List (Nat × List UInt8) → Nat → List (Nat × List UInt8) × Nat × Nat × Int
  | [], k, kl, _, _, l, st => if kl = 3 then (l, st, 0, 0) else ([], 0, k + 1, 6)
  | t :: r, k, kl, al, nl, l, st => match rd t with
    | none => ([], 0, k + 1, 2)
    | some x => if lnE kl al nl l t = 0 then PL r (k + 1) x.k x.a x.bs.length (ad x l) (if x.k = 3 then x.a else st) else ([], 0, k + 1, lnE kl al nl l t)
theorem lnE_none {kl al nl : Nat} {l : List (Nat × List UInt8)} {t : List UInt8} (h : rd t = none) : lnE kl al nl l t = 2 := by
  have : tkE kl al nl t = 2 := by unfold tkE; rw [h]
  unfold lnE
  rw [this, if_neg (by decide)]
theorem lnE_bad {kl al nl : Nat} {l : List (Nat × List UInt8)} {t : List UInt8} (h : tkE kl al nl t ≠ 0) : lnE kl al nl l t = tkE kl al nl t := by
  unfold lnE; rw [if_neg h]
theorem lnE_some {kl al nl : Nat} {l : List (Nat × List UInt8)} {t : List UInt8} {x : Ln} (h : tkE kl al nl t = 0) (hr : rd t = some x) : lnE kl al nl l t = rt (ad x l) := by
  unfold lnE; rw [if_pos h, hr]
theorem PL_bad {t : List UInt8} {r : List (List UInt8)} {k kl al nl st : Nat} {l : List (Nat × List UInt8)} (h : lnE kl al nl l t ≠ 0) : PL (t :: r) k kl al nl l st = ([], 0, k + 1, lnE kl al nl l t) := by
  unfold PL
  cases hr : rd t with
  | none => simp only []; rw [lnE_none hr]
  | some x => simp only []; rw [if_neg h]
theorem PL_good {t : List UInt8} {r : List (List UInt8)} {k kl al nl st : Nat} {l : List (Nat × List UInt8)} {x : Ln} (hr : rd t = some x) (h : lnE kl al nl l t = 0) : PL (t :: r) k kl al nl l st = PL r (k + 1) x.k x.a x.bs.length (ad x l) (if x.k = 3 then x.a else st) := by
  conv => lhs; unfold PL
  rw [hr]
  simp only []
  rw [if_pos h]
/-- What Parse answers. -/
def PA (s : List UInt8) : List (Nat × List UInt8) × Nat × Nat × Int := if NM.lE s = 0 then PL (NM.lL s) 0 0 0 0 [] 0 else ([], 0, 0, NM.lE s)
/-- What holds of the last line and the segments ahead of a line. -/
structure PI (kl al nl : Nat) (l : List (Nat × List UInt8)) : Prop where
  ok : rt l = 0
  kind : kl = 0 ∨ kl = 1 ∨ kl = 2 ∨ kl = 3
  zero : kl = 0 → l = [] ∧ nl = 0
  last : kl = 1 ∨ kl = 2 → ∃ l' a0 b0, l = l' ++ [(a0, b0)] ∧ al + nl = a0 + b0.length
  al_lt : al < 4294967296
  nl_le : nl ≤ 16
theorem PI.new : PI 0 0 0 [] := ⟨rfl, .inl rfl, fun _ => ⟨rfl, rfl⟩, fun h => by omega, by decide, by decide⟩
theorem tkE_zero {kl al nl : Nat} {t : List UInt8} {x : Ln} (hr : rd t = some x) (h : tkE kl al nl t = 0) : fl kl al nl x.k x.a = true ∧ x.s = sm x.a x.bs := by
  unfold tkE at h
  rw [hr] at h
  simp only [] at h
  split at h
  · rename_i h1
    split at h
    · rename_i h2
      exact ⟨h1, h2⟩
    · cases h
  · cases h
theorem fl_open {kl al nl k a : Nat} (h : fl kl al nl k a = true) : kl ≠ 3 ∧ (k = 2 → nl = 16 ∧ al + nl = a) := by
  unfold fl at h
  split at h
  · cases h
  · rename_i h3
    refine ⟨h3, fun h2 => ?_⟩
    rw [if_pos h2, Bool.and_eq_true, decide_eq_true_eq, decide_eq_true_eq] at h
    exact h
/-- A line of kind 2 that may stand has a segment ahead. -/
theorem PI.two {kl al nl : Nat} {l : List (Nat × List UInt8)} (h : PI kl al nl l) {a : Nat} (hf : fl kl al nl 2 a = true) : ∃ l' a0 b0, l = l' ++ [(a0, b0)] ∧ a = a0 + b0.length := by
  obtain ⟨h1, h2⟩ := fl_open hf
  obtain ⟨h3, h4⟩ := h2 rfl
  have hk : kl = 1 ∨ kl = 2 := by
    rcases h.kind with h5 | h5 | h5 | h5
    · have := (h.zero h5).2; omega
    · exact .inl h5
    · exact .inr h5
    · exact absurd h5 h1
  obtain ⟨l', a0, b0, h5, h6⟩ := h.last hk
  exact ⟨l', a0, b0, h5, by omega⟩
theorem ad_one {x : Ln} {l : List (Nat × List UInt8)} (h : x.k = 1) : ad x l = l ++ [(x.a, x.bs)] := by unfold ad; rw [if_pos h]
theorem ad_two {x : Ln} {l' : List (Nat × List UInt8)} {a0 : Nat} {b0 : List UInt8} (h : x.k = 2) : ad x (l' ++ [(a0, b0)]) = l' ++ [(a0, b0 ++ x.bs)] := by unfold ad; rw [if_neg (by omega), if_pos h, ext_snoc]
theorem ad_three {x : Ln} {l : List (Nat × List UInt8)} (h : x.k = 3) : ad x l = l := by unfold ad; rw [if_neg (by omega), if_neg (by omega)]
theorem PI.next {kl al nl : Nat} {l : List (Nat × List UInt8)} (h : PI kl al nl l) {t : List UInt8} {x : Ln} (hr : rd t = some x) (h0 : lnE kl al nl l t = 0) : PI x.k x.a x.bs.length (ad x l) := by
  have ht : tkE kl al nl t = 0 := by
    by_cases hz : tkE kl al nl t = 0
    · exact hz
    · rw [lnE_bad hz] at h0; exact h0
  rw [lnE_some ht hr] at h0
  obtain ⟨hf, hs⟩ := tkE_zero hr ht
  obtain ⟨⟨h1, h2, h3, h4, h5⟩, -⟩ := rd_some.1 hr
  refine ⟨h0, .inr h1, fun e => by omega, fun hk => ?_, h2, h5⟩
  rcases hk with hk | hk
  · exact ⟨l, x.a, x.bs, ad_one hk, rfl⟩
  · rw [hk] at hf
    obtain ⟨l', a0, b0, rfl, h7⟩ := h.two hf
    exact ⟨l', a0, b0 ++ x.bs, ad_two hk, by rw [List.length_append]; omega⟩
/-- Lengths of segments behind a line. -/
theorem ad_small {kl al nl : Nat} {l : List (Nat × List UInt8)} (h : PI kl al nl l) {x : Ln} (hx : x.ok) : (ad x l).length ≤ 65 ∧ ∀ p ∈ ad x l, p.1 < 4294967296 ∧ p.2.length ≤ 20000 := by
  obtain ⟨h1, h2, h3, h4, h5⟩ := hx
  obtain ⟨o1, o2, o3⟩ := rt_open h.ok
  have h3' : ∀ p ∈ l, p.1 < 4294967296 ∧ p.2.length ≤ 16384 := fun p hp => by have := (o3 p hp).2; omega
  rcases h1 with h1 | h1 | h1
  · rw [ad_one h1]
    refine ⟨by simp; omega, fun p hp => ?_⟩
    rcases List.mem_append.1 hp with hp | hp
    · have := h3' p hp; omega
    · rw [List.mem_singleton] at hp; subst hp; exact ⟨h2, by simp only []; omega⟩
  · by_cases e : l = []
    · subst e
      unfold ad ext
      rw [if_neg (by omega), if_pos h1]
      refine ⟨by simp, fun p hp => ?_⟩
      simp at hp
      subst hp
      exact ⟨by simp, by simp only []; omega⟩
    · obtain ⟨l', ⟨a0, b0⟩, rfl⟩ : ∃ l' p, l = l' ++ [p] := ⟨l.dropLast, l.getLast e, (List.dropLast_concat_getLast e).symm⟩
      rw [ad_two h1]
      have h6 := h3' (a0, b0) (by simp)
      refine ⟨by simp at o1 ⊢; omega, fun p hp => ?_⟩
      rcases List.mem_append.1 hp with hp | hp
      · have := h3' p (List.mem_append_left _ hp); omega
      · rw [List.mem_singleton] at hp; subst hp; exact ⟨h6.1, by simp only [List.length_append]; simp only [] at h6; omega⟩
  · rw [ad_three h1]
    exact ⟨by omega, fun p hp => by have := h3' p hp; omega⟩
/-- Why a line is wrong, as the document has it: a code. -/
def moE (kl al nl : Nat) (l : List (Nat × List UInt8)) (o : Option Ln) : Int := match o with
  | none => 2
  | some x => if kl = 3 then 2 else if x.k = 2 ∧ (kl = 0 ∨ nl ≠ 16 ∨ x.a ≠ (al + 16) % 4294967296) then 2 else if sm x.a x.bs ≠ x.s then 11 else if x.k = 3 then 0 else if x.k = 1 ∧ l.length = 64 then 4 else if 16384 < x.a + x.bs.length then 3 else if x.k = 1 ∧ l ≠ [] ∧ x.a < en 0 l then 7 else 0
theorem en_nil {f : Nat} {l : List (Nat × List UInt8)} (h : l = []) : en f l = f := by subst h; rfl
theorem moE_eq {kl al nl : Nat} {l : List (Nat × List UInt8)} (h : PI kl al nl l) (t : List UInt8) : moE kl al nl l (rd t) = lnE kl al nl l t := by
  cases hr : rd t with
  | none => rw [lnE_none hr]; rfl
  | some x =>
    obtain ⟨⟨h1, h2, h3, h4, h5⟩, -⟩ := rd_some.1 hr
    unfold moE
    simp only []
    have T : tkE kl al nl t = if fl kl al nl x.k x.a = true then (if x.s = sm x.a x.bs then 0 else 11) else 2 := by unfold tkE; rw [hr]
    by_cases h6 : kl = 3
    · rw [if_pos h6]
      have : fl kl al nl x.k x.a = false := by unfold fl; rw [if_pos h6]
      rw [this, if_neg (by decide)] at T
      rw [lnE_bad (by rw [T]; decide), T]
    · rw [if_neg h6]
      by_cases h7 : x.k = 2 ∧ (kl = 0 ∨ nl ≠ 16 ∨ x.a ≠ (al + 16) % 4294967296)
      · rw [if_pos h7]
        have : fl kl al nl x.k x.a = false := by
          unfold fl
          rw [if_neg h6, if_pos h7.1]
          by_cases h16 : nl = 16
          · have hk : kl = 1 ∨ kl = 2 := by
              rcases h.kind with h8 | h8 | h8 | h8
              · have := (h.zero h8).2; omega
              · exact .inl h8
              · exact .inr h8
              · exact absurd h8 h6
            obtain ⟨l', a0, b0, rfl, h9⟩ := h.last hk
            have h10 := ((rt_open h.ok).2.2 (a0, b0) (by simp)).2
            simp only [] at h10
            have h11 := h7.2
            rw [Nat.mod_eq_of_lt (by omega)] at h11
            have h12 : ¬ al + nl = x.a := by omega
            rw [decide_eq_false h12]
            simp
          · rw [decide_eq_false h16]; simp
        rw [this, if_neg (by decide)] at T
        rw [lnE_bad (by rw [T]; decide), T]
      · rw [if_neg h7]
        have hf : fl kl al nl x.k x.a = true := by
          unfold fl
          rw [if_neg h6]
          by_cases h2' : x.k = 2
          · rw [if_pos h2']
            have h16 : nl = 16 := by
              by_cases h16 : nl = 16
              · exact h16
              · exact absurd ⟨h2', .inr (.inl h16)⟩ h7
            have hk : kl = 1 ∨ kl = 2 := by
              rcases h.kind with h8 | h8 | h8 | h8
              · exact absurd ⟨h2', .inl h8⟩ h7
              · exact .inl h8
              · exact .inr h8
              · exact absurd h8 h6
            obtain ⟨l', a0, b0, rfl, h9⟩ := h.last hk
            have h10 := ((rt_open h.ok).2.2 (a0, b0) (by simp)).2
            simp only [] at h10
            have h12 : al + nl = x.a := by
              by_cases h13 : x.a = (al + 16) % 4294967296
              · rw [Nat.mod_eq_of_lt (by omega)] at h13; omega
              · exact absurd ⟨h2', .inr (.inr h13)⟩ h7
            rw [decide_eq_true h16, decide_eq_true h12]
            rfl
          · rw [if_neg h2']
        rw [if_pos hf] at T
        by_cases h8 : x.s = sm x.a x.bs
        · rw [if_pos h8] at T
          rw [if_neg (fun e => e h8.symm), lnE_some T hr]
          rcases h1 with h1 | h1 | h1
          · have hb : x.bs ≠ [] := fun e => by have := h4.2 e; omega
            rw [if_neg (by omega), ad_one h1, rt_snoc h.ok]
            by_cases h9 : l.length = 64
            · rw [if_pos ⟨h1, h9⟩, if_pos h9]
            · rw [if_neg (fun e => h9 e.2), if_neg h9]
              unfold r1
              simp only []
              rw [if_neg hb]
              by_cases h10 : 16384 < x.a + x.bs.length
              · rw [if_pos h10, if_pos h10]
              · rw [if_neg h10, if_neg h10]
                by_cases h11 : x.a < en 0 l
                · rw [if_pos h11, if_pos ⟨h1, fun e => by rw [en_nil e] at h11; omega, h11⟩]
                · rw [if_neg h11, if_neg (fun e => h11 e.2.2)]
          · rw [if_neg (by omega), if_neg (by omega)]
            rw [h1] at hf
            obtain ⟨l', a0, b0, rfl, h9⟩ := h.two hf
            rw [ad_two h1, rt_ext h.ok]
            by_cases h10 : 16384 < x.a + x.bs.length
            · rw [if_pos h10, if_pos (by omega)]
            · rw [if_neg h10, if_neg (by omega), if_neg (by omega)]
          · rw [if_pos h1, ad_three h1]
            exact h.ok.symm
        · rw [if_neg h8] at T
          rw [if_pos (fun e => h8 e.symm), lnE_bad (by rw [T]; decide), T]
end RM
end Go.Proofs.YtcilhippjiichaaDoor
