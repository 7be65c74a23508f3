/-
  Plain mathematics: in memory stands what the segments have, and noughts; the sum of it is theirs. No condition.
-/
import Derived.Test.YtcilhippjiichaaDoorMathD
import Derived.Test.YtcilhippjiichaaDoorWalkK
namespace Go.Proofs.YtcilhippjiichaaDoor
open S02
namespace RM
def fb (c : UInt8) (l : List (Nat × List UInt8)) (i : Nat) : UInt8 := l.foldl (fun c p => if p.1 ≤ i ∧ i < p.1 + p.2.length then p.2.getD (i - p.1) 0 else c) c
theorem mby_fb (l : List (Nat × List UInt8)) : mby l = fb 0 l := rfl
theorem fb_cons (c : UInt8) (p : Nat × List UInt8) (r : List (Nat × List UInt8)) (i : Nat) : fb c (p :: r) i = fb (if p.1 ≤ i ∧ i < p.1 + p.2.length then p.2.getD (i - p.1) 0 else c) r i := rfl
theorem rtA_cons {f : Nat} {p : Nat × List UInt8} {r : List (Nat × List UInt8)} (h : rtA f (p :: r) = 0) : f ≤ p.1 ∧ rtA (p.1 + p.2.length) r = 0 := by
  rw [rtA] at h
  split at h
  · cases h
  · split at h
    · cases h
    · split at h
      · cases h
      · exact ⟨by omega, h⟩
theorem fb_low {i : Nat} : ∀ {l : List (Nat × List UInt8)} {f : Nat} {c : UInt8}, rtA f l = 0 → i < f → fb c l i = c
  | [], _, _, _, _ => rfl
  | p :: r, f, c, h, hi => by
    obtain ⟨h1, h2⟩ := rtA_cons h
    rw [fb_cons, if_neg (by omega)]
    exact fb_low h2 (by omega)
theorem fb_at {k : Nat} : ∀ {l : List (Nat × List UInt8)} {f j : Nat} {c : UInt8} {p : Nat × List UInt8}, rtA f l = 0 → l[j]? = some p → k < p.2.length → fb c l (p.1 + k) = p.2.getD k 0
  | [], _, _, _, _, _, h, _ => by simp at h
  | q :: r, f, 0, c, p, h, hj, hk => by
    obtain ⟨h1, h2⟩ := rtA_cons h
    simp only [List.getElem?_cons_zero, Option.some.injEq] at hj
    subst hj
    rw [fb_cons, if_pos (by omega), Nat.add_sub_cancel_left]
    exact fb_low h2 (by omega)
  | q :: r, f, j + 1, c, p, h, hj, hk => by
    obtain ⟨h1, h2⟩ := rtA_cons h
    rw [List.getElem?_cons_succ] at hj
    rw [fb_cons]
    exact fb_at h2 hj hk
/-- What a segment has stands in memory. -/
theorem mem_lay {l : List (Nat × List UInt8)} (h : rt l = 0) {j : Nat} {p : Nat × List UInt8} (hj : l[j]? = some p) {k : Nat} (hk : k < p.2.length) : mby l (p.1 + k) = p.2.getD k 0 := fb_at (rt_open h).2.1 hj hk
/-- All bytes of all segments, added up. -/
def ts : List (Nat × List UInt8) → Nat
  | [] => 0
  | p :: r => tot p.2 + ts r
theorem ts_snoc (l : List (Nat × List UInt8)) (p : Nat × List UInt8) : ts (l ++ [p]) = ts l + tot p.2 := by
  induction l with
  | nil => simp [ts]
  | cons x r ih => rw [List.cons_append, ts, ts, ih]; omega
theorem ts_le (l : List (Nat × List UInt8)) : ts l ≤ 255 * lns l := by
  induction l with
  | nil => simp [ts]
  | cons p r ih => have := tot_le p.2; rw [ts, lns]; omega
theorem tot_nought {α : Type} (l : List α) {g : α → UInt8} (h : ∀ i ∈ l, g i = 0) : tot (l.map g) = 0 := by
  induction l with
  | nil => rfl
  | cons a r ih => rw [List.map_cons, tot, h a (by simp), ih fun i hi => h i (List.mem_cons_of_mem _ hi)]; rfl
theorem tot_lay {n : Nat} : ∀ {l : List (Nat × List UInt8)} {f : Nat}, rtA f l = 0 → f ≤ n → (∀ p ∈ l, p.1 + p.2.length ≤ n) → tot ((List.range' f (n - f)).map (fb 0 l)) = ts l
  | [], f, _, _, _ => tot_nought _ fun i _ => rfl
  | p :: r, f, h, hf, hp => by
    obtain ⟨h1, h2⟩ := rtA_cons h
    have h3 := hp p (by simp)
    have ih := tot_lay h2 h3 fun q hq => hp q (List.mem_cons_of_mem _ hq)
    have e1 : List.range' f (n - f) = List.range' f (p.1 - f) ++ (List.range' p.1 p.2.length ++ List.range' (p.1 + p.2.length) (n - (p.1 + p.2.length))) := by
      rw [List.range'_append_1, show p.2.length + (n - (p.1 + p.2.length)) = n - p.1 by omega]
      have := List.range'_append_1 (s := f) (m := p.1 - f) (n := n - p.1)
      rw [show f + (p.1 - f) = p.1 by omega, show p.1 - f + (n - p.1) = n - f by omega] at this
      exact this.symm
    have e2 : tot ((List.range' f (p.1 - f)).map (fb 0 (p :: r))) = 0 := tot_nought _ fun i hi => by
      rw [List.mem_range'_1] at hi
      rw [fb_cons, if_neg (by omega)]
      exact fb_low h2 (by omega)
    have e3 : (List.range' p.1 p.2.length).map (fb 0 (p :: r)) = p.2 := by
      apply List.ext_getElem
      · simp
      · intro j hj1 hj2
        rw [List.getElem_map, List.getElem_range', Nat.one_mul]
        rw [fb_at (j := 0) h (by rfl) hj2, List.getD_eq_getElem?_getD, List.getElem?_eq_getElem hj2]
        rfl
    have e4 : (List.range' (p.1 + p.2.length) (n - (p.1 + p.2.length))).map (fb 0 (p :: r)) = (List.range' (p.1 + p.2.length) (n - (p.1 + p.2.length))).map (fb 0 r) := by
      apply List.map_congr_left
      intro i hi
      rw [List.mem_range'_1] at hi
      rw [fb_cons, if_neg (by omega)]
    rw [e1, List.map_append, List.map_append, tot_app, tot_app, e2, e3, e4, ih, ts]
    omega
theorem ldE_open {n : Nat} {l : List (Nat × List UInt8)} (h : ldE n l = 0) : rt l = 0 ∧ n ≤ 16384 ∧ ∀ p ∈ l, p.1 + p.2.length ≤ n := by
  unfold ldE at h
  split at h
  · cases h
  · rename_i h1
    split at h
    · rename_i h2; exact absurd h h2
    · rename_i h2
      split at h
      · rename_i h3
        rw [List.all_eq_true] at h3
        refine ⟨by simpa using h2, by omega, fun p hp => ?_⟩
        have := h3 p hp
        rw [decide_eq_true_eq] at this
        omega
      · cases h
theorem tot_mem {n : Nat} {l : List (Nat × List UInt8)} (h : ldE n l = 0) : tot ((List.range n).map (mby l)) = ts l := by
  obtain ⟨h1, h2, h3⟩ := ldE_open h
  have := tot_lay (rt_open h1).2.1 (Nat.zero_le n) h3
  rw [Nat.sub_zero, ← List.range_eq_range'] at this
  exact this
/-- One byte more. -/
theorem tot_take {bs : List UInt8} {k : Nat} (hk : k < bs.length) : tot (bs.take (k + 1)) = tot (bs.take k) + (bs.getD k 0).toNat := by
  rw [List.take_succ_eq_append_getElem hk, tot_app, List.getD_eq_getElem?_getD, List.getElem?_eq_getElem hk]
  rfl
theorem tot_take_le (bs : List UInt8) (k : Nat) : tot (bs.take k) ≤ 255 * k := by
  have := tot_le (bs.take k)
  rw [List.length_take] at this
  omega
end RM
end Go.Proofs.YtcilhippjiichaaDoor
