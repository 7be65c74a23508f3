/-
  Rows of names; the comparisons of words and of names that are the same. For rows of a bounded length.
-/
import Derived.Test.YtbeenmglgdhbjaaBase
import Derived.Test.YtbeenmglgdhbjaaS10WalkH
import Derived.Deep.QuietTactic
import Derived.BigQuiet
namespace Go.Proofs.Ytbeenmglgdhbjaa
open Go.RowKit Go.Maps S01 S10 S11 S12
set_option maxHeartbeats 1600000 in
theorem words_on {w : World} {g h n ca cb : Nat} {l : List Int} (h1 : n ≤ 1000000) (HA : Hid (∀ j, j < n → w.cell? ⟨g, j, none⟩ = some (.int .u32 (l.getD j 0)))) (HB : Hid (∀ j, j < n → w.cell? ⟨h, j, none⟩ = some (.int .u32 (l.getD j 0)))) :
    Calls Try.prog 11 #[.slice (some ⟨g, 0, none⟩) n ca, .slice (some ⟨h, 0, none⟩) n cb] w fun e w' => e = .returned (.bool true) ∧ Dr w w' := by
  go_enter Try.func11, Try.ntmps11
  go_wp2
  go_loopw [5] (fun i wr => ∃ k : Nat, k ≤ n ∧ i = .int .i64 k ∧ Dr w wr) (fun i _ => n - (intOf i).toNat)
  case atStart => exact ⟨0, by omega, rfl, Dr.refl _⟩
  case round =>
    obtain ⟨k, hk, rfl, hdr⟩ := hrel
    by_cases hlt : k < n
    · have z1 := (hdr.cell _).trans (HA.out k hlt)
      have z2 := (hdr.cell _).trans (HB.out k hlt)
      have HD := Lib.hid hdr
      clear hdr
      generalize l.getD k 0 = x at *
      go_wp2
      go_quiet (fail)
      go_wp2
      go_roundw
      case rel => exact ⟨k + 1, by omega, by go_num, HD.out.more _⟩
      case measure => simp [intOf]; omega
    · have hlt' : decide (k < n) = false := by simpa using hlt
      have HD := Lib.hid hdr
      clear hdr hlt
      go_wp2
      go_ret
      exact ⟨rfl, HD.out⟩
theorem words_none (ao bo : Option Addr) (c d : Nat) (w : World) :
    Calls Try.prog 11 #[.slice ao 0 c, .slice bo 0 d] w fun e w' => e = .returned (.bool true) ∧ Dr w w' := by
  go_enter Try.func11, Try.ntmps11
  go_wp2
  refine wp_loop_rounds 1 ?_
  rw [rounds_succ]
  go_wp2
  go_ret
  exact ⟨rfl, Dr.refl _⟩
theorem own_words {w : World} {N n : Nat} {x : Value} {l : List Int} (h : w.ownsRow N 23 1 x n (wC l)) : (n = 0 ∧ ∃ ao cap, x = .slice ao 0 cap) ∨ (∃ g cap, x = .slice (some ⟨g, 0, none⟩) n cap ∧ N ≤ g ∧ g < w.heap.size ∧ ∀ j, j < n → w.cell? ⟨g, j, none⟩ = some (.int .u32 (l.getD j 0))) := by
  have hlen : l.length = n := by have := h.1; rw [wC_len] at this; omega
  have hlt := h.lt
  rcases h.2 with ⟨rfl, rfl⟩ | ⟨g, cap, cur, rfl, hb, _⟩
  · exact .inl ⟨rfl, _, _, rfl⟩
  · refine .inr ⟨g, cap, rfl, hb, (hlt g rfl).2, fun j hj => ?_⟩
    rw [h.cellAt j (by omega), wC_get (by omega)]
theorem words_form {w : World} {N n : Nat} {x : Value} {l : List Int} (h : w.ownsRow N 23 1 x n (wC l)) : ∃ a c, x = .slice a n c := by
  rcases own_words h with ⟨rfl, a, c, rfl⟩ | ⟨g, c, rfl, -⟩
  · exact ⟨a, c, rfl⟩
  · exact ⟨_, c, rfl⟩
/-- Equal rows of words compared. -/
theorem words_same {w : World} {N M n : Nat} {x y : Value} {l : List Int} (hx : w.ownsRow N 23 1 x n (wC l)) (hy : w.ownsRow M 23 1 y n (wC l)) (h1 : n ≤ 1000000) : Calls Try.prog 11 #[x, y] w fun e w' => e = .returned (.bool true) ∧ Dr w w' := by
  rcases own_words hx with ⟨h0, ao, c, rfl⟩ | ⟨g, c, rfl, -, -, z1⟩
  · rcases own_words hy with ⟨-, bo, d, rfl⟩ | ⟨h, d, rfl, -, -, z2⟩
    · exact words_none ao bo c d w
    · subst h0; exact words_none ao _ c d w
  · rcases own_words hy with ⟨h0, bo, d, rfl⟩ | ⟨h, d, rfl, -, -, z2⟩
    · subst h0; exact words_none _ bo c d w
    · exact words_on h1 (Lib.hid z1) (Lib.hid z2)
/-- A text as a value. -/
def tv (s : List UInt8) : Value := .string ⟨s.toArray⟩
/-- A row of names. -/
def nmC (ns : List (List UInt8 × Nat)) : List Value := ns.flatMap fun p => [tv p.1, .int .u32 p.2]
theorem nmC_len (ns : List (List UInt8 × Nat)) : (nmC ns).length = ns.length * 2 := by
  induction ns with
  | nil => rfl
  | cons p r ih => rw [nmC, List.flatMap_cons, List.length_append, ← nmC, ih]; simp; omega
theorem nmC_snoc (ns : List (List UInt8 × Nat)) (s : List UInt8) (v : Nat) : nmC (ns ++ [(s, v)]) = nmC ns ++ [tv s, .int .u32 v] := by simp [nmC]
theorem nmC_at : ∀ (l : List (List UInt8 × Nat)) (j : Nat) (p : List UInt8 × Nat), l[j]? = some p → (nmC l)[2 * j]? = some (tv p.1) ∧ (nmC l)[2 * j + 1]? = some (.int .u32 p.2)
  | [], _, _, h => by simp at h
  | x :: r, 0, p, h => by simp at h; subst h; exact ⟨rfl, rfl⟩
  | x :: r, j + 1, p, h => by
    rw [List.getElem?_cons_succ] at h
    obtain ⟨h1, h2⟩ := nmC_at r j p h
    rw [show nmC (x :: r) = tv x.1 :: .int .u32 x.2 :: nmC r from rfl]
    rw [show 2 * (j + 1) = 2 * j + 1 + 1 by omega]
    simp only [List.getElem?_cons_succ]
    exact ⟨h1, h2⟩
/-- A slice of names. -/
def NmR (w : World) (v : Value) (l : List (List UInt8 × Nat)) : Prop :=
  (l = [] ∧ ∃ a c, v = .slice a 0 c) ∨ (l ≠ [] ∧ ∃ g o c, v = .slice (some ⟨g, o, none⟩) l.length c ∧ ∀ j p, l[j]? = some p → w.cell? ⟨g, o + j * 2, none⟩ = some (tv p.1) ∧ w.cell? ⟨g, o + j * 2 + 1, none⟩ = some (.int .u32 p.2))
theorem NmR.below {w w' : World} {v : Value} {l : List (List UInt8 × Nat)} (h : NmR w v l) (hb : Below w.heap.size w w') : NmR w' v l := by
  rcases h with h | ⟨h0, g, o, c, hv, h3⟩
  · exact .inl h
  · exact .inr ⟨h0, g, o, c, hv, fun j p hj => ⟨cell_below hb (h3 j p hj).1, cell_below hb (h3 j p hj).2⟩⟩
theorem NmR.of_own {w : World} {N : Nat} {v : Value} {l : List (List UInt8 × Nat)} (h : w.ownsRow N 59 2 v l.length (nmC l)) : NmR w v l := by
  by_cases e : l = []
  · subst e
    rcases h.2 with ⟨h, -⟩ | ⟨g, cap, cur, h, -⟩
    · exact .inl ⟨rfl, _, _, h⟩
    · exact .inl ⟨rfl, _, _, h⟩
  · rcases h.2 with ⟨_, h0⟩ | ⟨g, cap, cur, rfl, h1, h2, h3, h4, -⟩
    · exact absurd (List.eq_nil_of_length_eq_zero h0) e
    · refine .inr ⟨e, g, 0, cap, rfl, fun j p hj => ?_⟩
      have hl : j < l.length := (List.getElem?_eq_some_iff.1 hj).1
      obtain ⟨g1, g2⟩ := nmC_at l j p hj
      rw [Nat.zero_add, Nat.mul_comm]
      exact ⟨(h.cellAt (2 * j) (by omega)).trans g1, (h.cellAt (2 * j + 1) (by omega)).trans g2⟩
theorem names_none (ao bo : Option Addr) (c d : Nat) (w : World) :
    Calls Try.prog 18 #[.slice ao 0 c, .slice bo 0 d] w fun e w' => e = .returned (.bool true) ∧ Dr w w' := by
  go_enter Try.func18, Try.ntmps18
  go_wp2
  refine wp_loop_rounds 1 ?_
  rw [rounds_succ]
  go_wp2
  go_ret
  exact ⟨rfl, Dr.refl _⟩
set_option maxHeartbeats 800000 in
theorem names_some (g o h p n c d : Nat) (X : Nat → ByteArray) (U : Nat → Int) (w : World) (hn : n ≤ 1000000) (H1 : Hid (∀ i, i < n → w.cell? ⟨g, o + i * 2, none⟩ = some (.string (X i)) ∧ w.cell? ⟨g, o + i * 2 + 1, none⟩ = some (.int .u32 (U i)))) (H2 : Hid (∀ i, i < n → w.cell? ⟨h, p + i * 2, none⟩ = some (.string (X i)) ∧ w.cell? ⟨h, p + i * 2 + 1, none⟩ = some (.int .u32 (U i)))) :
    Calls Try.prog 18 #[.slice (some ⟨g, o, none⟩) n c, .slice (some ⟨h, p, none⟩) n d] w fun e w' => e = .returned (.bool true) ∧ Dr w w' := by
  go_enter Try.func18, Try.ntmps18
  go_wp2
  go_loopw [5] (fun i wr => ∃ k : Nat, k ≤ n ∧ i = .int .i64 k ∧ Dr w wr) (fun i _ => n - (intOf i).toNat)
  case atStart => exact ⟨0, by omega, rfl, Dr.refl _⟩
  case round =>
    obtain ⟨k, hk, rfl, hdr⟩ := hrel
    by_cases hlt : k < n
    · have h1 := (hdr.cell _).trans (H1.out k (by omega)).1
      have h2 := (hdr.cell _).trans (H1.out k (by omega)).2
      have h3 := (hdr.cell _).trans (H2.out k (by omega)).1
      have h4 := (hdr.cell _).trans (H2.out k (by omega)).2
      have HD := Lib.hid hdr
      clear hdr
      generalize X k = x at *
      generalize U k = u at *
      go_wp2
      go_quiet (fail)
      go_wp2
      go_roundw
      case rel => exact ⟨k + 1, by omega, by go_num, HD.out.more _⟩
      case measure => simp [intOf]; omega
    · have HD := Lib.hid hdr
      clear hdr
      go_wp2
      go_ret
      exact ⟨rfl, HD.out⟩
theorem names_same {w : World} {x y : Value} {l : List (List UInt8 × Nat)} (hx : NmR w x l) (hy : NmR w y l) (hl : l.length ≤ 1000000) : Calls Try.prog 18 #[x, y] w fun e w' => e = .returned (.bool true) ∧ Dr w w' := by
  rcases hx with ⟨rfl, a, c, rfl⟩ | ⟨h0, g, o, c, rfl, h1⟩
  · rcases hy with ⟨-, b, d, rfl⟩ | ⟨h0, _⟩
    · exact names_none a b c d w
    · exact absurd rfl h0
  · rcases hy with ⟨h, _⟩ | ⟨-, h, p, d, rfl, h2⟩
    · exact absurd h h0
    · have e : ∀ i, i < l.length → l[i]? = some (l.getD i ([], 0)) := fun i hi => by rw [List.getD_eq_getElem?_getD, List.getElem?_eq_getElem hi]; rfl
      exact names_some g o h p _ c d (fun i => ⟨((l.getD i ([], 0)).1).toArray⟩) (fun i => ((l.getD i ([], 0)).2 : Nat)) w hl (Lib.hid fun i hi => h1 i _ (e i hi)) (Lib.hid fun i hi => h2 i _ (e i hi))
theorem below_dr {w w' : World} (h : Dr w w') : Below w.heap.size w w' := by
  obtain ⟨n, rfl⟩ := h
  exact below_drewN' w n
end Go.Proofs.Ytbeenmglgdhbjaa
