/-
  The law on words and bytes: it returns true for every word, size and slice of bytes, and leaves all that was in memory as it was.
-/
import Derived.Test.YtmjgjojmnjpaoaaS01WalkH
import Derived.ProofKit
import Derived.OpenShut
namespace Go.Proofs.Ytmjgjojmnjpaoaa.S01
open Go.ChangeShapes Go.WideShapes Go.ChangeAt Go.RowKit

/-- A slice of bytes that came in: its elements are the list's. -/
def ArgBytes (w : World) (a : Option Addr) (len : Nat) (l : List Int) : Prop :=
  l.length = len ∧ BM.Bs l ∧ (len = 0 ∨ ∃ g off, a = some ⟨g, off, none⟩ ∧ ∀ i, i < len → w.cell? ⟨g, off + i, none⟩ = some (.int .u8 (l.getD i 0)))
theorem bs_of_wf {l : List Int} (h : ∀ n ∈ l, (Lit.int .u8 n).wf = true) : BM.Bs l := by
  intro i
  by_cases hi : i < l.length
  · have := bounds_u8 (h l[i] (List.getElem_mem hi))
    simp [List.getD_eq_getElem?_getD, hi]; omega
  · rw [List.getD_eq_getElem?_getD, List.getElem?_eq_none (by omega)]; simp
theorem take_getD (l : List Int) (n i : Nat) (h : i < n) : (l.take n).getD i 0 = l.getD i 0 := by
  simp [List.getD_eq_getElem?_getD, h]
theorem own_below {w w' : World} {B n : Nat} {x : Value} {l : List Value} (h : w.ownsRow B 5 1 x n l) (hb : Below w.heap.size w w') : w'.ownsRow B 5 1 x n l := by
  refine ⟨h.1, ?_⟩
  have hlt := h.lt
  rcases h.2 with h' | ⟨g, cap, cur, rfl, h1, h2, h3⟩
  · exact .inl h'
  · exact .inr ⟨g, cap, cur, rfl, h1, (hb.block g (hlt g rfl).2).trans h2, h3⟩
theorem Dr.below {w w' : World} (h : Dr w w') : Below w.heap.size w w' := by
  obtain ⟨n, rfl⟩ := h
  exact below_drewN (Below.refl _ _) n

/-- N is n, brought to 0 and 4. -/
def Cl4 (n N : Int) : Prop := (N = 0 ∧ n < 0) ∨ (N = n ∧ 0 ≤ n ∧ n ≤ 4) ∨ (N = 4 ∧ 4 < n)
theorem cl4 (n : Int) : Cl4 n (BM.cl n 0 4) := by
  unfold Cl4 BM.cl; split
  · omega
  · split <;> omega
end Go.Proofs.Ytmjgjojmnjpaoaa.S01
