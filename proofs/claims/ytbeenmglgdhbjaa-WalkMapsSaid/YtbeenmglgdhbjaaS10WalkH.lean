/-
  The comparisons of bytes and of whole numbers: what they answer. For slices of a bounded length.
-/
import Derived.Test.YtbeenmglgdhbjaaS10WalkG
namespace Go.Proofs.Ytbeenmglgdhbjaa.S10
open Go.RowKit Go.Maps S01
theorem take_succ_eq {α : Type} {a b : List α} {k : Nat} (h : a.take k = b.take k) (e : a[k]? = b[k]?) : a.take (k + 1) = b.take (k + 1) := by
  rw [List.take_add_one, List.take_add_one, h, e]
theorem inC_get {l : List Nat} {j : Nat} (h : j < l.length) : (inC l)[j]? = some (.int .i64 (l.getD j 0 : Nat)) := by
  rw [inC, List.getElem?_map, List.getD_eq_getElem?_getD, List.getElem?_eq_getElem h]
  rfl
theorem own_ints {w : World} {N n : Nat} {x : Value} {l : List Nat} (h : w.ownsRow N 3 1 x n (inC l)) : (n = 0 ∧ ∃ ao cap, x = .slice ao 0 cap) ∨ (∃ g cap, x = .slice (some ⟨g, 0, none⟩) n cap ∧ N ≤ g ∧ g < w.heap.size ∧ ∀ j, j < n → w.cell? ⟨g, j, none⟩ = some (.int .i64 (l.getD j 0 : Nat))) := by
  have hlen : l.length = n := by have := h.1; rw [inC_len] at this; omega
  have hlt := h.lt
  rcases h.2 with ⟨rfl, rfl⟩ | ⟨g, cap, cur, rfl, hb, _⟩
  · exact .inl ⟨rfl, _, _, rfl⟩
  · refine .inr ⟨g, cap, rfl, hb, (hlt g rfl).2, fun j hj => ?_⟩
    rw [h.cellAt j (by omega), inC_get (by omega)]
end Go.Proofs.Ytbeenmglgdhbjaa.S10
