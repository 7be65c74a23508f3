/-
  The comparison of two rows of bytes, and the reference's Merge: what they answer for every row that the call itself made, and for every word and place.
-/
import Derived.Test.YtbeenmglgdhbjaaS01WalkG
namespace Go.Proofs.Ytbeenmglgdhbjaa.S01
open Go.RowKit

/-- What is known of a row that is owned. -/
theorem own_open {w : World} {B n : Nat} {x : Value} {l : List Int} (h : w.ownsRow B 5 1 x n (cs l)) :
    (n = 0 ∧ ∃ ao cap, x = .slice ao 0 cap) ∨ (∃ g cap, x = .slice (some ⟨g, 0, none⟩) n cap ∧ B ≤ g ∧ g < w.heap.size ∧ ∀ i, i < n → w.cell? ⟨g, i, none⟩ = some (.int .u8 (l.getD i 0))) := by
  have hlen : l.length = n := by have := h.1; rw [cs_len] at this; omega
  have hlt := h.lt
  rcases h.2 with ⟨rfl, rfl⟩ | ⟨g, cap, cur, rfl, hb, _⟩
  · exact .inl ⟨rfl, _, _, rfl⟩
  · refine .inr ⟨g, cap, rfl, hb, (hlt g rfl).2, fun i hi => ?_⟩
    rw [h.cellAt i (by omega)]
    have hi' : i < l.length := by omega
    simp [cs, hi']

theorem of_own (x : Value) (n B : Nat) (l : List Int) (w : World) (hn : n ≤ 4) (hl : BM.Bs l) (hx : w.ownsRow B 5 1 x n (cs l)) :
    Calls Try.prog 49 #[x] w fun e w' => e = .returned (.int .u32 (BM.wo l)) ∧ w = w' := by
  have hlen : l.length = n := by have := hx.1; rw [cs_len] at this; omega
  rcases own_open hx with ⟨h0, ao, c, rfl⟩ | ⟨g, c, rfl, _, _, h1⟩
  · obtain rfl : l = [] := List.length_eq_zero_iff.mp (by omega)
    exact of_empty ao c w
  · exact of_low g 0 n c l w hl hlen hn (fun i _ hi => by rw [Nat.zero_add]; exact h1 i hi)
end Go.Proofs.Ytbeenmglgdhbjaa.S01
