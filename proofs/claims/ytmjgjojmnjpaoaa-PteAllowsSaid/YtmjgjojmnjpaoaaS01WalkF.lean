/-
  What bits.Of and the reference's Of answer, for every slice of bytes of at most 100 elements; neither changes memory.
-/
import Derived.Test.YtmjgjojmnjpaoaaS01WalkE
import Derived.Test.YtmjgjojmnjpaoaaS01MathE
namespace Go.Proofs.Ytmjgjojmnjpaoaa.S01
open Go.RowKit

/-- A world that has only drawn since. -/
def Dr (w w' : World) : Prop := ∃ n, w' = w.drewN n
theorem Dr.refl (w : World) : Dr w w := ⟨0, rfl⟩
theorem Dr.more {w w' : World} (h : Dr w w') (m : Nat) : Dr w (w'.drewN m) := by
  obtain ⟨n, rfl⟩ := h
  exact ⟨n + m, by rw [World.drewN_drewN]⟩
theorem Dr.cell {w w' : World} (h : Dr w w') (a : Addr) : w'.cell? a = w.cell? a := by
  obtain ⟨n, rfl⟩ := h; rfl

/-- The slice's first four cells are the list's. -/
def Four (w : World) (g off len : Nat) (l : List Int) : Prop := ∀ i : Nat, i < 4 → i < len → w.cell? ⟨g, off + i, none⟩ = some (.int .u8 (l.getD i 0))
theorem ow_or' (l : List Int) (hl : BM.Bs l) (k : Nat) (hk : k < 4) : bits .or .u32 (BM.ow l k) (l.getD k 0 * 2 ^ (8 * k) % 4294967296) = BM.ow l (k + 1) := by
  have := BM.ow_or l hl k hk
  rwa [show (8 * (k : Int)).toNat = 8 * k by omega] at this

end Go.Proofs.Ytmjgjojmnjpaoaa.S01
