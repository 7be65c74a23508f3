/-
  What Enc answers, of package inst and of the reference, for every instruction; neither changes memory that was there.
-/
import Derived.Test.YtfgkcjalfhbjjaaDoorS06WalkD
import Derived.Test.YtfgkcjalfhbjjaaDoorS06MathB
namespace Go.Proofs.YtfgkcjalfhbjjaaDoor.S06
open Go.RowKit S01
theorem bcell {W w1 : World} (hb : Below W.heap.size W w1) : (∀ b o, b < W.heap.size → w1.cell? ⟨b, o, none⟩ = W.cell? ⟨b, o, none⟩) ∧ (∀ b o, b < W.heap.size → w1.frozen? ⟨b, o, none⟩ = W.frozen? ⟨b, o, none⟩) :=
  ⟨fun b o h => hb.cell (p := ⟨b, o, none⟩) h, fun b o h => hb.frozen (p := ⟨b, o, none⟩) h⟩
theorem then_new {w b : World} {o : Obj} (k : Below (w.alloc o).heap.size (w.alloc o) b) : Below w.heap.size w b :=
  ((Below.refl _ _).alloc (Nat.le_refl _) o).trans (k.mono (by simp))
theorem ret_word {a b c d : Int} (h : a = b) (h' : c = d) : Ending.returned (.tuple #[.int .u32 a, .int .i64 c]) = .returned (.tuple #[.int .u32 b, .int .i64 d]) := by rw [h, h']
end Go.Proofs.YtfgkcjalfhbjjaaDoor.S06
