/-
  What each bit function of the package and of the reference answers, for every argument of its types (a power, a bit: within the word); none changes memory.
-/
import Derived.Test.YtiakoflgcpahgaaRows
import Derived.Test.YtiakoflgcpahgaaS01MathC
import Derived.WalkKit
import Derived.WalkSpells
import Derived.WalkLawsBesides
import Derived.BigQuiet
import Derived.Lib.Hide
namespace Go.Proofs.Ytiakoflgcpahgaa.S01
open Go.RowKit
theorem ret_int {k : IntKind} {a b : Int} (h : a = b) : Ending.returned (.int k a) = .returned (.int k b) := by rw [h]
theorem ret_bool {a b : Bool} (h : a = b) : Ending.returned (.bool a) = .returned (.bool b) := by rw [h]
/-- In a region that draws: a callee that leaves the world; one that draws. -/
theorem q_same {P : Program} {f : FuncId} {args : Array Value} {v : Value} (h : ∀ W, Calls P f args W fun e w' => e = .returned v ∧ W = w') {w : World} {n : Nat} :
    Calls P f args (w.drewN n) fun e w'' => e = .returned v ∧ ∃ m, w'' = w.drewN m :=
  (h _).mono fun _ _ ⟨he, hw⟩ => ⟨he, n, hw.symm⟩
theorem q_draw {P : Program} {f : FuncId} {args : Array Value} {v : Value} (h : ∀ W, Calls P f args W fun e w' => e = .returned v ∧ ∃ m, w' = W.drewN m) {w : World} {n : Nat} :
    Calls P f args (w.drewN n) fun e w'' => e = .returned v ∧ ∃ m, w'' = w.drewN m :=
  (h _).mono fun _ _ ⟨he, m, hw⟩ => ⟨he, n + m, by rw [hw, World.drewN_drewN]⟩

theorem al_one (x : Int) : BM.al x 1 = true := rfl
theorem al_two (x : Int) : BM.al x 2 = (x % 2 == 0) := by simp [BM.al]
theorem al_four (x : Int) : BM.al x 4 = (x % 4 == 0) := by simp [BM.al]
theorem al_no (x n : Int) (h1 : n ≠ 1) (h2 : n ≠ 2) (h4 : n ≠ 4) : BM.al x n = false := by simp [BM.al, h1, h2, h4]
end Go.Proofs.Ytiakoflgcpahgaa.S01
