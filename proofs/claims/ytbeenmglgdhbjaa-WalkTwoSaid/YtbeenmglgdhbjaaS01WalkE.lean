/-
  The law on fields that are put and read back: it returns true for every argument of its types and leaves all that was in memory as it was.
-/
import Derived.Test.YtbeenmglgdhbjaaS01WalkD
namespace Go.Proofs.Ytbeenmglgdhbjaa.S01
open Go.RowKit

/-- In a second region that draws: a callee that leaves the world; one that draws. -/
theorem q_same2 {P : Program} {f : FuncId} {args : Array Value} {v : Value} (h : ∀ W, Calls P f args W fun e w' => e = .returned v ∧ W = w') {w : World} {a n : Nat} :
    Calls P f args (w.drewN (a + n)) fun e w'' => e = .returned v ∧ ∃ m, w'' = w.drewN (a + m) :=
  (h _).mono fun _ _ ⟨he, hw⟩ => ⟨he, n, hw.symm⟩
theorem q_draw2 {P : Program} {f : FuncId} {args : Array Value} {v : Value} (h : ∀ W, Calls P f args W fun e w' => e = .returned v ∧ ∃ m, w' = W.drewN m) {w : World} {a n : Nat} :
    Calls P f args (w.drewN (a + n)) fun e w'' => e = .returned v ∧ ∃ m, w'' = w.drewN (a + m) :=
  (h _).mono fun _ _ ⟨he, m, hw⟩ => ⟨he, n + m, by rw [hw, World.drewN_drewN, Nat.add_assoc]⟩

/-- N is n, brought to 0 and 31. -/
def Cl3 (n N : Int) : Prop := (N = 0 ∧ n < 0) ∨ (N = n ∧ 0 ≤ n ∧ n ≤ 31) ∨ (N = 31 ∧ 31 < n)
theorem cl3 (n : Int) : Cl3 n (BM.cl n 0 31) := by
  unfold Cl3 BM.cl; split
  · omega
  · split <;> omega
theorem zext_at (x n m : Int) (w : World) (hx0 : 0 ≤ x) (hx : x < 4294967296) (h1 : n ≤ m) (h2 : m ≤ n) :
    Calls Try.prog 42 #[.int .u32 x, .int .i64 n] w fun e w' => e = .returned (.int .u32 (BM.zx x m)) ∧ w = w' := by
  obtain rfl : n = m := by omega
  exact zext_any x n w hx0 hx
end Go.Proofs.Ytbeenmglgdhbjaa.S01
