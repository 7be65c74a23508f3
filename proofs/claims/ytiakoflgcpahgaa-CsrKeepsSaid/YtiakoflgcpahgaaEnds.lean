/-
  The five laws' walks, their arguments in the order in which the last files hand them.
-/
import Derived.Test.YtiakoflgcpahgaaLsG
import Derived.Test.YtiakoflgcpahgaaArg
namespace Go.Proofs.Ytiakoflgcpahgaa
open Go.RowKit S01 S10
theorem reads_end (f : Nat → Int) (h : Bool) (n : Int) (W : World) (hf : CM.Ok f) : Calls Try.prog 3 #[AR f h, .int .i64 n] W fun e w' => e = .returned (.bool true) ∧ Below W.heap.size W w' := reads_walk f h n W hf
theorem writes_end (f : Nat → Int) (h : Bool) (n v : Int) (W : World) (hf : CM.Ok f) (v0 : 0 ≤ v) (v1 : v < 4294967296) : Calls Try.prog 4 #[AR f h, .int .i64 n, .int .u32 v] W fun e w' => e = .returned (.bool true) ∧ Below W.heap.size W w' := writes_walk f h n v W hf ⟨v0, v1⟩
theorem counts_end (f : Nat → Int) (h : Bool) (l : Int) (W : World) (hf : CM.Ok f) (l0 : 0 ≤ l) (l1 : l < 4294967296) : Calls Try.prog 5 #[AR f h, .int .u32 l] W fun e w' => e = .returned (.bool true) ∧ Below W.heap.size W w' := counts_walk f h l W hf ⟨l0, l1⟩
theorem back_end (f : Nat → Int) (h : Bool) (n v : Int) (W : World) (hf : CM.Ok f) (v0 : 0 ≤ v) (v1 : v < 4294967296) : Calls Try.prog 6 #[AR f h, .int .i64 n, .int .u32 v] W fun e w' => e = .returned (.bool true) ∧ Below W.heap.size W w' := back_walk f h n v W hf ⟨v0, v1⟩
theorem keeps_end (f : Nat → Int) (h : Bool) (A : Option Addr) (n c : Nat) (L : Nat → Int) (W : World) (hf : CM.Ok f) (hm : (n : Int) ≤ 9223372036854775807) (hL : Acts W A n L) : Calls Try.prog 7 #[AR f h, .slice A n c] W fun e w' => e = .returned (.bool true) ∧ Below W.heap.size W w' := by
  by_cases h1 : 40 < (n : Int)
  · exact keeps_many f h A n c W h1 hm
  · by_cases h2 : CM.bq f
    · exact keeps_good f h A n c L W (by omega) hf h2 hL
    · exact keeps_not f h A n c W (by omega) hf h2
end Go.Proofs.Ytiakoflgcpahgaa
