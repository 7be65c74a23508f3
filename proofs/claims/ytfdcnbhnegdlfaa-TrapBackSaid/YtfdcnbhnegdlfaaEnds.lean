/-
  The four laws' walks, their arguments in the order in which the last files hand them.
-/
import Derived.Test.YtfdcnbhnegdlfaaLsA
import Derived.Test.YtfdcnbhnegdlfaaLsB
import Derived.Test.YtfdcnbhnegdlfaaLsC
import Derived.Test.YtfdcnbhnegdlfaaLsD
import Derived.Test.YtfdcnbhnegdlfaaS06
namespace Go.Proofs.Ytfdcnbhnegdlfaa
open Go.RowKit S01 S10 S11
theorem takes_end (f : Nat → Int) (h : Bool) (c q0 q1 q2 q3 q4 q5 q6 q7 q8 q9 q10 q11 : Int) (W : World) (hf : CM.Ok f) (x0 : 0 ≤ q0) (y0 : q0 < 4294967296) (_ : 0 ≤ q1) (_ : q1 < 4294967296) (_ : -9223372036854775808 ≤ q2) (_ : q2 ≤ 9223372036854775807) (x3 : 0 ≤ q3) (y3 : q3 < 4294967296) (_ : -9223372036854775808 ≤ q4) (_ : q4 ≤ 9223372036854775807) (_ : 0 ≤ q5) (_ : q5 < 4294967296) (_ : -9223372036854775808 ≤ q6) (_ : q6 ≤ 9223372036854775807) (_ : 0 ≤ q7) (_ : q7 < 4294967296) (_ : 0 ≤ q8) (_ : q8 < 4294967296) (_ : -9223372036854775808 ≤ q9) (_ : q9 ≤ 9223372036854775807) (_ : 0 ≤ q10) (_ : q10 < 4294967296) (_ : 0 ≤ q11) (_ : q11 < 4294967296) :
    Calls Try.prog 3 #[AR f h, .int .i64 c, .agg #[.int .u32 q0, .int .u32 q1, .int .i64 q2, .int .u32 q3, .int .i64 q4, .int .u32 q5, .int .i64 q6, .int .u32 q7, .int .u32 q8, .int .i64 q9, .int .u32 q10, .int .u32 q11]] W fun e w' => e = .returned (.bool true) ∧ Below W.heap.size W w' :=
  takes_walk f h c _ q0 q3 W hf rfl rfl ⟨x0, y0⟩ ⟨x3, y3⟩
theorem back_end (f : Nat → Int) (h : Bool) (c q0 q1 q2 q3 q4 q5 q6 q7 q8 q9 q10 q11 : Int) (W : World) (hf : CM.Ok f) (x0 : 0 ≤ q0) (y0 : q0 < 4294967296) (_ : 0 ≤ q1) (_ : q1 < 4294967296) (_ : -9223372036854775808 ≤ q2) (_ : q2 ≤ 9223372036854775807) (x3 : 0 ≤ q3) (y3 : q3 < 4294967296) (_ : -9223372036854775808 ≤ q4) (_ : q4 ≤ 9223372036854775807) (_ : 0 ≤ q5) (_ : q5 < 4294967296) (_ : -9223372036854775808 ≤ q6) (_ : q6 ≤ 9223372036854775807) (_ : 0 ≤ q7) (_ : q7 < 4294967296) (_ : 0 ≤ q8) (_ : q8 < 4294967296) (_ : -9223372036854775808 ≤ q9) (_ : q9 ≤ 9223372036854775807) (_ : 0 ≤ q10) (_ : q10 < 4294967296) (_ : 0 ≤ q11) (_ : q11 < 4294967296) :
    Calls Try.prog 6 #[AR f h, .int .i64 c, .agg #[.int .u32 q0, .int .u32 q1, .int .i64 q2, .int .u32 q3, .int .i64 q4, .int .u32 q5, .int .i64 q6, .int .u32 q7, .int .u32 q8, .int .i64 q9, .int .u32 q10, .int .u32 q11]] W fun e w' => e = .returned (.bool true) ∧ Below W.heap.size W w' :=
  back_walk f h c _ q0 q3 W hf rfl rfl ⟨x0, y0⟩ ⟨x3, y3⟩
theorem returns_end (f : Nat → Int) (h : Bool) (W : World) (hf : CM.Ok f) : Calls Try.prog 4 #[AR f h] W fun e w' => e = .returned (.bool true) ∧ Below W.heap.size W w' := returns_walk f h W hf
theorem asks_end (f : Nat → Int) (h : Bool) (p : Int) (W : World) (hf : CM.Ok f) (p0 : 0 ≤ p) (p1 : p < 4294967296) : Calls Try.prog 5 #[AR f h, .int .u32 p] W fun e w' => e = .returned (.bool true) ∧ Below W.heap.size W w' := asks_walk f h p W hf ⟨p0, p1⟩
end Go.Proofs.Ytfdcnbhnegdlfaa
