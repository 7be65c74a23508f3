/-
  The five laws' walks, their arguments in the order in which the last files hand them.
-/
import Derived.Test.YtbeenmglgdhbjaaLsA
import Derived.Test.YtbeenmglgdhbjaaLsC
import Derived.Test.YtbeenmglgdhbjaaLsD
import Derived.Test.YtbeenmglgdhbjaaS10Arg
import Derived.Test.YtbeenmglgdhbjaaS11Arg
namespace Go.Proofs.Ytbeenmglgdhbjaa
open Go.RowKit Go.Maps S01 S10 S11 S12
theorem goes_end (v : Value) (bs : List UInt8) (root va : Int) (W : World) (hv : ByR W v bs) (hn : bs.length ≤ maxLen) (r0 : 0 ≤ root) (r1 : root < 4294967296) (a0 : 0 ≤ va) (a1 : va < 4294967296) : Calls Try.prog 3 #[v, .int .u32 root, .int .u32 va] W fun e w' => e = .returned (.bool true) ∧ Below W.heap.size W w' := goes_walk root va hv hn r0 r1 a0 a1
theorem trans_end (f : Nat → Int) (h : Bool) (v : Value) (bs : List UInt8) (va a : Int) (W : World) (hf : CM.Ok f) (hv : ByR W v bs) (hn : bs.length ≤ maxLen) (a0 : 0 ≤ va) (a1 : va < 4294967296) : Calls Try.prog 4 #[AR f h, v, .agg #[.int .u32 va, .int .i64 a]] W fun e w' => e = .returned (.bool true) ∧ Below W.heap.size W w' := trans_walk f h va a hf hv hn a0 a1
theorem page_end (f : Nat → Int) (h : Bool) (v : Value) (bs : List UInt8) (va a : Int) (W : World) (hf : CM.Ok f) (hv : ByR W v bs) (hn : bs.length ≤ maxLen) (a0 : 0 ≤ va) (a1 : va < 4294967296) : Calls Try.prog 5 #[AR f h, v, .agg #[.int .u32 va, .int .i64 a]] W fun e w' => e = .returned (.bool true) ∧ Below W.heap.size W w' := page_walk f h va a hf hv hn a0 a1
theorem two_end (v : Value) (bs : List UInt8) (u : Value) (os : List UInt8) (va a : Int) (W : World) (hv : ByR W v bs) (_ : bs.length ≤ maxLen) (hu : ByR W u os) (_ : os.length ≤ maxLen) (a0 : 0 ≤ va) (a1 : va < 4294967296) (g0 : -9223372036854775808 ≤ a) (g1 : a < 9223372036854775808) : Calls Try.prog 6 #[v, u, .agg #[.int .u32 va, .int .i64 a]] W fun e w' => e = .returned (.bool true) ∧ Below W.heap.size W w' := two_walk va a hv hu a0 a1 g0 g1
theorem maps_end (v : Value) (bs : List UInt8) (root : Int) (W : World) (hv : ByR W v bs) (hn : bs.length ≤ maxLen) (r0 : 0 ≤ root) (r1 : root < 4294967296) : Calls Try.prog 7 #[v, .int .u32 root] W fun e w' => e = .returned (.bool true) ∧ Below W.heap.size W w' := maps_walk root hv hn r0 r1
end Go.Proofs.Ytbeenmglgdhbjaa
