/-
  The five laws' walks, their arguments in the order in which the last files hand them.
-/
import Derived.Test.YtdkpigfhdiopmaaLsD
import Derived.Test.YtdkpigfhdiopmaaArg
namespace Go.Proofs.Ytdkpigfhdiopmaa
open Go.RowKit Go.Maps S01
theorem checks_end (v : Value) (bs : List UInt8) (x s : Int) (W : World) (hv : ByR W v bs) (hn : bs.length ≤ maxLen) (h0 : 0 ≤ x) (hx : x < 4294967296) : Calls Try.prog 3 #[v, .agg #[.int .u32 x, .int .i64 s]] W fun e w' => e = .returned (.bool true) ∧ Below W.heap.size W w' := checks_walk x s hv hn h0 hx
theorem reads_end (v : Value) (bs : List UInt8) (x s : Int) (W : World) (hv : ByR W v bs) (hn : bs.length ≤ maxLen) (h0 : 0 ≤ x) (hx : x < 4294967296) : Calls Try.prog 4 #[v, .agg #[.int .u32 x, .int .i64 s]] W fun e w' => e = .returned (.bool true) ∧ Below W.heap.size W w' := reads_walk x s hv hn h0 hx
theorem writes_end (v : Value) (bs : List UInt8) (x s u : Int) (W : World) (hv : ByR W v bs) (hn : bs.length ≤ maxLen) (h0 : 0 ≤ x) (hx : x < 4294967296) (hu0 : 0 ≤ u) (hu : u < 4294967296) : Calls Try.prog 5 #[v, .agg #[.int .u32 x, .int .i64 s], .int .u32 u] W fun e w' => e = .returned (.bool true) ∧ Below W.heap.size W w' := writes_walk x s u hv hn h0 hx hu0 hu
theorem keeps_end (v : Value) (bs : List UInt8) (x s u : Int) (W : World) (hv : ByR W v bs) (hn : bs.length ≤ maxLen) (h0 : 0 ≤ x) (hx : x < 4294967296) (hu0 : 0 ≤ u) (hu : u < 4294967296) : Calls Try.prog 6 #[v, .agg #[.int .u32 x, .int .i64 s], .int .u32 u] W fun e w' => e = .returned (.bool true) ∧ Below W.heap.size W w' := keeps_walk x s u hv hn h0 hx hu0 hu
theorem diffs_end (v1 : Value) (a : List UInt8) (v2 : Value) (b : List UInt8) (W : World) (h1 : ByR W v1 a) (hn1 : a.length ≤ maxLen) (h2 : ByR W v2 b) (hn2 : b.length ≤ maxLen) : Calls Try.prog 7 #[v1, v2] W fun e w' => e = .returned (.bool true) ∧ Below W.heap.size W w' := diffs_walk h1 hn1 h2 hn2
end Go.Proofs.Ytdkpigfhdiopmaa
