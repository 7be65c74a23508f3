/-
  The walks of the laws under the bounds that an argument's type gives, in one form.
-/
import Derived.Test.YtmjgjojmnjpaoaaLsA
import Derived.Test.YtmjgjojmnjpaoaaLsB
import Derived.Test.YtmjgjojmnjpaoaaLsC
import Derived.Test.YtmjgjojmnjpaoaaLsD
namespace Go.Proofs.Ytmjgjojmnjpaoaa
open Go.RowKit
theorem words_end (x b g : Int) (w : World) (x0 : 0 ≤ x) (x1 : x < 4294967296) (h0 : 0 ≤ b) (h1 : b < 4294967296) (g0 : -9223372036854775808 ≤ g) (g1 : g < 9223372036854775808) :
    Calls Try.prog 3 #[.int .u32 x, .agg #[.int .u32 b, .int .i64 g]] w fun e w' => e = .returned (.bool true) ∧ Below w.heap.size w w' := words_walk x b g w x0 x1 h0 h1 g0 g1
theorem allows_end (b g a : Int) (k : Bool) (w : World) (h0 : 0 ≤ b) (h1 : b < 4294967296) (_ : -9223372036854775808 ≤ g) (_ : g < 9223372036854775808) :
    Calls Try.prog 4 #[.agg #[.int .u32 b, .int .i64 g], .int .i64 a, .bool k] w fun e w' => e = .returned (.bool true) ∧ Below w.heap.size w w' := allows_walk b g a k w h0 h1
theorem places_end (x l b g : Int) (w : World) (x0 : 0 ≤ x) (x1 : x < 4294967296) (_ : 0 ≤ b) (_ : b < 4294967296) (g0 : -9223372036854775808 ≤ g) (g1 : g < 9223372036854775808) :
    Calls Try.prog 5 #[.int .u32 x, .int .i64 l, .agg #[.int .u32 b, .int .i64 g]] w fun e w' => e = .returned (.bool true) ∧ Below w.heap.size w w' := places_walk x l b g w x0 x1 g0 g1
theorem more_end (b g m a : Int) (w : World) (h0 : 0 ≤ b) (h1 : b < 4294967296) (_ : -9223372036854775808 ≤ g) (_ : g < 9223372036854775808) (m0 : 0 ≤ m) (m1 : m < 4294967296) :
    Calls Try.prog 7 #[.agg #[.int .u32 b, .int .i64 g], .int .u32 m, .int .i64 a] w fun e w' => e = .returned (.bool true) ∧ Below w.heap.size w w' := more_walk b g m a w h0 h1 m0 m1
end Go.Proofs.Ytmjgjojmnjpaoaa
