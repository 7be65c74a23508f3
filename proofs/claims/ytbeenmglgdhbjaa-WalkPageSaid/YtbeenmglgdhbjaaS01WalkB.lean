/-
  What the reference's bit functions answer, whose texts loop over bits, for every argument of their types (a power, a bit: within the word); none changes memory.
-/
import Derived.Test.YtbeenmglgdhbjaaS01WalkA
namespace Go.Proofs.Ytbeenmglgdhbjaa.S01
open Go.RowKit
theorem bit_end (x i : Int) (hx0 : 0 ≤ x) : x.tdiv (BM.pw i) % 4294967296 % 2 = BM.bt x i := by
  rw [← BM.bt_eq x i hx0, Int.tdiv_eq_ediv_of_nonneg hx0]
  generalize x / BM.pw i = y
  omega
end Go.Proofs.Ytbeenmglgdhbjaa.S01
