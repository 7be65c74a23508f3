/-
  What bits.Merge and the statements' examples (awake) answer, for every argument; neither changes memory.
-/
import Derived.Test.YtbeenmglgdhbjaaS01WalkB
import Derived.Test.YtbeenmglgdhbjaaS01MathD
namespace Go.Proofs.Ytbeenmglgdhbjaa.S01
open Go.RowKit
theorem ex1 : (BM.sx 128 8 == 4294967168) = true := by decide +kernel
theorem ex2 : (BM.fd 305419896 15 8 == 86) = true := by decide +kernel
theorem ex3 : (BM.mg 287454020 170 1 1 == 287484484) = true := by decide +kernel
theorem ex4 : BM.al 8 4 = true := by decide +kernel
theorem ex5 : (BM.rt 1 1 == 2147483648) = true := by decide +kernel
end Go.Proofs.Ytbeenmglgdhbjaa.S01
