/-
  The word of an entry: of package pte and of the reference.
-/
import Derived.Test.YtbeenmglgdhbjaaS12WalkB
namespace Go.Proofs.Ytbeenmglgdhbjaa.S12
open Go.RowKit S01 S10 S11
end Go.Proofs.Ytbeenmglgdhbjaa.S12
