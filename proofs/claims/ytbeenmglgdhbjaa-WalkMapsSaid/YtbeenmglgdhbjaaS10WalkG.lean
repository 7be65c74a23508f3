/-
  What the reference's Diff makes: the same indices. For slices of a bounded length.
-/
import Derived.Test.YtbeenmglgdhbjaaS10WalkF
namespace Go.Proofs.Ytbeenmglgdhbjaa.S10
open Go.RowKit Go.Maps S01
end Go.Proofs.Ytbeenmglgdhbjaa.S10
