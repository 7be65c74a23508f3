/-
  The laws on whole words: each returns true for every argument of its types and leaves all memory as it was.
-/
import Derived.Test.YtbeenmglgdhbjaaS01WalkC
namespace Go.Proofs.Ytbeenmglgdhbjaa.S01
open Go.RowKit

theorem below_draws (w : World) (n : Nat) : Below w.heap.size w (w.drewN n) := below_drewN (Below.refl _ _) n
theorem turn_one (x n m : Int) : BM.rt (BM.rt x n) m = BM.rt x (n.tmod 32 + m.tmod 32) := by
  apply BM.rt_rt
  have h1 := BM.tmod_emod n
  have h2 := BM.tmod_emod m
  omega
theorem turn_back (x n : Int) (hx0 : 0 ≤ x) (hx : x < 4294967296) : BM.rt (BM.rt x n) (32 - n.tmod 32) = x := by
  have h1 := BM.tmod_emod n
  rw [BM.rt_rt x n (32 - n.tmod 32) 0 (by omega)]
  exact BM.rt_zero x 0 hx0 hx (by decide)
end Go.Proofs.Ytbeenmglgdhbjaa.S01
