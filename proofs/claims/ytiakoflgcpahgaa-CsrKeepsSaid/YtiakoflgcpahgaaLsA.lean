/-
  The law on writes: it returns true for every core, register and word, and leaves all that was in memory as it was.
-/
import Derived.Test.YtiakoflgcpahgaaSame
import Derived.Test.YtiakoflgcpahgaaWalkE
namespace Go.Proofs.Ytiakoflgcpahgaa
open Go.RowKit S01 S10
set_option maxHeartbeats 1600000 in
theorem writes_walk (f : Nat → Int) (h : Bool) (n v : Int) (w : World) (hf : CM.Ok f) (hv : CM.Wd v) :
    Calls Try.prog 4 #[AR f h, .int .i64 n, .int .u32 v] w fun e w' => e = .returned (.bool true) ∧ Below w.heap.size w w' := by
  have H1 := Lib.hid (fun W => write_any f h n v W hf hv)
  have H2 := Lib.hid (fun W => rwrite_any f h n v W hf hv)
  generalize CM.wf f n v = g at H1 H2
  generalize CM.wh f h n = gh at H1 H2
  generalize CM.ks f n = ks at H1 H2
  clear hf hv
  unfold AR at H1 H2 ⊢
  go_enter Try.func4, Try.ntmps4
  go_upto_region 1 with fail
  have K0 := Lib.hid (Bk.new w f h)
  have B0 := Lib.hid (below_one w (.cells (AC f h).toArray 26))
  generalize World.alloc w _ = W0 at K0 B0 ⊢
  have R0 := Lib.hid K0.out.range
  go_upto_region 2 with (first | (refine wpList_load_mid rfl 26 _ rfl w.heap.size 0 rfl (AC f h) _ R0.out Try.underlying26 rfl (by kernel_rfl) ?_) | (go_at_call 15; (with_reducible refine (H1.out _).mono ?_); rintro e w1 ⟨rfl, hb⟩; have HB1 := Lib.hid hb; clear hb; have hS := store_new w1 g gh; have hl := AC_len g gh))
  clear hS hl
  have L1 := Lib.hid (Bk.new w1 g gh)
  have K1 := Lib.hid ((K0.out.below HB1.out).more (.cells (AC g gh).toArray 26))
  have B1 := Lib.hid (below_then (below_then B0.out HB1.out) (below_one w1 (.cells (AC g gh).toArray 26)))
  generalize World.alloc w1 _ = W1 at K1 L1 B1 ⊢
  generalize w1.heap.size = s1 at *
  have R1 := Lib.hid K1.out.range
  go_upto_region 3 with (first | (refine wpList_load_mid rfl 26 _ rfl w.heap.size 0 rfl (AC f h) _ R1.out Try.underlying26 rfl (by kernel_rfl) ?_) | (go_at_call 16; (with_reducible refine (H2.out _).mono ?_); rintro e w2 ⟨rfl, hb⟩; have HB2 := Lib.hid hb; clear hb; have hS := store_new w2 g gh; have hl := AC_len g gh))
  clear hS hl
  have M2 := Lib.hid (Bk.new w2 g gh).range
  have L2 := Lib.hid ((L1.out.below HB2.out).more (.cells (AC g gh).toArray 26)).range
  have B2 := Lib.hid (below_then (below_then B1.out HB2.out) (below_one w2 (.cells (AC g gh).toArray 26)))
  generalize World.alloc w2 _ = W2 at L2 M2 B2 ⊢
  generalize w2.heap.size = s2 at *
  have hE := same_core g gh
  go_wp2_with (first | (refine wpList_load_mid rfl 26 _ rfl s1 0 rfl (AC g gh) _ L2.out Try.underlying26 rfl (by kernel_rfl) ?_) | (refine wpList_load_mid rfl 26 _ rfl s2 0 rfl (AC g gh) _ M2.out Try.underlying26 rfl (by kernel_rfl) ?_) | (go_at_call 14; refine (awake_any _).mono ?_; rintro e w3 ⟨rfl, hb⟩; have HB3 := Lib.hid (below_then B2.out hb); clear hb))
  go_ret
  exact ⟨rfl, HB3.out⟩
end Go.Proofs.Ytiakoflgcpahgaa
