/-
  The law on returns: it returns true for every core, and leaves all that was in memory as it was.
-/
import Derived.Test.YtfdcnbhnegdlfaaWalkG
namespace Go.Proofs.Ytfdcnbhnegdlfaa
open Go.RowKit S01 S10 S11
set_option maxHeartbeats 1600000 in
theorem returns_walk (f : Nat → Int) (h : Bool) (w : World) (hf : CM.Ok f) :
    Calls Try.prog 4 #[AR f h] w fun e w' => e = .returned (.bool true) ∧ Below w.heap.size w w' := by
  have H1 := Lib.hid (fun W => ret_any f h W hf)
  have H2 := Lib.hid (fun W => rret_any f h W hf)
  clear hf
  generalize TR.rt f = g at H1 H2
  generalize TR.rh f h = gh at H1 H2
  generalize TR.rc f = c at H1 H2
  have hE := same_core g gh
  unfold AR at H1 H2 ⊢
  go_enter Try.func4, Try.ntmps4
  go_upto_region 1 with fail
  have K0 := Lib.hid (Bk.new w f h)
  have B0 := Lib.hid (below_one w (.cells (AC f h).toArray 26))
  generalize World.alloc w _ = W0 at K0 B0 ⊢
  have R0 := Lib.hid K0.out.range
  go_upto_region 2 with (first | (refine wpList_load_mid rfl 26 _ rfl w.heap.size 0 rfl (AC f h) _ R0.out Try.underlying26 rfl (by kernel_rfl) ?_) | (go_at_call 10; (with_reducible refine (H1.out _).mono ?_); rintro e w1 ⟨rfl, hb⟩; have HB1 := Lib.hid hb; clear hb; have hS := store_new w1 g gh; have hl := AC_len g gh))
  clear hS hl
  have K1 := Lib.hid ((K0.out.below HB1.out).more (.cells (AC g gh).toArray 26))
  have M1 := Lib.hid (Bk.new w1 g gh)
  have B1 := Lib.hid (below_then (below_then B0.out HB1.out) (below_one w1 (.cells (AC g gh).toArray 26)))
  generalize World.alloc _ _ = W1 at K1 M1 B1 ⊢
  generalize w1.heap.size = s1 at *
  have R1 := Lib.hid K1.out.range
  go_upto_region 3 with (first | (refine wpList_load_mid rfl 26 _ rfl w.heap.size 0 rfl (AC f h) _ R1.out Try.underlying26 rfl (by kernel_rfl) ?_) | (go_at_call 11; (with_reducible refine (H2.out _).mono ?_); rintro e w2 ⟨rfl, hb⟩; have HB2 := Lib.hid hb; clear hb; have hS := store_new w2 g gh; have hl := AC_len g gh))
  clear hS hl
  have L2 := Lib.hid ((M1.out.below HB2.out).more (.cells (AC g gh).toArray 26))
  have M2 := Lib.hid (Bk.new w2 g gh)
  have B2 := Lib.hid (below_then (below_then B1.out HB2.out) (below_one w2 (.cells (AC g gh).toArray 26)))
  generalize World.alloc _ _ = W2 at L2 M2 B2 ⊢
  generalize w2.heap.size = s2 at *
  have R2 := Lib.hid L2.out.range
  have R3 := Lib.hid M2.out.range
  go_wp2_with (first | (refine wpList_load_mid rfl 26 _ rfl s1 0 rfl (AC g gh) _ R2.out Try.underlying26 rfl (by kernel_rfl) ?_) | (refine wpList_load_mid rfl 26 _ rfl s2 0 rfl (AC g gh) _ R3.out Try.underlying26 rfl (by kernel_rfl) ?_) | (go_at_call 9; (with_reducible refine (awake_any _).mono ?_); rintro e w4 ⟨rfl, hb⟩; have HB4 := Lib.hid (below_then B2.out hb); clear hb))
  go_ret
  exact ⟨rfl, HB4.out⟩
end Go.Proofs.Ytfdcnbhnegdlfaa
