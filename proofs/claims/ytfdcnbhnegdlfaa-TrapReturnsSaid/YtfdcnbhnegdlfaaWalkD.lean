/-
  What Single and Stops answer, of package trap and of the reference.
-/
import Derived.Test.YtfdcnbhnegdlfaaWalkA
namespace Go.Proofs.Ytfdcnbhnegdlfaa
open Go.RowKit S01 S10 S11
set_option maxHeartbeats 400000 in
theorem single_user (f : Nat → Int) (h : Bool) (w : World) (hf : CM.Ok f) (hk : CM.km f = false) :
    Calls Try.prog 16 #[AR f h] w fun e w' => e = .returned (.bool (TR.hs (f 17) 32)) ∧ Below w.heap.size w w' := by
  have HK := Lib.hid (fun W => kernel_any f h W hf)
  have HH := Lib.hid (fun W => has_any (f 17) 32 W (hf 17 (by decide)) (.inr (.inr (.inr (.inr (.inr rfl))))))
  rw [hk] at HK
  clear hk
  generalize TR.hs (f 17) 32 = y at HH ⊢
  unfold AR at HK ⊢
  go_enter Try.func16, Try.ntmps16
  go_upto_region 1 with fail
  have L1 := Lib.hid (Bk.new w f h)
  have B1 := Lib.hid (below_one w (.cells (AC f h).toArray 26))
  generalize World.alloc w _ = W1 at L1 B1 ⊢
  have R1 := Lib.hid L1.out.range
  go_wp2_with (first | (refine wpList_load_mid rfl 26 _ rfl w.heap.size 0 rfl (AC f h) _ R1.out Try.underlying26 rfl (by kernel_rfl) ?_) | (go_at_call 18; (with_reducible refine (HK.out _).mono ?_); rintro e w2 ⟨rfl, hb⟩; have B2 := Lib.hid (below_then B1.out hb); have c0 := (L1.out.below hb).cell (k := 17) (by decide); clear hb) | (go_at_call 24; (with_reducible refine (HH.out _).mono ?_); rintro e w3 ⟨rfl, rfl⟩))
  go_ret
  exact ⟨rfl, B2.out⟩
set_option maxHeartbeats 400000 in
theorem single_kernel (f : Nat → Int) (h : Bool) (w : World) (hf : CM.Ok f) (hk : CM.km f = true) :
    Calls Try.prog 16 #[AR f h] w fun e w' => e = .returned (.bool false) ∧ Below w.heap.size w w' := by
  have HK := Lib.hid (fun W => kernel_any f h W hf)
  rw [hk] at HK
  clear hk
  unfold AR at HK ⊢
  go_enter Try.func16, Try.ntmps16
  go_upto_region 1 with fail
  have L1 := Lib.hid (Bk.new w f h)
  have B1 := Lib.hid (below_one w (.cells (AC f h).toArray 26))
  generalize World.alloc w _ = W1 at L1 B1 ⊢
  have R1 := Lib.hid L1.out.range
  go_wp2_with (first | (refine wpList_load_mid rfl 26 _ rfl w.heap.size 0 rfl (AC f h) _ R1.out Try.underlying26 rfl (by kernel_rfl) ?_) | (go_at_call 18; (with_reducible refine (HK.out _).mono ?_); rintro e w2 ⟨rfl, hb⟩; have B2 := Lib.hid (below_then B1.out hb); clear hb))
  go_ret
  exact ⟨rfl, B2.out⟩
theorem single_any (f : Nat → Int) (h : Bool) (w : World) (hf : CM.Ok f) :
    Calls Try.prog 16 #[AR f h] w fun e w' => e = .returned (.bool (TR.sg f)) ∧ Below w.heap.size w w' := by
  unfold TR.sg
  by_cases hk : CM.km f = true
  · rw [hk]; exact single_kernel f h w hf hk
  · rw [show CM.km f = false by simpa using hk]; exact single_user f h w hf (by simpa using hk)
set_option maxHeartbeats 400000 in
theorem rsingle_user (f : Nat → Int) (h : Bool) (w : World) (hf : CM.Ok f) (hk : CM.km f = false) :
    Calls Try.prog 17 #[AR f h] w fun e w' => e = .returned (.bool (TR.hs (f 17) 32)) ∧ Below w.heap.size w w' := by
  have HK := Lib.hid (fun W => rkernel_any f h W hf)
  have HH := Lib.hid (fun W => rhas_any f h 32 W hf (.inr (.inr (.inr (.inr (.inr rfl))))))
  rw [hk] at HK
  clear hk
  generalize TR.hs (f 17) 32 = y at HH ⊢
  unfold AR at HK HH ⊢
  go_enter Try.func17, Try.ntmps17
  go_upto_region 1 with fail
  have L1 := Lib.hid (Bk.new w f h)
  have B1 := Lib.hid (below_one w (.cells (AC f h).toArray 26))
  generalize World.alloc w _ = W1 at L1 B1 ⊢
  have R1 := Lib.hid L1.out.range
  go_wp2_with (first | (refine wpList_load_wanted rfl 26 _ rfl w.heap.size 0 rfl (AC f h) _ R2.out Try.underlying26 rfl (by kernel_rfl) ?_) | (refine wpList_load_mid rfl 26 _ rfl w.heap.size 0 rfl (AC f h) _ R1.out Try.underlying26 rfl (by kernel_rfl) ?_) | (go_at_call 25; (with_reducible refine (HK.out _).mono ?_); rintro e w2 ⟨rfl, hb⟩; have B2 := Lib.hid (below_then B1.out hb); have R2 := Lib.hid (L1.out.below hb).range; clear hb) | (go_at_call 26; (with_reducible refine (HH.out _).mono ?_); rintro e w3 ⟨rfl, hb⟩; have B3 := Lib.hid (below_then B2.out hb); clear hb))
  go_ret
  exact ⟨rfl, B3.out⟩
set_option maxHeartbeats 400000 in
theorem rsingle_kernel (f : Nat → Int) (h : Bool) (w : World) (hf : CM.Ok f) (hk : CM.km f = true) :
    Calls Try.prog 17 #[AR f h] w fun e w' => e = .returned (.bool false) ∧ Below w.heap.size w w' := by
  have HK := Lib.hid (fun W => rkernel_any f h W hf)
  rw [hk] at HK
  clear hk
  unfold AR at HK ⊢
  go_enter Try.func17, Try.ntmps17
  go_upto_region 1 with fail
  have L1 := Lib.hid (Bk.new w f h)
  have B1 := Lib.hid (below_one w (.cells (AC f h).toArray 26))
  generalize World.alloc w _ = W1 at L1 B1 ⊢
  have R1 := Lib.hid L1.out.range
  go_wp2_with (first | (refine wpList_load_mid rfl 26 _ rfl w.heap.size 0 rfl (AC f h) _ R1.out Try.underlying26 rfl (by kernel_rfl) ?_) | (go_at_call 25; (with_reducible refine (HK.out _).mono ?_); rintro e w2 ⟨rfl, hb⟩; have B2 := Lib.hid (below_then B1.out hb); clear hb))
  go_ret
  exact ⟨rfl, B2.out⟩
theorem rsingle_any (f : Nat → Int) (h : Bool) (w : World) (hf : CM.Ok f) :
    Calls Try.prog 17 #[AR f h] w fun e w' => e = .returned (.bool (TR.sg f)) ∧ Below w.heap.size w w' := by
  unfold TR.sg
  by_cases hk : CM.km f = true
  · rw [hk]; exact rsingle_kernel f h w hf hk
  · rw [show CM.km f = false by simpa using hk]; exact rsingle_user f h w hf (by simpa using hk)
end Go.Proofs.Ytfdcnbhnegdlfaa
