/-
  The chapter's examples hold; nothing that was there is changed.
-/
import Derived.Test.YtfdcnbhnegdlfaaWalkF
import Derived.Test.YtfdcnbhnegdlfaaWalkC
namespace Go.Proofs.Ytfdcnbhnegdlfaa
open Go.RowKit S01 S10 S11
theorem e0_def : CM.up (CM.up (CM.up (CM.up (fun _ => 0) 17 2) 21 64) 27 6) 26 4 = TR.e0 := rfl
set_option maxHeartbeats 1600000 in
theorem awake_any (w : World) : Calls Try.prog 9 #[] w fun e w' => e = .returned (.bool true) ∧ Below w.heap.size w w' := by
  have z : CM.Wd 0 := ⟨by decide, by decide⟩
  have z12 : CM.Wd 12 := ⟨by decide, by decide⟩
  have HT := Lib.hid (fun W => take_any TR.e0 false 7 0 12 W TR.e0_ok z z12)
  have HP := Lib.hid (fun W => pend_any TR.e0 false W TR.e0_ok)
  have HQ := Lib.hid (fun W => pend_any (TR.tk TR.e0 7 0 12) false W (TR.tk_ok TR.e0_ok 7 z z12))
  obtain ⟨x1, x2, x3, x4⟩ := TR.e0_facts
  have X1 := Lib.hid x1
  have X2 := Lib.hid x2
  rw [x3] at HP
  rw [x4] at HQ
  have E0 := Lib.hid e0_def
  unfold AR at HT HP HQ
  clear x1 x2 x3 x4 z z12
  generalize TR.tk TR.e0 7 0 12 = g at HT HQ X1 X2
  generalize TR.e0 = x0 at HT HP E0
  go_enter Try.func9, Try.ntmps9
  go_upto_region 2 with (refine wpList_store_mid rfl 26 _ _ rfl w.heap.size 0 (AC (fun _ => 0) false).toArray rfl rfl ((Bk.new w (fun _ => 0) false).there' _ _) (AC_size _ _) (AC_all _ _) ?_)
  rw [← zero_core]
  have K1 := Lib.hid ((Bk.new w (fun _ => 0) false).store (fun _ => 0) false)
  have B1 := Lib.hid (below_setCells (Nat.le_refl _) (AC (fun _ => 0) false) 0 _ (below_one w (.cells (AC (fun _ => 0) false).toArray 26)))
  generalize World.setCells _ _ _ _ = W1 at K1 B1 ⊢
  have f1 := K1.out.free 17
  have f2 := K1.out.free 21
  have f3 := K1.out.free 27
  have f4 := K1.out.free 26
  have c1 := K1.out.cell (k := 17) (by decide)
  have c2 := K1.out.cell (k := 21) (by decide)
  have c3 := K1.out.cell (k := 27) (by decide)
  have c4 := K1.out.cell (k := 26) (by decide)
  go_upto_region 3 with fail
  have K2 : Hid (Bk ((((W1.setCell ⟨w.heap.size, 17, none⟩ (.int .u32 2)).setCell ⟨w.heap.size, 21, none⟩ (.int .u32 64)).setCell ⟨w.heap.size, 27, none⟩ (.int .u32 6)).setCell ⟨w.heap.size, 26, none⟩ (.int .u32 4)) w.heap.size x0 false) := Lib.hid (E0.out ▸ (((K1.out.set (k := 17) 2 (by decide)).set (k := 21) 64 (by decide)).set (k := 27) 6 (by decide)).set (k := 26) 4 (by decide))
  have B2 := Lib.hid ((((B1.out.setCell (p := ⟨w.heap.size, 17, none⟩) (Nat.le_refl _) (.int .u32 2)).setCell (p := ⟨w.heap.size, 21, none⟩) (Nat.le_refl _) (.int .u32 64)).setCell (p := ⟨w.heap.size, 27, none⟩) (Nat.le_refl _) (.int .u32 6)).setCell (p := ⟨w.heap.size, 26, none⟩) (Nat.le_refl _) (.int .u32 4))
  generalize World.setCell _ _ _ = W2 at K2 B2 ⊢
  clear f1 f2 f3 f4 c1 c2 c3 c4 K1 B1 E0
  have R2 := Lib.hid K2.out.range
  go_upto_region 4 with (first | (refine wpList_load_mid rfl 26 _ rfl w.heap.size 0 rfl (AC x0 false) _ R2.out Try.underlying26 rfl (by kernel_rfl) ?_) | (go_at_call 7; (with_reducible refine (HT.out _).mono ?_); rintro e w3 ⟨rfl, hb⟩; have HB3 := Lib.hid hb; clear hb; have hS := store_new w3 g false; have hl := AC_len g false))
  clear hS hl
  have K3 := Lib.hid (Bk.new w3 g false)
  have L3 := Lib.hid ((K2.out.below HB3.out).more (.cells (AC g false).toArray 26))
  have B3 := Lib.hid (below_then (below_then B2.out HB3.out) (below_one w3 (.cells (AC g false).toArray 26)))
  generalize World.alloc _ _ = W3 at K3 L3 B3 ⊢
  generalize w3.heap.size = s3 at *
  have R3 := Lib.hid L3.out.range
  have c5 := K3.out.cell (k := 0) (by decide)
  have c6 := K3.out.cell (k := 17) (by decide)
  rw [X1.out] at c5
  rw [X2.out] at c6
  go_wp2_with (first | (refine wpList_load_wanted rfl 26 _ rfl s3 0 rfl (AC g false) _ R4.out Try.underlying26 rfl (by kernel_rfl) ?_) | (refine wpList_load_wanted rfl 26 _ rfl w.heap.size 0 rfl (AC x0 false) _ R3.out Try.underlying26 rfl (by kernel_rfl) ?_) | (go_at_call 12; (with_reducible refine (HP.out _).mono ?_); rintro e w4 ⟨rfl, hb⟩; have HB4 := Lib.hid (below_then B3.out hb); have R4 := Lib.hid (K3.out.below hb).range; clear hb) | (go_at_call 12; (with_reducible refine (HQ.out _).mono ?_); rintro e w5 ⟨rfl, hb⟩; have HB5 := Lib.hid (below_then HB4.out hb); clear hb))
  go_ret
  exact ⟨rfl, HB5.out⟩
end Go.Proofs.Ytfdcnbhnegdlfaa
