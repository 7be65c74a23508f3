/-
  What Raise and Count answer, of package csr and of the reference.
-/
import Derived.Test.YtiakoflgcpahgaaWalkD
import Derived.Deep.RegionWith
namespace Go.Proofs.Ytiakoflgcpahgaa
open Go.RowKit S01 S10
set_option maxHeartbeats 400000 in
theorem rraise_any (f : Nat → Int) (h : Bool) (l : Int) (w : World) (hf : CM.Ok f) (hl : CM.Wd l) :
    Calls Try.prog 20 #[AR f h, .int .u32 l] w fun e w' => e = .returned (AR (CM.rs f l) h) ∧ Below w.heap.size w w' := by
  unfold CM.rs
  obtain ⟨l0, l1⟩ := hl
  obtain ⟨x0, x1⟩ := hf 27 (by decide)
  have e0 := or_oq (f 27) (l % 8) (hf 27 (by decide)) (by unfold CM.Wd; omega)
  generalize CM.oq (f 27) (l % 8) = x at e0 ⊢
  unfold AR
  go_enter Try.func20, Try.ntmps20
  go_upto_region 1 with fail
  rw [← zero_core]
  have T := Lib.hid (two_new w f (fun _ => 0) h false)
  generalize World.alloc (World.alloc w _) _ = W1 at T ⊢
  have c0 := T.out.1.cell (k := 27) (by omega)
  have f0 := T.out.1.free 27
  go_upto_region 2 with fail
  have H4 := Lib.hid (T.out.2.1.other (s' := w.heap.size) (by omega) 27 (.int .u32 x))
  have G4 := Lib.hid (T.out.1.set (k := 27) x (by omega))
  have HB4 := Lib.hid (T.out.2.2.setCell (p := ⟨w.heap.size, 27, none⟩) (Nat.le_refl _) (.int .u32 x))
  generalize World.setCell _ _ _ = W4 at H4 G4 HB4 ⊢
  have HR4 := Lib.hid G4.out.range
  clear c0 f0
  go_wp2_with (first | (refine wpList_load_mid rfl 26 _ rfl w.heap.size 0 rfl (AC (CM.up f 27 x) h) _ HR4.out Try.underlying26 rfl (by kernel_rfl) ?_) | (refine wpList_store_mid rfl 26 _ _ rfl (w.heap.size + 1) 0 (AC (CM.up f 27 x) h).toArray rfl rfl (H4.out.there' _ _) (AC_size _ _) (AC_all _ _) ?_))
  refine bodyPost_ret (v := .agg (AC (CM.up f 27 x) h).toArray) (by exact (H4.out.store (CM.up f 27 x) h).result (fn := Try.f20) (p := 4) rfl _ rfl) rfl ⟨rfl, below_setCells (Nat.le_succ _) _ _ _ HB4.out⟩
theorem seven_of (l : Int) (h0 : 0 ≤ l) (h1 : l < 4294967296) : bits .and .u32 l 7 = l % 8 := (and_an l 7 ⟨h0, h1⟩ ⟨by decide, by decide⟩).trans (CM.an_seven l ⟨h0, h1⟩)
set_option maxHeartbeats 400000 in
theorem raise_any (f : Nat → Int) (h : Bool) (l : Int) (w : World) (hf : CM.Ok f) (hl : CM.Wd l) :
    Calls Try.prog 19 #[AR f h, .int .u32 l] w fun e w' => e = .returned (AR (CM.rs f l) h) ∧ Below w.heap.size w w' := by
  unfold CM.rs
  obtain ⟨l0, l1⟩ := hl
  obtain ⟨x0, x1⟩ := hf 27 (by decide)
  have HM := Lib.hid (fun W => masked_any 10 W)
  rw [CM.mk_ten] at HM
  have e1 := seven_of l l0 l1
  have e0 := or_oq (f 27) (l % 8) (hf 27 (by decide)) (by unfold CM.Wd; omega)
  generalize CM.oq (f 27) (l % 8) = x at e0 ⊢
  unfold AR
  go_enter Try.func19, Try.ntmps19
  go_upto_region 1 with fail
  rw [← zero_core]
  have T := Lib.hid (two_new w f (fun _ => 0) h false)
  generalize World.alloc (World.alloc w _) _ = W1 at T ⊢
  have c0 := T.out.1.cell (k := 27) (by omega)
  have f0 := T.out.1.free 27
  go_region_with (first | (go_at_call 12; (with_reducible refine (HM.out _).mono ?_); rintro e w3 ⟨rfl, hb⟩; have G3 := Lib.hid (T.out.1.drew.below hb); have H3 := Lib.hid (T.out.2.1.drew.below hb); have HB3 := Lib.hid (below_then T.out.2.2.drew hb); clear hb c0 f0; have c1 := G3.out.cell (k := 27) (by omega); have f1 := G3.out.free 27))
  all_goals
    have H4 := Lib.hid (H3.out.other (s' := w.heap.size) (by omega) 27 (.int .u32 x))
    have G4 := Lib.hid (G3.out.set (k := 27) x (by omega))
    have HB4 := Lib.hid (HB3.out.setCell (p := ⟨w.heap.size, 27, none⟩) (Nat.le_refl _) (.int .u32 x))
    generalize World.setCell _ _ _ = W4 at H4 G4 HB4 ⊢
    have HR4 := Lib.hid G4.out.range
    clear c1 f1
    go_wp2_with (first | (refine wpList_load_mid rfl 26 _ rfl w.heap.size 0 rfl (AC (CM.up f 27 x) h) _ HR4.out Try.underlying26 rfl (by kernel_rfl) ?_) | (refine wpList_store_mid rfl 26 _ _ rfl (w.heap.size + 1) 0 (AC (CM.up f 27 x) h).toArray rfl rfl (H4.out.there' _ _) (AC_size _ _) (AC_all _ _) ?_))
    refine bodyPost_ret (v := .agg (AC (CM.up f 27 x) h).toArray) (by exact (H4.out.store (CM.up f 27 x) h).result (fn := Try.f19) (p := 4) rfl _ rfl) rfl ⟨rfl, below_setCells (Nat.le_succ _) _ _ _ HB4.out⟩
end Go.Proofs.Ytiakoflgcpahgaa
