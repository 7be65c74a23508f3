/-
  What Count answers, of package csr and of the reference.
-/
import Derived.Test.YtiakoflgcpahgaaWalkF
namespace Go.Proofs.Ytiakoflgcpahgaa
open Go.RowKit S01 S10
theorem ct_due {f : Nat → Int} (h0 : f 25 ≠ 0) (h1 : f 25 ≤ (f 24 + 1) % 4294967296) : CM.ct f = CM.rs (CM.c1 f) 4 := if_pos (decide_eq_true ⟨h0, h1⟩)
theorem ct_not {f : Nat → Int} (h : f 25 = 0 ∨ (f 24 + 1) % 4294967296 < f 25) : CM.ct f = CM.c1 f :=
  if_neg (by rw [show CM.due f = false from decide_eq_false (by omega)]; decide)
theorem c1_cells (f : Nat → Int) : CM.c1 f 24 = (f 24 + 1) % 4294967296 ∧ CM.c1 f 25 = f 25 ∧ CM.c1 f 27 = f 27 := ⟨CM.up_at _ _ _, CM.up_off _ _ (by decide), CM.up_off _ _ (by decide)⟩
theorem rs_four (f : Nat → Int) : CM.rs (CM.c1 f) 4 = CM.up (CM.c1 f) 27 (CM.oq (f 27) 4) := by unfold CM.rs; rw [CM.c1_pend]; rfl
set_option maxHeartbeats 400000 in
theorem rcount_not (f : Nat → Int) (h : Bool) (w : World) (hf : CM.Ok f) (hn : f 25 = 0 ∨ (f 24 + 1) % 4294967296 < f 25) :
    Calls Try.prog 18 #[AR f h] w fun e w' => e = .returned (AR (CM.ct f) h) ∧ Below w.heap.size w w' := by
  rw [ct_not hn]
  have HQ := Lib.hid hn
  clear hn
  obtain ⟨x0, x1⟩ := hf 24 (by decide)
  obtain ⟨y0, y1⟩ := hf 25 (by decide)
  have C := Lib.hid (c1_cells f)
  have E := Lib.hid (show CM.up f 24 ((f 24 + 1) % 4294967296) = CM.c1 f from rfl)
  unfold AR
  go_enter Try.func18, Try.ntmps18
  go_upto_region 1 with fail
  rw [← zero_core]
  have T := Lib.hid (two_new w f (fun _ => 0) h false)
  generalize World.alloc (World.alloc w _) _ = W1 at T ⊢
  have c0 := T.out.1.cell (k := 24) (by omega)
  have f0 := T.out.1.free 24
  go_upto_region 2 with fail
  have H2 := Lib.hid (T.out.2.1.other (s' := w.heap.size) (by omega) 24 (.int .u32 ((f 24 + 1) % 4294967296)))
  have G2 := Lib.hid (E.out ▸ T.out.1.set (k := 24) ((f 24 + 1) % 4294967296) (by omega))
  have HB2 := Lib.hid (T.out.2.2.setCell (p := ⟨w.heap.size, 24, none⟩) (Nat.le_refl _) (.int .u32 ((f 24 + 1) % 4294967296)))
  generalize World.setCell _ _ _ = W2 at H2 G2 HB2 ⊢
  clear c0 f0
  have c1 : W2.cell? ⟨w.heap.size, 24, none⟩ = some (.int .u32 ((f 24 + 1) % 4294967296)) := C.out.1 ▸ G2.out.cell (k := 24) (by omega)
  have c2 : W2.cell? ⟨w.heap.size, 25, none⟩ = some (.int .u32 (f 25)) := C.out.2.1 ▸ G2.out.cell (k := 25) (by omega)
  have u0 : 0 ≤ (f 24 + 1) % 4294967296 := by omega
  have u1 : (f 24 + 1) % 4294967296 < 4294967296 := by omega
  generalize (f 24 + 1) % 4294967296 = u at *
  generalize f 25 = t at *
  have HR4 := Lib.hid G2.out.range
  clear E C
  have hn := HQ.out
  clear HQ
  by_cases ht : t = 0
  · subst ht
    clear hn
    go_upto_region 4 with fail
    clear c1 c2
    go_wp2_with (first | (refine wpList_load_mid rfl 26 _ rfl w.heap.size 0 rfl (AC (CM.c1 f) h) _ HR4.out Try.underlying26 rfl (by kernel_rfl) ?_) | (refine wpList_store_mid rfl 26 _ _ rfl (w.heap.size + 1) 0 (AC (CM.c1 f) h).toArray rfl rfl (H2.out.there' _ _) (AC_size _ _) (AC_all _ _) ?_))
    refine bodyPost_ret (v := .agg (AC (CM.c1 f) h).toArray) (by exact (H2.out.store (CM.c1 f) h).result (fn := Try.f18) (p := 2) rfl _ rfl) rfl ⟨rfl, below_setCells (Nat.le_succ _) _ _ _ HB2.out⟩
  · have z : (t != 0) = true := by simpa using ht
    have d : decide (t ≤ u) = false := by simpa using (by omega : u < t)
    clear hn
    go_upto_region 4 with fail
    clear c1 c2
    go_wp2_with (first | (refine wpList_load_mid rfl 26 _ rfl w.heap.size 0 rfl (AC (CM.c1 f) h) _ HR4.out Try.underlying26 rfl (by kernel_rfl) ?_) | (refine wpList_store_mid rfl 26 _ _ rfl (w.heap.size + 1) 0 (AC (CM.c1 f) h).toArray rfl rfl (H2.out.there' _ _) (AC_size _ _) (AC_all _ _) ?_))
    refine bodyPost_ret (v := .agg (AC (CM.c1 f) h).toArray) (by exact (H2.out.store (CM.c1 f) h).result (fn := Try.f18) (p := 2) rfl _ rfl) rfl ⟨rfl, below_setCells (Nat.le_succ _) _ _ _ HB2.out⟩
set_option maxHeartbeats 400000 in
theorem rcount_due (f : Nat → Int) (h : Bool) (w : World) (hf : CM.Ok f) (h0 : f 25 ≠ 0) (h1 : f 25 ≤ (f 24 + 1) % 4294967296) :
    Calls Try.prog 18 #[AR f h] w fun e w' => e = .returned (AR (CM.ct f) h) ∧ Below w.heap.size w w' := by
  rw [ct_due h0 h1, rs_four]
  have HQ := Lib.hid (And.intro h0 h1)
  clear h0 h1
  obtain ⟨x0, x1⟩ := hf 24 (by decide)
  obtain ⟨y0, y1⟩ := hf 25 (by decide)
  obtain ⟨p0, p1⟩ := hf 27 (by decide)
  have e0 := or_oq (f 27) 4 (hf 27 (by decide)) ⟨by decide, by decide⟩
  generalize CM.oq (f 27) 4 = x at e0 ⊢
  have C := Lib.hid (c1_cells f)
  have E := Lib.hid (show CM.up f 24 ((f 24 + 1) % 4294967296) = CM.c1 f from rfl)
  unfold AR
  go_enter Try.func18, Try.ntmps18
  go_upto_region 1 with fail
  rw [← zero_core]
  have T := Lib.hid (two_new w f (fun _ => 0) h false)
  generalize World.alloc (World.alloc w _) _ = W1 at T ⊢
  have c0 := T.out.1.cell (k := 24) (by omega)
  have f0 := T.out.1.free 24
  go_upto_region 2 with fail
  have H2 := Lib.hid (T.out.2.1.other (s' := w.heap.size) (by omega) 24 (.int .u32 ((f 24 + 1) % 4294967296)))
  have G2 := Lib.hid (E.out ▸ T.out.1.set (k := 24) ((f 24 + 1) % 4294967296) (by omega))
  have HB2 := Lib.hid (T.out.2.2.setCell (p := ⟨w.heap.size, 24, none⟩) (Nat.le_refl _) (.int .u32 ((f 24 + 1) % 4294967296)))
  generalize World.setCell _ _ _ = W2 at H2 G2 HB2 ⊢
  clear c0 f0
  have c1 : W2.cell? ⟨w.heap.size, 24, none⟩ = some (.int .u32 ((f 24 + 1) % 4294967296)) := C.out.1 ▸ G2.out.cell (k := 24) (by omega)
  have c2 : W2.cell? ⟨w.heap.size, 25, none⟩ = some (.int .u32 (f 25)) := C.out.2.1 ▸ G2.out.cell (k := 25) (by omega)
  have c3 : W2.cell? ⟨w.heap.size, 27, none⟩ = some (.int .u32 (f 27)) := C.out.2.2 ▸ G2.out.cell (k := 27) (by omega)
  have f3 := G2.out.free 27
  have u0 : 0 ≤ (f 24 + 1) % 4294967296 := by omega
  have u1 : (f 24 + 1) % 4294967296 < 4294967296 := by omega
  generalize (f 24 + 1) % 4294967296 = u at *
  generalize f 25 = t at *
  generalize f 27 = p at *
  clear E C
  obtain ⟨h0, h1⟩ := HQ.out
  clear HQ
  have z : (t != 0) = true := by simpa using h0
  have z2 : ¬ t = 0 := h0
  have d : decide (t ≤ u) = true := decide_eq_true h1
  clear h0
  go_upto_region 4 with fail
  have H4 := Lib.hid (H2.out.other (s' := w.heap.size) (by omega) 27 (.int .u32 x))
  have G4 := Lib.hid (G2.out.set (k := 27) x (by omega))
  have HB4 := Lib.hid (HB2.out.setCell (p := ⟨w.heap.size, 27, none⟩) (Nat.le_refl _) (.int .u32 x))
  generalize World.setCell _ _ _ = W4 at H4 G4 HB4 ⊢
  have HR4 := Lib.hid G4.out.range
  clear c1 c2 c3 f3
  go_wp2_with (first | (refine wpList_load_mid rfl 26 _ rfl w.heap.size 0 rfl (AC (CM.up (CM.c1 f) 27 x) h) _ HR4.out Try.underlying26 rfl (by kernel_rfl) ?_) | (refine wpList_store_mid rfl 26 _ _ rfl (w.heap.size + 1) 0 (AC (CM.up (CM.c1 f) 27 x) h).toArray rfl rfl (H4.out.there' _ _) (AC_size _ _) (AC_all _ _) ?_))
  refine bodyPost_ret (v := .agg (AC (CM.up (CM.c1 f) 27 x) h).toArray) (by exact (H4.out.store (CM.up (CM.c1 f) 27 x) h).result (fn := Try.f18) (p := 2) rfl _ rfl) rfl ⟨rfl, below_setCells (Nat.le_succ _) _ _ _ HB4.out⟩
theorem rcount_any (f : Nat → Int) (h : Bool) (w : World) (hf : CM.Ok f) :
    Calls Try.prog 18 #[AR f h] w fun e w' => e = .returned (AR (CM.ct f) h) ∧ Below w.heap.size w w' := by
  by_cases h0 : f 25 = 0
  · exact rcount_not f h w hf (.inl h0)
  by_cases h1 : f 25 ≤ (f 24 + 1) % 4294967296
  · exact rcount_due f h w hf h0 h1
  · exact rcount_not f h w hf (.inr (by omega))
set_option maxHeartbeats 400000 in
theorem count_not (f : Nat → Int) (h : Bool) (w : World) (hf : CM.Ok f) (hn : f 25 = 0 ∨ (f 24 + 1) % 4294967296 < f 25) :
    Calls Try.prog 17 #[AR f h] w fun e w' => e = .returned (AR (CM.ct f) h) ∧ Below w.heap.size w w' := by
  rw [ct_not hn]
  have HQ := Lib.hid hn
  clear hn
  obtain ⟨x0, x1⟩ := hf 24 (by decide)
  obtain ⟨y0, y1⟩ := hf 25 (by decide)
  have C := Lib.hid (c1_cells f)
  have E := Lib.hid (show CM.up f 24 ((f 24 + 1) % 4294967296) = CM.c1 f from rfl)
  unfold AR
  go_enter Try.func17, Try.ntmps17
  go_upto_region 1 with fail
  rw [← zero_core]
  have T := Lib.hid (two_new w f (fun _ => 0) h false)
  generalize World.alloc (World.alloc w _) _ = W1 at T ⊢
  have c0 := T.out.1.cell (k := 24) (by omega)
  have f0 := T.out.1.free 24
  go_upto_region 2 with fail
  have H2 := Lib.hid (T.out.2.1.other (s' := w.heap.size) (by omega) 24 (.int .u32 ((f 24 + 1) % 4294967296)))
  have G2 := Lib.hid (E.out ▸ T.out.1.set (k := 24) ((f 24 + 1) % 4294967296) (by omega))
  have HB2 := Lib.hid (T.out.2.2.setCell (p := ⟨w.heap.size, 24, none⟩) (Nat.le_refl _) (.int .u32 ((f 24 + 1) % 4294967296)))
  generalize World.setCell _ _ _ = W2 at H2 G2 HB2 ⊢
  clear c0 f0
  have c1 : W2.cell? ⟨w.heap.size, 24, none⟩ = some (.int .u32 ((f 24 + 1) % 4294967296)) := C.out.1 ▸ G2.out.cell (k := 24) (by omega)
  have c2 : W2.cell? ⟨w.heap.size, 25, none⟩ = some (.int .u32 (f 25)) := C.out.2.1 ▸ G2.out.cell (k := 25) (by omega)
  have u0 : 0 ≤ (f 24 + 1) % 4294967296 := by omega
  have u1 : (f 24 + 1) % 4294967296 < 4294967296 := by omega
  generalize (f 24 + 1) % 4294967296 = u at *
  generalize f 25 = t at *
  have HR4 := Lib.hid G2.out.range
  clear E C
  have hn := HQ.out
  clear HQ
  by_cases ht : t = 0
  · subst ht
    clear hn
    go_wp2_with (first | (refine wpList_load_mid rfl 26 _ rfl w.heap.size 0 rfl (AC (CM.c1 f) h) _ HR4.out Try.underlying26 rfl (by kernel_rfl) ?_) | (refine wpList_store_mid rfl 26 _ _ rfl (w.heap.size + 1) 0 (AC (CM.c1 f) h).toArray rfl rfl (H2.out.there' _ _) (AC_size _ _) (AC_all _ _) ?_))
    refine bodyPost_ret (v := .agg (AC (CM.c1 f) h).toArray) (by exact (H2.out.store (CM.c1 f) h).result (fn := Try.f17) (p := 2) rfl _ rfl) rfl ⟨rfl, below_setCells (Nat.le_succ _) _ _ _ HB2.out⟩
  · have z : (t != 0) = true := by simpa using ht
    have d : decide (t ≤ u) = false := by simpa using (by omega : u < t)
    clear hn
    go_wp2_with (first | (refine wpList_load_mid rfl 26 _ rfl w.heap.size 0 rfl (AC (CM.c1 f) h) _ HR4.out Try.underlying26 rfl (by kernel_rfl) ?_) | (refine wpList_store_mid rfl 26 _ _ rfl (w.heap.size + 1) 0 (AC (CM.c1 f) h).toArray rfl rfl (H2.out.there' _ _) (AC_size _ _) (AC_all _ _) ?_))
    refine bodyPost_ret (v := .agg (AC (CM.c1 f) h).toArray) (by exact (H2.out.store (CM.c1 f) h).result (fn := Try.f17) (p := 2) rfl _ rfl) rfl ⟨rfl, below_setCells (Nat.le_succ _) _ _ _ HB2.out⟩
set_option maxHeartbeats 400000 in
theorem count_due (f : Nat → Int) (h : Bool) (w : World) (hf : CM.Ok f) (h0 : f 25 ≠ 0) (h1 : f 25 ≤ (f 24 + 1) % 4294967296) :
    Calls Try.prog 17 #[AR f h] w fun e w' => e = .returned (AR (CM.ct f) h) ∧ Below w.heap.size w w' := by
  rw [ct_due h0 h1]
  have HQ := Lib.hid (And.intro h0 h1)
  clear h0 h1
  obtain ⟨x0, x1⟩ := hf 24 (by decide)
  obtain ⟨y0, y1⟩ := hf 25 (by decide)
  have HA := Lib.hid (fun W => raise_any (CM.c1 f) h 4 W (CM.c1_ok hf) ⟨by decide, by decide⟩)
  have C := Lib.hid (c1_cells f)
  have E := Lib.hid (show CM.up f 24 ((f 24 + 1) % 4294967296) = CM.c1 f from rfl)
  generalize CM.rs (CM.c1 f) 4 = g at HA ⊢
  unfold AR at HA ⊢
  go_enter Try.func17, Try.ntmps17
  go_upto_region 1 with fail
  rw [← zero_core]
  have T := Lib.hid (two_new w f (fun _ => 0) h false)
  generalize World.alloc (World.alloc w _) _ = W1 at T ⊢
  have c0 := T.out.1.cell (k := 24) (by omega)
  have f0 := T.out.1.free 24
  go_upto_region 2 with fail
  have H2 := Lib.hid (T.out.2.1.other (s' := w.heap.size) (by omega) 24 (.int .u32 ((f 24 + 1) % 4294967296)))
  have G2 := Lib.hid (E.out ▸ T.out.1.set (k := 24) ((f 24 + 1) % 4294967296) (by omega))
  have HB2 := Lib.hid (T.out.2.2.setCell (p := ⟨w.heap.size, 24, none⟩) (Nat.le_refl _) (.int .u32 ((f 24 + 1) % 4294967296)))
  generalize World.setCell _ _ _ = W2 at H2 G2 HB2 ⊢
  clear c0 f0
  have c1 : W2.cell? ⟨w.heap.size, 24, none⟩ = some (.int .u32 ((f 24 + 1) % 4294967296)) := C.out.1 ▸ G2.out.cell (k := 24) (by omega)
  have c2 : W2.cell? ⟨w.heap.size, 25, none⟩ = some (.int .u32 (f 25)) := C.out.2.1 ▸ G2.out.cell (k := 25) (by omega)
  have u0 : 0 ≤ (f 24 + 1) % 4294967296 := by omega
  have u1 : (f 24 + 1) % 4294967296 < 4294967296 := by omega
  generalize (f 24 + 1) % 4294967296 = u at *
  generalize f 25 = t at *
  clear E C
  obtain ⟨h0, h1⟩ := HQ.out
  clear HQ
  have z : (t != 0) = true := by simpa using h0
  have z2 : ¬ t = 0 := h0
  have d : decide (t ≤ u) = true := decide_eq_true h1
  clear h0
  have HR4 := Lib.hid G2.out.range
  go_wp2_with (first | (refine wpList_load_mid rfl 26 _ rfl w.heap.size 0 rfl (AC (CM.c1 f) h) _ HR4.out Try.underlying26 rfl (by kernel_rfl) ?_) | (go_at_call 19; (with_reducible refine (HA.out _).mono ?_); rintro e w3 ⟨rfl, hb⟩; have HB3 := Lib.hid (below_then HB2.out hb); have H3 := Lib.hid (H2.out.below hb); clear hb c1 c2) | (refine wpList_store_mid rfl 26 _ _ rfl (w.heap.size + 1) 0 (AC g h).toArray rfl rfl (H3.out.there' _ _) (AC_size _ _) (AC_all _ _) ?_))
  refine bodyPost_ret (v := .agg (AC g h).toArray) (by exact (H3.out.store g h).result (fn := Try.f17) (p := 2) rfl _ rfl) rfl ⟨rfl, below_setCells (Nat.le_succ _) _ _ _ HB3.out⟩
theorem count_any (f : Nat → Int) (h : Bool) (w : World) (hf : CM.Ok f) :
    Calls Try.prog 17 #[AR f h] w fun e w' => e = .returned (AR (CM.ct f) h) ∧ Below w.heap.size w w' := by
  by_cases h0 : f 25 = 0
  · exact count_not f h w hf (.inl h0)
  by_cases h1 : f 25 ≤ (f 24 + 1) % 4294967296
  · exact count_due f h w hf h0 h1
  · exact count_not f h w hf (.inr (by omega))
end Go.Proofs.Ytiakoflgcpahgaa
