/-
  What Take answers, of package trap and of the reference.
-/
import Derived.Test.YtfdcnbhnegdlfaaWalkA
namespace Go.Proofs.Ytfdcnbhnegdlfaa
open Go.RowKit S01 S10 S11
theorem and_31 (c : Int) : bits .and .u32 (c % 4294967296) 31 = c % 32 := by
  have hw : CM.Wd (c % 4294967296) := by unfold CM.Wd; omega
  rw [and_an _ 31 hw ⟨by decide, by decide⟩, TR.an_31 _ hw]
  omega
theorem wrap_64 (c : Int) : IntKind.u64.wrap c % 4294967296 = c % 4294967296 := by
  have h : IntKind.u64.wrap c = c % 18446744073709551616 := rfl
  rw [h]; omega
theorem tk_def (f : Nat → Int) (c v e : Int) : CM.up (CM.up (CM.up (CM.up (CM.up f 17 (TR.ts (f 17))) 18 (c % 32)) 19 v) 20 e) 0 (f 21) = TR.tk f c v e := rfl
theorem tk_cell (f : Nat → Int) (s c v e : Int) : CM.up (CM.up (CM.up (CM.up f 17 s) 18 c) 19 v) 20 e 21 = f 21 := rfl
set_option maxHeartbeats 800000 in
theorem take_any (f : Nat → Int) (h : Bool) (c v e : Int) (w : World) (hf : CM.Ok f) (_hv : CM.Wd v) (_he : CM.Wd e) :
    Calls Try.prog 7 #[AR f h, .int .i64 c, .int .u32 v, .int .u32 e] w fun x w' => x = .returned (AR (TR.tk f c v e) h) ∧ Below w.heap.size w w' := by
  have x0 := hf 17 (by decide)
  have HK := Lib.hid (fun W => kernel_any f h W hf)
  have HE := Lib.hid (fun W => enabled_any f h W hf)
  have HM := Lib.hid (fun W => masked_any 1 W)
  have H1 := Lib.hid (fun W => put_any (f 17) 4 (CM.km f) W x0 (.inr (.inr (.inl rfl))))
  have x1 := TR.pu_bd (f 17) 4 (CM.km f) x0 (.inr (.inr (.inl rfl)))
  have H2 := Lib.hid (fun W => put_any _ 8 (TR.hs (f 17) 2) W x1 (.inr (.inr (.inr (.inl rfl)))))
  have x2 := TR.pu_bd _ 8 (TR.hs (f 17) 2) x1 (.inr (.inr (.inr (.inl rfl))))
  have H3 := Lib.hid (fun W => put_any _ 1 true W x2 (.inl rfl))
  have x3 := TR.pu_bd _ 1 true x2 (.inl rfl)
  have H4 := Lib.hid (fun W => put_any _ 2 false W x3 (.inr (.inl rfl)))
  have HT := Lib.hid (tk_def f c v e)
  have HS : Hid (TR.pu (TR.pu (TR.pu (TR.pu (f 17) 4 (CM.km f)) 8 (TR.hs (f 17) 2)) 1 true) 2 false = TR.ts (f 17)) := Lib.hid (by rw [← TR.hs_km]; rfl)
  have e31 := and_31 c
  rw [show CM.mk 1 = 31 from rfl] at HM
  generalize TR.pu (TR.pu (TR.pu (TR.pu (f 17) 4 (CM.km f)) 8 (TR.hs (f 17) 2)) 1 true) 2 false = s4 at H4 HS
  generalize TR.pu (TR.pu (TR.pu (f 17) 4 (CM.km f)) 8 (TR.hs (f 17) 2)) 1 true = s3 at H3 H4
  generalize TR.pu (TR.pu (f 17) 4 (CM.km f)) 8 (TR.hs (f 17) 2) = s2 at H2 H3
  generalize TR.pu (f 17) 4 (CM.km f) = s1 at H1 H2
  rw [← HS.out] at HT
  generalize TR.tk f c v e = g at HT ⊢
  generalize TR.hs (f 17) 2 = en at HE H2
  generalize CM.km f = k at HK H1
  clear HS x0 x1 x2 x3
  unfold AR at HK HE ⊢
  go_enter Try.func7, Try.ntmps7
  go_upto_region 1 with fail
  rw [← zero_core]
  have T := Lib.hid (two_new w f (fun _ => 0) h false)
  generalize World.alloc (World.alloc w _) _ = W1 at T ⊢
  have c0 := T.out.1.cell (k := 17) (by omega)
  go_upto_region 2 with fail
  have R1 := Lib.hid T.out.1.range
  go_upto_region 3 with (first | (refine wpList_load_mid rfl 26 _ rfl w.heap.size 0 rfl (AC f h) _ R1.out Try.underlying26 rfl (by kernel_rfl) ?_) | (go_at_call 18; (with_reducible refine (HK.out _).mono ?_); rintro e w2 ⟨rfl, hb⟩; have B2 := Lib.hid (below_then T.out.2.2 hb); have L2 := Lib.hid (T.out.1.below hb); have M2 := Lib.hid (T.out.2.1.below hb); clear hb) | (go_at_call 19; (with_reducible refine (H1.out _).mono ?_); rintro e w3 ⟨rfl, rfl⟩))
  clear c0
  have R2 := Lib.hid L2.out.range
  go_upto_region 4 with (first | (refine wpList_load_mid rfl 26 _ rfl w.heap.size 0 rfl (AC f h) _ R2.out Try.underlying26 rfl (by kernel_rfl) ?_) | (go_at_call 20; (with_reducible refine (HE.out _).mono ?_); rintro e w3 ⟨rfl, hb⟩; have B3 := Lib.hid (below_then B2.out hb); have L3 := Lib.hid (L2.out.below hb); have M3 := Lib.hid (M2.out.below hb); clear hb) | (go_at_call 19; (with_reducible refine (H2.out _).mono ?_); rintro e w4 ⟨rfl, rfl⟩))
  go_upto_region 5 with (go_at_call 19; (with_reducible refine (H3.out _).mono ?_); rintro e w4 ⟨rfl, rfl⟩)
  go_upto_region 6 with (go_at_call 19; (with_reducible refine (H4.out _).mono ?_); rintro e w4 ⟨rfl, rfl⟩)
  have c1 := L3.out.cell (k := 17) (by decide)
  have f1 := L3.out.free 17
  go_upto_region 7 with fail
  clear c1 f1
  have L4 := Lib.hid (L3.out.set (k := 17) s4 (by decide))
  have M4 := Lib.hid (M3.out.other (s' := w.heap.size) (by omega) 17 (.int .u32 s4))
  have B4 := Lib.hid (B3.out.setCell (p := ⟨w.heap.size, 17, none⟩) (Nat.le_refl _) (.int .u32 s4))
  generalize World.setCell _ _ _ = W4 at L4 M4 B4 ⊢
  go_upto_region 8 with (go_at_call 21; (with_reducible refine (HM.out _).mono ?_); rintro e w5 ⟨rfl, hb⟩; have B5 := Lib.hid (below_then B4.out hb); have L5 := Lib.hid (L4.out.below hb); have M5 := Lib.hid (M4.out.below hb); clear hb; have c2 := L5.out.cell (k := 18) (by decide); have f2 := L5.out.free 18)
  clear c2 f2
  have L6 := Lib.hid (L5.out.set (k := 18) (c % 32) (by decide))
  have M6 := Lib.hid (M5.out.other (s' := w.heap.size) (by omega) 18 (.int .u32 (c % 32)))
  have B6 := Lib.hid (B5.out.setCell (p := ⟨w.heap.size, 18, none⟩) (Nat.le_refl _) (.int .u32 (c % 32)))
  generalize World.setCell _ _ _ = W6 at L6 M6 B6 ⊢
  have c3 := L6.out.cell (k := 19) (by decide)
  have f3 := L6.out.free 19
  go_upto_region 9 with fail
  clear c3 f3
  have L7 := Lib.hid (L6.out.set (k := 19) v (by decide))
  have M7 := Lib.hid (M6.out.other (s' := w.heap.size) (by omega) 19 (.int .u32 v))
  have B7 := Lib.hid (B6.out.setCell (p := ⟨w.heap.size, 19, none⟩) (Nat.le_refl _) (.int .u32 v))
  generalize World.setCell _ _ _ = W7 at L7 M7 B7 ⊢
  have c4 := L7.out.cell (k := 20) (by decide)
  have f4 := L7.out.free 20
  go_upto_region 10 with fail
  clear c4 f4
  have L8 := Lib.hid (L7.out.set (k := 20) e (by decide))
  have M8 := Lib.hid (M7.out.other (s' := w.heap.size) (by omega) 20 (.int .u32 e))
  have B8 := Lib.hid (B7.out.setCell (p := ⟨w.heap.size, 20, none⟩) (Nat.le_refl _) (.int .u32 e))
  generalize World.setCell _ _ _ = W8 at L8 M8 B8 ⊢
  have c5 := L8.out.cell (k := 21) (by decide)
  rw [tk_cell] at c5
  have c6 := L8.out.cell (k := 0) (by decide)
  have f6 := L8.out.free 0
  go_upto_region 11 with fail
  clear c5 c6 f6
  have L9 := Lib.hid (HT.out ▸ L8.out.set (k := 0) (f 21) (by decide))
  have M9 := Lib.hid (M8.out.other (s' := w.heap.size) (by omega) 0 (.int .u32 (f 21)))
  have B9 := Lib.hid (B8.out.setCell (p := ⟨w.heap.size, 0, none⟩) (Nat.le_refl _) (.int .u32 (f 21)))
  generalize World.setCell _ _ _ = W9 at L9 M9 B9 ⊢
  have R9 := Lib.hid L9.out.range
  go_wp2_with (first | (refine wpList_load_mid rfl 26 _ rfl w.heap.size 0 rfl (AC g h) _ R9.out Try.underlying26 rfl (by kernel_rfl) ?_) | (refine wpList_store_mid rfl 26 _ _ rfl (w.heap.size + 1) 0 (AC g h).toArray rfl rfl (M9.out.there' _ _) (AC_size _ _) (AC_all _ _) ?_))
  refine bodyPost_ret (v := .agg (AC g h).toArray) (by exact (M9.out.store g h).result (fn := Try.f7) (p := 8) rfl _ rfl) rfl ⟨rfl, below_setCells (Nat.le_succ _) _ _ _ B9.out⟩
set_option maxHeartbeats 800000 in
theorem rtake_any (f : Nat → Int) (h : Bool) (c v e : Int) (w : World) (hf : CM.Ok f) (_hv : CM.Wd v) (_he : CM.Wd e) :
    Calls Try.prog 8 #[AR f h, .int .i64 c, .int .u32 v, .int .u32 e] w fun x w' => x = .returned (AR (TR.tk f c v e) h) ∧ Below w.heap.size w w' := by
  have x0 := hf 17 (by decide)
  have a1 : (bits .and .u32 (f 17) 1 != 0) = CM.km f := (and_hs _ _ x0 (.inl rfl)).trans (TR.hs_km f)
  have a2 := and_hs (f 17) 2 x0 (.inr (.inl rfl))
  have HM := Lib.hid (fun W => rmasked_any 1 W)
  have H1 := Lib.hid (fun W => rput_any (f 17) 4 (CM.km f) W x0 (.inr (.inr (.inl rfl))))
  have x1 := TR.pu_bd (f 17) 4 (CM.km f) x0 (.inr (.inr (.inl rfl)))
  have H2 := Lib.hid (fun W => rput_any _ 8 (TR.hs (f 17) 2) W x1 (.inr (.inr (.inr (.inl rfl)))))
  have x2 := TR.pu_bd _ 8 (TR.hs (f 17) 2) x1 (.inr (.inr (.inr (.inl rfl))))
  have H3 := Lib.hid (fun W => rput_any _ 1 true W x2 (.inl rfl))
  have x3 := TR.pu_bd _ 1 true x2 (.inl rfl)
  have H4 := Lib.hid (fun W => rput_any _ 2 false W x3 (.inr (.inl rfl)))
  have HT := Lib.hid (tk_def f c v e)
  have HS : Hid (TR.pu (TR.pu (TR.pu (TR.pu (f 17) 4 (CM.km f)) 8 (TR.hs (f 17) 2)) 1 true) 2 false = TR.ts (f 17)) := Lib.hid (by rw [← TR.hs_km]; rfl)
  have e31 : bits .and .u32 (IntKind.u64.wrap c % 4294967296) 31 = c % 32 := by rw [wrap_64]; exact and_31 c
  rw [show CM.mk 1 = 31 from rfl] at HM
  generalize TR.pu (TR.pu (TR.pu (TR.pu (f 17) 4 (CM.km f)) 8 (TR.hs (f 17) 2)) 1 true) 2 false = s4 at H4 HS
  generalize TR.pu (TR.pu (TR.pu (f 17) 4 (CM.km f)) 8 (TR.hs (f 17) 2)) 1 true = s3 at H3 H4
  generalize TR.pu (TR.pu (f 17) 4 (CM.km f)) 8 (TR.hs (f 17) 2) = s2 at H2 H3
  generalize TR.pu (f 17) 4 (CM.km f) = s1 at H1 H2
  rw [← HS.out] at HT
  generalize TR.tk f c v e = g at HT ⊢
  generalize TR.hs (f 17) 2 = en at a2 H2
  generalize CM.km f = k at a1 H1
  obtain ⟨y0, y1⟩ := x0
  clear HS x1 x2 x3
  unfold AR
  go_enter Try.func8, Try.ntmps8
  go_upto_region 1 with fail
  rw [← zero_core]
  have T := Lib.hid (two_new w f (fun _ => 0) h false)
  generalize World.alloc (World.alloc w _) _ = W1 at T ⊢
  have c0 := T.out.1.cell (k := 17) (by omega)
  go_upto_region 2 with fail
  clear c0
  go_upto_region 3 with (go_at_call 22; (with_reducible refine (H1.out _).mono ?_); rintro e w3 ⟨rfl, rfl⟩)
  go_upto_region 4 with (go_at_call 22; (with_reducible refine (H2.out _).mono ?_); rintro e w3 ⟨rfl, rfl⟩)
  go_upto_region 5 with (go_at_call 22; (with_reducible refine (H3.out _).mono ?_); rintro e w3 ⟨rfl, rfl⟩)
  go_upto_region 6 with (go_at_call 22; (with_reducible refine (H4.out _).mono ?_); rintro e w3 ⟨rfl, rfl⟩)
  have L3 := Lib.hid T.out.1
  have M3 := Lib.hid T.out.2.1
  have B3 := Lib.hid T.out.2.2
  have c1 := L3.out.cell (k := 17) (by decide)
  have f1 := L3.out.free 17
  go_upto_region 7 with fail
  clear c1 f1
  have L4 := Lib.hid (L3.out.set (k := 17) s4 (by decide))
  have M4 := Lib.hid (M3.out.other (s' := w.heap.size) (by omega) 17 (.int .u32 s4))
  have B4 := Lib.hid (B3.out.setCell (p := ⟨w.heap.size, 17, none⟩) (Nat.le_refl _) (.int .u32 s4))
  generalize World.setCell _ _ _ = W4 at L4 M4 B4 ⊢
  go_upto_region 8 with (go_at_call 23; (with_reducible refine (HM.out _).mono ?_); rintro e w5 ⟨rfl, rfl⟩; have B5 := Lib.hid B4.out; have L5 := Lib.hid L4.out; have M5 := Lib.hid M4.out; have c2 := L5.out.cell (k := 18) (by decide); have f2 := L5.out.free 18)
  clear c2 f2
  have L6 := Lib.hid (L5.out.set (k := 18) (c % 32) (by decide))
  have M6 := Lib.hid (M5.out.other (s' := w.heap.size) (by omega) 18 (.int .u32 (c % 32)))
  have B6 := Lib.hid (B5.out.setCell (p := ⟨w.heap.size, 18, none⟩) (Nat.le_refl _) (.int .u32 (c % 32)))
  generalize World.setCell _ _ _ = W6 at L6 M6 B6 ⊢
  have c3 := L6.out.cell (k := 19) (by decide)
  have f3 := L6.out.free 19
  go_upto_region 9 with fail
  clear c3 f3
  have L7 := Lib.hid (L6.out.set (k := 19) v (by decide))
  have M7 := Lib.hid (M6.out.other (s' := w.heap.size) (by omega) 19 (.int .u32 v))
  have B7 := Lib.hid (B6.out.setCell (p := ⟨w.heap.size, 19, none⟩) (Nat.le_refl _) (.int .u32 v))
  generalize World.setCell _ _ _ = W7 at L7 M7 B7 ⊢
  have c4 := L7.out.cell (k := 20) (by decide)
  have f4 := L7.out.free 20
  go_upto_region 10 with fail
  clear c4 f4
  have L8 := Lib.hid (L7.out.set (k := 20) e (by decide))
  have M8 := Lib.hid (M7.out.other (s' := w.heap.size) (by omega) 20 (.int .u32 e))
  have B8 := Lib.hid (B7.out.setCell (p := ⟨w.heap.size, 20, none⟩) (Nat.le_refl _) (.int .u32 e))
  generalize World.setCell _ _ _ = W8 at L8 M8 B8 ⊢
  have c5 := L8.out.cell (k := 21) (by decide)
  rw [tk_cell] at c5
  have c6 := L8.out.cell (k := 0) (by decide)
  have f6 := L8.out.free 0
  go_upto_region 11 with fail
  clear c5 c6 f6
  have L9 := Lib.hid (HT.out ▸ L8.out.set (k := 0) (f 21) (by decide))
  have M9 := Lib.hid (M8.out.other (s' := w.heap.size) (by omega) 0 (.int .u32 (f 21)))
  have B9 := Lib.hid (B8.out.setCell (p := ⟨w.heap.size, 0, none⟩) (Nat.le_refl _) (.int .u32 (f 21)))
  generalize World.setCell _ _ _ = W9 at L9 M9 B9 ⊢
  have R9 := Lib.hid L9.out.range
  go_wp2_with (first | (refine wpList_load_mid rfl 26 _ rfl w.heap.size 0 rfl (AC g h) _ R9.out Try.underlying26 rfl (by kernel_rfl) ?_) | (refine wpList_store_mid rfl 26 _ _ rfl (w.heap.size + 1) 0 (AC g h).toArray rfl rfl (M9.out.there' _ _) (AC_size _ _) (AC_all _ _) ?_))
  refine bodyPost_ret (v := .agg (AC g h).toArray) (by exact (M9.out.store g h).result (fn := Try.f8) (p := 8) rfl _ rfl) rfl ⟨rfl, below_setCells (Nat.le_succ _) _ _ _ B9.out⟩
end Go.Proofs.Ytfdcnbhnegdlfaa
