/-
  What Return answers, of package trap and of the reference.
-/
import Derived.Test.YtfdcnbhnegdlfaaWalkB
namespace Go.Proofs.Ytfdcnbhnegdlfaa
open Go.RowKit S01 S10 S11
theorem rg_def (f : Nat → Int) : CM.up (CM.up f 17 (TR.us (f 17))) 0 (f 20) = TR.rg f := rfl
theorem rg_cell (f : Nat → Int) (s : Int) : CM.up f 17 s 20 = f 20 := rfl
set_option maxHeartbeats 400000 in
theorem ret_bad (f : Nat → Int) (h : Bool) (w : World) (hf : CM.Ok f) (hk : CM.km f = false) :
    Calls Try.prog 10 #[AR f h] w fun x w' => x = .returned (.tuple #[AR (fun _ => 0) false, .int .i64 8]) ∧ Below w.heap.size w w' := by
  have HK := Lib.hid (fun W => kernel_any f h W hf)
  rw [hk] at HK
  clear hk
  unfold AR at HK ⊢
  go_enter Try.func10, Try.ntmps10
  go_upto_region 1 with fail
  rw [← zero_core]
  have T := Lib.hid (two_new w f (fun _ => 0) h false)
  generalize World.alloc (World.alloc w _) _ = W1 at T ⊢
  have R1 := Lib.hid T.out.1.range
  go_wp2_with (first | (refine wpList_load_mid rfl 26 _ rfl w.heap.size 0 rfl (AC f h) _ R1.out Try.underlying26 rfl (by kernel_rfl) ?_) | (go_at_call 18; (with_reducible refine (HK.out _).mono ?_); rintro e w2 ⟨rfl, hb⟩; have B2 := Lib.hid (below_then T.out.2.2 hb); have M2 := Lib.hid (T.out.2.1.below hb); clear hb) | (refine wpList_store_mid rfl 26 _ _ rfl (w.heap.size + 1) 0 (AC (fun _ => 0) false).toArray rfl rfl (M2.out.there' _ _) (AC_size _ _) (AC_all _ _) ?_))
  refine bodyPost_ret (v := .tuple #[.agg (AC (fun _ => 0) false).toArray, .int .i64 8]) (by exact (M2.out.store (fun _ => 0) false).result2 (fn := Try.f10) (p := 2) (u := 3) rfl _ rfl) rfl ⟨rfl, below_setCells (Nat.le_succ _) _ _ _ B2.out⟩
set_option maxHeartbeats 800000 in
theorem ret_good (f : Nat → Int) (h : Bool) (w : World) (hf : CM.Ok f) (hk : CM.km f = true) :
    Calls Try.prog 10 #[AR f h] w fun x w' => x = .returned (.tuple #[AR (TR.rg f) h, .int .i64 0]) ∧ Below w.heap.size w w' := by
  have x0 := hf 17 (by decide)
  have HK := Lib.hid (fun W => kernel_any f h W hf)
  have A1 := Lib.hid (fun W => has_any (f 17) 4 W x0 (.inr (.inr (.inl rfl))))
  have H1 := Lib.hid (fun W => put_any (f 17) 1 (TR.hs (f 17) 4) W x0 (.inl rfl))
  have x1 := TR.pu_bd (f 17) 1 (TR.hs (f 17) 4) x0 (.inl rfl)
  have A2 := Lib.hid (fun W => has_any _ 8 W x1 (.inr (.inr (.inr (.inl rfl)))))
  rw [TR.pu_1_8] at A2
  have H2 := Lib.hid (fun W => put_any _ 2 (TR.hs (f 17) 8) W x1 (.inr (.inl rfl)))
  have HT := Lib.hid (rg_def f)
  have HS : Hid (TR.pu (TR.pu (f 17) 1 (TR.hs (f 17) 4)) 2 (TR.hs (f 17) 8) = TR.us (f 17)) := Lib.hid rfl
  rw [hk] at HK
  generalize TR.pu (TR.pu (f 17) 1 (TR.hs (f 17) 4)) 2 (TR.hs (f 17) 8) = s2 at H2 HS
  generalize TR.pu (f 17) 1 (TR.hs (f 17) 4) = s1 at H1 A2 H2
  rw [← HS.out] at HT
  generalize TR.rg f = g at HT ⊢
  generalize TR.hs (f 17) 4 = k at A1 H1
  generalize TR.hs (f 17) 8 = en at A2 H2
  clear HS x0 x1 hk
  unfold AR at HK ⊢
  go_enter Try.func10, Try.ntmps10
  go_upto_region 1 with fail
  rw [← zero_core]
  have T := Lib.hid (two_new w f (fun _ => 0) h false)
  generalize World.alloc (World.alloc w _) _ = W1 at T ⊢
  have R1 := Lib.hid T.out.1.range
  go_upto_region 3 with (first | (refine wpList_load_mid rfl 26 _ rfl w.heap.size 0 rfl (AC f h) _ R1.out Try.underlying26 rfl (by kernel_rfl) ?_) | (go_at_call 18; (with_reducible refine (HK.out _).mono ?_); rintro e w2 ⟨rfl, hb⟩; have B3 := Lib.hid (below_then T.out.2.2 hb); have L3 := Lib.hid (T.out.1.below hb); have M3 := Lib.hid (T.out.2.1.below hb); clear hb))
  have c0 := L3.out.cell (k := 17) (by decide)
  go_upto_region 4 with fail
  go_upto_region 5 with (first | (go_at_call 24; (with_reducible refine (A1.out _).mono ?_); rintro e w3 ⟨rfl, rfl⟩) | (go_at_call 19; (with_reducible refine (H1.out _).mono ?_); rintro e w3 ⟨rfl, rfl⟩))
  go_upto_region 6 with (first | (go_at_call 24; (with_reducible refine (A2.out _).mono ?_); rintro e w3 ⟨rfl, rfl⟩) | (go_at_call 19; (with_reducible refine (H2.out _).mono ?_); rintro e w3 ⟨rfl, rfl⟩))
  have f0 := L3.out.free 17
  go_upto_region 7 with fail
  clear c0 f0
  have L4 := Lib.hid (L3.out.set (k := 17) s2 (by decide))
  have M4 := Lib.hid (M3.out.other (s' := w.heap.size) (by omega) 17 (.int .u32 s2))
  have B4 := Lib.hid (B3.out.setCell (p := ⟨w.heap.size, 17, none⟩) (Nat.le_refl _) (.int .u32 s2))
  generalize World.setCell _ _ _ = W4 at L4 M4 B4 ⊢
  have c5 := L4.out.cell (k := 20) (by decide)
  rw [rg_cell] at c5
  have c6 := L4.out.cell (k := 0) (by decide)
  have f6 := L4.out.free 0
  go_upto_region 8 with fail
  clear c5 c6 f6
  have L9 := Lib.hid (HT.out ▸ L4.out.set (k := 0) (f 20) (by decide))
  have M9 := Lib.hid (M4.out.other (s' := w.heap.size) (by omega) 0 (.int .u32 (f 20)))
  have B9 := Lib.hid (B4.out.setCell (p := ⟨w.heap.size, 0, none⟩) (Nat.le_refl _) (.int .u32 (f 20)))
  generalize World.setCell _ _ _ = W9 at L9 M9 B9 ⊢
  have R9 := Lib.hid L9.out.range
  go_wp2_with (first | (refine wpList_load_mid rfl 26 _ rfl w.heap.size 0 rfl (AC g h) _ R9.out Try.underlying26 rfl (by kernel_rfl) ?_) | (refine wpList_store_mid rfl 26 _ _ rfl (w.heap.size + 1) 0 (AC g h).toArray rfl rfl (M9.out.there' _ _) (AC_size _ _) (AC_all _ _) ?_))
  refine bodyPost_ret (v := .tuple #[.agg (AC g h).toArray, .int .i64 0]) (by exact (M9.out.store g h).result2 (fn := Try.f10) (p := 2) (u := 3) rfl _ rfl) rfl ⟨rfl, below_setCells (Nat.le_succ _) _ _ _ B9.out⟩
theorem ret_any (f : Nat → Int) (h : Bool) (w : World) (hf : CM.Ok f) :
    Calls Try.prog 10 #[AR f h] w fun x w' => x = .returned (.tuple #[AR (TR.rt f) (TR.rh f h), .int .i64 (TR.rc f)]) ∧ Below w.heap.size w w' := by
  unfold TR.rt TR.rh TR.rc
  by_cases hk : CM.km f = true
  · rw [if_pos hk, if_pos hk, if_pos hk]; exact ret_good f h w hf hk
  · rw [if_neg hk, if_neg hk, if_neg hk]; exact ret_bad f h w hf (by simpa using hk)
set_option maxHeartbeats 400000 in
theorem rret_bad (f : Nat → Int) (h : Bool) (w : World) (hf : CM.Ok f) (hk : CM.km f = false) :
    Calls Try.prog 11 #[AR f h] w fun x w' => x = .returned (.tuple #[AR (fun _ => 0) false, .int .i64 8]) ∧ Below w.heap.size w w' := by
  have HK := Lib.hid (fun W => rkernel_any f h W hf)
  rw [hk] at HK
  clear hk
  unfold AR at HK ⊢
  go_enter Try.func11, Try.ntmps11
  go_upto_region 1 with fail
  rw [← zero_core]
  have T := Lib.hid (two_new w f (fun _ => 0) h false)
  generalize World.alloc (World.alloc w _) _ = W1 at T ⊢
  have R1 := Lib.hid T.out.1.range
  go_wp2_with (first | (refine wpList_load_mid rfl 26 _ rfl w.heap.size 0 rfl (AC f h) _ R1.out Try.underlying26 rfl (by kernel_rfl) ?_) | (go_at_call 25; (with_reducible refine (HK.out _).mono ?_); rintro e w2 ⟨rfl, hb⟩; have B2 := Lib.hid (below_then T.out.2.2 hb); have M2 := Lib.hid (T.out.2.1.below hb); clear hb) | (refine wpList_store_mid rfl 26 _ _ rfl (w.heap.size + 1) 0 (AC (fun _ => 0) false).toArray rfl rfl (M2.out.there' _ _) (AC_size _ _) (AC_all _ _) ?_))
  refine bodyPost_ret (v := .tuple #[.agg (AC (fun _ => 0) false).toArray, .int .i64 8]) (by exact (M2.out.store (fun _ => 0) false).result2 (fn := Try.f11) (p := 2) (u := 3) rfl _ rfl) rfl ⟨rfl, below_setCells (Nat.le_succ _) _ _ _ B2.out⟩
set_option maxHeartbeats 800000 in
theorem rret_good (f : Nat → Int) (h : Bool) (w : World) (hf : CM.Ok f) (hk : CM.km f = true) :
    Calls Try.prog 11 #[AR f h] w fun x w' => x = .returned (.tuple #[AR (TR.rg f) h, .int .i64 0]) ∧ Below w.heap.size w w' := by
  have x0 := hf 17 (by decide)
  have HK := Lib.hid (fun W => rkernel_any f h W hf)
  have a1 := and_hs (f 17) 4 x0 (.inr (.inr (.inl rfl)))
  have H1 := Lib.hid (fun W => rput_any (f 17) 1 (TR.hs (f 17) 4) W x0 (.inl rfl))
  have x1 := TR.pu_bd (f 17) 1 (TR.hs (f 17) 4) x0 (.inl rfl)
  have a2 := and_hs (f 17) 8 x0 (.inr (.inr (.inr (.inl rfl))))
  have H2 := Lib.hid (fun W => rput_any _ 2 (TR.hs (f 17) 8) W x1 (.inr (.inl rfl)))
  have HT := Lib.hid (rg_def f)
  have HS : Hid (TR.pu (TR.pu (f 17) 1 (TR.hs (f 17) 4)) 2 (TR.hs (f 17) 8) = TR.us (f 17)) := Lib.hid rfl
  rw [hk] at HK
  generalize TR.pu (TR.pu (f 17) 1 (TR.hs (f 17) 4)) 2 (TR.hs (f 17) 8) = s2 at H2 HS
  generalize TR.pu (f 17) 1 (TR.hs (f 17) 4) = s1 at H1 H2
  rw [← HS.out] at HT
  generalize TR.rg f = g at HT ⊢
  generalize TR.hs (f 17) 4 = k at a1 H1
  generalize TR.hs (f 17) 8 = en at a2 H2
  obtain ⟨y0, y1⟩ := x0
  clear HS x1 hk
  unfold AR at HK ⊢
  go_enter Try.func11, Try.ntmps11
  go_upto_region 1 with fail
  rw [← zero_core]
  have T := Lib.hid (two_new w f (fun _ => 0) h false)
  generalize World.alloc (World.alloc w _) _ = W1 at T ⊢
  have R1 := Lib.hid T.out.1.range
  go_upto_region 3 with (first | (refine wpList_load_mid rfl 26 _ rfl w.heap.size 0 rfl (AC f h) _ R1.out Try.underlying26 rfl (by kernel_rfl) ?_) | (go_at_call 25; (with_reducible refine (HK.out _).mono ?_); rintro e w2 ⟨rfl, hb⟩; have B3 := Lib.hid (below_then T.out.2.2 hb); have L3 := Lib.hid (T.out.1.below hb); have M3 := Lib.hid (T.out.2.1.below hb); clear hb))
  have c0 := L3.out.cell (k := 17) (by decide)
  go_upto_region 4 with fail
  go_upto_region 5 with (first | (go_at_call 22; (with_reducible refine (H1.out _).mono ?_); rintro e w3 ⟨rfl, rfl⟩))
  go_upto_region 6 with (first | (go_at_call 22; (with_reducible refine (H2.out _).mono ?_); rintro e w3 ⟨rfl, rfl⟩))
  have f0 := L3.out.free 17
  go_upto_region 7 with fail
  clear c0 f0
  have L4 := Lib.hid (L3.out.set (k := 17) s2 (by decide))
  have M4 := Lib.hid (M3.out.other (s' := w.heap.size) (by omega) 17 (.int .u32 s2))
  have B4 := Lib.hid (B3.out.setCell (p := ⟨w.heap.size, 17, none⟩) (Nat.le_refl _) (.int .u32 s2))
  generalize World.setCell _ _ _ = W4 at L4 M4 B4 ⊢
  have c5 := L4.out.cell (k := 20) (by decide)
  rw [rg_cell] at c5
  have c6 := L4.out.cell (k := 0) (by decide)
  have f6 := L4.out.free 0
  go_upto_region 8 with fail
  clear c5 c6 f6
  have L9 := Lib.hid (HT.out ▸ L4.out.set (k := 0) (f 20) (by decide))
  have M9 := Lib.hid (M4.out.other (s' := w.heap.size) (by omega) 0 (.int .u32 (f 20)))
  have B9 := Lib.hid (B4.out.setCell (p := ⟨w.heap.size, 0, none⟩) (Nat.le_refl _) (.int .u32 (f 20)))
  generalize World.setCell _ _ _ = W9 at L9 M9 B9 ⊢
  have R9 := Lib.hid L9.out.range
  go_wp2_with (first | (refine wpList_load_mid rfl 26 _ rfl w.heap.size 0 rfl (AC g h) _ R9.out Try.underlying26 rfl (by kernel_rfl) ?_) | (refine wpList_store_mid rfl 26 _ _ rfl (w.heap.size + 1) 0 (AC g h).toArray rfl rfl (M9.out.there' _ _) (AC_size _ _) (AC_all _ _) ?_))
  refine bodyPost_ret (v := .tuple #[.agg (AC g h).toArray, .int .i64 0]) (by exact (M9.out.store g h).result2 (fn := Try.f11) (p := 2) (u := 3) rfl _ rfl) rfl ⟨rfl, below_setCells (Nat.le_succ _) _ _ _ B9.out⟩
theorem rret_any (f : Nat → Int) (h : Bool) (w : World) (hf : CM.Ok f) :
    Calls Try.prog 11 #[AR f h] w fun x w' => x = .returned (.tuple #[AR (TR.rt f) (TR.rh f h), .int .i64 (TR.rc f)]) ∧ Below w.heap.size w w' := by
  unfold TR.rt TR.rh TR.rc
  by_cases hk : CM.km f = true
  · rw [if_pos hk, if_pos hk, if_pos hk]; exact rret_good f h w hf hk
  · rw [if_neg hk, if_neg hk, if_neg hk]; exact rret_bad f h w hf (by simpa using hk)
end Go.Proofs.Ytfdcnbhnegdlfaa
