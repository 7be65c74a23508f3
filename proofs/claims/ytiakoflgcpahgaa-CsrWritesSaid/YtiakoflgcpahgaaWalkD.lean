/-
  What Write answers, of package csr and of the reference.
-/
import Derived.Test.YtiakoflgcpahgaaWalkC
namespace Go.Proofs.Ytiakoflgcpahgaa
open Go.RowKit S01 S10
theorem two_new (w : World) (f f' : Nat → Int) (h h' : Bool) :
    Bk ((w.alloc (.cells (AC f h).toArray 26)).alloc (.cells (AC f' h').toArray 26)) w.heap.size f h ∧ Bk ((w.alloc (.cells (AC f h).toArray 26)).alloc (.cells (AC f' h').toArray 26)) (w.heap.size + 1) f' h' ∧
      Below w.heap.size w ((w.alloc (.cells (AC f h).toArray 26)).alloc (.cells (AC f' h').toArray 26)) := by
  refine ⟨(Bk.new w f h).more _, ?_, below_then (below_one _ _) (below_one _ _)⟩
  have := Bk.new (w.alloc (.cells (AC f h).toArray 26)) f' h'
  rwa [show (w.alloc (.cells (AC f h).toArray 26)).heap.size = w.heap.size + 1 by simp] at this
theorem AC_all (f : Nat → Int) (h : Bool) : (AC f h).toArray.all (·.oneCell') = true := all_oneCell_toArray (AC_one f h)
theorem AC_size (f : Nat → Int) (h : Bool) : (Try.prog.info? 26).map (·.size) = some (AC f h).toArray.size := by kernel_rfl
theorem and_an (x y : Int) (hx : CM.Wd x) (hy : CM.Wd y) : bits .and .u32 x y = CM.an x y := u32_and x y hx.1 hx.2 hy.1 hy.2
theorem or_oq (x y : Int) (hx : CM.Wd x) (hy : CM.Wd y) : bits .or .u32 x y = CM.oq x y := u32_or x y hx.1 hx.2 hy.1 hy.2
set_option maxHeartbeats 400000 in
theorem write_bad (f : Nat → Int) (h : Bool) (n v : Int) (w : World) (hf : CM.Ok f) (hk : CM.ks f n ≠ 0) :
    Calls Try.prog 15 #[AR f h, .int .i64 n, .int .u32 v] w fun e w' => e = .returned (.tuple #[AR (fun _ => 0) false, .int .i64 (CM.ks f n)]) ∧ Below w.heap.size w w' := by
  have HK := Lib.hid (fun W => refused_any f h n W hf)
  generalize CM.ks f n = ks at HK hk ⊢
  have z : (ks == 0) = false := by simpa using hk
  clear hk
  unfold AR at HK ⊢
  go_enter Try.func15, Try.ntmps15
  go_upto_region 1 with fail
  rw [← zero_core]
  have T := Lib.hid (two_new w f (fun _ => 0) h false)
  generalize World.alloc (World.alloc w _) _ = W1 at T ⊢
  have HR := Lib.hid T.out.1.range
  go_wp2_with (first | (refine wpList_load_mid rfl 26 _ rfl w.heap.size 0 rfl (AC f h) _ HR.out Try.underlying26 rfl (by kernel_rfl) ?_) | (go_at_call 22; (with_reducible refine (HK.out _).mono ?_); rintro e w2 ⟨rfl, hb⟩; have HB2 := Lib.hid (below_then T.out.2.2 hb); have H2 := Lib.hid (T.out.2.1.below hb); clear hb) | (refine wpList_store_mid rfl 26 _ _ rfl (w.heap.size + 1) 0 (AC (fun _ => 0) false).toArray rfl rfl (H2.out.there' _ _) (AC_size _ _) (AC_all _ _) ?_))
  refine bodyPost_ret (v := .tuple #[.agg (AC (fun _ => 0) false).toArray, .int .i64 ks]) (by exact (H2.out.store (fun _ => 0) false).result2 (fn := Try.f15) (p := 6) (u := 7) rfl _ rfl) rfl ⟨rfl, below_setCells (Nat.le_succ _) _ _ _ HB2.out⟩
set_option maxHeartbeats 400000 in
theorem write_good (f : Nat → Int) (h : Bool) (k : Nat) (v : Int) (w : World) (hf : CM.Ok f) (hv : CM.Wd v) (hk : CM.ks f k = 0) :
    Calls Try.prog 15 #[AR f h, .int .i64 k, .int .u32 v] w fun e w' => e = .returned (.tuple #[AR (CM.up f (17 + k) (CM.an v (CM.mk k))) h, .int .i64 0]) ∧ Below w.heap.size w w' := by
  obtain ⟨-, k1⟩ := CM.kn_iff.1 (CM.ks_zero hk).2
  have k2 : (k : Int) < 12 := by omega
  have HK := Lib.hid (fun W => refused_any f h k W hf)
  have HM := Lib.hid (fun W => masked_any k W)
  rw [hk] at HK
  have e0 := and_an v _ hv (CM.mk_bd k)
  generalize CM.mk (k : Int) = m at HM e0 ⊢
  generalize CM.an v m = x at e0 ⊢
  clear hk
  unfold AR at HK ⊢
  go_enter Try.func15, Try.ntmps15
  go_upto_region 1 with fail
  rw [← zero_core]
  have T := Lib.hid (two_new w f (fun _ => 0) h false)
  generalize World.alloc (World.alloc w _) _ = W1 at T ⊢
  have HR := Lib.hid T.out.1.range
  go_upto_region 5 with (first | (refine wpList_load_mid rfl 26 _ rfl w.heap.size 0 rfl (AC f h) _ HR.out Try.underlying26 rfl (by kernel_rfl) ?_) | (go_at_call 22; (with_reducible refine (HK.out _).mono ?_); rintro e w2 ⟨rfl, hb⟩; have HB2 := Lib.hid (below_then T.out.2.2 hb); have H2 := Lib.hid (T.out.2.1.below hb); have G2 := Lib.hid (T.out.1.below hb); clear hb) | (go_at_call 12; (with_reducible refine (HM.out _).mono ?_); rintro e w3 ⟨rfl, hb⟩; have HB3 := Lib.hid (below_then HB2.out hb); have H3 := Lib.hid (H2.out.below hb); have G3 := Lib.hid (G2.out.below hb); have c0 := G3.out.cell (k := 17 + k) (by omega); have f0 := G3.out.free (17 + k); clear hb))
  have H4 := Lib.hid (H3.out.other (s' := w.heap.size) (by omega) (17 + k) (.int .u32 x))
  have G4 := Lib.hid (G3.out.set (k := 17 + k) x (by omega))
  have HB4 := Lib.hid (HB3.out.setCell (p := ⟨w.heap.size, 17 + k, none⟩) (Nat.le_refl _) (.int .u32 x))
  generalize World.setCell _ _ _ = W4 at H4 G4 HB4 ⊢
  have HR4 := Lib.hid G4.out.range
  clear c0 f0
  go_wp2_with (first | (refine wpList_load_mid rfl 26 _ rfl w.heap.size 0 rfl (AC (CM.up f (17 + k) x) h) _ HR4.out Try.underlying26 rfl (by kernel_rfl) ?_) | (refine wpList_store_mid rfl 26 _ _ rfl (w.heap.size + 1) 0 (AC (CM.up f (17 + k) x) h).toArray rfl rfl (H4.out.there' _ _) (AC_size _ _) (AC_all _ _) ?_))
  refine bodyPost_ret (v := .tuple #[.agg (AC (CM.up f (17 + k) x) h).toArray, .int .i64 0]) (by exact (H4.out.store (CM.up f (17 + k) x) h).result2 (fn := Try.f15) (p := 6) (u := 7) rfl _ rfl) rfl ⟨rfl, below_setCells (Nat.le_succ _) _ _ _ HB4.out⟩
theorem write_any (f : Nat → Int) (h : Bool) (n v : Int) (w : World) (hf : CM.Ok f) (hv : CM.Wd v) :
    Calls Try.prog 15 #[AR f h, .int .i64 n, .int .u32 v] w fun e w' => e = .returned (.tuple #[AR (CM.wf f n v) (CM.wh f h n), .int .i64 (CM.ks f n)]) ∧ Below w.heap.size w w' := by
  unfold CM.wf CM.wh
  by_cases hk : CM.ks f n = 0
  · obtain ⟨k, rfl⟩ := Int.eq_ofNat_of_zero_le (CM.kn_iff.1 (CM.ks_zero hk).2).1
    rw [if_pos hk, if_pos hk, hk]
    exact write_good f h k v w hf hv hk
  · rw [if_neg hk, if_neg hk]; exact write_bad f h n v w hf hk
end Go.Proofs.Ytiakoflgcpahgaa
