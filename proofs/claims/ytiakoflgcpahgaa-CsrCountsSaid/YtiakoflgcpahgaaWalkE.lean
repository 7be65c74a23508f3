/-
  What the reference's Write answers.
-/
import Derived.Test.YtiakoflgcpahgaaWalkD
namespace Go.Proofs.Ytiakoflgcpahgaa
open Go.RowKit S01 S10
set_option maxHeartbeats 400000 in
theorem rwrite_user (f : Nat → Int) (h : Bool) (n v : Int) (w : World) (hf : CM.Ok f) (hk : CM.km f = false) :
    Calls Try.prog 16 #[AR f h, .int .i64 n, .int .u32 v] w fun e w' => e = .returned (.tuple #[AR (fun _ => 0) false, .int .i64 8]) ∧ Below w.heap.size w w' := by
  have HK := Lib.hid (fun W => rkernel_any f h W hf)
  rw [hk] at HK
  clear hk
  unfold AR at HK ⊢
  go_enter Try.func16, Try.ntmps16
  go_upto_region 1 with fail
  rw [← zero_core]
  have T := Lib.hid (two_new w f (fun _ => 0) h false)
  generalize World.alloc (World.alloc w _) _ = W1 at T ⊢
  have HR := Lib.hid T.out.1.range
  go_wp2_with (first | (refine wpList_load_mid rfl 26 _ rfl w.heap.size 0 rfl (AC f h) _ HR.out Try.underlying26 rfl (by kernel_rfl) ?_) | (go_at_call 11; (with_reducible refine (HK.out _).mono ?_); rintro e w2 ⟨rfl, hb⟩; have HB2 := Lib.hid (below_then T.out.2.2 hb); have H2 := Lib.hid (T.out.2.1.below hb); clear hb) | (refine wpList_store_mid rfl 26 _ _ rfl (w.heap.size + 1) 0 (AC (fun _ => 0) false).toArray rfl rfl (H2.out.there' _ _) (AC_size _ _) (AC_all _ _) ?_))
  refine bodyPost_ret (v := .tuple #[.agg (AC (fun _ => 0) false).toArray, .int .i64 8]) (by exact (H2.out.store (fun _ => 0) false).result2 (fn := Try.f16) (p := 6) (u := 7) rfl _ rfl) rfl ⟨rfl, below_setCells (Nat.le_succ _) _ _ _ HB2.out⟩
set_option maxHeartbeats 400000 in
theorem rwrite_low (f : Nat → Int) (h : Bool) (n v : Int) (w : World) (hf : CM.Ok f) (hk : CM.km f = true) (hn : n < 0) :
    Calls Try.prog 16 #[AR f h, .int .i64 n, .int .u32 v] w fun e w' => e = .returned (.tuple #[AR (fun _ => 0) false, .int .i64 2]) ∧ Below w.heap.size w w' := by
  have HK := Lib.hid (fun W => rkernel_any f h W hf)
  rw [hk] at HK
  clear hk
  unfold AR at HK ⊢
  go_enter Try.func16, Try.ntmps16
  go_upto_region 1 with fail
  rw [← zero_core]
  have T := Lib.hid (two_new w f (fun _ => 0) h false)
  generalize World.alloc (World.alloc w _) _ = W1 at T ⊢
  have HR := Lib.hid T.out.1.range
  go_wp2_with (first | (refine wpList_load_mid rfl 26 _ rfl w.heap.size 0 rfl (AC f h) _ HR.out Try.underlying26 rfl (by kernel_rfl) ?_) | (go_at_call 11; (with_reducible refine (HK.out _).mono ?_); rintro e w2 ⟨rfl, hb⟩; have HB2 := Lib.hid (below_then T.out.2.2 hb); have H2 := Lib.hid (T.out.2.1.below hb); clear hb) | (refine wpList_store_mid rfl 26 _ _ rfl (w.heap.size + 1) 0 (AC (fun _ => 0) false).toArray rfl rfl (H2.out.there' _ _) (AC_size _ _) (AC_all _ _) ?_))
  refine bodyPost_ret (v := .tuple #[.agg (AC (fun _ => 0) false).toArray, .int .i64 2]) (by exact (H2.out.store (fun _ => 0) false).result2 (fn := Try.f16) (p := 6) (u := 7) rfl _ rfl) rfl ⟨rfl, below_setCells (Nat.le_succ _) _ _ _ HB2.out⟩
set_option maxHeartbeats 400000 in
theorem rwrite_high (f : Nat → Int) (h : Bool) (n v : Int) (w : World) (hf : CM.Ok f) (hk : CM.km f = true) (hn : 11 < n) :
    Calls Try.prog 16 #[AR f h, .int .i64 n, .int .u32 v] w fun e w' => e = .returned (.tuple #[AR (fun _ => 0) false, .int .i64 2]) ∧ Below w.heap.size w w' := by
  have HK := Lib.hid (fun W => rkernel_any f h W hf)
  rw [hk] at HK
  have d : decide (n < 0) = false := by simpa using (by omega : 0 ≤ n)
  clear hk
  unfold AR at HK ⊢
  go_enter Try.func16, Try.ntmps16
  go_upto_region 1 with fail
  rw [← zero_core]
  have T := Lib.hid (two_new w f (fun _ => 0) h false)
  generalize World.alloc (World.alloc w _) _ = W1 at T ⊢
  have HR := Lib.hid T.out.1.range
  go_wp2_with (first | (refine wpList_load_mid rfl 26 _ rfl w.heap.size 0 rfl (AC f h) _ HR.out Try.underlying26 rfl (by kernel_rfl) ?_) | (go_at_call 11; (with_reducible refine (HK.out _).mono ?_); rintro e w2 ⟨rfl, hb⟩; have HB2 := Lib.hid (below_then T.out.2.2 hb); have H2 := Lib.hid (T.out.2.1.below hb); clear hb) | (refine wpList_store_mid rfl 26 _ _ rfl (w.heap.size + 1) 0 (AC (fun _ => 0) false).toArray rfl rfl (H2.out.there' _ _) (AC_size _ _) (AC_all _ _) ?_))
  refine bodyPost_ret (v := .tuple #[.agg (AC (fun _ => 0) false).toArray, .int .i64 2]) (by exact (H2.out.store (fun _ => 0) false).result2 (fn := Try.f16) (p := 6) (u := 7) rfl _ rfl) rfl ⟨rfl, below_setCells (Nat.le_succ _) _ _ _ HB2.out⟩
set_option maxHeartbeats 400000 in
theorem rwrite_good (f : Nat → Int) (h : Bool) (k : Nat) (v : Int) (w : World) (hf : CM.Ok f) (hv : CM.Wd v) (hk : CM.km f = true) (hn : k < 12) :
    Calls Try.prog 16 #[AR f h, .int .i64 k, .int .u32 v] w fun e w' => e = .returned (.tuple #[AR (CM.up f (17 + k) (CM.an v (CM.mk k))) h, .int .i64 0]) ∧ Below w.heap.size w w' := by
  have k2 : (k : Int) < 12 := by omega
  have d : decide ((k : Int) < 0) = false := by simp
  have d2 : decide (11 < (k : Int)) = false := by simpa using (by omega : (k : Int) ≤ 11)
  have HK := Lib.hid (fun W => rkernel_any f h W hf)
  have HM := Lib.hid (fun W => rmasked_any k W)
  rw [hk] at HK
  have e0 := and_an v _ hv (CM.mk_bd k)
  generalize CM.mk (k : Int) = m at HM e0 ⊢
  generalize CM.an v m = x at e0 ⊢
  clear hk
  unfold AR at HK ⊢
  go_enter Try.func16, Try.ntmps16
  go_upto_region 1 with fail
  rw [← zero_core]
  have T := Lib.hid (two_new w f (fun _ => 0) h false)
  generalize World.alloc (World.alloc w _) _ = W1 at T ⊢
  have HR := Lib.hid T.out.1.range
  go_upto_region 6 with (first | (refine wpList_load_mid rfl 26 _ rfl w.heap.size 0 rfl (AC f h) _ HR.out Try.underlying26 rfl (by kernel_rfl) ?_) | (go_at_call 11; (with_reducible refine (HK.out _).mono ?_); rintro e w2 ⟨rfl, hb⟩; have HB2 := Lib.hid (below_then T.out.2.2 hb); have H2 := Lib.hid (T.out.2.1.below hb); have G2 := Lib.hid (T.out.1.below hb); have c0 := G2.out.cell (k := 17 + k) (by omega); have f0 := G2.out.free (17 + k); clear hb) | (go_at_call 13; (with_reducible refine (HM.out _).mono ?_); rintro e w3 ⟨rfl, rfl⟩))
  have H4 := Lib.hid (H2.out.other (s' := w.heap.size) (by omega) (17 + k) (.int .u32 x))
  have G4 := Lib.hid (G2.out.set (k := 17 + k) x (by omega))
  have HB4 := Lib.hid (HB2.out.setCell (p := ⟨w.heap.size, 17 + k, none⟩) (Nat.le_refl _) (.int .u32 x))
  generalize World.setCell _ _ _ = W4 at H4 G4 HB4 ⊢
  have HR4 := Lib.hid G4.out.range
  clear c0 f0
  go_wp2_with (first | (refine wpList_load_mid rfl 26 _ rfl w.heap.size 0 rfl (AC (CM.up f (17 + k) x) h) _ HR4.out Try.underlying26 rfl (by kernel_rfl) ?_) | (refine wpList_store_mid rfl 26 _ _ rfl (w.heap.size + 1) 0 (AC (CM.up f (17 + k) x) h).toArray rfl rfl (H4.out.there' _ _) (AC_size _ _) (AC_all _ _) ?_))
  refine bodyPost_ret (v := .tuple #[.agg (AC (CM.up f (17 + k) x) h).toArray, .int .i64 0]) (by exact (H4.out.store (CM.up f (17 + k) x) h).result2 (fn := Try.f16) (p := 6) (u := 7) rfl _ rfl) rfl ⟨rfl, below_setCells (Nat.le_succ _) _ _ _ HB4.out⟩
theorem rwrite_any (f : Nat → Int) (h : Bool) (n v : Int) (w : World) (hf : CM.Ok f) (hv : CM.Wd v) :
    Calls Try.prog 16 #[AR f h, .int .i64 n, .int .u32 v] w fun e w' => e = .returned (.tuple #[AR (CM.wf f n v) (CM.wh f h n), .int .i64 (CM.ks f n)]) ∧ Below w.heap.size w w' := by
  unfold CM.wf CM.wh
  by_cases hk : CM.km f = true
  · by_cases hl : 0 ≤ n ∧ n ≤ 11
    · have e0 : CM.ks f n = 0 := CM.ks_ok hk (CM.kn_iff.2 hl)
      obtain ⟨k, rfl⟩ := Int.eq_ofNat_of_zero_le hl.1
      rw [if_pos e0, if_pos e0, e0]
      exact rwrite_good f h k v w hf hv hk (by omega)
    · have e0 : CM.ks f n = 2 := by unfold CM.ks; rw [if_pos hk, CM.kn_false (by omega)]; rfl
      rw [if_neg (by rw [e0]; decide), if_neg (by rw [e0]; decide), e0]
      by_cases h0 : n < 0
      · exact rwrite_low f h n v w hf hk h0
      · exact rwrite_high f h n v w hf hk (by omega)
  · have e0 : CM.ks f n = 8 := if_neg hk
    rw [if_neg (by rw [e0]; decide), if_neg (by rw [e0]; decide), e0]
    exact rwrite_user f h n v w hf (by simpa using hk)
end Go.Proofs.Ytiakoflgcpahgaa
