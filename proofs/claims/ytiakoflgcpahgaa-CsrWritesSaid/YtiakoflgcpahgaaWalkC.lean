/-
  What the reference's Read answers; what Write answers, of package csr and of the reference.
-/
import Derived.Test.YtiakoflgcpahgaaWalkB
namespace Go.Proofs.Ytiakoflgcpahgaa
open Go.RowKit S01 S10
set_option maxHeartbeats 400000 in
theorem rread_user (f : Nat → Int) (h : Bool) (n : Int) (w : World) (hf : CM.Ok f) (hn : n ≠ 7) (hk : CM.km f = false) :
    Calls Try.prog 9 #[AR f h, .int .i64 n] w fun e w' => e = .returned (.tuple #[.int .u32 0, .int .i64 8]) ∧ Below w.heap.size w w' := by
  have HK := Lib.hid (fun W => rkernel_any f h W hf)
  rw [hk] at HK
  have z7 : (n == 7) = false := by simpa using hn
  clear hn hk
  unfold AR at HK ⊢
  go_enter Try.func9, Try.ntmps9
  go_upto_region 1 with fail
  have HR := Lib.hid (Bk.new w f h).range
  have HB := Lib.hid (below_one w (.cells (AC f h).toArray 26))
  generalize World.alloc w _ = W1 at HR HB ⊢
  go_wp2_with (first | (refine wpList_load_mid rfl 26 _ rfl w.heap.size 0 rfl (AC f h) _ HR.out Try.underlying26 rfl (by kernel_rfl) ?_) | (go_at_call 11; (with_reducible refine (HK.out _).mono ?_); rintro e w2 ⟨rfl, hb⟩; have HB2 := Lib.hid (HB.out.trans (hb.mono HB.out.size)); clear hb))
  go_ret2
  exact ⟨rfl, HB2.out⟩
set_option maxHeartbeats 400000 in
theorem rread_low (f : Nat → Int) (h : Bool) (n : Int) (w : World) (hf : CM.Ok f) (hn : n < 0) (hk : CM.km f = true) :
    Calls Try.prog 9 #[AR f h, .int .i64 n] w fun e w' => e = .returned (.tuple #[.int .u32 0, .int .i64 2]) ∧ Below w.heap.size w w' := by
  have HK := Lib.hid (fun W => rkernel_any f h W hf)
  rw [hk] at HK
  clear hk
  unfold AR at HK ⊢
  go_enter Try.func9, Try.ntmps9
  go_upto_region 1 with fail
  have HR := Lib.hid (Bk.new w f h).range
  have HB := Lib.hid (below_one w (.cells (AC f h).toArray 26))
  generalize World.alloc w _ = W1 at HR HB ⊢
  go_wp2_with (first | (refine wpList_load_mid rfl 26 _ rfl w.heap.size 0 rfl (AC f h) _ HR.out Try.underlying26 rfl (by kernel_rfl) ?_) | (go_at_call 11; (with_reducible refine (HK.out _).mono ?_); rintro e w2 ⟨rfl, hb⟩; have HB2 := Lib.hid (HB.out.trans (hb.mono HB.out.size)); clear hb))
  go_ret2
  exact ⟨rfl, HB2.out⟩
set_option maxHeartbeats 400000 in
theorem rread_high (f : Nat → Int) (h : Bool) (n : Int) (w : World) (hf : CM.Ok f) (hn : 11 < n) (hk : CM.km f = true) :
    Calls Try.prog 9 #[AR f h, .int .i64 n] w fun e w' => e = .returned (.tuple #[.int .u32 0, .int .i64 2]) ∧ Below w.heap.size w w' := by
  have HK := Lib.hid (fun W => rkernel_any f h W hf)
  rw [hk] at HK
  have d : decide (n < 0) = false := by simpa using (by omega : 0 ≤ n)
  clear hk
  unfold AR at HK ⊢
  go_enter Try.func9, Try.ntmps9
  go_upto_region 1 with fail
  have HR := Lib.hid (Bk.new w f h).range
  have HB := Lib.hid (below_one w (.cells (AC f h).toArray 26))
  generalize World.alloc w _ = W1 at HR HB ⊢
  go_wp2_with (first | (refine wpList_load_mid rfl 26 _ rfl w.heap.size 0 rfl (AC f h) _ HR.out Try.underlying26 rfl (by kernel_rfl) ?_) | (go_at_call 11; (with_reducible refine (HK.out _).mono ?_); rintro e w2 ⟨rfl, hb⟩; have HB2 := Lib.hid (HB.out.trans (hb.mono HB.out.size)); clear hb))
  go_ret2
  exact ⟨rfl, HB2.out⟩
set_option maxHeartbeats 400000 in
theorem rread_good (f : Nat → Int) (h : Bool) (k : Nat) (w : World) (hf : CM.Ok f) (hn : k < 12) (hk : CM.km f = true ∨ k = 7) :
    Calls Try.prog 9 #[AR f h, .int .i64 k] w fun e w' => e = .returned (.tuple #[.int .u32 (f (17 + k)), .int .i64 0]) ∧ Below w.heap.size w w' := by
  have HK := Lib.hid (fun W => rkernel_any f h W hf)
  have k2 : (k : Int) < 12 := by omega
  have d : decide ((k : Int) < 0) = false := by simp
  have d2 : decide (11 < (k : Int)) = false := by simpa using (by omega : (k : Int) ≤ 11)
  unfold AR at HK ⊢
  rcases hk with hk | hk
  · rw [hk] at HK
    clear hk
    go_enter Try.func9, Try.ntmps9
    go_upto_region 1 with fail
    have HR := Lib.hid (Bk.new w f h).range
    have C0 := Lib.hid (Bk.new w f h)
    have HB := Lib.hid (below_one w (.cells (AC f h).toArray 26))
    generalize World.alloc w _ = W1 at HR C0 HB ⊢
    go_wp2_with (first | (refine wpList_load_mid rfl 26 _ rfl w.heap.size 0 rfl (AC f h) _ HR.out Try.underlying26 rfl (by kernel_rfl) ?_) | (go_at_call 11; (with_reducible refine (HK.out _).mono ?_); rintro e w2 ⟨rfl, hb⟩; have HB2 := Lib.hid (HB.out.trans (hb.mono HB.out.size)); have c0 := (C0.out.below hb).cell (k := 17 + k) (by omega); clear hb))
    go_ret2
    exact ⟨rfl, HB2.out⟩
  · subst hk
    generalize CM.km f = km at HK
    go_enter Try.func9, Try.ntmps9
    go_upto_region 1 with fail
    have HR := Lib.hid (Bk.new w f h).range
    have C0 := Lib.hid (Bk.new w f h)
    have HB := Lib.hid (below_one w (.cells (AC f h).toArray 26))
    generalize World.alloc w _ = W1 at HR C0 HB ⊢
    cases km
    all_goals
      go_wp2_with (first | (refine wpList_load_mid rfl 26 _ rfl w.heap.size 0 rfl (AC f h) _ HR.out Try.underlying26 rfl (by kernel_rfl) ?_) | (go_at_call 11; (with_reducible refine (HK.out _).mono ?_); rintro e w2 ⟨rfl, hb⟩; have HB2 := Lib.hid (HB.out.trans (hb.mono HB.out.size)); have c0 := (C0.out.below hb).cell (k := 24) (by omega); clear hb))
      go_ret2
      exact ⟨rfl, HB2.out⟩
theorem rread_any (f : Nat → Int) (h : Bool) (n : Int) (w : World) (hf : CM.Ok f) :
    Calls Try.prog 9 #[AR f h, .int .i64 n] w fun e w' => e = .returned (.tuple #[.int .u32 (CM.rv f n), .int .i64 (CM.rk f n)]) ∧ Below w.heap.size w w' := by
  by_cases hn : n = 7
  · subst hn
    have e1 : CM.rk f 7 = 0 := if_pos rfl
    have e2 : CM.rv f 7 = f 24 := if_pos e1
    rw [e1, e2]
    exact rread_good f h 7 w hf (by decide) (.inr rfl)
  · have e1 : CM.rk f n = CM.ks f n := if_neg hn
    by_cases hk : CM.km f = true
    · by_cases hl : 0 ≤ n ∧ n ≤ 11
      · have e0 : CM.ks f n = 0 := CM.ks_ok hk (CM.kn_iff.2 hl)
        have e2 : CM.rv f n = f (17 + n.toNat) := if_pos (e1.trans e0)
        rw [e2, e1, e0]
        obtain ⟨k, rfl⟩ := Int.eq_ofNat_of_zero_le hl.1
        exact rread_good f h k w hf (by omega) (.inl hk)
      · have e0 : CM.ks f n = 2 := by unfold CM.ks; rw [if_pos hk, CM.kn_false (by omega)]; rfl
        have e2 : CM.rv f n = 0 := if_neg (by rw [e1, e0]; decide)
        rw [e2, e1, e0]
        by_cases h0 : n < 0
        · exact rread_low f h n w hf h0 hk
        · exact rread_high f h n w hf (by omega) hk
    · have e0 : CM.ks f n = 8 := if_neg hk
      have e2 : CM.rv f n = 0 := if_neg (by rw [e1, e0]; decide)
      rw [e2, e1, e0]
      exact rread_user f h n w hf hn (by simpa using hk)
end Go.Proofs.Ytiakoflgcpahgaa
