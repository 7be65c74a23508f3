/-
  The cause why a control register may not be used; what Read answers, of package csr and of the reference.
-/
import Derived.Test.YtiakoflgcpahgaaWalkA
namespace Go.Proofs.Ytiakoflgcpahgaa
open Go.RowKit S01 S10
set_option maxHeartbeats 400000 in
theorem refused_any (f : Nat → Int) (h : Bool) (n : Int) (w : World) (hf : CM.Ok f) :
    Calls Try.prog 22 #[AR f h, .int .i64 n] w fun e w' => e = .returned (.int .i64 (CM.ks f n)) ∧ Below w.heap.size w w' := by
  have HK := Lib.hid (fun W => kernel_any f h W hf)
  have HS := Lib.hid (show CM.ks f n = if CM.km f = true then (if CM.kn n = true then 0 else 2) else 8 from rfl)
  have HN := Lib.hid (fun W => known_any n W)
  generalize CM.km f = km at HK HS
  generalize CM.kn n = kn at HN HS
  generalize CM.ks f n = ks at HS ⊢
  unfold AR at HK ⊢
  go_enter Try.func22, Try.ntmps22
  go_upto_region 1 with fail
  have HR := Lib.hid (Bk.new w f h).range
  have HB := Lib.hid (below_one w (.cells (AC f h).toArray 26))
  generalize World.alloc w _ = W1 at HR HB ⊢
  cases km <;> cases kn
  all_goals
    go_wp2_with (first | (refine wpList_load_mid rfl 26 _ rfl w.heap.size 0 rfl (AC f h) _ HR.out Try.underlying26 rfl (by kernel_rfl) ?_) | (go_at_call 10; (with_reducible refine (HK.out _).mono ?_); rintro e w2 ⟨rfl, hb⟩; have HB2 := Lib.hid (HB.out.trans (hb.mono HB.out.size)); clear hb) | (go_at_call 23; (with_reducible refine (HN.out _).mono ?_); rintro e w3 ⟨rfl, rfl⟩))
    go_ret
    exact ⟨ret_int HS.out.symm, HB2.out⟩
theorem rd_pair {a b c d : Int} (h : a = b) (h' : c = d) : Ending.returned (.tuple #[.int .u32 a, .int .i64 c]) = .returned (.tuple #[.int .u32 b, .int .i64 d]) := by rw [h, h']
set_option maxHeartbeats 400000 in
theorem read_count (f : Nat → Int) (h : Bool) (w : World) :
    Calls Try.prog 8 #[AR f h, .int .i64 7] w fun e w' => e = .returned (.tuple #[.int .u32 (CM.rv f 7), .int .i64 (CM.rk f 7)]) ∧ Below w.heap.size w w' := by
  have e1 : CM.rk f 7 = 0 := if_pos rfl
  have e2 : CM.rv f 7 = f 24 := if_pos e1
  rw [e1, e2]
  unfold AR
  go_enter Try.func8, Try.ntmps8
  go_upto_region 1 with fail
  have c0 := (Bk.new w f h).cell (k := 24) (by decide)
  have HB := Lib.hid (below_one w (.cells (AC f h).toArray 26))
  generalize World.alloc w _ = W1 at c0 HB ⊢
  go_wp2
  go_ret2
  exact ⟨rfl, HB.out⟩
set_option maxHeartbeats 400000 in
theorem read_bad (f : Nat → Int) (h : Bool) (n : Int) (w : World) (hf : CM.Ok f) (hn : n ≠ 7) (hk : CM.ks f n ≠ 0) :
    Calls Try.prog 8 #[AR f h, .int .i64 n] w fun e w' => e = .returned (.tuple #[.int .u32 (CM.rv f n), .int .i64 (CM.rk f n)]) ∧ Below w.heap.size w w' := by
  have e1 : CM.rk f n = CM.ks f n := if_neg hn
  have e2 : CM.rv f n = 0 := if_neg (by rw [e1]; exact hk)
  rw [e1, e2]
  have HK := Lib.hid (fun W => refused_any f h n W hf)
  generalize CM.ks f n = ks at HK hk ⊢
  have z : (ks == 0) = false := by simpa using hk
  have z7 : (n == 7) = false := by simpa using hn
  clear e1 e2 hk hn
  unfold AR at HK ⊢
  go_enter Try.func8, Try.ntmps8
  go_upto_region 1 with fail
  have HR := Lib.hid (Bk.new w f h).range
  have HB := Lib.hid (below_one w (.cells (AC f h).toArray 26))
  generalize World.alloc w _ = W1 at HR HB ⊢
  go_wp2_with (first | (refine wpList_load_mid rfl 26 _ rfl w.heap.size 0 rfl (AC f h) _ HR.out Try.underlying26 rfl (by kernel_rfl) ?_) | (go_at_call 22; (with_reducible refine (HK.out _).mono ?_); rintro e w2 ⟨rfl, hb⟩; have HB2 := Lib.hid (HB.out.trans (hb.mono HB.out.size)); clear hb))
  go_ret2
  exact ⟨rfl, HB2.out⟩
set_option maxHeartbeats 400000 in
theorem read_good (f : Nat → Int) (h : Bool) (k : Nat) (w : World) (hf : CM.Ok f) (hn : (k : Int) ≠ 7) (hk : CM.ks f k = 0) :
    Calls Try.prog 8 #[AR f h, .int .i64 k] w fun e w' => e = .returned (.tuple #[.int .u32 (CM.rv f k), .int .i64 (CM.rk f k)]) ∧ Below w.heap.size w w' := by
  have e1 : CM.rk f k = 0 := (if_neg hn).trans hk
  have e2 : CM.rv f k = f (17 + k) := if_pos e1
  obtain ⟨-, k1⟩ := CM.kn_iff.1 (CM.ks_zero hk).2
  have k2 : (k : Int) < 12 := by omega
  rw [e1, e2]
  have HK := Lib.hid (fun W => refused_any f h k W hf)
  rw [hk] at HK
  have z7 : ((k : Int) == 7) = false := by simpa using hn
  clear e1 e2 hk hn
  unfold AR at HK ⊢
  go_enter Try.func8, Try.ntmps8
  go_upto_region 1 with fail
  have HR := Lib.hid (Bk.new w f h).range
  have C0 := Lib.hid (Bk.new w f h)
  have HB := Lib.hid (below_one w (.cells (AC f h).toArray 26))
  generalize World.alloc w _ = W1 at HR C0 HB ⊢
  go_wp2_with (first | (refine wpList_load_mid rfl 26 _ rfl w.heap.size 0 rfl (AC f h) _ HR.out Try.underlying26 rfl (by kernel_rfl) ?_) | (go_at_call 22; (with_reducible refine (HK.out _).mono ?_); rintro e w2 ⟨rfl, hb⟩; have HB2 := Lib.hid (HB.out.trans (hb.mono HB.out.size)); have c0 := (C0.out.below hb).cell (k := 17 + k) (by omega); clear hb))
  go_ret2
  exact ⟨rfl, HB2.out⟩
theorem read_any (f : Nat → Int) (h : Bool) (n : Int) (w : World) (hf : CM.Ok f) :
    Calls Try.prog 8 #[AR f h, .int .i64 n] w fun e w' => e = .returned (.tuple #[.int .u32 (CM.rv f n), .int .i64 (CM.rk f n)]) ∧ Below w.heap.size w w' := by
  by_cases hn : n = 7
  · subst hn; exact read_count f h w
  · by_cases hk : CM.ks f n = 0
    · obtain ⟨k, rfl⟩ := Int.eq_ofNat_of_zero_le (CM.kn_iff.1 (CM.ks_zero hk).2).1
      exact read_good f h k w hf hn hk
    · exact read_bad f h n w hf hn hk
end Go.Proofs.Ytiakoflgcpahgaa
