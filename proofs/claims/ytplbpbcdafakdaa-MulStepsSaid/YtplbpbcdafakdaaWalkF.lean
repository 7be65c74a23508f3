/-
  The law MulSteps, walked: for every multiplication the answer is true, and memory that was there is unchanged.
-/
import Derived.Test.YtplbpbcdafakdaaWalkE
namespace Go.Proofs.Ytplbpbcdafakdaa
open Go.RowKit S01
theorem keep_call {w v v' : World} {a b h l n : Int} (hS : v.cell? ⟨w.heap.size, 0, none⟩ = some (.int .u32 a) ∧ v.cell? ⟨w.heap.size, 1, none⟩ = some (.int .u32 b) ∧ v.cell? ⟨w.heap.size, 2, none⟩ = some (.int .u32 h) ∧ v.cell? ⟨w.heap.size, 3, none⟩ = some (.int .u32 l) ∧ v.cell? ⟨w.heap.size, 4, none⟩ = some (.int .i64 n) ∧ w.heap.size < v.heap.size ∧ Hid (Below w.heap.size w v)) (hb : Below v.heap.size v v') : v'.cell? ⟨w.heap.size, 0, none⟩ = some (.int .u32 a) ∧ v'.cell? ⟨w.heap.size, 1, none⟩ = some (.int .u32 b) ∧ v'.cell? ⟨w.heap.size, 2, none⟩ = some (.int .u32 h) ∧ v'.cell? ⟨w.heap.size, 3, none⟩ = some (.int .u32 l) ∧ v'.cell? ⟨w.heap.size, 4, none⟩ = some (.int .i64 n) ∧ w.heap.size < v'.heap.size ∧ Hid (Below w.heap.size w v') := by
  obtain ⟨c0, c1, c2, c3, c4, hs, hB⟩ := hS
  exact ⟨(hb.cell hs).trans c0, (hb.cell hs).trans c1, (hb.cell hs).trans c2, (hb.cell hs).trans c3, (hb.cell hs).trans c4, Nat.lt_of_lt_of_le hs hb.size, Lib.hid (then_below hB.out (hb.mono (Nat.le_refl _)))⟩
theorem keep_end {w v : World} {a b h l n : Int} (hS : v.cell? ⟨w.heap.size, 0, none⟩ = some (.int .u32 a) ∧ v.cell? ⟨w.heap.size, 1, none⟩ = some (.int .u32 b) ∧ v.cell? ⟨w.heap.size, 2, none⟩ = some (.int .u32 h) ∧ v.cell? ⟨w.heap.size, 3, none⟩ = some (.int .u32 l) ∧ v.cell? ⟨w.heap.size, 4, none⟩ = some (.int .i64 n) ∧ w.heap.size < v.heap.size ∧ Hid (Below w.heap.size w v)) : Below w.heap.size w v := hS.2.2.2.2.2.2.out
theorem keep_drew {w v : World} {a b h l n : Int} (hS : v.cell? ⟨w.heap.size, 0, none⟩ = some (.int .u32 a) ∧ v.cell? ⟨w.heap.size, 1, none⟩ = some (.int .u32 b) ∧ v.cell? ⟨w.heap.size, 2, none⟩ = some (.int .u32 h) ∧ v.cell? ⟨w.heap.size, 3, none⟩ = some (.int .u32 l) ∧ v.cell? ⟨w.heap.size, 4, none⟩ = some (.int .i64 n) ∧ w.heap.size < v.heap.size ∧ Hid (Below w.heap.size w v)) : v.drew.cell? ⟨w.heap.size, 0, none⟩ = some (.int .u32 a) ∧ v.drew.cell? ⟨w.heap.size, 1, none⟩ = some (.int .u32 b) ∧ v.drew.cell? ⟨w.heap.size, 2, none⟩ = some (.int .u32 h) ∧ v.drew.cell? ⟨w.heap.size, 3, none⟩ = some (.int .u32 l) ∧ v.drew.cell? ⟨w.heap.size, 4, none⟩ = some (.int .i64 n) ∧ w.heap.size < v.drew.heap.size ∧ Hid (Below w.heap.size w v.drew) := by
  obtain ⟨c0, c1, c2, c3, c4, hs, hB⟩ := hS
  exact ⟨c0, c1, c2, c3, c4, hs, Lib.hid hB.out.drew⟩
theorem keep_new (w : World) (a b h l n : Int) (t : TypeId) : (w.alloc (.cells #[.int .u32 a, .int .u32 b, .int .u32 h, .int .u32 l, .int .i64 n] t)).cell? ⟨w.heap.size, 0, none⟩ = some (.int .u32 a) ∧ (w.alloc (.cells #[.int .u32 a, .int .u32 b, .int .u32 h, .int .u32 l, .int .i64 n] t)).cell? ⟨w.heap.size, 1, none⟩ = some (.int .u32 b) ∧ (w.alloc (.cells #[.int .u32 a, .int .u32 b, .int .u32 h, .int .u32 l, .int .i64 n] t)).cell? ⟨w.heap.size, 2, none⟩ = some (.int .u32 h) ∧ (w.alloc (.cells #[.int .u32 a, .int .u32 b, .int .u32 h, .int .u32 l, .int .i64 n] t)).cell? ⟨w.heap.size, 3, none⟩ = some (.int .u32 l) ∧ (w.alloc (.cells #[.int .u32 a, .int .u32 b, .int .u32 h, .int .u32 l, .int .i64 n] t)).cell? ⟨w.heap.size, 4, none⟩ = some (.int .i64 n) ∧ w.heap.size < (w.alloc (.cells #[.int .u32 a, .int .u32 b, .int .u32 h, .int .u32 l, .int .i64 n] t)).heap.size ∧ Hid (Below w.heap.size w (w.alloc (.cells #[.int .u32 a, .int .u32 b, .int .u32 h, .int .u32 l, .int .i64 n] t))) := by
  obtain ⟨⟨c0, c1, c2, c3, c4⟩, -⟩ := At.new w t a b h l n
  exact ⟨c0, c1, c2, c3, c4, lt_new _ _, Lib.hid ((Below.refl _ _).alloc (Nat.le_refl _) _)⟩
set_option maxHeartbeats 1000000 in
theorem steps_less (a b h l n : Int) (w : World) (a0 : 0 ≤ a) (a1 : a < 4294967296) (b0 : 0 ≤ b) (b1 : b < 4294967296) (h0 : 0 ≤ h) (h1 : h < 4294967296) (l0 : 0 ≤ l) (l1 : l < 4294967296) (hn : n < 1) :
    Calls Try.prog 3 #[.agg #[.int .u32 a, .int .u32 b, .int .u32 h, .int .u32 l, .int .i64 n]] w fun e w' => e = .returned (.bool true) ∧ Below w.heap.size w w' := by
  go_enter Try.func3, Try.ntmps3
  have HS := Lib.hid (keep_new w a b h l n 24)
  go_wp2_with fail
  refine (give_any _ _ _ _ _ _).mono ?_; rintro e w1 ⟨rfl, hb1⟩
  have HS1 := Lib.hid (keep_call HS.out hb1)
  clear HS hb1
  obtain ⟨c0, c1, c2, c3, c4, hs, hB⟩ := HS1.out
  go_wp2_with fail
  refine (run_any _ _ _ _ _ _ (by omega) (by omega) (by omega) (by omega) (by omega) (by omega) (by omega) (by omega)).mono ?_; rintro e w2 ⟨rfl, hb2⟩
  have HS2 := Lib.hid (keep_call HS1.out hb2)
  clear HS1 hb2 c0 c1 c2 c3 c4 hs hB
  obtain ⟨c0, c1, c2, c3, c4, hs, hB⟩ := HS2.out
  go_wp2_with fail
  refine (rrun_any _ _ _ _ _ _ (by omega) (by omega) (by omega) (by omega) (by omega) (by omega) (by omega) (by omega)).mono ?_; rintro e w3 ⟨rfl, hb3⟩
  have HS3 := Lib.hid (keep_call HS2.out hb3)
  clear HS2 hb3 c0 c1 c2 c3 c4 hs hB
  obtain ⟨R, hR⟩ : ∃ R, MM.rh a b h n = R := ⟨_, rfl⟩
  obtain ⟨L, hL⟩ : ∃ L, MM.rl a b h l n = L := ⟨_, rfl⟩
  rw [hR, hL]
  clear hR hL
  go_wp2_with fail
  go_region_held3 (fun w' => w'.cell? ⟨w.heap.size, 0, none⟩ = some (.int .u32 a) ∧ w'.cell? ⟨w.heap.size, 1, none⟩ = some (.int .u32 b) ∧ w'.cell? ⟨w.heap.size, 2, none⟩ = some (.int .u32 h) ∧ w'.cell? ⟨w.heap.size, 3, none⟩ = some (.int .u32 l) ∧ w'.cell? ⟨w.heap.size, 4, none⟩ = some (.int .i64 n) ∧ w.heap.size < w'.heap.size ∧ Hid (Below w.heap.size w w')) (first | exact keep_drew HS3.out | (exact keep_call (by assumption) (by assumption)))
    (first | (go_at_call 8; refine (give_any _ _ _ _ _ _).mono ?_; rintro e w4 ⟨rfl, hb4⟩) | (go_at_call 11; refine (step_end _ _ _ _ _ _ (by omega)).mono ?_; rintro e w5 ⟨rfl, hb5⟩) | (go_at_call 12; refine (rstep_end _ _ _ _ _ _ (by omega)).mono ?_; rintro e w6 ⟨rfl, hb6⟩) | (go_at_call 10; refine (same_any _ _ _ _ _ _).mono ?_; rintro e w7 ⟨rfl, hb7⟩) | (go_at_call 13; refine (awake_any _).mono ?_; rintro e w8 ⟨rfl, hb8⟩))
  all_goals
    have HE := Lib.hid (keep_end (a := a) (b := b) (h := h) (l := l) (n := n) (w := w) (by assumption))
    go_wp2
    go_ret
    exact ⟨rfl, HE.out⟩
set_option maxHeartbeats 1000000 in
theorem steps_more (a b h l n : Int) (w : World) (a0 : 0 ≤ a) (a1 : a < 4294967296) (b0 : 0 ≤ b) (b1 : b < 4294967296) (h0 : 0 ≤ h) (h1 : h < 4294967296) (l0 : 0 ≤ l) (l1 : l < 4294967296) (n0 : 1 ≤ n) (n1 : n ≤ 9223372036854775807) :
    Calls Try.prog 3 #[.agg #[.int .u32 a, .int .u32 b, .int .u32 h, .int .u32 l, .int .i64 n]] w fun e w' => e = .returned (.bool true) ∧ Below w.heap.size w w' := by
  go_enter Try.func3, Try.ntmps3
  have HS := Lib.hid (keep_new w a b h l n 24)
  go_wp2_with fail
  refine (give_any _ _ _ _ _ _).mono ?_; rintro e w1 ⟨rfl, hb1⟩
  have HS1 := Lib.hid (keep_call HS.out hb1)
  clear HS hb1
  obtain ⟨c0, c1, c2, c3, c4, hs, hB⟩ := HS1.out
  go_wp2_with fail
  refine (run_any _ _ _ _ _ _ (by omega) (by omega) (by omega) (by omega) (by omega) (by omega) (by omega) (by omega)).mono ?_; rintro e w2 ⟨rfl, hb2⟩
  have HS2 := Lib.hid (keep_call HS1.out hb2)
  clear HS1 hb2 c0 c1 c2 c3 c4 hs hB
  obtain ⟨c0, c1, c2, c3, c4, hs, hB⟩ := HS2.out
  go_wp2_with fail
  refine (rrun_any _ _ _ _ _ _ (by omega) (by omega) (by omega) (by omega) (by omega) (by omega) (by omega) (by omega)).mono ?_; rintro e w3 ⟨rfl, hb3⟩
  have HS3 := Lib.hid (keep_call HS2.out hb3)
  clear HS2 hb3 c0 c1 c2 c3 c4 hs hB
  obtain ⟨R, hR⟩ : ∃ R, MM.rh a b h n = R := ⟨_, rfl⟩
  obtain ⟨L, hL⟩ : ∃ L, MM.rl a b h l n = L := ⟨_, rfl⟩
  rw [hR, hL]
  clear hR hL
  go_wp2_with fail
  go_region_held3 (fun w' => w'.cell? ⟨w.heap.size, 0, none⟩ = some (.int .u32 a) ∧ w'.cell? ⟨w.heap.size, 1, none⟩ = some (.int .u32 b) ∧ w'.cell? ⟨w.heap.size, 2, none⟩ = some (.int .u32 h) ∧ w'.cell? ⟨w.heap.size, 3, none⟩ = some (.int .u32 l) ∧ w'.cell? ⟨w.heap.size, 4, none⟩ = some (.int .i64 n) ∧ w.heap.size < w'.heap.size ∧ Hid (Below w.heap.size w w')) (first | exact keep_drew HS3.out | (exact keep_call (by assumption) (by assumption)))
    (first | (go_at_call 8; refine (give_any _ _ _ _ _ _).mono ?_; rintro e w4 ⟨rfl, hb4⟩) | (go_at_call 11; refine (step_any _ _ _ _ _ _ (by omega) (by omega) (by omega) (by omega) (by omega) (by omega) (by omega) (by omega) (by omega) (by omega)).mono ?_; rintro e w5 ⟨rfl, hb5⟩) | (go_at_call 12; refine (rstep_any _ _ _ _ _ _ (by omega) (by omega) (by omega) (by omega) (by omega) (by omega) (by omega) (by omega) (by omega) (by omega)).mono ?_; rintro e w6 ⟨rfl, hb6⟩) | (go_at_call 10; refine (same_any _ _ _ _ _ _).mono ?_; rintro e w7 ⟨rfl, hb7⟩) | (go_at_call 13; refine (awake_any _).mono ?_; rintro e w8 ⟨rfl, hb8⟩))
  all_goals
    have HE := Lib.hid (keep_end (a := a) (b := b) (h := h) (l := l) (n := n) (w := w) (by assumption))
    go_wp2
    go_ret
    exact ⟨rfl, HE.out⟩
theorem steps_walk (a b h l n : Int) (w : World) (a0 : 0 ≤ a) (a1 : a < 4294967296) (b0 : 0 ≤ b) (b1 : b < 4294967296) (h0 : 0 ≤ h) (h1 : h < 4294967296) (l0 : 0 ≤ l) (l1 : l < 4294967296) (_ : -9223372036854775808 ≤ n) (n1 : n ≤ 9223372036854775807) :
    Calls Try.prog 3 #[.agg #[.int .u32 a, .int .u32 b, .int .u32 h, .int .u32 l, .int .i64 n]] w fun e w' => e = .returned (.bool true) ∧ Below w.heap.size w w' := by
  by_cases hn : n < 1
  · exact steps_less a b h l n w a0 a1 b0 b1 h0 h1 l0 l1 hn
  · exact steps_more a b h l n w a0 a1 b0 b1 h0 h1 l0 l1 (by omega) n1
end Go.Proofs.Ytplbpbcdafakdaa
