/-
  The law DivSteps, walked: for every division and every two words the answer is true, and memory that was there is unchanged.
-/
import Derived.Test.YtfobopchfiehgaaWalkF
import Derived.Deep.RegionHeld3
namespace Go.Proofs.Ytfobopchfiehgaa
open Go.RowKit
theorem keep_call {w v v' : World} {a b h l n : Int} (hS : v.cell? ⟨w.heap.size, 0, none⟩ = some (.int .u32 a) ∧ v.cell? ⟨w.heap.size, 1, none⟩ = some (.int .u32 b) ∧ v.cell? ⟨w.heap.size, 2, none⟩ = some (.int .u32 h) ∧ v.cell? ⟨w.heap.size, 3, none⟩ = some (.int .u32 l) ∧ v.cell? ⟨w.heap.size, 4, none⟩ = some (.int .i64 n) ∧ w.heap.size < v.heap.size ∧ Hid (Below w.heap.size w v)) (hb : Below v.heap.size v v') : v'.cell? ⟨w.heap.size, 0, none⟩ = some (.int .u32 a) ∧ v'.cell? ⟨w.heap.size, 1, none⟩ = some (.int .u32 b) ∧ v'.cell? ⟨w.heap.size, 2, none⟩ = some (.int .u32 h) ∧ v'.cell? ⟨w.heap.size, 3, none⟩ = some (.int .u32 l) ∧ v'.cell? ⟨w.heap.size, 4, none⟩ = some (.int .i64 n) ∧ w.heap.size < v'.heap.size ∧ Hid (Below w.heap.size w v') := by
  obtain ⟨c0, c1, c2, c3, c4, hs, hB⟩ := hS
  exact ⟨(hb.cell hs).trans c0, (hb.cell hs).trans c1, (hb.cell hs).trans c2, (hb.cell hs).trans c3, (hb.cell hs).trans c4, Nat.lt_of_lt_of_le hs hb.size, Lib.hid (then_below hB.out (hb.mono (Nat.le_refl _)))⟩
theorem keep_end {w v : World} {a b h l n : Int} (hS : v.cell? ⟨w.heap.size, 0, none⟩ = some (.int .u32 a) ∧ v.cell? ⟨w.heap.size, 1, none⟩ = some (.int .u32 b) ∧ v.cell? ⟨w.heap.size, 2, none⟩ = some (.int .u32 h) ∧ v.cell? ⟨w.heap.size, 3, none⟩ = some (.int .u32 l) ∧ v.cell? ⟨w.heap.size, 4, none⟩ = some (.int .i64 n) ∧ w.heap.size < v.heap.size ∧ Hid (Below w.heap.size w v)) : Below w.heap.size w v := hS.2.2.2.2.2.2.out
theorem keep_drew {w v : World} {a b h l n : Int} (hS : v.cell? ⟨w.heap.size, 0, none⟩ = some (.int .u32 a) ∧ v.cell? ⟨w.heap.size, 1, none⟩ = some (.int .u32 b) ∧ v.cell? ⟨w.heap.size, 2, none⟩ = some (.int .u32 h) ∧ v.cell? ⟨w.heap.size, 3, none⟩ = some (.int .u32 l) ∧ v.cell? ⟨w.heap.size, 4, none⟩ = some (.int .i64 n) ∧ w.heap.size < v.heap.size ∧ Hid (Below w.heap.size w v)) : v.drew.cell? ⟨w.heap.size, 0, none⟩ = some (.int .u32 a) ∧ v.drew.cell? ⟨w.heap.size, 1, none⟩ = some (.int .u32 b) ∧ v.drew.cell? ⟨w.heap.size, 2, none⟩ = some (.int .u32 h) ∧ v.drew.cell? ⟨w.heap.size, 3, none⟩ = some (.int .u32 l) ∧ v.drew.cell? ⟨w.heap.size, 4, none⟩ = some (.int .i64 n) ∧ w.heap.size < v.drew.heap.size ∧ Hid (Below w.heap.size w v.drew) := by
  obtain ⟨c0, c1, c2, c3, c4, hs, hB⟩ := hS
  exact ⟨c0, c1, c2, c3, c4, hs, Lib.hid hB.out.drew⟩
theorem keep_new (w : World) (a b h l n : Int) (t : TypeId) : (w.alloc (.cells #[.int .u32 a, .int .u32 b, .int .u32 h, .int .u32 l, .int .i64 n] t)).cell? ⟨w.heap.size, 0, none⟩ = some (.int .u32 a) ∧ (w.alloc (.cells #[.int .u32 a, .int .u32 b, .int .u32 h, .int .u32 l, .int .i64 n] t)).cell? ⟨w.heap.size, 1, none⟩ = some (.int .u32 b) ∧ (w.alloc (.cells #[.int .u32 a, .int .u32 b, .int .u32 h, .int .u32 l, .int .i64 n] t)).cell? ⟨w.heap.size, 2, none⟩ = some (.int .u32 h) ∧ (w.alloc (.cells #[.int .u32 a, .int .u32 b, .int .u32 h, .int .u32 l, .int .i64 n] t)).cell? ⟨w.heap.size, 3, none⟩ = some (.int .u32 l) ∧ (w.alloc (.cells #[.int .u32 a, .int .u32 b, .int .u32 h, .int .u32 l, .int .i64 n] t)).cell? ⟨w.heap.size, 4, none⟩ = some (.int .i64 n) ∧ w.heap.size < (w.alloc (.cells #[.int .u32 a, .int .u32 b, .int .u32 h, .int .u32 l, .int .i64 n] t)).heap.size ∧ Hid (Below w.heap.size w (w.alloc (.cells #[.int .u32 a, .int .u32 b, .int .u32 h, .int .u32 l, .int .i64 n] t))) := by
  obtain ⟨⟨c0, c1, c2, c3, c4⟩, -⟩ := At.new w t a b h l n
  exact ⟨c0, c1, c2, c3, c4, lt_new _ _, Lib.hid ((Below.refl _ _).alloc (Nat.le_refl _) _)⟩
set_option maxHeartbeats 1000000 in
theorem steps_walk (a b h l n c d : Int) (w : World) (a0 : 0 ≤ a) (a1 : a < 4294967296) (b0 : 0 ≤ b) (b1 : b < 4294967296) (h0 : 0 ≤ h) (h1 : h < 4294967296) (l0 : 0 ≤ l) (l1 : l < 4294967296) (_ : -9223372036854775808 ≤ n) (_ : n ≤ 9223372036854775807) (_ : 0 ≤ c) (_ : c < 4294967296) (_ : 0 ≤ d) (_ : d < 4294967296) :
    Calls Try.prog 3 #[.agg #[.int .u32 a, .int .u32 b, .int .u32 h, .int .u32 l, .int .i64 n], .int .u32 c, .int .u32 d] w fun e w' => e = .returned (.bool true) ∧ Below w.heap.size w w' := by
  have HP := Lib.hid (fun W => step_any a b h l n W a0 a1 b0 b1 h0 h1 l0 l1)
  have HQ := Lib.hid (fun W => rstep_any a b h l n W a0 a1 b0 b1 h0 h1 l0 l1)
  obtain ⟨Q, hQ⟩ : ∃ x, DM.tq a b h l n = x := ⟨_, rfl⟩
  obtain ⟨R, hR⟩ : ∃ x, DM.tr a b l n = x := ⟨_, rfl⟩
  obtain ⟨L, hL⟩ : ∃ x, DM.tn n = x := ⟨_, rfl⟩
  rw [hQ, hR, hL] at HP HQ
  clear hQ hR hL
  go_enter Try.func3, Try.ntmps3
  have HS := Lib.hid (keep_new w a b h l n 24)
  go_wp2_with fail
  go_region_held3 (fun w' => w'.cell? ⟨w.heap.size, 0, none⟩ = some (.int .u32 a) ∧ w'.cell? ⟨w.heap.size, 1, none⟩ = some (.int .u32 b) ∧ w'.cell? ⟨w.heap.size, 2, none⟩ = some (.int .u32 h) ∧ w'.cell? ⟨w.heap.size, 3, none⟩ = some (.int .u32 l) ∧ w'.cell? ⟨w.heap.size, 4, none⟩ = some (.int .i64 n) ∧ w.heap.size < w'.heap.size ∧ Hid (Below w.heap.size w w')) (first | exact keep_drew HS.out | (exact keep_call (by assumption) (by assumption)))
    (first | (go_at_call 10; refine (to_any _ _ _ _ _ _).mono ?_; rintro e w4 ⟨rfl, hb4⟩) | (go_at_call 9; (with_reducible refine (HP.out _).mono ?_); rintro e w5 ⟨rfl, hb5⟩) | (go_at_call 11; (with_reducible refine (HQ.out _).mono ?_); rintro e w6 ⟨rfl, hb6⟩) | (go_at_call 8; refine (of_any _ _ _ _ _ _).mono ?_; rintro e w7 ⟨rfl, hb7⟩) | (go_at_call 12; refine (new_any _ _ _).mono ?_; rintro e w8 ⟨rfl, hb8⟩) | (go_at_call 13; refine (rnew_any _ _ _).mono ?_; rintro e w9 ⟨rfl, hb9⟩) | (go_at_call 14; refine (awake_any _).mono ?_; rintro e w10 ⟨rfl, hb10⟩))
  all_goals
    have HE := Lib.hid (keep_end (a := a) (b := b) (h := h) (l := l) (n := n) (w := w) (by assumption))
    go_wp2
    go_ret
    exact ⟨rfl, HE.out⟩
end Go.Proofs.Ytfobopchfiehgaa
