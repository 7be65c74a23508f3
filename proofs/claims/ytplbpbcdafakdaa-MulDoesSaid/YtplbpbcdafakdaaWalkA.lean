/-
  What the functions of package mul and of the reference answer, for every argument of their types; none changes memory that was there.
-/
import Derived.Test.YtplbpbcdafakdaaS01WalkA
import Derived.Test.YtplbpbcdafakdaaMath
namespace Go.Proofs.Ytplbpbcdafakdaa
open Go.RowKit S01

set_option maxHeartbeats 400000 in
theorem new_any (a b : Int) (w : World) :
    Calls Try.prog 14 #[.int .u32 a, .int .u32 b] w fun e w' => e = .returned (.agg #[.int .u32 a, .int .u32 b, .int .u32 0, .int .u32 0, .int .i64 32]) ∧ Below w.heap.size w w' := by
  go_enter Try.func14, Try.ntmps14
  go_wp2
  exact bodyPost_ret (v := .agg #[.int .u32 a, .int .u32 b, .int .u32 0, .int .u32 0, .int .i64 32]) (by simp [results, Try.results14, go_sem]) rfl ⟨rfl, (Below.refl _ _).alloc (Nat.le_refl _) _⟩
set_option maxHeartbeats 400000 in
theorem rnew_any (a b : Int) (w : World) :
    Calls Try.prog 15 #[.int .u32 a, .int .u32 b] w fun e w' => e = .returned (.agg #[.int .u32 a, .int .u32 b, .int .u32 0, .int .u32 0, .int .i64 32]) ∧ Below w.heap.size w w' := by
  go_enter Try.func15, Try.ntmps15
  go_wp2
  exact bodyPost_ret (v := .agg #[.int .u32 a, .int .u32 b, .int .u32 0, .int .u32 0, .int .i64 32]) (by simp [results, Try.results15, go_sem]) rfl ⟨rfl, (Below.refl _ _).alloc (Nat.le_refl _) _⟩
set_option maxHeartbeats 400000 in
theorem give_any (a b h l n : Int) (w : World) :
    Calls Try.prog 8 #[.agg #[.int .u32 a, .int .u32 b, .int .u32 h, .int .u32 l, .int .i64 n]] w fun e w' => e = .returned (.agg #[.int .u32 a, .int .u32 b, .int .u32 h, .int .u32 l, .int .i64 n]) ∧ Below w.heap.size w w' := by
  go_enter Try.func8, Try.ntmps8
  go_wp2
  exact bodyPost_ret (v := .agg #[.int .u32 a, .int .u32 b, .int .u32 h, .int .u32 l, .int .i64 n]) (by simp [results, Try.results8, go_sem]) rfl ⟨rfl, ((Below.refl _ _).alloc (Nat.le_refl _) _).alloc (by simp) _⟩
theorem field_low (x : Int) (w : World) (h0 : 0 ≤ x) (h1 : x < 4294967296) :
    Calls Try.prog 18 #[.int .u32 x, .int .i64 0, .int .i64 0] w fun e w' => e = .returned (.int .u32 (x % 2)) ∧ ∃ n, w' = w.drewN n := by
  have := field_any x 0 0 w h0 h1
  rwa [MM.fd_low x h0] at this
theorem field_high (x : Int) (w : World) (h0 : 0 ≤ x) (h1 : x < 4294967296) :
    Calls Try.prog 18 #[.int .u32 x, .int .i64 31, .int .i64 31] w fun e w' => e = .returned (.int .u32 (x / 2147483648)) ∧ ∃ n, w' = w.drewN n := by
  have := field_any x 31 31 w h0 h1
  rwa [MM.fd_high x h0 h1] at this
theorem put_high (x v : Int) (w : World) (h0 : 0 ≤ x) (h1 : x < 2147483648) (v0 : 0 ≤ v) :
    Calls Try.prog 19 #[.int .u32 x, .int .i64 31, .int .i64 31, .int .u32 v] w fun e w' => e = .returned (.int .u32 (x + v % 2 * 2147483648)) ∧ w = w' := by
  have := put_any x 31 31 v w h0 (by omega) v0
  rwa [MM.pt_high x v h0 h1 v0] at this
theorem below_drewN {B : Nat} {a w : World} (h : Below B a w) (n : Nat) : Below B a (w.drewN n) := ⟨h.os, h.tape, h.output, h.size, h.block⟩
set_option maxHeartbeats 400000 in
theorem step_end (a b h l n : Int) (w : World) (hn : n < 1) :
    Calls Try.prog 11 #[.agg #[.int .u32 a, .int .u32 b, .int .u32 h, .int .u32 l, .int .i64 n]] w fun e w' => e = .returned (.agg #[.int .u32 a, .int .u32 b, .int .u32 h, .int .u32 l, .int .i64 n]) ∧ Below w.heap.size w w' := by
  go_enter Try.func11, Try.ntmps11
  go_wp2
  exact bodyPost_ret (v := .agg #[.int .u32 a, .int .u32 b, .int .u32 h, .int .u32 l, .int .i64 n]) (by simp [results, Try.results11, go_sem]) rfl ⟨rfl, ((Below.refl _ _).alloc (Nat.le_refl _) _).alloc (by simp) _⟩
set_option maxHeartbeats 400000 in
theorem step_even (a b h l n : Int) (w : World) (a0 : 0 ≤ a) (a1 : a < 4294967296) (b0 : 0 ≤ b) (b1 : b < 4294967296) (h0 : 0 ≤ h) (h1 : h < 4294967296) (l0 : 0 ≤ l) (l1 : l < 4294967296) (n0 : 1 ≤ n) (n1 : n ≤ 9223372036854775807) (hb : (b % 2 == 1) = false) :
    Calls Try.prog 11 #[.agg #[.int .u32 a, .int .u32 b, .int .u32 h, .int .u32 l, .int .i64 n]] w fun e w' => e = .returned (.agg #[.int .u32 a, .int .u32 (b / 2), .int .u32 (MM.sh a b h), .int .u32 (MM.sl a b h l), .int .i64 (n - 1)]) ∧ Below w.heap.size w w' := by
  have HS := Lib.hid (show MM.sh a b h = h / 2 by unfold MM.sh; rw [MM.sm_even a b h (by simp at hb; omega)])
  have HL := Lib.hid (show MM.sl a b h l = l / 2 + h % 2 * 2147483648 by unfold MM.sl; rw [MM.sm_even a b h (by simp at hb; omega)])
  go_enter Try.func11, Try.ntmps11
  go_wp2_with (first | (go_at_call 18; refine (field_low _ _ (by omega) (by omega)).mono ?_; rintro e w' ⟨rfl, nd, rfl⟩) | (go_at_call 19; refine (put_high _ _ _ (by omega) (by omega) (by omega)).mono ?_; rintro e w' ⟨rfl, rfl⟩))
  refine bodyPost_ret (v := .agg #[.int .u32 a, .int .u32 (b / 2), .int .u32 (h / 2), .int .u32 (l / 2 + h % 2 * 2147483648), .int .i64 (n - 1)]) (by simp [results, Try.results11, go_sem]) rfl ⟨by rw [HS.out, HL.out], ?_⟩
  exact ((((((((((below_drewN (((Below.refl _ _).alloc (Nat.le_refl _) _).alloc (by simp) _) nd).setCell (by simp) _).setCell (by simp) _).setCell (by simp) _).setCell (by simp) _).setCell (by simp) _).setCell (by simp) _).setCell (by simp) _).setCell (by simp) _).setCell (by simp) _)
set_option maxHeartbeats 400000 in
theorem step_odd (a b h l n : Int) (w : World) (a0 : 0 ≤ a) (a1 : a < 4294967296) (b0 : 0 ≤ b) (b1 : b < 4294967296) (h0 : 0 ≤ h) (h1 : h < 4294967296) (l0 : 0 ≤ l) (l1 : l < 4294967296) (n0 : 1 ≤ n) (n1 : n ≤ 9223372036854775807) (hb : (b % 2 == 1) = true) :
    Calls Try.prog 11 #[.agg #[.int .u32 a, .int .u32 b, .int .u32 h, .int .u32 l, .int .i64 n]] w fun e w' => e = .returned (.agg #[.int .u32 a, .int .u32 (b / 2), .int .u32 (MM.sh a b h), .int .u32 (MM.sl a b h l), .int .i64 (n - 1)]) ∧ Below w.heap.size w w' := by
  have HS := Lib.hid (show MM.sh a b h = (h + a) / 2 by unfold MM.sh; rw [MM.sm_odd a b h (by simpa using hb)])
  have HL := Lib.hid (show MM.sl a b h l = l / 2 + (h + a) % 2 * 2147483648 by unfold MM.sl; rw [MM.sm_odd a b h (by simpa using hb)])
  go_enter Try.func11, Try.ntmps11
  go_wp2_with (first | (go_at_call 18; refine (field_low _ _ (by omega) (by omega)).mono ?_; rintro e w' ⟨rfl, nd, rfl⟩) | (go_at_call 19; refine (put_high _ _ _ (by omega) (by omega) (by omega)).mono ?_; rintro e w' ⟨rfl, rfl⟩))
  refine bodyPost_ret (v := .agg #[.int .u32 a, .int .u32 (b / 2), .int .u32 ((h + a) / 2), .int .u32 (l / 2 + (h + a) % 2 * 2147483648), .int .i64 (n - 1)]) (by simp [results, Try.results11, go_sem]) rfl ⟨by rw [HS.out, HL.out], ?_⟩
  exact ((((((((((below_drewN (((Below.refl _ _).alloc (Nat.le_refl _) _).alloc (by simp) _) nd).setCell (by simp) _).setCell (by simp) _).setCell (by simp) _).setCell (by simp) _).setCell (by simp) _).setCell (by simp) _).setCell (by simp) _).setCell (by simp) _).setCell (by simp) _)
theorem step_any (a b h l n : Int) (w : World) (a0 : 0 ≤ a) (a1 : a < 4294967296) (b0 : 0 ≤ b) (b1 : b < 4294967296) (h0 : 0 ≤ h) (h1 : h < 4294967296) (l0 : 0 ≤ l) (l1 : l < 4294967296) (n0 : 1 ≤ n) (n1 : n ≤ 9223372036854775807) :
    Calls Try.prog 11 #[.agg #[.int .u32 a, .int .u32 b, .int .u32 h, .int .u32 l, .int .i64 n]] w fun e w' => e = .returned (.agg #[.int .u32 a, .int .u32 (b / 2), .int .u32 (MM.sh a b h), .int .u32 (MM.sl a b h l), .int .i64 (n - 1)]) ∧ Below w.heap.size w w' := by
  cases hb : (b % 2 == 1)
  · exact step_even a b h l n w a0 a1 b0 b1 h0 h1 l0 l1 n0 n1 hb
  · exact step_odd a b h l n w a0 a1 b0 b1 h0 h1 l0 l1 n0 n1 hb
set_option maxHeartbeats 400000 in
theorem rstep_end (a b h l n : Int) (w : World) (hn : n < 1) :
    Calls Try.prog 12 #[.agg #[.int .u32 a, .int .u32 b, .int .u32 h, .int .u32 l, .int .i64 n]] w fun e w' => e = .returned (.agg #[.int .u32 a, .int .u32 b, .int .u32 h, .int .u32 l, .int .i64 n]) ∧ Below w.heap.size w w' := by
  go_enter Try.func12, Try.ntmps12
  go_wp2
  exact bodyPost_ret (v := .agg #[.int .u32 a, .int .u32 b, .int .u32 h, .int .u32 l, .int .i64 n]) (by simp [results, Try.results12, go_sem]) rfl ⟨rfl, ((Below.refl _ _).alloc (Nat.le_refl _) _).alloc (by simp) _⟩
set_option maxHeartbeats 400000 in
theorem rstep_even (a b h l n : Int) (w : World) (a0 : 0 ≤ a) (a1 : a < 4294967296) (b0 : 0 ≤ b) (b1 : b < 4294967296) (h0 : 0 ≤ h) (h1 : h < 4294967296) (l0 : 0 ≤ l) (l1 : l < 4294967296) (n0 : 1 ≤ n) (n1 : n ≤ 9223372036854775807) (hb : (b % 2 == 1) = false) :
    Calls Try.prog 12 #[.agg #[.int .u32 a, .int .u32 b, .int .u32 h, .int .u32 l, .int .i64 n]] w fun e w' => e = .returned (.agg #[.int .u32 a, .int .u32 (b / 2), .int .u32 (MM.sh a b h), .int .u32 (MM.sl a b h l), .int .i64 (n - 1)]) ∧ Below w.heap.size w w' := by
  have HS := Lib.hid (show MM.sh a b h = h / 2 by unfold MM.sh; rw [MM.sm_even a b h (by simp at hb; omega)])
  have HL := Lib.hid (show MM.sl a b h l = l / 2 + h % 2 * 2147483648 by unfold MM.sl; rw [MM.sm_even a b h (by simp at hb; omega)])
  go_enter Try.func12, Try.ntmps12
  go_wp2
  refine bodyPost_ret (v := .agg #[.int .u32 a, .int .u32 (b / 2), .int .u32 (h / 2), .int .u32 (l / 2 + h % 2 * 2147483648), .int .i64 (n - 1)]) (by simp [results, Try.results12, go_sem]) rfl ⟨by rw [HS.out, HL.out], ?_⟩
  exact ((Below.refl _ _).alloc (Nat.le_refl _) _).alloc (by simp) _
set_option maxHeartbeats 400000 in
theorem rstep_odd (a b h l n : Int) (w : World) (a0 : 0 ≤ a) (a1 : a < 4294967296) (b0 : 0 ≤ b) (b1 : b < 4294967296) (h0 : 0 ≤ h) (h1 : h < 4294967296) (l0 : 0 ≤ l) (l1 : l < 4294967296) (n0 : 1 ≤ n) (n1 : n ≤ 9223372036854775807) (hb : (b % 2 == 1) = true) :
    Calls Try.prog 12 #[.agg #[.int .u32 a, .int .u32 b, .int .u32 h, .int .u32 l, .int .i64 n]] w fun e w' => e = .returned (.agg #[.int .u32 a, .int .u32 (b / 2), .int .u32 (MM.sh a b h), .int .u32 (MM.sl a b h l), .int .i64 (n - 1)]) ∧ Below w.heap.size w w' := by
  have HS := Lib.hid (show MM.sh a b h = (h + a) / 2 by unfold MM.sh; rw [MM.sm_odd a b h (by simpa using hb)])
  have HL := Lib.hid (show MM.sl a b h l = l / 2 + (h + a) % 2 * 2147483648 by unfold MM.sl; rw [MM.sm_odd a b h (by simpa using hb)])
  go_enter Try.func12, Try.ntmps12
  go_wp2
  refine bodyPost_ret (v := .agg #[.int .u32 a, .int .u32 (b / 2), .int .u32 ((h + a) / 2), .int .u32 (l / 2 + (h + a) % 2 * 2147483648), .int .i64 (n - 1)]) (by simp [results, Try.results12, go_sem]) rfl ⟨by rw [HS.out, HL.out], ?_⟩
  exact ((Below.refl _ _).alloc (Nat.le_refl _) _).alloc (by simp) _
theorem rstep_any (a b h l n : Int) (w : World) (a0 : 0 ≤ a) (a1 : a < 4294967296) (b0 : 0 ≤ b) (b1 : b < 4294967296) (h0 : 0 ≤ h) (h1 : h < 4294967296) (l0 : 0 ≤ l) (l1 : l < 4294967296) (n0 : 1 ≤ n) (n1 : n ≤ 9223372036854775807) :
    Calls Try.prog 12 #[.agg #[.int .u32 a, .int .u32 b, .int .u32 h, .int .u32 l, .int .i64 n]] w fun e w' => e = .returned (.agg #[.int .u32 a, .int .u32 (b / 2), .int .u32 (MM.sh a b h), .int .u32 (MM.sl a b h l), .int .i64 (n - 1)]) ∧ Below w.heap.size w w' := by
  cases hb : (b % 2 == 1)
  · exact rstep_even a b h l n w a0 a1 b0 b1 h0 h1 l0 l1 n0 n1 hb
  · exact rstep_odd a b h l n w a0 a1 b0 b1 h0 h1 l0 l1 n0 n1 hb
end Go.Proofs.Ytplbpbcdafakdaa
