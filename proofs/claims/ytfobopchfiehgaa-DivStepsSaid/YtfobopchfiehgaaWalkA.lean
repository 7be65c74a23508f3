/-
  What the small functions of package div, of the reference and of the laws answer, for every argument of their types; none changes memory that was there.
-/
import Derived.Test.YtfobopchfiehgaaRows
import Derived.Test.YtfobopchfiehgaaMath
import Derived.Lib.Hide
import Derived.WalkKit
import Derived.WalkSpells
import Derived.WalkLawsBesides
import Derived.BigQuiet
namespace Go.Proofs.Ytfobopchfiehgaa
open Go.RowKit

theorem ret_int {k : IntKind} {a b : Int} (h : a = b) : Ending.returned (.int k a) = .returned (.int k b) := by rw [h]
theorem ret_bool {a b : Bool} (h : a = b) : Ending.returned (.bool a) = .returned (.bool b) := by rw [h]
theorem below_drewN {B : Nat} {a w : World} (h : Below B a w) (n : Nat) : Below B a (w.drewN n) := ⟨h.os, h.tape, h.output, h.size, h.block⟩
set_option maxHeartbeats 400000 in
theorem new_any (a b : Int) (w : World) :
    Calls Try.prog 12 #[.int .u32 a, .int .u32 b] w fun e w' => e = .returned (.agg #[.int .u32 a, .int .u32 b, .int .u32 0, .int .u32 0, .int .i64 32]) ∧ Below w.heap.size w w' := by
  go_enter Try.func12, Try.ntmps12
  go_wp2
  exact bodyPost_ret (v := .agg #[.int .u32 a, .int .u32 b, .int .u32 0, .int .u32 0, .int .i64 32]) (by simp [results, Try.results12, go_sem]) rfl ⟨rfl, (Below.refl _ _).alloc (Nat.le_refl _) _⟩
set_option maxHeartbeats 400000 in
theorem rnew_any (a b : Int) (w : World) :
    Calls Try.prog 13 #[.int .u32 a, .int .u32 b] w fun e w' => e = .returned (.agg #[.int .u32 a, .int .u32 b, .int .u32 0, .int .u32 0, .int .i64 32]) ∧ Below w.heap.size w w' := by
  go_enter Try.func13, Try.ntmps13
  go_wp2
  exact bodyPost_ret (v := .agg #[.int .u32 a, .int .u32 b, .int .u32 0, .int .u32 0, .int .i64 32]) (by simp [results, Try.results13, go_sem]) rfl ⟨rfl, (Below.refl _ _).alloc (Nat.le_refl _) _⟩
set_option maxHeartbeats 400000 in
theorem to_any (a b h l n : Int) (w : World) :
    Calls Try.prog 10 #[.agg #[.int .u32 a, .int .u32 b, .int .u32 h, .int .u32 l, .int .i64 n]] w fun e w' => e = .returned (.agg #[.int .u32 a, .int .u32 b, .int .u32 h, .int .u32 l, .int .i64 n]) ∧ Below w.heap.size w w' := by
  go_enter Try.func10, Try.ntmps10
  go_wp2
  exact bodyPost_ret (v := .agg #[.int .u32 a, .int .u32 b, .int .u32 h, .int .u32 l, .int .i64 n]) (by simp [results, Try.results10, go_sem]) rfl ⟨rfl, ((Below.refl _ _).alloc (Nat.le_refl _) _).alloc (by simp) _⟩
set_option maxHeartbeats 400000 in
theorem of_any (a b h l n : Int) (w : World) :
    Calls Try.prog 8 #[.agg #[.int .u32 a, .int .u32 b, .int .u32 h, .int .u32 l, .int .i64 n]] w fun e w' => e = .returned (.agg #[.int .u32 a, .int .u32 b, .int .u32 h, .int .u32 l, .int .i64 n]) ∧ Below w.heap.size w w' := by
  go_enter Try.func8, Try.ntmps8
  go_wp2
  exact bodyPost_ret (v := .agg #[.int .u32 a, .int .u32 b, .int .u32 h, .int .u32 l, .int .i64 n]) (by simp [results, Try.results8, go_sem]) rfl ⟨rfl, ((Below.refl _ _).alloc (Nat.le_refl _) _).alloc (by simp) _⟩
set_option maxHeartbeats 400000 in
theorem left_any (n : Int) (w : World) :
    Calls Try.prog 20 #[.int .i64 n] w fun e w' => e = .returned (.int .i64 (DM.lf n)) ∧ w = w' := by
  go_enter Try.func20, Try.ntmps20
  go_wp2
  all_goals (go_ret; exact ⟨ret_int (by unfold DM.lf; split <;> (try split) <;> omega), rfl⟩)
set_option maxHeartbeats 400000 in
theorem remaining_at (a b h l n : Int) (w : World) :
    Calls Try.prog 19 #[.agg #[.int .u32 a, .int .u32 b, .int .u32 h, .int .u32 l, .int .i64 n]] w fun e w' => e = .returned (.int .i64 (DM.lf n)) ∧ w' = w.alloc (.cells #[.int .u32 a, .int .u32 b, .int .u32 h, .int .u32 l, .int .i64 n] 26) := by
  go_enter Try.func19, Try.ntmps19
  go_wp2
  all_goals
    go_ret
    exact ⟨ret_int (by unfold DM.lf; split <;> (try split) <;> omega), rfl⟩
set_option maxHeartbeats 400000 in
theorem neg_any (x : Int) (w : World) (h0 : 0 ≤ x) (h1 : x < 4294967296) :
    Calls Try.prog 24 #[.int .u32 x] w fun e w' => e = .returned (.bool (decide (2147483648 ≤ x))) ∧ w = w' := by
  go_enter Try.func24, Try.ntmps24
  go_wp2
  go_ret
  exact ⟨ret_bool (by rw [Bool.eq_iff_iff]; simp; omega), rfl⟩
/-- The number without its lowest k bits. -/
def up (N : Int) (k : Nat) : Int := N / 2 ^ k
theorem up_bd (N : Int) (k : Nat) (h0 : 0 ≤ N) (h1 : N < 4294967296) : 0 ≤ up N k ∧ up N k < 4294967296 := DM.up_bd N h0 h1 k
theorem up_next (N : Int) (k : Nat) : up N k / 2 = up N (k + 1) := by
  unfold up
  rw [Int.pow_succ, Int.ediv_ediv_of_nonneg (Int.le_of_lt (Int.pow_pos (by decide)))]
theorem up_zero (N : Int) : up N 0 = N := by unfold up; rw [Int.pow_zero, Int.ediv_one]
set_option maxHeartbeats 400000 in
theorem bit_any (x : Int) (i : Nat) (w : World) (hx0 : 0 ≤ x) (hx : x < 4294967296) (h1 : (i : Int) ≤ 31) :
    Calls Try.prog 21 #[.int .u32 x, .int .i64 i] w fun e w' => e = .returned (.int .u64 (DM.bt x i)) ∧ w = w' := by
  have HZ := Lib.hid (up_zero x)
  go_enter Try.func21, Try.ntmps21
  go_wp2
  go_loop [5, 6] (fun y c => ∃ k : Nat, (k : Int) ≤ i ∧ c = .int .i64 k ∧ y = .int .u64 (up x k)) (fun _ c => (i - intOf c).toNat)
  case atStart => exact ⟨0, by omega, rfl, by rw [HZ.out]⟩
  case round =>
    obtain ⟨k, hk, rfl, rfl⟩ := hrel
    obtain ⟨b0, b1⟩ := up_bd x k hx0 hx
    have HN := Lib.hid (up_next x k)
    by_cases hlt : (k : Int) < i
    · go_wp2
      go_round
      case rel => exact ⟨k + 1, by omega, by go_num, by rw [← HN.out]⟩
      case measure => simp [intOf]; omega
    · go_wp2
      go_ret
      exact ⟨ret_int (by rw [show i = k by omega]; rfl), rfl⟩
set_option maxHeartbeats 400000 in
theorem size_any (x : Int) (w : World) (h0 : 0 ≤ x) (h1 : x < 4294967296) :
    Calls Try.prog 23 #[.int .u32 x] w fun e w' => e = .returned (.int .u32 (if 2147483648 ≤ x then 4294967296 - x else x)) ∧ w = w' := by
  by_cases h : 2147483648 ≤ x
  · rw [if_pos h]
    go_enter Try.func23, Try.ntmps23
    go_wp2_with (first | (go_at_call 24; refine (neg_any _ _ (by omega) (by omega)).mono ?_; rintro e w' ⟨rfl, rfl⟩))
    go_ret
    exact ⟨ret_int (by omega), rfl⟩
  · rw [if_neg h]
    have h' : x < 2147483648 := by omega
    clear h
    go_enter Try.func23, Try.ntmps23
    go_wp2_with (first | (go_at_call 24; refine (neg_any _ _ (by omega) (by omega)).mono ?_; rintro e w' ⟨rfl, rfl⟩))
    go_ret
    exact ⟨ret_int (by omega), rfl⟩
end Go.Proofs.Ytfobopchfiehgaa
