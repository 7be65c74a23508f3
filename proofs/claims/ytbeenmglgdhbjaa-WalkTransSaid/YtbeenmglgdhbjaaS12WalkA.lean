/-
  The page of an entry, the bits of a number, the bits that an access asks for: of package pte and of the reference.
-/
import Derived.Test.YtbeenmglgdhbjaaS12Base
namespace Go.Proofs.Ytbeenmglgdhbjaa.S12
open Go.RowKit S01 S10 S11
set_option maxHeartbeats 400000 in
theorem page_any (b g : Int) (w : World) :
    Calls Try.prog 41 #[.agg #[.int .u32 b, .int .i64 g]] w fun e w' => e = .returned (.int .u32 (g % 256)) ∧ Below w.heap.size w w' := by
  have H := Lib.hid (fun W => zext_any (g % 4294967296) 8 W (by omega) (by omega))
  rw [PT.zx8 _ (by omega), show g % 4294967296 % 256 = g % 256 by omega] at H
  have HB := Lib.hid (below_one w (.cells #[.int .u32 b, .int .i64 g] 26))
  go_enter Try.func41, Try.ntmps41
  go_wp2_with (first | (go_at_call 42; (with_reducible refine (H.out _).mono ?_); rintro e w1 ⟨rfl, rfl⟩))
  go_ret
  exact ⟨rfl, HB.out⟩
set_option maxHeartbeats 400000 in
theorem rpage_any (g : Int) (w : World) (_g0 : -9223372036854775808 ≤ g) (_g1 : g < 9223372036854775808) :
    Calls Try.prog 46 #[.int .i64 g] w fun e w' => e = .returned (.int .u32 (g % 256)) ∧ w = w' := by
  obtain ⟨t, ht, e0, e1, e2⟩ : ∃ t, Int.tmod g 256 = t ∧ t % 256 = g % 256 ∧ -256 < t ∧ t < 256 := by
    refine ⟨_, rfl, ?_⟩
    have e := Int.tmod_eq_emod (a := g) (b := 256)
    by_cases hd : 0 ≤ g ∨ (256 : Int) ∣ g
    · rw [if_pos hd] at e; omega
    · rw [if_neg hd] at e; omega
  go_enter Try.func46, Try.ntmps46
  go_wp2
  all_goals (go_ret; exact ⟨ret_int (by omega), rfl⟩)
theorem up_next (x : Int) (k : Nat) : x / 2 ^ k / 2 = x / 2 ^ (k + 1) := by
  rw [Int.pow_succ, Int.ediv_ediv_of_nonneg (Int.le_of_lt (Int.pow_pos (by decide)))]
theorem up_bd (x : Int) (k : Nat) (h0 : 0 ≤ x) (h1 : x < 4294967296) : 0 ≤ x / 2 ^ k ∧ x / 2 ^ k < 4294967296 := by
  have hp : (0 : Int) < 2 ^ k := Int.pow_pos (by decide)
  exact ⟨Int.ediv_nonneg h0 (Int.le_of_lt hp), Int.lt_of_le_of_lt (Int.ediv_le_self _ h0) h1⟩
set_option maxHeartbeats 400000 in
theorem bit_any (x : Int) (i : Nat) (w : World) (h0 : 0 ≤ x) (h1 : x < 4294967296) (hi : (i : Int) ≤ 63) :
    Calls Try.prog 44 #[.int .u32 x, .int .i64 i] w fun e w' => e = .returned (.bool (PT.bt x i)) ∧ w = w' := by
  go_enter Try.func44, Try.ntmps44
  go_wp2
  go_loop [0, 5] (fun y c => ∃ k : Nat, (k : Int) ≤ i ∧ c = .int .i64 k ∧ y = .int .u32 (x / 2 ^ k)) (fun _ c => (i - intOf c).toNat)
  case atStart => exact ⟨0, by omega, rfl, by simp⟩
  case round =>
    obtain ⟨k, hk, rfl, rfl⟩ := hrel
    obtain ⟨b0, b1⟩ := up_bd x k h0 h1
    have HN := Lib.hid (up_next x k)
    have HE := Lib.hid (show PT.bt x k = decide (x / 2 ^ k % 2 = 1) from rfl)
    generalize x / 2 ^ k = y at *
    by_cases hlt : (k : Int) < i
    · go_wp2
      go_round
      case rel => exact ⟨k + 1, by omega, by go_num, by rw [← HN.out]⟩
      case measure => simp [intOf]; omega
    · go_wp2
      go_ret
      exact ⟨ret_bool (by rw [show i = k by omega, HE.out]; rfl), rfl⟩
set_option maxHeartbeats 400000 in
theorem needed_any (a : Int) (w : World) :
    Calls Try.prog 45 #[.int .i64 a] w fun e w' => e = .returned (.int .u32 (PT.nd a)) ∧ w = w' := by
  by_cases h1 : a = 1
  · subst h1
    go_enter Try.func45, Try.ntmps45
    go_wp2
    go_ret
    exact ⟨rfl, rfl⟩
  · by_cases h2 : a = 2
    · subst h2
      go_enter Try.func45, Try.ntmps45
      go_wp2
      go_ret
      exact ⟨rfl, rfl⟩
    · by_cases h3 : a = 3
      · subst h3
        go_enter Try.func45, Try.ntmps45
        go_wp2
        go_ret
        exact ⟨rfl, rfl⟩
      · have HN := Lib.hid (show PT.nd a = 0 by unfold PT.nd; rw [if_neg h1, if_neg h2, if_neg h3])
        go_enter Try.func45, Try.ntmps45
        go_wp2
        go_ret
        exact ⟨ret_int HN.out.symm, rfl⟩
end Go.Proofs.Ytbeenmglgdhbjaa.S12
