/-
  What the small functions of the package and of the reference answer: a digit's number, whether a rune or a byte is a separator or may stand in a line. No condition.
-/
import Derived.Test.YtfeekgepmemanaaDoorRows
import Derived.Test.YtfeekgepmemanaaDoorMath
import Derived.WalkKit
import Derived.WalkSpells
import Derived.WalkLawsBesides
import Derived.BigQuiet
import Derived.Lib.Hide
namespace Go.Proofs.YtfeekgepmemanaaDoor
open Go.RowKit
theorem ret_int {k : IntKind} {a b : Int} (h : a = b) : Ending.returned (.int k a) = .returned (.int k b) := by rw [h]
theorem ret_bool {a b : Bool} (h : a = b) : Ending.returned (.bool a) = .returned (.bool b) := by rw [h]
theorem digit_any (r : Int) (w : World) (h0 : -2147483648 ≤ r) (h1 : r ≤ 2147483647) :
    Calls Tryd.prog 58 #[.int .i32 r] w fun e w' => e = .returned (.int .u64 (NM.rd r)) ∧ w = w' := by
  by_cases a : 48 ≤ r ∧ r ≤ 57
  · obtain ⟨a1, a2⟩ := a
    go_enter Tryd.func58, Tryd.ntmps58
    go_wp2
    go_ret
    exact ⟨ret_int (by unfold NM.rd; rw [if_pos ⟨a1, a2⟩]), rfl⟩
  · by_cases b : 97 ≤ r ∧ r ≤ 102
    · obtain ⟨b1, b2⟩ := b
      go_enter Tryd.func58, Tryd.ntmps58
      go_wp2
      go_ret
      exact ⟨ret_int (by unfold NM.rd; rw [if_neg a, if_pos ⟨b1, b2⟩]; omega), rfl⟩
    · go_enter Tryd.func58, Tryd.ntmps58
      go_wp2
      all_goals
        go_ret
        first
          | exact ⟨ret_int (by unfold NM.rd; rw [if_neg a, if_neg b]), rfl⟩
          | (exfalso; omega)
theorem separates_any (r : Int) (w : World) :
    Calls Tryd.prog 31 #[.int .i32 r] w fun e w' => e = .returned (.bool (NM.sepR r)) ∧ w = w' := by
  go_enter Tryd.func31, Tryd.ntmps31
  go_wp2
  all_goals
    go_ret
    refine ⟨ret_bool ?_, rfl⟩
    simp [NM.sepR, *]
theorem printable_any (r : Int) (w : World) :
    Calls Tryd.prog 34 #[.int .i32 r] w fun e w' => e = .returned (.bool (NM.prR r)) ∧ w = w' := by
  go_enter Tryd.func34, Tryd.ntmps34
  go_wp2
  all_goals
    go_ret
    refine ⟨ret_bool ?_, rfl⟩
    rw [Bool.eq_iff_iff]
    simp [NM.prR, *]
    try omega
theorem between_any (c : UInt8) (w : World) :
    Calls Tryd.prog 32 #[.int .u8 c.toNat] w fun e w' => e = .returned (.bool (NM.sepB c)) ∧ w = w' := by
  go_enter Tryd.func32, Tryd.ntmps32
  go_wp2
  all_goals
    go_ret
    refine ⟨ret_bool ?_, rfl⟩
    simp [NM.sepB, NM.sepR, *]
theorem rvalue_any (c : UInt8) (w : World) :
    Calls Tryd.prog 45 #[.int .u8 c.toNat] w fun e w' => e = .returned (.int .i64 (NM.rvl c)) ∧ w = w' := by
  have hc : c.toNat < 256 := c.toNat_lt
  by_cases a : 48 ≤ (c.toNat : Int) ∧ (c.toNat : Int) ≤ 57
  · obtain ⟨a1, a2⟩ := a
    go_enter Tryd.func45, Tryd.ntmps45
    go_wp2
    go_ret
    exact ⟨ret_int (NM.rvl_a c ⟨a1, a2⟩).symm, rfl⟩
  · by_cases b : 97 ≤ (c.toNat : Int) ∧ (c.toNat : Int) ≤ 102
    · obtain ⟨b1, b2⟩ := b
      have a3 : 57 < (c.toNat : Int) := by omega
      go_enter Tryd.func45, Tryd.ntmps45
      go_wp2
      go_ret
      exact ⟨ret_int (NM.rvl_b c ⟨b1, b2⟩).symm, rfl⟩
    · go_enter Tryd.func45, Tryd.ntmps45
      go_wp2
      all_goals
        go_ret
        first
          | exact ⟨ret_int (NM.rvl_c c a b).symm, rfl⟩
          | (exfalso; omega)
theorem rdigit_any (d : Int) (w : World) (h0 : 0 ≤ d) (h1 : d < 16) :
    Calls Tryd.prog 25 #[.int .u32 d] w fun e w' => e = .returned (.int .u8 (NM.hx d.toNat).toNat) ∧ w = w' := by
  by_cases a : d < 10
  · go_enter Tryd.func25, Tryd.ntmps25
    go_wp2
    go_ret
    exact ⟨ret_int (by rw [NM.hx_lo _ (by omega)]; omega), rfl⟩
  · go_enter Tryd.func25, Tryd.ntmps25
    go_wp2
    go_ret
    exact ⟨ret_int (by rw [NM.hx_hi _ (by omega) (by omega)]; omega), rfl⟩
theorem pow2_16 (w : World) : Calls Tryd.prog 63 #[.int .i64 16] w fun e w' => e = .returned (.bool true) ∧ w = w' := by
  go_enter Tryd.func63, Tryd.ntmps63
  go_wp2
  go_ret
  exact ⟨rfl, rfl⟩
end Go.Proofs.YtfeekgepmemanaaDoor
