/-
  What the small functions of the package and of the reference answer: a digit's number, whether a rune or a byte is a separator or may stand in a line. No condition.
-/
import Derived.Test.YtfgkcjalfhbjjaaDoorRows
import Derived.Test.YtfgkcjalfhbjjaaDoorS02Math
import Derived.WalkKit
import Derived.WalkSpells
import Derived.WalkLawsBesides
import Derived.BigQuiet
import Derived.Lib.Hide
namespace Go.Proofs.YtfgkcjalfhbjjaaDoor.S02
open Go.RowKit
theorem ret_int {k : IntKind} {a b : Int} (h : a = b) : Ending.returned (.int k a) = .returned (.int k b) := by rw [h]
theorem ret_bool {a b : Bool} (h : a = b) : Ending.returned (.bool a) = .returned (.bool b) := by rw [h]
theorem digit_any (r : Int) (w : World) (h0 : -2147483648 ≤ r) (h1 : r ≤ 2147483647) :
    Calls Tryd.prog 66 #[.int .i32 r] w fun e w' => e = .returned (.int .u64 (NM.rd r)) ∧ w = w' := by
  by_cases a : 48 ≤ r ∧ r ≤ 57
  · obtain ⟨a1, a2⟩ := a
    go_enter Tryd.func66, Tryd.ntmps66
    go_wp2
    go_ret
    exact ⟨ret_int (by unfold NM.rd; rw [if_pos ⟨a1, a2⟩]), rfl⟩
  · by_cases b : 97 ≤ r ∧ r ≤ 102
    · obtain ⟨b1, b2⟩ := b
      go_enter Tryd.func66, Tryd.ntmps66
      go_wp2
      go_ret
      exact ⟨ret_int (by unfold NM.rd; rw [if_neg a, if_pos ⟨b1, b2⟩]; omega), rfl⟩
    · go_enter Tryd.func66, Tryd.ntmps66
      go_wp2
      all_goals
        go_ret
        first
          | exact ⟨ret_int (by unfold NM.rd; rw [if_neg a, if_neg b]), rfl⟩
          | (exfalso; omega)
theorem pow2_16 (w : World) : Calls Tryd.prog 70 #[.int .i64 16] w fun e w' => e = .returned (.bool true) ∧ w = w' := by
  go_enter Tryd.func70, Tryd.ntmps70
  go_wp2
  go_ret
  exact ⟨rfl, rfl⟩
end Go.Proofs.YtfgkcjalfhbjjaaDoor.S02
