/-
  What the reference's Form answers, for every number; it does not change memory.
-/
import Derived.Test.YtfgkcjalfhbjjaaDoorS01WalkA
import Derived.Test.YtfgkcjalfhbjjaaDoorS06Math
namespace Go.Proofs.YtfgkcjalfhbjjaaDoor.S06
open Go.RowKit S01
set_option maxHeartbeats 1600000 in
set_option maxRecDepth 100000 in
theorem rform_1 (w : World) : Calls Tryd.prog 26 #[.int .i64 1] w fun e w' => e = .returned (.int .i64 (IM.fm 1)) ∧ w = w' := by
  go_enter Tryd.func26, Tryd.ntmps26
  go_wp2
  go_ret
  exact ⟨rfl, rfl⟩
set_option maxHeartbeats 1600000 in
set_option maxRecDepth 100000 in
theorem rform_2 (w : World) : Calls Tryd.prog 26 #[.int .i64 2] w fun e w' => e = .returned (.int .i64 (IM.fm 2)) ∧ w = w' := by
  go_enter Tryd.func26, Tryd.ntmps26
  go_wp2
  go_ret
  exact ⟨rfl, rfl⟩
set_option maxHeartbeats 1600000 in
set_option maxRecDepth 100000 in
theorem rform_3 (w : World) : Calls Tryd.prog 26 #[.int .i64 3] w fun e w' => e = .returned (.int .i64 (IM.fm 3)) ∧ w = w' := by
  go_enter Tryd.func26, Tryd.ntmps26
  go_wp2
  go_ret
  exact ⟨rfl, rfl⟩
set_option maxHeartbeats 1600000 in
set_option maxRecDepth 100000 in
theorem rform_4 (w : World) : Calls Tryd.prog 26 #[.int .i64 4] w fun e w' => e = .returned (.int .i64 (IM.fm 4)) ∧ w = w' := by
  go_enter Tryd.func26, Tryd.ntmps26
  go_wp2
  go_ret
  exact ⟨rfl, rfl⟩
set_option maxHeartbeats 1600000 in
set_option maxRecDepth 100000 in
theorem rform_5 (w : World) : Calls Tryd.prog 26 #[.int .i64 5] w fun e w' => e = .returned (.int .i64 (IM.fm 5)) ∧ w = w' := by
  go_enter Tryd.func26, Tryd.ntmps26
  go_wp2
  go_ret
  exact ⟨rfl, rfl⟩
set_option maxHeartbeats 1600000 in
set_option maxRecDepth 100000 in
theorem rform_6 (w : World) : Calls Tryd.prog 26 #[.int .i64 6] w fun e w' => e = .returned (.int .i64 (IM.fm 6)) ∧ w = w' := by
  go_enter Tryd.func26, Tryd.ntmps26
  go_wp2
  go_ret
  exact ⟨rfl, rfl⟩
set_option maxHeartbeats 1600000 in
set_option maxRecDepth 100000 in
theorem rform_7 (w : World) : Calls Tryd.prog 26 #[.int .i64 7] w fun e w' => e = .returned (.int .i64 (IM.fm 7)) ∧ w = w' := by
  go_enter Tryd.func26, Tryd.ntmps26
  go_wp2
  go_ret
  exact ⟨rfl, rfl⟩
set_option maxHeartbeats 1600000 in
set_option maxRecDepth 100000 in
theorem rform_8 (w : World) : Calls Tryd.prog 26 #[.int .i64 8] w fun e w' => e = .returned (.int .i64 (IM.fm 8)) ∧ w = w' := by
  go_enter Tryd.func26, Tryd.ntmps26
  go_wp2
  go_ret
  exact ⟨rfl, rfl⟩
set_option maxHeartbeats 1600000 in
set_option maxRecDepth 100000 in
theorem rform_9 (w : World) : Calls Tryd.prog 26 #[.int .i64 9] w fun e w' => e = .returned (.int .i64 (IM.fm 9)) ∧ w = w' := by
  go_enter Tryd.func26, Tryd.ntmps26
  go_wp2
  go_ret
  exact ⟨rfl, rfl⟩
set_option maxHeartbeats 1600000 in
set_option maxRecDepth 100000 in
theorem rform_10 (w : World) : Calls Tryd.prog 26 #[.int .i64 10] w fun e w' => e = .returned (.int .i64 (IM.fm 10)) ∧ w = w' := by
  go_enter Tryd.func26, Tryd.ntmps26
  go_wp2
  go_ret
  exact ⟨rfl, rfl⟩
set_option maxHeartbeats 1600000 in
set_option maxRecDepth 100000 in
theorem rform_11 (w : World) : Calls Tryd.prog 26 #[.int .i64 11] w fun e w' => e = .returned (.int .i64 (IM.fm 11)) ∧ w = w' := by
  go_enter Tryd.func26, Tryd.ntmps26
  go_wp2
  go_ret
  exact ⟨rfl, rfl⟩
set_option maxHeartbeats 1600000 in
set_option maxRecDepth 100000 in
theorem rform_12 (w : World) : Calls Tryd.prog 26 #[.int .i64 12] w fun e w' => e = .returned (.int .i64 (IM.fm 12)) ∧ w = w' := by
  go_enter Tryd.func26, Tryd.ntmps26
  go_wp2
  go_ret
  exact ⟨rfl, rfl⟩
set_option maxHeartbeats 1600000 in
set_option maxRecDepth 100000 in
theorem rform_13 (w : World) : Calls Tryd.prog 26 #[.int .i64 13] w fun e w' => e = .returned (.int .i64 (IM.fm 13)) ∧ w = w' := by
  go_enter Tryd.func26, Tryd.ntmps26
  go_wp2
  go_ret
  exact ⟨rfl, rfl⟩
set_option maxHeartbeats 1600000 in
set_option maxRecDepth 100000 in
theorem rform_14 (w : World) : Calls Tryd.prog 26 #[.int .i64 14] w fun e w' => e = .returned (.int .i64 (IM.fm 14)) ∧ w = w' := by
  go_enter Tryd.func26, Tryd.ntmps26
  go_wp2
  go_ret
  exact ⟨rfl, rfl⟩
set_option maxHeartbeats 1600000 in
set_option maxRecDepth 100000 in
theorem rform_15 (w : World) : Calls Tryd.prog 26 #[.int .i64 15] w fun e w' => e = .returned (.int .i64 (IM.fm 15)) ∧ w = w' := by
  go_enter Tryd.func26, Tryd.ntmps26
  go_wp2
  go_ret
  exact ⟨rfl, rfl⟩
set_option maxHeartbeats 1600000 in
set_option maxRecDepth 100000 in
theorem rform_16 (w : World) : Calls Tryd.prog 26 #[.int .i64 16] w fun e w' => e = .returned (.int .i64 (IM.fm 16)) ∧ w = w' := by
  go_enter Tryd.func26, Tryd.ntmps26
  go_wp2
  go_ret
  exact ⟨rfl, rfl⟩
set_option maxHeartbeats 1600000 in
set_option maxRecDepth 100000 in
theorem rform_17 (w : World) : Calls Tryd.prog 26 #[.int .i64 17] w fun e w' => e = .returned (.int .i64 (IM.fm 17)) ∧ w = w' := by
  go_enter Tryd.func26, Tryd.ntmps26
  go_wp2
  go_ret
  exact ⟨rfl, rfl⟩
set_option maxHeartbeats 1600000 in
set_option maxRecDepth 100000 in
theorem rform_18 (w : World) : Calls Tryd.prog 26 #[.int .i64 18] w fun e w' => e = .returned (.int .i64 (IM.fm 18)) ∧ w = w' := by
  go_enter Tryd.func26, Tryd.ntmps26
  go_wp2
  go_ret
  exact ⟨rfl, rfl⟩
set_option maxHeartbeats 1600000 in
set_option maxRecDepth 100000 in
theorem rform_19 (w : World) : Calls Tryd.prog 26 #[.int .i64 19] w fun e w' => e = .returned (.int .i64 (IM.fm 19)) ∧ w = w' := by
  go_enter Tryd.func26, Tryd.ntmps26
  go_wp2
  go_ret
  exact ⟨rfl, rfl⟩
set_option maxHeartbeats 1600000 in
set_option maxRecDepth 100000 in
theorem rform_20 (w : World) : Calls Tryd.prog 26 #[.int .i64 20] w fun e w' => e = .returned (.int .i64 (IM.fm 20)) ∧ w = w' := by
  go_enter Tryd.func26, Tryd.ntmps26
  go_wp2
  go_ret
  exact ⟨rfl, rfl⟩
set_option maxHeartbeats 1600000 in
set_option maxRecDepth 100000 in
theorem rform_21 (w : World) : Calls Tryd.prog 26 #[.int .i64 21] w fun e w' => e = .returned (.int .i64 (IM.fm 21)) ∧ w = w' := by
  go_enter Tryd.func26, Tryd.ntmps26
  go_wp2
  go_ret
  exact ⟨rfl, rfl⟩
set_option maxHeartbeats 1600000 in
set_option maxRecDepth 100000 in
theorem rform_22 (w : World) : Calls Tryd.prog 26 #[.int .i64 22] w fun e w' => e = .returned (.int .i64 (IM.fm 22)) ∧ w = w' := by
  go_enter Tryd.func26, Tryd.ntmps26
  go_wp2
  go_ret
  exact ⟨rfl, rfl⟩
set_option maxHeartbeats 1600000 in
set_option maxRecDepth 100000 in
theorem rform_23 (w : World) : Calls Tryd.prog 26 #[.int .i64 23] w fun e w' => e = .returned (.int .i64 (IM.fm 23)) ∧ w = w' := by
  go_enter Tryd.func26, Tryd.ntmps26
  go_wp2
  go_ret
  exact ⟨rfl, rfl⟩
set_option maxHeartbeats 1600000 in
set_option maxRecDepth 100000 in
theorem rform_24 (w : World) : Calls Tryd.prog 26 #[.int .i64 24] w fun e w' => e = .returned (.int .i64 (IM.fm 24)) ∧ w = w' := by
  go_enter Tryd.func26, Tryd.ntmps26
  go_wp2
  go_ret
  exact ⟨rfl, rfl⟩
set_option maxHeartbeats 1600000 in
set_option maxRecDepth 100000 in
theorem rform_25 (w : World) : Calls Tryd.prog 26 #[.int .i64 25] w fun e w' => e = .returned (.int .i64 (IM.fm 25)) ∧ w = w' := by
  go_enter Tryd.func26, Tryd.ntmps26
  go_wp2
  go_ret
  exact ⟨rfl, rfl⟩
set_option maxHeartbeats 1600000 in
set_option maxRecDepth 100000 in
theorem rform_26 (w : World) : Calls Tryd.prog 26 #[.int .i64 26] w fun e w' => e = .returned (.int .i64 (IM.fm 26)) ∧ w = w' := by
  go_enter Tryd.func26, Tryd.ntmps26
  go_wp2
  go_ret
  exact ⟨rfl, rfl⟩
set_option maxHeartbeats 1600000 in
set_option maxRecDepth 100000 in
theorem rform_27 (w : World) : Calls Tryd.prog 26 #[.int .i64 27] w fun e w' => e = .returned (.int .i64 (IM.fm 27)) ∧ w = w' := by
  go_enter Tryd.func26, Tryd.ntmps26
  go_wp2
  go_ret
  exact ⟨rfl, rfl⟩
set_option maxHeartbeats 1600000 in
set_option maxRecDepth 100000 in
theorem rform_28 (w : World) : Calls Tryd.prog 26 #[.int .i64 28] w fun e w' => e = .returned (.int .i64 (IM.fm 28)) ∧ w = w' := by
  go_enter Tryd.func26, Tryd.ntmps26
  go_wp2
  go_ret
  exact ⟨rfl, rfl⟩
set_option maxHeartbeats 1600000 in
set_option maxRecDepth 100000 in
theorem rform_29 (w : World) : Calls Tryd.prog 26 #[.int .i64 29] w fun e w' => e = .returned (.int .i64 (IM.fm 29)) ∧ w = w' := by
  go_enter Tryd.func26, Tryd.ntmps26
  go_wp2
  go_ret
  exact ⟨rfl, rfl⟩
set_option maxHeartbeats 1600000 in
set_option maxRecDepth 100000 in
theorem rform_30 (w : World) : Calls Tryd.prog 26 #[.int .i64 30] w fun e w' => e = .returned (.int .i64 (IM.fm 30)) ∧ w = w' := by
  go_enter Tryd.func26, Tryd.ntmps26
  go_wp2
  go_ret
  exact ⟨rfl, rfl⟩
set_option maxHeartbeats 1600000 in
set_option maxRecDepth 100000 in
theorem rform_31 (w : World) : Calls Tryd.prog 26 #[.int .i64 31] w fun e w' => e = .returned (.int .i64 (IM.fm 31)) ∧ w = w' := by
  go_enter Tryd.func26, Tryd.ntmps26
  go_wp2
  go_ret
  exact ⟨rfl, rfl⟩
set_option maxHeartbeats 1600000 in
set_option maxRecDepth 100000 in
theorem rform_32 (w : World) : Calls Tryd.prog 26 #[.int .i64 32] w fun e w' => e = .returned (.int .i64 (IM.fm 32)) ∧ w = w' := by
  go_enter Tryd.func26, Tryd.ntmps26
  go_wp2
  go_ret
  exact ⟨rfl, rfl⟩
set_option maxHeartbeats 1600000 in
set_option maxRecDepth 100000 in
theorem rform_33 (w : World) : Calls Tryd.prog 26 #[.int .i64 33] w fun e w' => e = .returned (.int .i64 (IM.fm 33)) ∧ w = w' := by
  go_enter Tryd.func26, Tryd.ntmps26
  go_wp2
  go_ret
  exact ⟨rfl, rfl⟩
set_option maxHeartbeats 1600000 in
set_option maxRecDepth 100000 in
theorem rform_34 (w : World) : Calls Tryd.prog 26 #[.int .i64 34] w fun e w' => e = .returned (.int .i64 (IM.fm 34)) ∧ w = w' := by
  go_enter Tryd.func26, Tryd.ntmps26
  go_wp2
  go_ret
  exact ⟨rfl, rfl⟩
set_option maxHeartbeats 1600000 in
set_option maxRecDepth 100000 in
theorem rform_35 (w : World) : Calls Tryd.prog 26 #[.int .i64 35] w fun e w' => e = .returned (.int .i64 (IM.fm 35)) ∧ w = w' := by
  go_enter Tryd.func26, Tryd.ntmps26
  go_wp2
  go_ret
  exact ⟨rfl, rfl⟩
set_option maxHeartbeats 1600000 in
set_option maxRecDepth 100000 in
theorem rform_36 (w : World) : Calls Tryd.prog 26 #[.int .i64 36] w fun e w' => e = .returned (.int .i64 (IM.fm 36)) ∧ w = w' := by
  go_enter Tryd.func26, Tryd.ntmps26
  go_wp2
  go_ret
  exact ⟨rfl, rfl⟩
set_option maxHeartbeats 1600000 in
set_option maxRecDepth 100000 in
theorem rform_37 (w : World) : Calls Tryd.prog 26 #[.int .i64 37] w fun e w' => e = .returned (.int .i64 (IM.fm 37)) ∧ w = w' := by
  go_enter Tryd.func26, Tryd.ntmps26
  go_wp2
  go_ret
  exact ⟨rfl, rfl⟩
set_option maxHeartbeats 1600000 in
set_option maxRecDepth 100000 in
theorem rform_38 (w : World) : Calls Tryd.prog 26 #[.int .i64 38] w fun e w' => e = .returned (.int .i64 (IM.fm 38)) ∧ w = w' := by
  go_enter Tryd.func26, Tryd.ntmps26
  go_wp2
  go_ret
  exact ⟨rfl, rfl⟩
set_option maxHeartbeats 1600000 in
set_option maxRecDepth 100000 in
theorem rform_39 (w : World) : Calls Tryd.prog 26 #[.int .i64 39] w fun e w' => e = .returned (.int .i64 (IM.fm 39)) ∧ w = w' := by
  go_enter Tryd.func26, Tryd.ntmps26
  go_wp2
  go_ret
  exact ⟨rfl, rfl⟩
set_option maxHeartbeats 1600000 in
set_option maxRecDepth 100000 in
theorem rform_40 (w : World) : Calls Tryd.prog 26 #[.int .i64 40] w fun e w' => e = .returned (.int .i64 (IM.fm 40)) ∧ w = w' := by
  go_enter Tryd.func26, Tryd.ntmps26
  go_wp2
  go_ret
  exact ⟨rfl, rfl⟩
set_option maxHeartbeats 1600000 in
set_option maxRecDepth 100000 in
theorem rform_41 (w : World) : Calls Tryd.prog 26 #[.int .i64 41] w fun e w' => e = .returned (.int .i64 (IM.fm 41)) ∧ w = w' := by
  go_enter Tryd.func26, Tryd.ntmps26
  go_wp2
  go_ret
  exact ⟨rfl, rfl⟩
set_option maxHeartbeats 1600000 in
set_option maxRecDepth 100000 in
theorem rform_42 (w : World) : Calls Tryd.prog 26 #[.int .i64 42] w fun e w' => e = .returned (.int .i64 (IM.fm 42)) ∧ w = w' := by
  go_enter Tryd.func26, Tryd.ntmps26
  go_wp2
  go_ret
  exact ⟨rfl, rfl⟩
set_option maxHeartbeats 1600000 in
set_option maxRecDepth 100000 in
theorem rform_43 (w : World) : Calls Tryd.prog 26 #[.int .i64 43] w fun e w' => e = .returned (.int .i64 (IM.fm 43)) ∧ w = w' := by
  go_enter Tryd.func26, Tryd.ntmps26
  go_wp2
  go_ret
  exact ⟨rfl, rfl⟩
set_option maxHeartbeats 1600000 in
set_option maxRecDepth 100000 in
theorem rform_44 (w : World) : Calls Tryd.prog 26 #[.int .i64 44] w fun e w' => e = .returned (.int .i64 (IM.fm 44)) ∧ w = w' := by
  go_enter Tryd.func26, Tryd.ntmps26
  go_wp2
  go_ret
  exact ⟨rfl, rfl⟩
set_option maxHeartbeats 1600000 in
set_option maxRecDepth 100000 in
theorem rform_45 (w : World) : Calls Tryd.prog 26 #[.int .i64 45] w fun e w' => e = .returned (.int .i64 (IM.fm 45)) ∧ w = w' := by
  go_enter Tryd.func26, Tryd.ntmps26
  go_wp2
  go_ret
  exact ⟨rfl, rfl⟩
set_option maxHeartbeats 1600000 in
set_option maxRecDepth 100000 in
theorem rform_46 (w : World) : Calls Tryd.prog 26 #[.int .i64 46] w fun e w' => e = .returned (.int .i64 (IM.fm 46)) ∧ w = w' := by
  go_enter Tryd.func26, Tryd.ntmps26
  go_wp2
  go_ret
  exact ⟨rfl, rfl⟩
set_option maxHeartbeats 1600000 in
set_option maxRecDepth 100000 in
theorem rform_47 (w : World) : Calls Tryd.prog 26 #[.int .i64 47] w fun e w' => e = .returned (.int .i64 (IM.fm 47)) ∧ w = w' := by
  go_enter Tryd.func26, Tryd.ntmps26
  go_wp2
  go_ret
  exact ⟨rfl, rfl⟩
set_option maxHeartbeats 1600000 in
set_option maxRecDepth 100000 in
theorem rform_48 (w : World) : Calls Tryd.prog 26 #[.int .i64 48] w fun e w' => e = .returned (.int .i64 (IM.fm 48)) ∧ w = w' := by
  go_enter Tryd.func26, Tryd.ntmps26
  go_wp2
  go_ret
  exact ⟨rfl, rfl⟩
set_option maxHeartbeats 1600000 in
set_option maxRecDepth 100000 in
theorem rform_49 (w : World) : Calls Tryd.prog 26 #[.int .i64 49] w fun e w' => e = .returned (.int .i64 (IM.fm 49)) ∧ w = w' := by
  go_enter Tryd.func26, Tryd.ntmps26
  go_wp2
  go_ret
  exact ⟨rfl, rfl⟩
set_option maxHeartbeats 1600000 in
set_option maxRecDepth 100000 in
theorem rform_50 (w : World) : Calls Tryd.prog 26 #[.int .i64 50] w fun e w' => e = .returned (.int .i64 (IM.fm 50)) ∧ w = w' := by
  go_enter Tryd.func26, Tryd.ntmps26
  go_wp2
  go_ret
  exact ⟨rfl, rfl⟩
set_option maxHeartbeats 1600000 in
set_option maxRecDepth 100000 in
theorem rform_51 (w : World) : Calls Tryd.prog 26 #[.int .i64 51] w fun e w' => e = .returned (.int .i64 (IM.fm 51)) ∧ w = w' := by
  go_enter Tryd.func26, Tryd.ntmps26
  go_wp2
  go_ret
  exact ⟨rfl, rfl⟩
set_option maxHeartbeats 1600000 in
set_option maxRecDepth 100000 in
theorem rform_52 (w : World) : Calls Tryd.prog 26 #[.int .i64 52] w fun e w' => e = .returned (.int .i64 (IM.fm 52)) ∧ w = w' := by
  go_enter Tryd.func26, Tryd.ntmps26
  go_wp2
  go_ret
  exact ⟨rfl, rfl⟩
set_option maxHeartbeats 1600000 in
set_option maxRecDepth 100000 in
theorem rform_53 (w : World) : Calls Tryd.prog 26 #[.int .i64 53] w fun e w' => e = .returned (.int .i64 (IM.fm 53)) ∧ w = w' := by
  go_enter Tryd.func26, Tryd.ntmps26
  go_wp2
  go_ret
  exact ⟨rfl, rfl⟩
set_option maxHeartbeats 1600000 in
set_option maxRecDepth 100000 in
theorem rform_54 (w : World) : Calls Tryd.prog 26 #[.int .i64 54] w fun e w' => e = .returned (.int .i64 (IM.fm 54)) ∧ w = w' := by
  go_enter Tryd.func26, Tryd.ntmps26
  go_wp2
  go_ret
  exact ⟨rfl, rfl⟩
set_option maxHeartbeats 1600000 in
set_option maxRecDepth 100000 in
theorem rform_55 (w : World) : Calls Tryd.prog 26 #[.int .i64 55] w fun e w' => e = .returned (.int .i64 (IM.fm 55)) ∧ w = w' := by
  go_enter Tryd.func26, Tryd.ntmps26
  go_wp2
  go_ret
  exact ⟨rfl, rfl⟩
set_option maxHeartbeats 1600000 in
set_option maxRecDepth 100000 in
theorem rform_56 (w : World) : Calls Tryd.prog 26 #[.int .i64 56] w fun e w' => e = .returned (.int .i64 (IM.fm 56)) ∧ w = w' := by
  go_enter Tryd.func26, Tryd.ntmps26
  go_wp2
  go_ret
  exact ⟨rfl, rfl⟩
set_option maxHeartbeats 1600000 in
set_option maxRecDepth 100000 in
theorem rform_57 (w : World) : Calls Tryd.prog 26 #[.int .i64 57] w fun e w' => e = .returned (.int .i64 (IM.fm 57)) ∧ w = w' := by
  go_enter Tryd.func26, Tryd.ntmps26
  go_wp2
  go_ret
  exact ⟨rfl, rfl⟩
set_option maxHeartbeats 1600000 in
set_option maxRecDepth 100000 in
theorem rform_58 (w : World) : Calls Tryd.prog 26 #[.int .i64 58] w fun e w' => e = .returned (.int .i64 (IM.fm 58)) ∧ w = w' := by
  go_enter Tryd.func26, Tryd.ntmps26
  go_wp2
  go_ret
  exact ⟨rfl, rfl⟩
set_option maxHeartbeats 1600000 in
set_option maxRecDepth 100000 in
theorem rform_59 (w : World) : Calls Tryd.prog 26 #[.int .i64 59] w fun e w' => e = .returned (.int .i64 (IM.fm 59)) ∧ w = w' := by
  go_enter Tryd.func26, Tryd.ntmps26
  go_wp2
  go_ret
  exact ⟨rfl, rfl⟩
set_option maxHeartbeats 1600000 in
set_option maxRecDepth 100000 in
theorem rform_60 (w : World) : Calls Tryd.prog 26 #[.int .i64 60] w fun e w' => e = .returned (.int .i64 (IM.fm 60)) ∧ w = w' := by
  go_enter Tryd.func26, Tryd.ntmps26
  go_wp2
  go_ret
  exact ⟨rfl, rfl⟩
set_option maxHeartbeats 1600000 in
set_option maxRecDepth 100000 in
theorem rform_61 (w : World) : Calls Tryd.prog 26 #[.int .i64 61] w fun e w' => e = .returned (.int .i64 (IM.fm 61)) ∧ w = w' := by
  go_enter Tryd.func26, Tryd.ntmps26
  go_wp2
  go_ret
  exact ⟨rfl, rfl⟩
set_option maxHeartbeats 1600000 in
set_option maxRecDepth 100000 in
theorem rform_62 (w : World) : Calls Tryd.prog 26 #[.int .i64 62] w fun e w' => e = .returned (.int .i64 (IM.fm 62)) ∧ w = w' := by
  go_enter Tryd.func26, Tryd.ntmps26
  go_wp2
  go_ret
  exact ⟨rfl, rfl⟩
set_option maxHeartbeats 1600000 in
set_option maxRecDepth 100000 in
theorem rform_63 (w : World) : Calls Tryd.prog 26 #[.int .i64 63] w fun e w' => e = .returned (.int .i64 (IM.fm 63)) ∧ w = w' := by
  go_enter Tryd.func26, Tryd.ntmps26
  go_wp2
  go_ret
  exact ⟨rfl, rfl⟩
set_option maxHeartbeats 1600000 in
set_option maxRecDepth 100000 in
theorem rform_low (op : Int) (w : World) (h : op < 1) : Calls Tryd.prog 26 #[.int .i64 op] w fun e w' => e = .returned (.int .i64 (IM.fm op)) ∧ w = w' := by
  have l1 : decide (1 ≤ op) = false := by simp; omega
  have l21 : decide (21 ≤ op) = false := by simp; omega
  have l25 : decide (25 ≤ op) = false := by simp; omega
  have l34 : decide (34 ≤ op) = false := by simp; omega
  have l40 : decide (40 ≤ op) = false := by simp; omega
  have l43 : decide (43 ≤ op) = false := by simp; omega
  have l51 : decide (51 ≤ op) = false := by simp; omega
  have g24 : (op == 24) = false := by simp; omega
  have g50 : (op == 50) = false := by simp; omega
  have g33 : (op == 33) = false := by simp; omega
  have g49 : (op == 49) = false := by simp; omega
  have g56 : (op == 56) = false := by simp; omega
  have g57 : (op == 57) = false := by simp; omega
  have g60 : (op == 60) = false := by simp; omega
  have g62 : (op == 62) = false := by simp; omega
  have g54 : (op == 54) = false := by simp; omega
  have g55 : (op == 55) = false := by simp; omega
  have g58 : (op == 58) = false := by simp; omega
  have g59 : (op == 59) = false := by simp; omega
  have g61 : (op == 61) = false := by simp; omega
  have g63 : (op == 63) = false := by simp; omega
  rw [IM.fm_none op (by omega)]
  clear h
  go_enter Tryd.func26, Tryd.ntmps26
  go_wp2
  go_ret
  exact ⟨rfl, rfl⟩
set_option maxHeartbeats 1600000 in
set_option maxRecDepth 100000 in
theorem rform_high (op : Int) (w : World) (h : 63 < op) : Calls Tryd.prog 26 #[.int .i64 op] w fun e w' => e = .returned (.int .i64 (IM.fm op)) ∧ w = w' := by
  have l1 : decide (1 ≤ op) = true := by simp; omega
  have l21 : decide (21 ≤ op) = true := by simp; omega
  have l25 : decide (25 ≤ op) = true := by simp; omega
  have l34 : decide (34 ≤ op) = true := by simp; omega
  have l40 : decide (40 ≤ op) = true := by simp; omega
  have l43 : decide (43 ≤ op) = true := by simp; omega
  have l51 : decide (51 ≤ op) = true := by simp; omega
  have m20 : decide (op ≤ 20) = false := by simp; omega
  have m23 : decide (op ≤ 23) = false := by simp; omega
  have m32 : decide (op ≤ 32) = false := by simp; omega
  have m39 : decide (op ≤ 39) = false := by simp; omega
  have m42 : decide (op ≤ 42) = false := by simp; omega
  have m48 : decide (op ≤ 48) = false := by simp; omega
  have m53 : decide (op ≤ 53) = false := by simp; omega
  have g24 : (op == 24) = false := by simp; omega
  have g50 : (op == 50) = false := by simp; omega
  have g33 : (op == 33) = false := by simp; omega
  have g49 : (op == 49) = false := by simp; omega
  have g56 : (op == 56) = false := by simp; omega
  have g57 : (op == 57) = false := by simp; omega
  have g60 : (op == 60) = false := by simp; omega
  have g62 : (op == 62) = false := by simp; omega
  have g54 : (op == 54) = false := by simp; omega
  have g55 : (op == 55) = false := by simp; omega
  have g58 : (op == 58) = false := by simp; omega
  have g59 : (op == 59) = false := by simp; omega
  have g61 : (op == 61) = false := by simp; omega
  have g63 : (op == 63) = false := by simp; omega
  rw [IM.fm_none op (by omega)]
  clear h
  go_enter Tryd.func26, Tryd.ntmps26
  go_wp2
  go_ret
  exact ⟨rfl, rfl⟩
theorem rform_none (op : Int) (w : World) (h : ¬ (1 ≤ op ∧ op ≤ 63)) : Calls Tryd.prog 26 #[.int .i64 op] w fun e w' => e = .returned (.int .i64 (IM.fm op)) ∧ w = w' := by
  by_cases h1 : op < 1
  · exact rform_low op w h1
  · exact rform_high op w (by omega)
theorem rform_any (op : Int) (w : World) : Calls Tryd.prog 26 #[.int .i64 op] w fun e w' => e = .returned (.int .i64 (IM.fm op)) ∧ w = w' := by
  by_cases h : 1 ≤ op ∧ op ≤ 63
  · obtain ⟨h1, h2⟩ := h
    by_cases c1_63 : op ≤ 32
    · by_cases c1_32 : op ≤ 16
      · by_cases c1_16 : op ≤ 8
        · by_cases c1_8 : op ≤ 4
          · by_cases c1_4 : op ≤ 2
            · by_cases c1_2 : op ≤ 1
              · obtain rfl : op = 1 := by omega
                exact rform_1 w
              · obtain rfl : op = 2 := by omega
                exact rform_2 w
            · by_cases c3_4 : op ≤ 3
              · obtain rfl : op = 3 := by omega
                exact rform_3 w
              · obtain rfl : op = 4 := by omega
                exact rform_4 w
          · by_cases c5_8 : op ≤ 6
            · by_cases c5_6 : op ≤ 5
              · obtain rfl : op = 5 := by omega
                exact rform_5 w
              · obtain rfl : op = 6 := by omega
                exact rform_6 w
            · by_cases c7_8 : op ≤ 7
              · obtain rfl : op = 7 := by omega
                exact rform_7 w
              · obtain rfl : op = 8 := by omega
                exact rform_8 w
        · by_cases c9_16 : op ≤ 12
          · by_cases c9_12 : op ≤ 10
            · by_cases c9_10 : op ≤ 9
              · obtain rfl : op = 9 := by omega
                exact rform_9 w
              · obtain rfl : op = 10 := by omega
                exact rform_10 w
            · by_cases c11_12 : op ≤ 11
              · obtain rfl : op = 11 := by omega
                exact rform_11 w
              · obtain rfl : op = 12 := by omega
                exact rform_12 w
          · by_cases c13_16 : op ≤ 14
            · by_cases c13_14 : op ≤ 13
              · obtain rfl : op = 13 := by omega
                exact rform_13 w
              · obtain rfl : op = 14 := by omega
                exact rform_14 w
            · by_cases c15_16 : op ≤ 15
              · obtain rfl : op = 15 := by omega
                exact rform_15 w
              · obtain rfl : op = 16 := by omega
                exact rform_16 w
      · by_cases c17_32 : op ≤ 24
        · by_cases c17_24 : op ≤ 20
          · by_cases c17_20 : op ≤ 18
            · by_cases c17_18 : op ≤ 17
              · obtain rfl : op = 17 := by omega
                exact rform_17 w
              · obtain rfl : op = 18 := by omega
                exact rform_18 w
            · by_cases c19_20 : op ≤ 19
              · obtain rfl : op = 19 := by omega
                exact rform_19 w
              · obtain rfl : op = 20 := by omega
                exact rform_20 w
          · by_cases c21_24 : op ≤ 22
            · by_cases c21_22 : op ≤ 21
              · obtain rfl : op = 21 := by omega
                exact rform_21 w
              · obtain rfl : op = 22 := by omega
                exact rform_22 w
            · by_cases c23_24 : op ≤ 23
              · obtain rfl : op = 23 := by omega
                exact rform_23 w
              · obtain rfl : op = 24 := by omega
                exact rform_24 w
        · by_cases c25_32 : op ≤ 28
          · by_cases c25_28 : op ≤ 26
            · by_cases c25_26 : op ≤ 25
              · obtain rfl : op = 25 := by omega
                exact rform_25 w
              · obtain rfl : op = 26 := by omega
                exact rform_26 w
            · by_cases c27_28 : op ≤ 27
              · obtain rfl : op = 27 := by omega
                exact rform_27 w
              · obtain rfl : op = 28 := by omega
                exact rform_28 w
          · by_cases c29_32 : op ≤ 30
            · by_cases c29_30 : op ≤ 29
              · obtain rfl : op = 29 := by omega
                exact rform_29 w
              · obtain rfl : op = 30 := by omega
                exact rform_30 w
            · by_cases c31_32 : op ≤ 31
              · obtain rfl : op = 31 := by omega
                exact rform_31 w
              · obtain rfl : op = 32 := by omega
                exact rform_32 w
    · by_cases c33_63 : op ≤ 48
      · by_cases c33_48 : op ≤ 40
        · by_cases c33_40 : op ≤ 36
          · by_cases c33_36 : op ≤ 34
            · by_cases c33_34 : op ≤ 33
              · obtain rfl : op = 33 := by omega
                exact rform_33 w
              · obtain rfl : op = 34 := by omega
                exact rform_34 w
            · by_cases c35_36 : op ≤ 35
              · obtain rfl : op = 35 := by omega
                exact rform_35 w
              · obtain rfl : op = 36 := by omega
                exact rform_36 w
          · by_cases c37_40 : op ≤ 38
            · by_cases c37_38 : op ≤ 37
              · obtain rfl : op = 37 := by omega
                exact rform_37 w
              · obtain rfl : op = 38 := by omega
                exact rform_38 w
            · by_cases c39_40 : op ≤ 39
              · obtain rfl : op = 39 := by omega
                exact rform_39 w
              · obtain rfl : op = 40 := by omega
                exact rform_40 w
        · by_cases c41_48 : op ≤ 44
          · by_cases c41_44 : op ≤ 42
            · by_cases c41_42 : op ≤ 41
              · obtain rfl : op = 41 := by omega
                exact rform_41 w
              · obtain rfl : op = 42 := by omega
                exact rform_42 w
            · by_cases c43_44 : op ≤ 43
              · obtain rfl : op = 43 := by omega
                exact rform_43 w
              · obtain rfl : op = 44 := by omega
                exact rform_44 w
          · by_cases c45_48 : op ≤ 46
            · by_cases c45_46 : op ≤ 45
              · obtain rfl : op = 45 := by omega
                exact rform_45 w
              · obtain rfl : op = 46 := by omega
                exact rform_46 w
            · by_cases c47_48 : op ≤ 47
              · obtain rfl : op = 47 := by omega
                exact rform_47 w
              · obtain rfl : op = 48 := by omega
                exact rform_48 w
      · by_cases c49_63 : op ≤ 56
        · by_cases c49_56 : op ≤ 52
          · by_cases c49_52 : op ≤ 50
            · by_cases c49_50 : op ≤ 49
              · obtain rfl : op = 49 := by omega
                exact rform_49 w
              · obtain rfl : op = 50 := by omega
                exact rform_50 w
            · by_cases c51_52 : op ≤ 51
              · obtain rfl : op = 51 := by omega
                exact rform_51 w
              · obtain rfl : op = 52 := by omega
                exact rform_52 w
          · by_cases c53_56 : op ≤ 54
            · by_cases c53_54 : op ≤ 53
              · obtain rfl : op = 53 := by omega
                exact rform_53 w
              · obtain rfl : op = 54 := by omega
                exact rform_54 w
            · by_cases c55_56 : op ≤ 55
              · obtain rfl : op = 55 := by omega
                exact rform_55 w
              · obtain rfl : op = 56 := by omega
                exact rform_56 w
        · by_cases c57_63 : op ≤ 60
          · by_cases c57_60 : op ≤ 58
            · by_cases c57_58 : op ≤ 57
              · obtain rfl : op = 57 := by omega
                exact rform_57 w
              · obtain rfl : op = 58 := by omega
                exact rform_58 w
            · by_cases c59_60 : op ≤ 59
              · obtain rfl : op = 59 := by omega
                exact rform_59 w
              · obtain rfl : op = 60 := by omega
                exact rform_60 w
          · by_cases c61_63 : op ≤ 62
            · by_cases c61_62 : op ≤ 61
              · obtain rfl : op = 61 := by omega
                exact rform_61 w
              · obtain rfl : op = 62 := by omega
                exact rform_62 w
            · obtain rfl : op = 63 := by omega
              exact rform_63 w
  · exact rform_none op w h
end Go.Proofs.YtfgkcjalfhbjjaaDoor.S06
