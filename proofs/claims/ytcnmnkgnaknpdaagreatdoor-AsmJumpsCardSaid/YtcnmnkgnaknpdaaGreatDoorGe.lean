/-
  What inst.Form answers, for every number; it does not change memory.
  What the reference's Form answers, for every number; it does not change memory.
  What the small functions of package inst and of the reference answer: Priv, the fields of a form, a register's field, the range of Imm, fields of words; none changes memory that was there.
  What Right answers, of package inst and of the reference, for every instruction; neither changes memory that was there.
-/
import Derived.Test.YtcnmnkgnaknpdaaGreatDoorGa
import Derived.Test.YtcnmnkgnaknpdaaGreatDoorGd

/-! S06WalkA -/
namespace Go.Proofs.YtcnmnkgnaknpdaaGreatDoor.S06
open Go.RowKit S01
set_option maxHeartbeats 1600000 in
set_option maxRecDepth 100000 in
theorem form_1 (w : World) : Calls Tryz.prog 38 #[.int .i64 1] w fun e w' => e = .returned (.int .i64 (IM.fm 1)) ∧ w = w' := by
  go_enter Tryz.func38, Tryz.ntmps38
  go_wp2
  go_ret
  exact ⟨rfl, rfl⟩
set_option maxHeartbeats 1600000 in
set_option maxRecDepth 100000 in
theorem form_2 (w : World) : Calls Tryz.prog 38 #[.int .i64 2] w fun e w' => e = .returned (.int .i64 (IM.fm 2)) ∧ w = w' := by
  go_enter Tryz.func38, Tryz.ntmps38
  go_wp2
  go_ret
  exact ⟨rfl, rfl⟩
set_option maxHeartbeats 1600000 in
set_option maxRecDepth 100000 in
theorem form_3 (w : World) : Calls Tryz.prog 38 #[.int .i64 3] w fun e w' => e = .returned (.int .i64 (IM.fm 3)) ∧ w = w' := by
  go_enter Tryz.func38, Tryz.ntmps38
  go_wp2
  go_ret
  exact ⟨rfl, rfl⟩
set_option maxHeartbeats 1600000 in
set_option maxRecDepth 100000 in
theorem form_4 (w : World) : Calls Tryz.prog 38 #[.int .i64 4] w fun e w' => e = .returned (.int .i64 (IM.fm 4)) ∧ w = w' := by
  go_enter Tryz.func38, Tryz.ntmps38
  go_wp2
  go_ret
  exact ⟨rfl, rfl⟩
set_option maxHeartbeats 1600000 in
set_option maxRecDepth 100000 in
theorem form_5 (w : World) : Calls Tryz.prog 38 #[.int .i64 5] w fun e w' => e = .returned (.int .i64 (IM.fm 5)) ∧ w = w' := by
  go_enter Tryz.func38, Tryz.ntmps38
  go_wp2
  go_ret
  exact ⟨rfl, rfl⟩
set_option maxHeartbeats 1600000 in
set_option maxRecDepth 100000 in
theorem form_6 (w : World) : Calls Tryz.prog 38 #[.int .i64 6] w fun e w' => e = .returned (.int .i64 (IM.fm 6)) ∧ w = w' := by
  go_enter Tryz.func38, Tryz.ntmps38
  go_wp2
  go_ret
  exact ⟨rfl, rfl⟩
set_option maxHeartbeats 1600000 in
set_option maxRecDepth 100000 in
theorem form_7 (w : World) : Calls Tryz.prog 38 #[.int .i64 7] w fun e w' => e = .returned (.int .i64 (IM.fm 7)) ∧ w = w' := by
  go_enter Tryz.func38, Tryz.ntmps38
  go_wp2
  go_ret
  exact ⟨rfl, rfl⟩
set_option maxHeartbeats 1600000 in
set_option maxRecDepth 100000 in
theorem form_8 (w : World) : Calls Tryz.prog 38 #[.int .i64 8] w fun e w' => e = .returned (.int .i64 (IM.fm 8)) ∧ w = w' := by
  go_enter Tryz.func38, Tryz.ntmps38
  go_wp2
  go_ret
  exact ⟨rfl, rfl⟩
set_option maxHeartbeats 1600000 in
set_option maxRecDepth 100000 in
theorem form_9 (w : World) : Calls Tryz.prog 38 #[.int .i64 9] w fun e w' => e = .returned (.int .i64 (IM.fm 9)) ∧ w = w' := by
  go_enter Tryz.func38, Tryz.ntmps38
  go_wp2
  go_ret
  exact ⟨rfl, rfl⟩
set_option maxHeartbeats 1600000 in
set_option maxRecDepth 100000 in
theorem form_10 (w : World) : Calls Tryz.prog 38 #[.int .i64 10] w fun e w' => e = .returned (.int .i64 (IM.fm 10)) ∧ w = w' := by
  go_enter Tryz.func38, Tryz.ntmps38
  go_wp2
  go_ret
  exact ⟨rfl, rfl⟩
set_option maxHeartbeats 1600000 in
set_option maxRecDepth 100000 in
theorem form_11 (w : World) : Calls Tryz.prog 38 #[.int .i64 11] w fun e w' => e = .returned (.int .i64 (IM.fm 11)) ∧ w = w' := by
  go_enter Tryz.func38, Tryz.ntmps38
  go_wp2
  go_ret
  exact ⟨rfl, rfl⟩
set_option maxHeartbeats 1600000 in
set_option maxRecDepth 100000 in
theorem form_12 (w : World) : Calls Tryz.prog 38 #[.int .i64 12] w fun e w' => e = .returned (.int .i64 (IM.fm 12)) ∧ w = w' := by
  go_enter Tryz.func38, Tryz.ntmps38
  go_wp2
  go_ret
  exact ⟨rfl, rfl⟩
set_option maxHeartbeats 1600000 in
set_option maxRecDepth 100000 in
theorem form_13 (w : World) : Calls Tryz.prog 38 #[.int .i64 13] w fun e w' => e = .returned (.int .i64 (IM.fm 13)) ∧ w = w' := by
  go_enter Tryz.func38, Tryz.ntmps38
  go_wp2
  go_ret
  exact ⟨rfl, rfl⟩
set_option maxHeartbeats 1600000 in
set_option maxRecDepth 100000 in
theorem form_14 (w : World) : Calls Tryz.prog 38 #[.int .i64 14] w fun e w' => e = .returned (.int .i64 (IM.fm 14)) ∧ w = w' := by
  go_enter Tryz.func38, Tryz.ntmps38
  go_wp2
  go_ret
  exact ⟨rfl, rfl⟩
set_option maxHeartbeats 1600000 in
set_option maxRecDepth 100000 in
theorem form_15 (w : World) : Calls Tryz.prog 38 #[.int .i64 15] w fun e w' => e = .returned (.int .i64 (IM.fm 15)) ∧ w = w' := by
  go_enter Tryz.func38, Tryz.ntmps38
  go_wp2
  go_ret
  exact ⟨rfl, rfl⟩
set_option maxHeartbeats 1600000 in
set_option maxRecDepth 100000 in
theorem form_16 (w : World) : Calls Tryz.prog 38 #[.int .i64 16] w fun e w' => e = .returned (.int .i64 (IM.fm 16)) ∧ w = w' := by
  go_enter Tryz.func38, Tryz.ntmps38
  go_wp2
  go_ret
  exact ⟨rfl, rfl⟩
set_option maxHeartbeats 1600000 in
set_option maxRecDepth 100000 in
theorem form_17 (w : World) : Calls Tryz.prog 38 #[.int .i64 17] w fun e w' => e = .returned (.int .i64 (IM.fm 17)) ∧ w = w' := by
  go_enter Tryz.func38, Tryz.ntmps38
  go_wp2
  go_ret
  exact ⟨rfl, rfl⟩
set_option maxHeartbeats 1600000 in
set_option maxRecDepth 100000 in
theorem form_18 (w : World) : Calls Tryz.prog 38 #[.int .i64 18] w fun e w' => e = .returned (.int .i64 (IM.fm 18)) ∧ w = w' := by
  go_enter Tryz.func38, Tryz.ntmps38
  go_wp2
  go_ret
  exact ⟨rfl, rfl⟩
set_option maxHeartbeats 1600000 in
set_option maxRecDepth 100000 in
theorem form_19 (w : World) : Calls Tryz.prog 38 #[.int .i64 19] w fun e w' => e = .returned (.int .i64 (IM.fm 19)) ∧ w = w' := by
  go_enter Tryz.func38, Tryz.ntmps38
  go_wp2
  go_ret
  exact ⟨rfl, rfl⟩
set_option maxHeartbeats 1600000 in
set_option maxRecDepth 100000 in
theorem form_20 (w : World) : Calls Tryz.prog 38 #[.int .i64 20] w fun e w' => e = .returned (.int .i64 (IM.fm 20)) ∧ w = w' := by
  go_enter Tryz.func38, Tryz.ntmps38
  go_wp2
  go_ret
  exact ⟨rfl, rfl⟩
set_option maxHeartbeats 1600000 in
set_option maxRecDepth 100000 in
theorem form_21 (w : World) : Calls Tryz.prog 38 #[.int .i64 21] w fun e w' => e = .returned (.int .i64 (IM.fm 21)) ∧ w = w' := by
  go_enter Tryz.func38, Tryz.ntmps38
  go_wp2
  go_ret
  exact ⟨rfl, rfl⟩
set_option maxHeartbeats 1600000 in
set_option maxRecDepth 100000 in
theorem form_22 (w : World) : Calls Tryz.prog 38 #[.int .i64 22] w fun e w' => e = .returned (.int .i64 (IM.fm 22)) ∧ w = w' := by
  go_enter Tryz.func38, Tryz.ntmps38
  go_wp2
  go_ret
  exact ⟨rfl, rfl⟩
set_option maxHeartbeats 1600000 in
set_option maxRecDepth 100000 in
theorem form_23 (w : World) : Calls Tryz.prog 38 #[.int .i64 23] w fun e w' => e = .returned (.int .i64 (IM.fm 23)) ∧ w = w' := by
  go_enter Tryz.func38, Tryz.ntmps38
  go_wp2
  go_ret
  exact ⟨rfl, rfl⟩
set_option maxHeartbeats 1600000 in
set_option maxRecDepth 100000 in
theorem form_24 (w : World) : Calls Tryz.prog 38 #[.int .i64 24] w fun e w' => e = .returned (.int .i64 (IM.fm 24)) ∧ w = w' := by
  go_enter Tryz.func38, Tryz.ntmps38
  go_wp2
  go_ret
  exact ⟨rfl, rfl⟩
set_option maxHeartbeats 1600000 in
set_option maxRecDepth 100000 in
theorem form_25 (w : World) : Calls Tryz.prog 38 #[.int .i64 25] w fun e w' => e = .returned (.int .i64 (IM.fm 25)) ∧ w = w' := by
  go_enter Tryz.func38, Tryz.ntmps38
  go_wp2
  go_ret
  exact ⟨rfl, rfl⟩
set_option maxHeartbeats 1600000 in
set_option maxRecDepth 100000 in
theorem form_26 (w : World) : Calls Tryz.prog 38 #[.int .i64 26] w fun e w' => e = .returned (.int .i64 (IM.fm 26)) ∧ w = w' := by
  go_enter Tryz.func38, Tryz.ntmps38
  go_wp2
  go_ret
  exact ⟨rfl, rfl⟩
set_option maxHeartbeats 1600000 in
set_option maxRecDepth 100000 in
theorem form_27 (w : World) : Calls Tryz.prog 38 #[.int .i64 27] w fun e w' => e = .returned (.int .i64 (IM.fm 27)) ∧ w = w' := by
  go_enter Tryz.func38, Tryz.ntmps38
  go_wp2
  go_ret
  exact ⟨rfl, rfl⟩
set_option maxHeartbeats 1600000 in
set_option maxRecDepth 100000 in
theorem form_28 (w : World) : Calls Tryz.prog 38 #[.int .i64 28] w fun e w' => e = .returned (.int .i64 (IM.fm 28)) ∧ w = w' := by
  go_enter Tryz.func38, Tryz.ntmps38
  go_wp2
  go_ret
  exact ⟨rfl, rfl⟩
set_option maxHeartbeats 1600000 in
set_option maxRecDepth 100000 in
theorem form_29 (w : World) : Calls Tryz.prog 38 #[.int .i64 29] w fun e w' => e = .returned (.int .i64 (IM.fm 29)) ∧ w = w' := by
  go_enter Tryz.func38, Tryz.ntmps38
  go_wp2
  go_ret
  exact ⟨rfl, rfl⟩
set_option maxHeartbeats 1600000 in
set_option maxRecDepth 100000 in
theorem form_30 (w : World) : Calls Tryz.prog 38 #[.int .i64 30] w fun e w' => e = .returned (.int .i64 (IM.fm 30)) ∧ w = w' := by
  go_enter Tryz.func38, Tryz.ntmps38
  go_wp2
  go_ret
  exact ⟨rfl, rfl⟩
set_option maxHeartbeats 1600000 in
set_option maxRecDepth 100000 in
theorem form_31 (w : World) : Calls Tryz.prog 38 #[.int .i64 31] w fun e w' => e = .returned (.int .i64 (IM.fm 31)) ∧ w = w' := by
  go_enter Tryz.func38, Tryz.ntmps38
  go_wp2
  go_ret
  exact ⟨rfl, rfl⟩
set_option maxHeartbeats 1600000 in
set_option maxRecDepth 100000 in
theorem form_32 (w : World) : Calls Tryz.prog 38 #[.int .i64 32] w fun e w' => e = .returned (.int .i64 (IM.fm 32)) ∧ w = w' := by
  go_enter Tryz.func38, Tryz.ntmps38
  go_wp2
  go_ret
  exact ⟨rfl, rfl⟩
set_option maxHeartbeats 1600000 in
set_option maxRecDepth 100000 in
theorem form_33 (w : World) : Calls Tryz.prog 38 #[.int .i64 33] w fun e w' => e = .returned (.int .i64 (IM.fm 33)) ∧ w = w' := by
  go_enter Tryz.func38, Tryz.ntmps38
  go_wp2
  go_ret
  exact ⟨rfl, rfl⟩
set_option maxHeartbeats 1600000 in
set_option maxRecDepth 100000 in
theorem form_34 (w : World) : Calls Tryz.prog 38 #[.int .i64 34] w fun e w' => e = .returned (.int .i64 (IM.fm 34)) ∧ w = w' := by
  go_enter Tryz.func38, Tryz.ntmps38
  go_wp2
  go_ret
  exact ⟨rfl, rfl⟩
set_option maxHeartbeats 1600000 in
set_option maxRecDepth 100000 in
theorem form_35 (w : World) : Calls Tryz.prog 38 #[.int .i64 35] w fun e w' => e = .returned (.int .i64 (IM.fm 35)) ∧ w = w' := by
  go_enter Tryz.func38, Tryz.ntmps38
  go_wp2
  go_ret
  exact ⟨rfl, rfl⟩
set_option maxHeartbeats 1600000 in
set_option maxRecDepth 100000 in
theorem form_36 (w : World) : Calls Tryz.prog 38 #[.int .i64 36] w fun e w' => e = .returned (.int .i64 (IM.fm 36)) ∧ w = w' := by
  go_enter Tryz.func38, Tryz.ntmps38
  go_wp2
  go_ret
  exact ⟨rfl, rfl⟩
set_option maxHeartbeats 1600000 in
set_option maxRecDepth 100000 in
theorem form_37 (w : World) : Calls Tryz.prog 38 #[.int .i64 37] w fun e w' => e = .returned (.int .i64 (IM.fm 37)) ∧ w = w' := by
  go_enter Tryz.func38, Tryz.ntmps38
  go_wp2
  go_ret
  exact ⟨rfl, rfl⟩
set_option maxHeartbeats 1600000 in
set_option maxRecDepth 100000 in
theorem form_38 (w : World) : Calls Tryz.prog 38 #[.int .i64 38] w fun e w' => e = .returned (.int .i64 (IM.fm 38)) ∧ w = w' := by
  go_enter Tryz.func38, Tryz.ntmps38
  go_wp2
  go_ret
  exact ⟨rfl, rfl⟩
set_option maxHeartbeats 1600000 in
set_option maxRecDepth 100000 in
theorem form_39 (w : World) : Calls Tryz.prog 38 #[.int .i64 39] w fun e w' => e = .returned (.int .i64 (IM.fm 39)) ∧ w = w' := by
  go_enter Tryz.func38, Tryz.ntmps38
  go_wp2
  go_ret
  exact ⟨rfl, rfl⟩
set_option maxHeartbeats 1600000 in
set_option maxRecDepth 100000 in
theorem form_40 (w : World) : Calls Tryz.prog 38 #[.int .i64 40] w fun e w' => e = .returned (.int .i64 (IM.fm 40)) ∧ w = w' := by
  go_enter Tryz.func38, Tryz.ntmps38
  go_wp2
  go_ret
  exact ⟨rfl, rfl⟩
set_option maxHeartbeats 1600000 in
set_option maxRecDepth 100000 in
theorem form_41 (w : World) : Calls Tryz.prog 38 #[.int .i64 41] w fun e w' => e = .returned (.int .i64 (IM.fm 41)) ∧ w = w' := by
  go_enter Tryz.func38, Tryz.ntmps38
  go_wp2
  go_ret
  exact ⟨rfl, rfl⟩
set_option maxHeartbeats 1600000 in
set_option maxRecDepth 100000 in
theorem form_42 (w : World) : Calls Tryz.prog 38 #[.int .i64 42] w fun e w' => e = .returned (.int .i64 (IM.fm 42)) ∧ w = w' := by
  go_enter Tryz.func38, Tryz.ntmps38
  go_wp2
  go_ret
  exact ⟨rfl, rfl⟩
set_option maxHeartbeats 1600000 in
set_option maxRecDepth 100000 in
theorem form_43 (w : World) : Calls Tryz.prog 38 #[.int .i64 43] w fun e w' => e = .returned (.int .i64 (IM.fm 43)) ∧ w = w' := by
  go_enter Tryz.func38, Tryz.ntmps38
  go_wp2
  go_ret
  exact ⟨rfl, rfl⟩
set_option maxHeartbeats 1600000 in
set_option maxRecDepth 100000 in
theorem form_44 (w : World) : Calls Tryz.prog 38 #[.int .i64 44] w fun e w' => e = .returned (.int .i64 (IM.fm 44)) ∧ w = w' := by
  go_enter Tryz.func38, Tryz.ntmps38
  go_wp2
  go_ret
  exact ⟨rfl, rfl⟩
set_option maxHeartbeats 1600000 in
set_option maxRecDepth 100000 in
theorem form_45 (w : World) : Calls Tryz.prog 38 #[.int .i64 45] w fun e w' => e = .returned (.int .i64 (IM.fm 45)) ∧ w = w' := by
  go_enter Tryz.func38, Tryz.ntmps38
  go_wp2
  go_ret
  exact ⟨rfl, rfl⟩
set_option maxHeartbeats 1600000 in
set_option maxRecDepth 100000 in
theorem form_46 (w : World) : Calls Tryz.prog 38 #[.int .i64 46] w fun e w' => e = .returned (.int .i64 (IM.fm 46)) ∧ w = w' := by
  go_enter Tryz.func38, Tryz.ntmps38
  go_wp2
  go_ret
  exact ⟨rfl, rfl⟩
set_option maxHeartbeats 1600000 in
set_option maxRecDepth 100000 in
theorem form_47 (w : World) : Calls Tryz.prog 38 #[.int .i64 47] w fun e w' => e = .returned (.int .i64 (IM.fm 47)) ∧ w = w' := by
  go_enter Tryz.func38, Tryz.ntmps38
  go_wp2
  go_ret
  exact ⟨rfl, rfl⟩
set_option maxHeartbeats 1600000 in
set_option maxRecDepth 100000 in
theorem form_48 (w : World) : Calls Tryz.prog 38 #[.int .i64 48] w fun e w' => e = .returned (.int .i64 (IM.fm 48)) ∧ w = w' := by
  go_enter Tryz.func38, Tryz.ntmps38
  go_wp2
  go_ret
  exact ⟨rfl, rfl⟩
set_option maxHeartbeats 1600000 in
set_option maxRecDepth 100000 in
theorem form_49 (w : World) : Calls Tryz.prog 38 #[.int .i64 49] w fun e w' => e = .returned (.int .i64 (IM.fm 49)) ∧ w = w' := by
  go_enter Tryz.func38, Tryz.ntmps38
  go_wp2
  go_ret
  exact ⟨rfl, rfl⟩
set_option maxHeartbeats 1600000 in
set_option maxRecDepth 100000 in
theorem form_50 (w : World) : Calls Tryz.prog 38 #[.int .i64 50] w fun e w' => e = .returned (.int .i64 (IM.fm 50)) ∧ w = w' := by
  go_enter Tryz.func38, Tryz.ntmps38
  go_wp2
  go_ret
  exact ⟨rfl, rfl⟩
set_option maxHeartbeats 1600000 in
set_option maxRecDepth 100000 in
theorem form_51 (w : World) : Calls Tryz.prog 38 #[.int .i64 51] w fun e w' => e = .returned (.int .i64 (IM.fm 51)) ∧ w = w' := by
  go_enter Tryz.func38, Tryz.ntmps38
  go_wp2
  go_ret
  exact ⟨rfl, rfl⟩
set_option maxHeartbeats 1600000 in
set_option maxRecDepth 100000 in
theorem form_52 (w : World) : Calls Tryz.prog 38 #[.int .i64 52] w fun e w' => e = .returned (.int .i64 (IM.fm 52)) ∧ w = w' := by
  go_enter Tryz.func38, Tryz.ntmps38
  go_wp2
  go_ret
  exact ⟨rfl, rfl⟩
set_option maxHeartbeats 1600000 in
set_option maxRecDepth 100000 in
theorem form_53 (w : World) : Calls Tryz.prog 38 #[.int .i64 53] w fun e w' => e = .returned (.int .i64 (IM.fm 53)) ∧ w = w' := by
  go_enter Tryz.func38, Tryz.ntmps38
  go_wp2
  go_ret
  exact ⟨rfl, rfl⟩
set_option maxHeartbeats 1600000 in
set_option maxRecDepth 100000 in
theorem form_54 (w : World) : Calls Tryz.prog 38 #[.int .i64 54] w fun e w' => e = .returned (.int .i64 (IM.fm 54)) ∧ w = w' := by
  go_enter Tryz.func38, Tryz.ntmps38
  go_wp2
  go_ret
  exact ⟨rfl, rfl⟩
set_option maxHeartbeats 1600000 in
set_option maxRecDepth 100000 in
theorem form_55 (w : World) : Calls Tryz.prog 38 #[.int .i64 55] w fun e w' => e = .returned (.int .i64 (IM.fm 55)) ∧ w = w' := by
  go_enter Tryz.func38, Tryz.ntmps38
  go_wp2
  go_ret
  exact ⟨rfl, rfl⟩
set_option maxHeartbeats 1600000 in
set_option maxRecDepth 100000 in
theorem form_56 (w : World) : Calls Tryz.prog 38 #[.int .i64 56] w fun e w' => e = .returned (.int .i64 (IM.fm 56)) ∧ w = w' := by
  go_enter Tryz.func38, Tryz.ntmps38
  go_wp2
  go_ret
  exact ⟨rfl, rfl⟩
set_option maxHeartbeats 1600000 in
set_option maxRecDepth 100000 in
theorem form_57 (w : World) : Calls Tryz.prog 38 #[.int .i64 57] w fun e w' => e = .returned (.int .i64 (IM.fm 57)) ∧ w = w' := by
  go_enter Tryz.func38, Tryz.ntmps38
  go_wp2
  go_ret
  exact ⟨rfl, rfl⟩
set_option maxHeartbeats 1600000 in
set_option maxRecDepth 100000 in
theorem form_58 (w : World) : Calls Tryz.prog 38 #[.int .i64 58] w fun e w' => e = .returned (.int .i64 (IM.fm 58)) ∧ w = w' := by
  go_enter Tryz.func38, Tryz.ntmps38
  go_wp2
  go_ret
  exact ⟨rfl, rfl⟩
set_option maxHeartbeats 1600000 in
set_option maxRecDepth 100000 in
theorem form_59 (w : World) : Calls Tryz.prog 38 #[.int .i64 59] w fun e w' => e = .returned (.int .i64 (IM.fm 59)) ∧ w = w' := by
  go_enter Tryz.func38, Tryz.ntmps38
  go_wp2
  go_ret
  exact ⟨rfl, rfl⟩
set_option maxHeartbeats 1600000 in
set_option maxRecDepth 100000 in
theorem form_60 (w : World) : Calls Tryz.prog 38 #[.int .i64 60] w fun e w' => e = .returned (.int .i64 (IM.fm 60)) ∧ w = w' := by
  go_enter Tryz.func38, Tryz.ntmps38
  go_wp2
  go_ret
  exact ⟨rfl, rfl⟩
set_option maxHeartbeats 1600000 in
set_option maxRecDepth 100000 in
theorem form_61 (w : World) : Calls Tryz.prog 38 #[.int .i64 61] w fun e w' => e = .returned (.int .i64 (IM.fm 61)) ∧ w = w' := by
  go_enter Tryz.func38, Tryz.ntmps38
  go_wp2
  go_ret
  exact ⟨rfl, rfl⟩
set_option maxHeartbeats 1600000 in
set_option maxRecDepth 100000 in
theorem form_62 (w : World) : Calls Tryz.prog 38 #[.int .i64 62] w fun e w' => e = .returned (.int .i64 (IM.fm 62)) ∧ w = w' := by
  go_enter Tryz.func38, Tryz.ntmps38
  go_wp2
  go_ret
  exact ⟨rfl, rfl⟩
set_option maxHeartbeats 1600000 in
set_option maxRecDepth 100000 in
theorem form_63 (w : World) : Calls Tryz.prog 38 #[.int .i64 63] w fun e w' => e = .returned (.int .i64 (IM.fm 63)) ∧ w = w' := by
  go_enter Tryz.func38, Tryz.ntmps38
  go_wp2
  go_ret
  exact ⟨rfl, rfl⟩
theorem ne_op {op : Int} (h : ¬ (1 ≤ op ∧ op ≤ 63)) (k : Int) (hk : 1 ≤ k ∧ k ≤ 63) : (op == k) = false := by simp; omega
set_option maxHeartbeats 1600000 in
set_option maxRecDepth 100000 in
theorem form_none (op : Int) (w : World) (h : ¬ (1 ≤ op ∧ op ≤ 63)) : Calls Tryz.prog 38 #[.int .i64 op] w fun e w' => e = .returned (.int .i64 (IM.fm op)) ∧ w = w' := by
  have g1 := ne_op h 1 (by decide)
  have g2 := ne_op h 2 (by decide)
  have g3 := ne_op h 3 (by decide)
  have g4 := ne_op h 4 (by decide)
  have g5 := ne_op h 5 (by decide)
  have g6 := ne_op h 6 (by decide)
  have g7 := ne_op h 7 (by decide)
  have g8 := ne_op h 8 (by decide)
  have g9 := ne_op h 9 (by decide)
  have g10 := ne_op h 10 (by decide)
  have g11 := ne_op h 11 (by decide)
  have g12 := ne_op h 12 (by decide)
  have g13 := ne_op h 13 (by decide)
  have g14 := ne_op h 14 (by decide)
  have g15 := ne_op h 15 (by decide)
  have g16 := ne_op h 16 (by decide)
  have g17 := ne_op h 17 (by decide)
  have g18 := ne_op h 18 (by decide)
  have g19 := ne_op h 19 (by decide)
  have g20 := ne_op h 20 (by decide)
  have g21 := ne_op h 21 (by decide)
  have g22 := ne_op h 22 (by decide)
  have g23 := ne_op h 23 (by decide)
  have g24 := ne_op h 24 (by decide)
  have g25 := ne_op h 25 (by decide)
  have g26 := ne_op h 26 (by decide)
  have g27 := ne_op h 27 (by decide)
  have g28 := ne_op h 28 (by decide)
  have g29 := ne_op h 29 (by decide)
  have g30 := ne_op h 30 (by decide)
  have g31 := ne_op h 31 (by decide)
  have g32 := ne_op h 32 (by decide)
  have g33 := ne_op h 33 (by decide)
  have g34 := ne_op h 34 (by decide)
  have g35 := ne_op h 35 (by decide)
  have g36 := ne_op h 36 (by decide)
  have g37 := ne_op h 37 (by decide)
  have g38 := ne_op h 38 (by decide)
  have g39 := ne_op h 39 (by decide)
  have g40 := ne_op h 40 (by decide)
  have g41 := ne_op h 41 (by decide)
  have g42 := ne_op h 42 (by decide)
  have g43 := ne_op h 43 (by decide)
  have g44 := ne_op h 44 (by decide)
  have g45 := ne_op h 45 (by decide)
  have g46 := ne_op h 46 (by decide)
  have g47 := ne_op h 47 (by decide)
  have g48 := ne_op h 48 (by decide)
  have g49 := ne_op h 49 (by decide)
  have g50 := ne_op h 50 (by decide)
  have g51 := ne_op h 51 (by decide)
  have g52 := ne_op h 52 (by decide)
  have g53 := ne_op h 53 (by decide)
  have g54 := ne_op h 54 (by decide)
  have g55 := ne_op h 55 (by decide)
  have g56 := ne_op h 56 (by decide)
  have g57 := ne_op h 57 (by decide)
  have g58 := ne_op h 58 (by decide)
  have g59 := ne_op h 59 (by decide)
  have g60 := ne_op h 60 (by decide)
  have g61 := ne_op h 61 (by decide)
  have g62 := ne_op h 62 (by decide)
  have g63 := ne_op h 63 (by decide)
  rw [IM.fm_none op h]
  clear h
  go_enter Tryz.func38, Tryz.ntmps38
  go_wp2
  go_ret
  exact ⟨rfl, rfl⟩
theorem form_any (op : Int) (w : World) : Calls Tryz.prog 38 #[.int .i64 op] w fun e w' => e = .returned (.int .i64 (IM.fm op)) ∧ w = w' := by
  by_cases h : 1 ≤ op ∧ op ≤ 63
  · obtain ⟨h1, h2⟩ := h
    by_cases c1_63 : op ≤ 32
    · by_cases c1_32 : op ≤ 16
      · by_cases c1_16 : op ≤ 8
        · by_cases c1_8 : op ≤ 4
          · by_cases c1_4 : op ≤ 2
            · by_cases c1_2 : op ≤ 1
              · obtain rfl : op = 1 := by omega
                exact form_1 w
              · obtain rfl : op = 2 := by omega
                exact form_2 w
            · by_cases c3_4 : op ≤ 3
              · obtain rfl : op = 3 := by omega
                exact form_3 w
              · obtain rfl : op = 4 := by omega
                exact form_4 w
          · by_cases c5_8 : op ≤ 6
            · by_cases c5_6 : op ≤ 5
              · obtain rfl : op = 5 := by omega
                exact form_5 w
              · obtain rfl : op = 6 := by omega
                exact form_6 w
            · by_cases c7_8 : op ≤ 7
              · obtain rfl : op = 7 := by omega
                exact form_7 w
              · obtain rfl : op = 8 := by omega
                exact form_8 w
        · by_cases c9_16 : op ≤ 12
          · by_cases c9_12 : op ≤ 10
            · by_cases c9_10 : op ≤ 9
              · obtain rfl : op = 9 := by omega
                exact form_9 w
              · obtain rfl : op = 10 := by omega
                exact form_10 w
            · by_cases c11_12 : op ≤ 11
              · obtain rfl : op = 11 := by omega
                exact form_11 w
              · obtain rfl : op = 12 := by omega
                exact form_12 w
          · by_cases c13_16 : op ≤ 14
            · by_cases c13_14 : op ≤ 13
              · obtain rfl : op = 13 := by omega
                exact form_13 w
              · obtain rfl : op = 14 := by omega
                exact form_14 w
            · by_cases c15_16 : op ≤ 15
              · obtain rfl : op = 15 := by omega
                exact form_15 w
              · obtain rfl : op = 16 := by omega
                exact form_16 w
      · by_cases c17_32 : op ≤ 24
        · by_cases c17_24 : op ≤ 20
          · by_cases c17_20 : op ≤ 18
            · by_cases c17_18 : op ≤ 17
              · obtain rfl : op = 17 := by omega
                exact form_17 w
              · obtain rfl : op = 18 := by omega
                exact form_18 w
            · by_cases c19_20 : op ≤ 19
              · obtain rfl : op = 19 := by omega
                exact form_19 w
              · obtain rfl : op = 20 := by omega
                exact form_20 w
          · by_cases c21_24 : op ≤ 22
            · by_cases c21_22 : op ≤ 21
              · obtain rfl : op = 21 := by omega
                exact form_21 w
              · obtain rfl : op = 22 := by omega
                exact form_22 w
            · by_cases c23_24 : op ≤ 23
              · obtain rfl : op = 23 := by omega
                exact form_23 w
              · obtain rfl : op = 24 := by omega
                exact form_24 w
        · by_cases c25_32 : op ≤ 28
          · by_cases c25_28 : op ≤ 26
            · by_cases c25_26 : op ≤ 25
              · obtain rfl : op = 25 := by omega
                exact form_25 w
              · obtain rfl : op = 26 := by omega
                exact form_26 w
            · by_cases c27_28 : op ≤ 27
              · obtain rfl : op = 27 := by omega
                exact form_27 w
              · obtain rfl : op = 28 := by omega
                exact form_28 w
          · by_cases c29_32 : op ≤ 30
            · by_cases c29_30 : op ≤ 29
              · obtain rfl : op = 29 := by omega
                exact form_29 w
              · obtain rfl : op = 30 := by omega
                exact form_30 w
            · by_cases c31_32 : op ≤ 31
              · obtain rfl : op = 31 := by omega
                exact form_31 w
              · obtain rfl : op = 32 := by omega
                exact form_32 w
    · by_cases c33_63 : op ≤ 48
      · by_cases c33_48 : op ≤ 40
        · by_cases c33_40 : op ≤ 36
          · by_cases c33_36 : op ≤ 34
            · by_cases c33_34 : op ≤ 33
              · obtain rfl : op = 33 := by omega
                exact form_33 w
              · obtain rfl : op = 34 := by omega
                exact form_34 w
            · by_cases c35_36 : op ≤ 35
              · obtain rfl : op = 35 := by omega
                exact form_35 w
              · obtain rfl : op = 36 := by omega
                exact form_36 w
          · by_cases c37_40 : op ≤ 38
            · by_cases c37_38 : op ≤ 37
              · obtain rfl : op = 37 := by omega
                exact form_37 w
              · obtain rfl : op = 38 := by omega
                exact form_38 w
            · by_cases c39_40 : op ≤ 39
              · obtain rfl : op = 39 := by omega
                exact form_39 w
              · obtain rfl : op = 40 := by omega
                exact form_40 w
        · by_cases c41_48 : op ≤ 44
          · by_cases c41_44 : op ≤ 42
            · by_cases c41_42 : op ≤ 41
              · obtain rfl : op = 41 := by omega
                exact form_41 w
              · obtain rfl : op = 42 := by omega
                exact form_42 w
            · by_cases c43_44 : op ≤ 43
              · obtain rfl : op = 43 := by omega
                exact form_43 w
              · obtain rfl : op = 44 := by omega
                exact form_44 w
          · by_cases c45_48 : op ≤ 46
            · by_cases c45_46 : op ≤ 45
              · obtain rfl : op = 45 := by omega
                exact form_45 w
              · obtain rfl : op = 46 := by omega
                exact form_46 w
            · by_cases c47_48 : op ≤ 47
              · obtain rfl : op = 47 := by omega
                exact form_47 w
              · obtain rfl : op = 48 := by omega
                exact form_48 w
      · by_cases c49_63 : op ≤ 56
        · by_cases c49_56 : op ≤ 52
          · by_cases c49_52 : op ≤ 50
            · by_cases c49_50 : op ≤ 49
              · obtain rfl : op = 49 := by omega
                exact form_49 w
              · obtain rfl : op = 50 := by omega
                exact form_50 w
            · by_cases c51_52 : op ≤ 51
              · obtain rfl : op = 51 := by omega
                exact form_51 w
              · obtain rfl : op = 52 := by omega
                exact form_52 w
          · by_cases c53_56 : op ≤ 54
            · by_cases c53_54 : op ≤ 53
              · obtain rfl : op = 53 := by omega
                exact form_53 w
              · obtain rfl : op = 54 := by omega
                exact form_54 w
            · by_cases c55_56 : op ≤ 55
              · obtain rfl : op = 55 := by omega
                exact form_55 w
              · obtain rfl : op = 56 := by omega
                exact form_56 w
        · by_cases c57_63 : op ≤ 60
          · by_cases c57_60 : op ≤ 58
            · by_cases c57_58 : op ≤ 57
              · obtain rfl : op = 57 := by omega
                exact form_57 w
              · obtain rfl : op = 58 := by omega
                exact form_58 w
            · by_cases c59_60 : op ≤ 59
              · obtain rfl : op = 59 := by omega
                exact form_59 w
              · obtain rfl : op = 60 := by omega
                exact form_60 w
          · by_cases c61_63 : op ≤ 62
            · by_cases c61_62 : op ≤ 61
              · obtain rfl : op = 61 := by omega
                exact form_61 w
              · obtain rfl : op = 62 := by omega
                exact form_62 w
            · obtain rfl : op = 63 := by omega
              exact form_63 w
  · exact form_none op w h
end Go.Proofs.YtcnmnkgnaknpdaaGreatDoor.S06
/-! S06WalkB -/
namespace Go.Proofs.YtcnmnkgnaknpdaaGreatDoor.S06
open Go.RowKit S01
set_option maxHeartbeats 1600000 in
set_option maxRecDepth 100000 in
theorem rform_1 (w : World) : Calls Tryz.prog 61 #[.int .i64 1] w fun e w' => e = .returned (.int .i64 (IM.fm 1)) ∧ w = w' := by
  go_enter Tryz.func61, Tryz.ntmps61
  go_wp2
  go_ret
  exact ⟨rfl, rfl⟩
set_option maxHeartbeats 1600000 in
set_option maxRecDepth 100000 in
theorem rform_2 (w : World) : Calls Tryz.prog 61 #[.int .i64 2] w fun e w' => e = .returned (.int .i64 (IM.fm 2)) ∧ w = w' := by
  go_enter Tryz.func61, Tryz.ntmps61
  go_wp2
  go_ret
  exact ⟨rfl, rfl⟩
set_option maxHeartbeats 1600000 in
set_option maxRecDepth 100000 in
theorem rform_3 (w : World) : Calls Tryz.prog 61 #[.int .i64 3] w fun e w' => e = .returned (.int .i64 (IM.fm 3)) ∧ w = w' := by
  go_enter Tryz.func61, Tryz.ntmps61
  go_wp2
  go_ret
  exact ⟨rfl, rfl⟩
set_option maxHeartbeats 1600000 in
set_option maxRecDepth 100000 in
theorem rform_4 (w : World) : Calls Tryz.prog 61 #[.int .i64 4] w fun e w' => e = .returned (.int .i64 (IM.fm 4)) ∧ w = w' := by
  go_enter Tryz.func61, Tryz.ntmps61
  go_wp2
  go_ret
  exact ⟨rfl, rfl⟩
set_option maxHeartbeats 1600000 in
set_option maxRecDepth 100000 in
theorem rform_5 (w : World) : Calls Tryz.prog 61 #[.int .i64 5] w fun e w' => e = .returned (.int .i64 (IM.fm 5)) ∧ w = w' := by
  go_enter Tryz.func61, Tryz.ntmps61
  go_wp2
  go_ret
  exact ⟨rfl, rfl⟩
set_option maxHeartbeats 1600000 in
set_option maxRecDepth 100000 in
theorem rform_6 (w : World) : Calls Tryz.prog 61 #[.int .i64 6] w fun e w' => e = .returned (.int .i64 (IM.fm 6)) ∧ w = w' := by
  go_enter Tryz.func61, Tryz.ntmps61
  go_wp2
  go_ret
  exact ⟨rfl, rfl⟩
set_option maxHeartbeats 1600000 in
set_option maxRecDepth 100000 in
theorem rform_7 (w : World) : Calls Tryz.prog 61 #[.int .i64 7] w fun e w' => e = .returned (.int .i64 (IM.fm 7)) ∧ w = w' := by
  go_enter Tryz.func61, Tryz.ntmps61
  go_wp2
  go_ret
  exact ⟨rfl, rfl⟩
set_option maxHeartbeats 1600000 in
set_option maxRecDepth 100000 in
theorem rform_8 (w : World) : Calls Tryz.prog 61 #[.int .i64 8] w fun e w' => e = .returned (.int .i64 (IM.fm 8)) ∧ w = w' := by
  go_enter Tryz.func61, Tryz.ntmps61
  go_wp2
  go_ret
  exact ⟨rfl, rfl⟩
set_option maxHeartbeats 1600000 in
set_option maxRecDepth 100000 in
theorem rform_9 (w : World) : Calls Tryz.prog 61 #[.int .i64 9] w fun e w' => e = .returned (.int .i64 (IM.fm 9)) ∧ w = w' := by
  go_enter Tryz.func61, Tryz.ntmps61
  go_wp2
  go_ret
  exact ⟨rfl, rfl⟩
set_option maxHeartbeats 1600000 in
set_option maxRecDepth 100000 in
theorem rform_10 (w : World) : Calls Tryz.prog 61 #[.int .i64 10] w fun e w' => e = .returned (.int .i64 (IM.fm 10)) ∧ w = w' := by
  go_enter Tryz.func61, Tryz.ntmps61
  go_wp2
  go_ret
  exact ⟨rfl, rfl⟩
set_option maxHeartbeats 1600000 in
set_option maxRecDepth 100000 in
theorem rform_11 (w : World) : Calls Tryz.prog 61 #[.int .i64 11] w fun e w' => e = .returned (.int .i64 (IM.fm 11)) ∧ w = w' := by
  go_enter Tryz.func61, Tryz.ntmps61
  go_wp2
  go_ret
  exact ⟨rfl, rfl⟩
set_option maxHeartbeats 1600000 in
set_option maxRecDepth 100000 in
theorem rform_12 (w : World) : Calls Tryz.prog 61 #[.int .i64 12] w fun e w' => e = .returned (.int .i64 (IM.fm 12)) ∧ w = w' := by
  go_enter Tryz.func61, Tryz.ntmps61
  go_wp2
  go_ret
  exact ⟨rfl, rfl⟩
set_option maxHeartbeats 1600000 in
set_option maxRecDepth 100000 in
theorem rform_13 (w : World) : Calls Tryz.prog 61 #[.int .i64 13] w fun e w' => e = .returned (.int .i64 (IM.fm 13)) ∧ w = w' := by
  go_enter Tryz.func61, Tryz.ntmps61
  go_wp2
  go_ret
  exact ⟨rfl, rfl⟩
set_option maxHeartbeats 1600000 in
set_option maxRecDepth 100000 in
theorem rform_14 (w : World) : Calls Tryz.prog 61 #[.int .i64 14] w fun e w' => e = .returned (.int .i64 (IM.fm 14)) ∧ w = w' := by
  go_enter Tryz.func61, Tryz.ntmps61
  go_wp2
  go_ret
  exact ⟨rfl, rfl⟩
set_option maxHeartbeats 1600000 in
set_option maxRecDepth 100000 in
theorem rform_15 (w : World) : Calls Tryz.prog 61 #[.int .i64 15] w fun e w' => e = .returned (.int .i64 (IM.fm 15)) ∧ w = w' := by
  go_enter Tryz.func61, Tryz.ntmps61
  go_wp2
  go_ret
  exact ⟨rfl, rfl⟩
set_option maxHeartbeats 1600000 in
set_option maxRecDepth 100000 in
theorem rform_16 (w : World) : Calls Tryz.prog 61 #[.int .i64 16] w fun e w' => e = .returned (.int .i64 (IM.fm 16)) ∧ w = w' := by
  go_enter Tryz.func61, Tryz.ntmps61
  go_wp2
  go_ret
  exact ⟨rfl, rfl⟩
set_option maxHeartbeats 1600000 in
set_option maxRecDepth 100000 in
theorem rform_17 (w : World) : Calls Tryz.prog 61 #[.int .i64 17] w fun e w' => e = .returned (.int .i64 (IM.fm 17)) ∧ w = w' := by
  go_enter Tryz.func61, Tryz.ntmps61
  go_wp2
  go_ret
  exact ⟨rfl, rfl⟩
set_option maxHeartbeats 1600000 in
set_option maxRecDepth 100000 in
theorem rform_18 (w : World) : Calls Tryz.prog 61 #[.int .i64 18] w fun e w' => e = .returned (.int .i64 (IM.fm 18)) ∧ w = w' := by
  go_enter Tryz.func61, Tryz.ntmps61
  go_wp2
  go_ret
  exact ⟨rfl, rfl⟩
set_option maxHeartbeats 1600000 in
set_option maxRecDepth 100000 in
theorem rform_19 (w : World) : Calls Tryz.prog 61 #[.int .i64 19] w fun e w' => e = .returned (.int .i64 (IM.fm 19)) ∧ w = w' := by
  go_enter Tryz.func61, Tryz.ntmps61
  go_wp2
  go_ret
  exact ⟨rfl, rfl⟩
set_option maxHeartbeats 1600000 in
set_option maxRecDepth 100000 in
theorem rform_20 (w : World) : Calls Tryz.prog 61 #[.int .i64 20] w fun e w' => e = .returned (.int .i64 (IM.fm 20)) ∧ w = w' := by
  go_enter Tryz.func61, Tryz.ntmps61
  go_wp2
  go_ret
  exact ⟨rfl, rfl⟩
set_option maxHeartbeats 1600000 in
set_option maxRecDepth 100000 in
theorem rform_21 (w : World) : Calls Tryz.prog 61 #[.int .i64 21] w fun e w' => e = .returned (.int .i64 (IM.fm 21)) ∧ w = w' := by
  go_enter Tryz.func61, Tryz.ntmps61
  go_wp2
  go_ret
  exact ⟨rfl, rfl⟩
set_option maxHeartbeats 1600000 in
set_option maxRecDepth 100000 in
theorem rform_22 (w : World) : Calls Tryz.prog 61 #[.int .i64 22] w fun e w' => e = .returned (.int .i64 (IM.fm 22)) ∧ w = w' := by
  go_enter Tryz.func61, Tryz.ntmps61
  go_wp2
  go_ret
  exact ⟨rfl, rfl⟩
set_option maxHeartbeats 1600000 in
set_option maxRecDepth 100000 in
theorem rform_23 (w : World) : Calls Tryz.prog 61 #[.int .i64 23] w fun e w' => e = .returned (.int .i64 (IM.fm 23)) ∧ w = w' := by
  go_enter Tryz.func61, Tryz.ntmps61
  go_wp2
  go_ret
  exact ⟨rfl, rfl⟩
set_option maxHeartbeats 1600000 in
set_option maxRecDepth 100000 in
theorem rform_24 (w : World) : Calls Tryz.prog 61 #[.int .i64 24] w fun e w' => e = .returned (.int .i64 (IM.fm 24)) ∧ w = w' := by
  go_enter Tryz.func61, Tryz.ntmps61
  go_wp2
  go_ret
  exact ⟨rfl, rfl⟩
set_option maxHeartbeats 1600000 in
set_option maxRecDepth 100000 in
theorem rform_25 (w : World) : Calls Tryz.prog 61 #[.int .i64 25] w fun e w' => e = .returned (.int .i64 (IM.fm 25)) ∧ w = w' := by
  go_enter Tryz.func61, Tryz.ntmps61
  go_wp2
  go_ret
  exact ⟨rfl, rfl⟩
set_option maxHeartbeats 1600000 in
set_option maxRecDepth 100000 in
theorem rform_26 (w : World) : Calls Tryz.prog 61 #[.int .i64 26] w fun e w' => e = .returned (.int .i64 (IM.fm 26)) ∧ w = w' := by
  go_enter Tryz.func61, Tryz.ntmps61
  go_wp2
  go_ret
  exact ⟨rfl, rfl⟩
set_option maxHeartbeats 1600000 in
set_option maxRecDepth 100000 in
theorem rform_27 (w : World) : Calls Tryz.prog 61 #[.int .i64 27] w fun e w' => e = .returned (.int .i64 (IM.fm 27)) ∧ w = w' := by
  go_enter Tryz.func61, Tryz.ntmps61
  go_wp2
  go_ret
  exact ⟨rfl, rfl⟩
set_option maxHeartbeats 1600000 in
set_option maxRecDepth 100000 in
theorem rform_28 (w : World) : Calls Tryz.prog 61 #[.int .i64 28] w fun e w' => e = .returned (.int .i64 (IM.fm 28)) ∧ w = w' := by
  go_enter Tryz.func61, Tryz.ntmps61
  go_wp2
  go_ret
  exact ⟨rfl, rfl⟩
set_option maxHeartbeats 1600000 in
set_option maxRecDepth 100000 in
theorem rform_29 (w : World) : Calls Tryz.prog 61 #[.int .i64 29] w fun e w' => e = .returned (.int .i64 (IM.fm 29)) ∧ w = w' := by
  go_enter Tryz.func61, Tryz.ntmps61
  go_wp2
  go_ret
  exact ⟨rfl, rfl⟩
set_option maxHeartbeats 1600000 in
set_option maxRecDepth 100000 in
theorem rform_30 (w : World) : Calls Tryz.prog 61 #[.int .i64 30] w fun e w' => e = .returned (.int .i64 (IM.fm 30)) ∧ w = w' := by
  go_enter Tryz.func61, Tryz.ntmps61
  go_wp2
  go_ret
  exact ⟨rfl, rfl⟩
set_option maxHeartbeats 1600000 in
set_option maxRecDepth 100000 in
theorem rform_31 (w : World) : Calls Tryz.prog 61 #[.int .i64 31] w fun e w' => e = .returned (.int .i64 (IM.fm 31)) ∧ w = w' := by
  go_enter Tryz.func61, Tryz.ntmps61
  go_wp2
  go_ret
  exact ⟨rfl, rfl⟩
set_option maxHeartbeats 1600000 in
set_option maxRecDepth 100000 in
theorem rform_32 (w : World) : Calls Tryz.prog 61 #[.int .i64 32] w fun e w' => e = .returned (.int .i64 (IM.fm 32)) ∧ w = w' := by
  go_enter Tryz.func61, Tryz.ntmps61
  go_wp2
  go_ret
  exact ⟨rfl, rfl⟩
set_option maxHeartbeats 1600000 in
set_option maxRecDepth 100000 in
theorem rform_33 (w : World) : Calls Tryz.prog 61 #[.int .i64 33] w fun e w' => e = .returned (.int .i64 (IM.fm 33)) ∧ w = w' := by
  go_enter Tryz.func61, Tryz.ntmps61
  go_wp2
  go_ret
  exact ⟨rfl, rfl⟩
set_option maxHeartbeats 1600000 in
set_option maxRecDepth 100000 in
theorem rform_34 (w : World) : Calls Tryz.prog 61 #[.int .i64 34] w fun e w' => e = .returned (.int .i64 (IM.fm 34)) ∧ w = w' := by
  go_enter Tryz.func61, Tryz.ntmps61
  go_wp2
  go_ret
  exact ⟨rfl, rfl⟩
set_option maxHeartbeats 1600000 in
set_option maxRecDepth 100000 in
theorem rform_35 (w : World) : Calls Tryz.prog 61 #[.int .i64 35] w fun e w' => e = .returned (.int .i64 (IM.fm 35)) ∧ w = w' := by
  go_enter Tryz.func61, Tryz.ntmps61
  go_wp2
  go_ret
  exact ⟨rfl, rfl⟩
set_option maxHeartbeats 1600000 in
set_option maxRecDepth 100000 in
theorem rform_36 (w : World) : Calls Tryz.prog 61 #[.int .i64 36] w fun e w' => e = .returned (.int .i64 (IM.fm 36)) ∧ w = w' := by
  go_enter Tryz.func61, Tryz.ntmps61
  go_wp2
  go_ret
  exact ⟨rfl, rfl⟩
set_option maxHeartbeats 1600000 in
set_option maxRecDepth 100000 in
theorem rform_37 (w : World) : Calls Tryz.prog 61 #[.int .i64 37] w fun e w' => e = .returned (.int .i64 (IM.fm 37)) ∧ w = w' := by
  go_enter Tryz.func61, Tryz.ntmps61
  go_wp2
  go_ret
  exact ⟨rfl, rfl⟩
set_option maxHeartbeats 1600000 in
set_option maxRecDepth 100000 in
theorem rform_38 (w : World) : Calls Tryz.prog 61 #[.int .i64 38] w fun e w' => e = .returned (.int .i64 (IM.fm 38)) ∧ w = w' := by
  go_enter Tryz.func61, Tryz.ntmps61
  go_wp2
  go_ret
  exact ⟨rfl, rfl⟩
set_option maxHeartbeats 1600000 in
set_option maxRecDepth 100000 in
theorem rform_39 (w : World) : Calls Tryz.prog 61 #[.int .i64 39] w fun e w' => e = .returned (.int .i64 (IM.fm 39)) ∧ w = w' := by
  go_enter Tryz.func61, Tryz.ntmps61
  go_wp2
  go_ret
  exact ⟨rfl, rfl⟩
set_option maxHeartbeats 1600000 in
set_option maxRecDepth 100000 in
theorem rform_40 (w : World) : Calls Tryz.prog 61 #[.int .i64 40] w fun e w' => e = .returned (.int .i64 (IM.fm 40)) ∧ w = w' := by
  go_enter Tryz.func61, Tryz.ntmps61
  go_wp2
  go_ret
  exact ⟨rfl, rfl⟩
set_option maxHeartbeats 1600000 in
set_option maxRecDepth 100000 in
theorem rform_41 (w : World) : Calls Tryz.prog 61 #[.int .i64 41] w fun e w' => e = .returned (.int .i64 (IM.fm 41)) ∧ w = w' := by
  go_enter Tryz.func61, Tryz.ntmps61
  go_wp2
  go_ret
  exact ⟨rfl, rfl⟩
set_option maxHeartbeats 1600000 in
set_option maxRecDepth 100000 in
theorem rform_42 (w : World) : Calls Tryz.prog 61 #[.int .i64 42] w fun e w' => e = .returned (.int .i64 (IM.fm 42)) ∧ w = w' := by
  go_enter Tryz.func61, Tryz.ntmps61
  go_wp2
  go_ret
  exact ⟨rfl, rfl⟩
set_option maxHeartbeats 1600000 in
set_option maxRecDepth 100000 in
theorem rform_43 (w : World) : Calls Tryz.prog 61 #[.int .i64 43] w fun e w' => e = .returned (.int .i64 (IM.fm 43)) ∧ w = w' := by
  go_enter Tryz.func61, Tryz.ntmps61
  go_wp2
  go_ret
  exact ⟨rfl, rfl⟩
set_option maxHeartbeats 1600000 in
set_option maxRecDepth 100000 in
theorem rform_44 (w : World) : Calls Tryz.prog 61 #[.int .i64 44] w fun e w' => e = .returned (.int .i64 (IM.fm 44)) ∧ w = w' := by
  go_enter Tryz.func61, Tryz.ntmps61
  go_wp2
  go_ret
  exact ⟨rfl, rfl⟩
set_option maxHeartbeats 1600000 in
set_option maxRecDepth 100000 in
theorem rform_45 (w : World) : Calls Tryz.prog 61 #[.int .i64 45] w fun e w' => e = .returned (.int .i64 (IM.fm 45)) ∧ w = w' := by
  go_enter Tryz.func61, Tryz.ntmps61
  go_wp2
  go_ret
  exact ⟨rfl, rfl⟩
set_option maxHeartbeats 1600000 in
set_option maxRecDepth 100000 in
theorem rform_46 (w : World) : Calls Tryz.prog 61 #[.int .i64 46] w fun e w' => e = .returned (.int .i64 (IM.fm 46)) ∧ w = w' := by
  go_enter Tryz.func61, Tryz.ntmps61
  go_wp2
  go_ret
  exact ⟨rfl, rfl⟩
set_option maxHeartbeats 1600000 in
set_option maxRecDepth 100000 in
theorem rform_47 (w : World) : Calls Tryz.prog 61 #[.int .i64 47] w fun e w' => e = .returned (.int .i64 (IM.fm 47)) ∧ w = w' := by
  go_enter Tryz.func61, Tryz.ntmps61
  go_wp2
  go_ret
  exact ⟨rfl, rfl⟩
set_option maxHeartbeats 1600000 in
set_option maxRecDepth 100000 in
theorem rform_48 (w : World) : Calls Tryz.prog 61 #[.int .i64 48] w fun e w' => e = .returned (.int .i64 (IM.fm 48)) ∧ w = w' := by
  go_enter Tryz.func61, Tryz.ntmps61
  go_wp2
  go_ret
  exact ⟨rfl, rfl⟩
set_option maxHeartbeats 1600000 in
set_option maxRecDepth 100000 in
theorem rform_49 (w : World) : Calls Tryz.prog 61 #[.int .i64 49] w fun e w' => e = .returned (.int .i64 (IM.fm 49)) ∧ w = w' := by
  go_enter Tryz.func61, Tryz.ntmps61
  go_wp2
  go_ret
  exact ⟨rfl, rfl⟩
set_option maxHeartbeats 1600000 in
set_option maxRecDepth 100000 in
theorem rform_50 (w : World) : Calls Tryz.prog 61 #[.int .i64 50] w fun e w' => e = .returned (.int .i64 (IM.fm 50)) ∧ w = w' := by
  go_enter Tryz.func61, Tryz.ntmps61
  go_wp2
  go_ret
  exact ⟨rfl, rfl⟩
set_option maxHeartbeats 1600000 in
set_option maxRecDepth 100000 in
theorem rform_51 (w : World) : Calls Tryz.prog 61 #[.int .i64 51] w fun e w' => e = .returned (.int .i64 (IM.fm 51)) ∧ w = w' := by
  go_enter Tryz.func61, Tryz.ntmps61
  go_wp2
  go_ret
  exact ⟨rfl, rfl⟩
set_option maxHeartbeats 1600000 in
set_option maxRecDepth 100000 in
theorem rform_52 (w : World) : Calls Tryz.prog 61 #[.int .i64 52] w fun e w' => e = .returned (.int .i64 (IM.fm 52)) ∧ w = w' := by
  go_enter Tryz.func61, Tryz.ntmps61
  go_wp2
  go_ret
  exact ⟨rfl, rfl⟩
set_option maxHeartbeats 1600000 in
set_option maxRecDepth 100000 in
theorem rform_53 (w : World) : Calls Tryz.prog 61 #[.int .i64 53] w fun e w' => e = .returned (.int .i64 (IM.fm 53)) ∧ w = w' := by
  go_enter Tryz.func61, Tryz.ntmps61
  go_wp2
  go_ret
  exact ⟨rfl, rfl⟩
set_option maxHeartbeats 1600000 in
set_option maxRecDepth 100000 in
theorem rform_54 (w : World) : Calls Tryz.prog 61 #[.int .i64 54] w fun e w' => e = .returned (.int .i64 (IM.fm 54)) ∧ w = w' := by
  go_enter Tryz.func61, Tryz.ntmps61
  go_wp2
  go_ret
  exact ⟨rfl, rfl⟩
set_option maxHeartbeats 1600000 in
set_option maxRecDepth 100000 in
theorem rform_55 (w : World) : Calls Tryz.prog 61 #[.int .i64 55] w fun e w' => e = .returned (.int .i64 (IM.fm 55)) ∧ w = w' := by
  go_enter Tryz.func61, Tryz.ntmps61
  go_wp2
  go_ret
  exact ⟨rfl, rfl⟩
set_option maxHeartbeats 1600000 in
set_option maxRecDepth 100000 in
theorem rform_56 (w : World) : Calls Tryz.prog 61 #[.int .i64 56] w fun e w' => e = .returned (.int .i64 (IM.fm 56)) ∧ w = w' := by
  go_enter Tryz.func61, Tryz.ntmps61
  go_wp2
  go_ret
  exact ⟨rfl, rfl⟩
set_option maxHeartbeats 1600000 in
set_option maxRecDepth 100000 in
theorem rform_57 (w : World) : Calls Tryz.prog 61 #[.int .i64 57] w fun e w' => e = .returned (.int .i64 (IM.fm 57)) ∧ w = w' := by
  go_enter Tryz.func61, Tryz.ntmps61
  go_wp2
  go_ret
  exact ⟨rfl, rfl⟩
set_option maxHeartbeats 1600000 in
set_option maxRecDepth 100000 in
theorem rform_58 (w : World) : Calls Tryz.prog 61 #[.int .i64 58] w fun e w' => e = .returned (.int .i64 (IM.fm 58)) ∧ w = w' := by
  go_enter Tryz.func61, Tryz.ntmps61
  go_wp2
  go_ret
  exact ⟨rfl, rfl⟩
set_option maxHeartbeats 1600000 in
set_option maxRecDepth 100000 in
theorem rform_59 (w : World) : Calls Tryz.prog 61 #[.int .i64 59] w fun e w' => e = .returned (.int .i64 (IM.fm 59)) ∧ w = w' := by
  go_enter Tryz.func61, Tryz.ntmps61
  go_wp2
  go_ret
  exact ⟨rfl, rfl⟩
set_option maxHeartbeats 1600000 in
set_option maxRecDepth 100000 in
theorem rform_60 (w : World) : Calls Tryz.prog 61 #[.int .i64 60] w fun e w' => e = .returned (.int .i64 (IM.fm 60)) ∧ w = w' := by
  go_enter Tryz.func61, Tryz.ntmps61
  go_wp2
  go_ret
  exact ⟨rfl, rfl⟩
set_option maxHeartbeats 1600000 in
set_option maxRecDepth 100000 in
theorem rform_61 (w : World) : Calls Tryz.prog 61 #[.int .i64 61] w fun e w' => e = .returned (.int .i64 (IM.fm 61)) ∧ w = w' := by
  go_enter Tryz.func61, Tryz.ntmps61
  go_wp2
  go_ret
  exact ⟨rfl, rfl⟩
set_option maxHeartbeats 1600000 in
set_option maxRecDepth 100000 in
theorem rform_62 (w : World) : Calls Tryz.prog 61 #[.int .i64 62] w fun e w' => e = .returned (.int .i64 (IM.fm 62)) ∧ w = w' := by
  go_enter Tryz.func61, Tryz.ntmps61
  go_wp2
  go_ret
  exact ⟨rfl, rfl⟩
set_option maxHeartbeats 1600000 in
set_option maxRecDepth 100000 in
theorem rform_63 (w : World) : Calls Tryz.prog 61 #[.int .i64 63] w fun e w' => e = .returned (.int .i64 (IM.fm 63)) ∧ w = w' := by
  go_enter Tryz.func61, Tryz.ntmps61
  go_wp2
  go_ret
  exact ⟨rfl, rfl⟩
set_option maxHeartbeats 1600000 in
set_option maxRecDepth 100000 in
theorem rform_low (op : Int) (w : World) (h : op < 1) : Calls Tryz.prog 61 #[.int .i64 op] w fun e w' => e = .returned (.int .i64 (IM.fm op)) ∧ w = w' := by
  have l1 : decide (1 ≤ op) = false := by simp; omega
  have l21 : decide (21 ≤ op) = false := by simp; omega
  have l25 : decide (25 ≤ op) = false := by simp; omega
  have l34 : decide (34 ≤ op) = false := by simp; omega
  have l40 : decide (40 ≤ op) = false := by simp; omega
  have l43 : decide (43 ≤ op) = false := by simp; omega
  have l51 : decide (51 ≤ op) = false := by simp; omega
  have g24 : (op == 24) = false := by simp; omega
  have g50 : (op == 50) = false := by simp; omega
  have g33 : (op == 33) = false := by simp; omega
  have g49 : (op == 49) = false := by simp; omega
  have g56 : (op == 56) = false := by simp; omega
  have g57 : (op == 57) = false := by simp; omega
  have g60 : (op == 60) = false := by simp; omega
  have g62 : (op == 62) = false := by simp; omega
  have g54 : (op == 54) = false := by simp; omega
  have g55 : (op == 55) = false := by simp; omega
  have g58 : (op == 58) = false := by simp; omega
  have g59 : (op == 59) = false := by simp; omega
  have g61 : (op == 61) = false := by simp; omega
  have g63 : (op == 63) = false := by simp; omega
  rw [IM.fm_none op (by omega)]
  clear h
  go_enter Tryz.func61, Tryz.ntmps61
  go_wp2
  go_ret
  exact ⟨rfl, rfl⟩
set_option maxHeartbeats 1600000 in
set_option maxRecDepth 100000 in
theorem rform_high (op : Int) (w : World) (h : 63 < op) : Calls Tryz.prog 61 #[.int .i64 op] w fun e w' => e = .returned (.int .i64 (IM.fm op)) ∧ w = w' := by
  have l1 : decide (1 ≤ op) = true := by simp; omega
  have l21 : decide (21 ≤ op) = true := by simp; omega
  have l25 : decide (25 ≤ op) = true := by simp; omega
  have l34 : decide (34 ≤ op) = true := by simp; omega
  have l40 : decide (40 ≤ op) = true := by simp; omega
  have l43 : decide (43 ≤ op) = true := by simp; omega
  have l51 : decide (51 ≤ op) = true := by simp; omega
  have m20 : decide (op ≤ 20) = false := by simp; omega
  have m23 : decide (op ≤ 23) = false := by simp; omega
  have m32 : decide (op ≤ 32) = false := by simp; omega
  have m39 : decide (op ≤ 39) = false := by simp; omega
  have m42 : decide (op ≤ 42) = false := by simp; omega
  have m48 : decide (op ≤ 48) = false := by simp; omega
  have m53 : decide (op ≤ 53) = false := by simp; omega
  have g24 : (op == 24) = false := by simp; omega
  have g50 : (op == 50) = false := by simp; omega
  have g33 : (op == 33) = false := by simp; omega
  have g49 : (op == 49) = false := by simp; omega
  have g56 : (op == 56) = false := by simp; omega
  have g57 : (op == 57) = false := by simp; omega
  have g60 : (op == 60) = false := by simp; omega
  have g62 : (op == 62) = false := by simp; omega
  have g54 : (op == 54) = false := by simp; omega
  have g55 : (op == 55) = false := by simp; omega
  have g58 : (op == 58) = false := by simp; omega
  have g59 : (op == 59) = false := by simp; omega
  have g61 : (op == 61) = false := by simp; omega
  have g63 : (op == 63) = false := by simp; omega
  rw [IM.fm_none op (by omega)]
  clear h
  go_enter Tryz.func61, Tryz.ntmps61
  go_wp2
  go_ret
  exact ⟨rfl, rfl⟩
theorem rform_none (op : Int) (w : World) (h : ¬ (1 ≤ op ∧ op ≤ 63)) : Calls Tryz.prog 61 #[.int .i64 op] w fun e w' => e = .returned (.int .i64 (IM.fm op)) ∧ w = w' := by
  by_cases h1 : op < 1
  · exact rform_low op w h1
  · exact rform_high op w (by omega)
theorem rform_any (op : Int) (w : World) : Calls Tryz.prog 61 #[.int .i64 op] w fun e w' => e = .returned (.int .i64 (IM.fm op)) ∧ w = w' := by
  by_cases h : 1 ≤ op ∧ op ≤ 63
  · obtain ⟨h1, h2⟩ := h
    by_cases c1_63 : op ≤ 32
    · by_cases c1_32 : op ≤ 16
      · by_cases c1_16 : op ≤ 8
        · by_cases c1_8 : op ≤ 4
          · by_cases c1_4 : op ≤ 2
            · by_cases c1_2 : op ≤ 1
              · obtain rfl : op = 1 := by omega
                exact rform_1 w
              · obtain rfl : op = 2 := by omega
                exact rform_2 w
            · by_cases c3_4 : op ≤ 3
              · obtain rfl : op = 3 := by omega
                exact rform_3 w
              · obtain rfl : op = 4 := by omega
                exact rform_4 w
          · by_cases c5_8 : op ≤ 6
            · by_cases c5_6 : op ≤ 5
              · obtain rfl : op = 5 := by omega
                exact rform_5 w
              · obtain rfl : op = 6 := by omega
                exact rform_6 w
            · by_cases c7_8 : op ≤ 7
              · obtain rfl : op = 7 := by omega
                exact rform_7 w
              · obtain rfl : op = 8 := by omega
                exact rform_8 w
        · by_cases c9_16 : op ≤ 12
          · by_cases c9_12 : op ≤ 10
            · by_cases c9_10 : op ≤ 9
              · obtain rfl : op = 9 := by omega
                exact rform_9 w
              · obtain rfl : op = 10 := by omega
                exact rform_10 w
            · by_cases c11_12 : op ≤ 11
              · obtain rfl : op = 11 := by omega
                exact rform_11 w
              · obtain rfl : op = 12 := by omega
                exact rform_12 w
          · by_cases c13_16 : op ≤ 14
            · by_cases c13_14 : op ≤ 13
              · obtain rfl : op = 13 := by omega
                exact rform_13 w
              · obtain rfl : op = 14 := by omega
                exact rform_14 w
            · by_cases c15_16 : op ≤ 15
              · obtain rfl : op = 15 := by omega
                exact rform_15 w
              · obtain rfl : op = 16 := by omega
                exact rform_16 w
      · by_cases c17_32 : op ≤ 24
        · by_cases c17_24 : op ≤ 20
          · by_cases c17_20 : op ≤ 18
            · by_cases c17_18 : op ≤ 17
              · obtain rfl : op = 17 := by omega
                exact rform_17 w
              · obtain rfl : op = 18 := by omega
                exact rform_18 w
            · by_cases c19_20 : op ≤ 19
              · obtain rfl : op = 19 := by omega
                exact rform_19 w
              · obtain rfl : op = 20 := by omega
                exact rform_20 w
          · by_cases c21_24 : op ≤ 22
            · by_cases c21_22 : op ≤ 21
              · obtain rfl : op = 21 := by omega
                exact rform_21 w
              · obtain rfl : op = 22 := by omega
                exact rform_22 w
            · by_cases c23_24 : op ≤ 23
              · obtain rfl : op = 23 := by omega
                exact rform_23 w
              · obtain rfl : op = 24 := by omega
                exact rform_24 w
        · by_cases c25_32 : op ≤ 28
          · by_cases c25_28 : op ≤ 26
            · by_cases c25_26 : op ≤ 25
              · obtain rfl : op = 25 := by omega
                exact rform_25 w
              · obtain rfl : op = 26 := by omega
                exact rform_26 w
            · by_cases c27_28 : op ≤ 27
              · obtain rfl : op = 27 := by omega
                exact rform_27 w
              · obtain rfl : op = 28 := by omega
                exact rform_28 w
          · by_cases c29_32 : op ≤ 30
            · by_cases c29_30 : op ≤ 29
              · obtain rfl : op = 29 := by omega
                exact rform_29 w
              · obtain rfl : op = 30 := by omega
                exact rform_30 w
            · by_cases c31_32 : op ≤ 31
              · obtain rfl : op = 31 := by omega
                exact rform_31 w
              · obtain rfl : op = 32 := by omega
                exact rform_32 w
    · by_cases c33_63 : op ≤ 48
      · by_cases c33_48 : op ≤ 40
        · by_cases c33_40 : op ≤ 36
          · by_cases c33_36 : op ≤ 34
            · by_cases c33_34 : op ≤ 33
              · obtain rfl : op = 33 := by omega
                exact rform_33 w
              · obtain rfl : op = 34 := by omega
                exact rform_34 w
            · by_cases c35_36 : op ≤ 35
              · obtain rfl : op = 35 := by omega
                exact rform_35 w
              · obtain rfl : op = 36 := by omega
                exact rform_36 w
          · by_cases c37_40 : op ≤ 38
            · by_cases c37_38 : op ≤ 37
              · obtain rfl : op = 37 := by omega
                exact rform_37 w
              · obtain rfl : op = 38 := by omega
                exact rform_38 w
            · by_cases c39_40 : op ≤ 39
              · obtain rfl : op = 39 := by omega
                exact rform_39 w
              · obtain rfl : op = 40 := by omega
                exact rform_40 w
        · by_cases c41_48 : op ≤ 44
          · by_cases c41_44 : op ≤ 42
            · by_cases c41_42 : op ≤ 41
              · obtain rfl : op = 41 := by omega
                exact rform_41 w
              · obtain rfl : op = 42 := by omega
                exact rform_42 w
            · by_cases c43_44 : op ≤ 43
              · obtain rfl : op = 43 := by omega
                exact rform_43 w
              · obtain rfl : op = 44 := by omega
                exact rform_44 w
          · by_cases c45_48 : op ≤ 46
            · by_cases c45_46 : op ≤ 45
              · obtain rfl : op = 45 := by omega
                exact rform_45 w
              · obtain rfl : op = 46 := by omega
                exact rform_46 w
            · by_cases c47_48 : op ≤ 47
              · obtain rfl : op = 47 := by omega
                exact rform_47 w
              · obtain rfl : op = 48 := by omega
                exact rform_48 w
      · by_cases c49_63 : op ≤ 56
        · by_cases c49_56 : op ≤ 52
          · by_cases c49_52 : op ≤ 50
            · by_cases c49_50 : op ≤ 49
              · obtain rfl : op = 49 := by omega
                exact rform_49 w
              · obtain rfl : op = 50 := by omega
                exact rform_50 w
            · by_cases c51_52 : op ≤ 51
              · obtain rfl : op = 51 := by omega
                exact rform_51 w
              · obtain rfl : op = 52 := by omega
                exact rform_52 w
          · by_cases c53_56 : op ≤ 54
            · by_cases c53_54 : op ≤ 53
              · obtain rfl : op = 53 := by omega
                exact rform_53 w
              · obtain rfl : op = 54 := by omega
                exact rform_54 w
            · by_cases c55_56 : op ≤ 55
              · obtain rfl : op = 55 := by omega
                exact rform_55 w
              · obtain rfl : op = 56 := by omega
                exact rform_56 w
        · by_cases c57_63 : op ≤ 60
          · by_cases c57_60 : op ≤ 58
            · by_cases c57_58 : op ≤ 57
              · obtain rfl : op = 57 := by omega
                exact rform_57 w
              · obtain rfl : op = 58 := by omega
                exact rform_58 w
            · by_cases c59_60 : op ≤ 59
              · obtain rfl : op = 59 := by omega
                exact rform_59 w
              · obtain rfl : op = 60 := by omega
                exact rform_60 w
          · by_cases c61_63 : op ≤ 62
            · by_cases c61_62 : op ≤ 61
              · obtain rfl : op = 61 := by omega
                exact rform_61 w
              · obtain rfl : op = 62 := by omega
                exact rform_62 w
            · obtain rfl : op = 63 := by omega
              exact rform_63 w
  · exact rform_none op w h
end Go.Proofs.YtcnmnkgnaknpdaaGreatDoor.S06
/-! S06WalkC -/
namespace Go.Proofs.YtcnmnkgnaknpdaaGreatDoor.S06
open Go.RowKit S01
set_option maxHeartbeats 1600000 in
theorem fields_any (f : Int) (w : World) (hf : 1 ≤ f ∧ f ≤ 11) : Calls Tryz.prog 66 #[.int .i64 f] w fun e w' => e = .returned (.agg #[.bool (IM.hs f 1), .bool (IM.hs f 2), .bool (IM.hs f 3), .bool (IM.hs f 4)]) ∧ w' = w.alloc (.cells #[.bool (IM.hs f 1), .bool (IM.hs f 2), .bool (IM.hs f 3), .bool (IM.hs f 4)] 129) := by
  have h : f = 1 ∨ f = 2 ∨ f = 3 ∨ f = 4 ∨ f = 5 ∨ f = 6 ∨ f = 7 ∨ f = 8 ∨ f = 9 ∨ f = 10 ∨ f = 11 := by omega
  clear hf
  rcases h with rfl | rfl | rfl | rfl | rfl | rfl | rfl | rfl | rfl | rfl | rfl
  all_goals
    go_enter Tryz.func66, Tryz.ntmps66
    go_wp2
  all_goals exact bodyPost_ret (by simp [results, Tryz.results66, go_sem]; decide) rfl ⟨rfl, rfl⟩
set_option maxHeartbeats 1600000 in
theorem has_any (f j : Int) (w : World) (hf : 1 ≤ f ∧ f ≤ 11) (hj : 1 ≤ j ∧ j ≤ 4) : Calls Tryz.prog 108 #[.int .i64 f, .int .i64 j] w fun e w' => e = .returned (.bool (IM.hs f j)) ∧ w = w' := by
  have h : f = 1 ∨ f = 2 ∨ f = 3 ∨ f = 4 ∨ f = 5 ∨ f = 6 ∨ f = 7 ∨ f = 8 ∨ f = 9 ∨ f = 10 ∨ f = 11 := by omega
  have h' : j = 1 ∨ j = 2 ∨ j = 3 ∨ j = 4 := by omega
  clear hf hj
  rcases h with rfl | rfl | rfl | rfl | rfl | rfl | rfl | rfl | rfl | rfl | rfl <;> rcases h' with rfl | rfl | rfl | rfl
  all_goals
    go_enter Tryz.func108, Tryz.ntmps108
    go_wp2
    go_ret
  all_goals exact ⟨rfl, rfl⟩
set_option maxHeartbeats 400000 in
theorem reg_any (n : Int) (h : Bool) (w : World) : Calls Tryz.prog 67 #[.int .i64 n, .bool h] w fun e w' => e = .returned (.bool (IM.rg h n)) ∧ w = w' := by
  cases h
  all_goals
    go_enter Tryz.func67, Tryz.ntmps67
    go_wp2
  all_goals go_ret
  all_goals exact ⟨ret_bool (by first | (simp_all [IM.rg]; done) | (rw [Bool.eq_iff_iff]; simp_all [IM.rg]; done) | (rw [Bool.eq_iff_iff]; simp_all [IM.rg]; omega) | (rw [Bool.eq_iff_iff]; simp [IM.rg]; omega)), rfl⟩
set_option maxHeartbeats 400000 in
theorem rreg_any (n : Int) (h : Bool) (w : World) : Calls Tryz.prog 107 #[.bool h, .int .i64 n] w fun e w' => e = .returned (.bool (IM.rg h n)) ∧ w = w' := by
  cases h
  all_goals
    go_enter Tryz.func107, Tryz.ntmps107
    go_wp2
  all_goals go_ret
  all_goals exact ⟨ret_bool (by first | (simp_all [IM.rg]; done) | (rw [Bool.eq_iff_iff]; simp_all [IM.rg]; done) | (rw [Bool.eq_iff_iff]; simp_all [IM.rg]; omega) | (rw [Bool.eq_iff_iff]; simp [IM.rg]; omega)), rfl⟩
theorem ret_ints {a b c d : Int} (h : a = b) (h' : c = d) : Ending.returned (.tuple #[.int .i64 a, .int .i64 c]) = .returned (.tuple #[.int .i64 b, .int .i64 d]) := by rw [h, h']
set_option maxHeartbeats 400000 in
theorem range_any (op : Int) (w : World) : Calls Tryz.prog 68 #[.int .i64 op] w fun e w' => e = .returned (.tuple #[.int .i64 (IM.lo op), .int .i64 (IM.hi op)]) ∧ w = w' := by
  go_enter Tryz.func68, Tryz.ntmps68
  go_wp2
  all_goals go_ret2
  all_goals exact ⟨ret_ints (by simp only [beq_iff_eq, beq_eq_false_iff_ne, ne_eq] at *; unfold IM.lo; (repeat' split) <;> omega) (by simp only [beq_iff_eq, beq_eq_false_iff_ne, ne_eq] at *; unfold IM.hi; (repeat' split) <;> omega), rfl⟩
set_option maxHeartbeats 400000 in
theorem rimm_any (op n : Int) (w : World) : Calls Tryz.prog 109 #[.int .i64 op, .int .i64 n] w fun e w' => e = .returned (.bool (decide (IM.lo op ≤ n) && decide (n ≤ IM.hi op))) ∧ w = w' := by
  go_enter Tryz.func109, Tryz.ntmps109
  go_wp2
  all_goals go_ret
  all_goals exact ⟨ret_bool (by unfold IM.lo IM.hi; (repeat' split) <;> (first | rfl | omega | (simp_all; done) | (simp_all; omega) | (rw [Bool.eq_iff_iff]; simp; omega))), rfl⟩
end Go.Proofs.YtcnmnkgnaknpdaaGreatDoor.S06
/-! S06WalkD -/
namespace Go.Proofs.YtcnmnkgnaknpdaaGreatDoor.S06
open Go.RowKit S01
/-- The error by the parts that decide it. -/
def cod (f : Int) (g1 g2 g3 h4 : Bool) (m L H : Int) : Int :=
  if f = 0 then 9 else if g1 = false ∨ g2 = false ∨ g3 = false then 1 else if h4 = false then (if m = 0 then 0 else 1) else if m < L ∨ H < m then 3 else 0
theorem rc_cod (op d a b m : Int) : IM.rc op d a b m = cod (IM.fm op) (IM.rg (IM.hs (IM.fm op) 1) d) (IM.rg (IM.hs (IM.fm op) 2) a) (IM.rg (IM.hs (IM.fm op) 3) b) (IM.hs (IM.fm op) 4) m (IM.lo op) (IM.hi op) := rfl
set_option maxHeartbeats 400000 in
theorem right_none (op d a b m : Int) (w : World) (h : IM.fm op = 0) :
    Calls Tryz.prog 36 #[.agg #[.int .i64 op, .int .i64 d, .int .i64 a, .int .i64 b, .int .i64 m]] w fun e w' => e = .returned (.int .i64 9) ∧ Below w.heap.size w w' := by
  have HF := Lib.hid (fun W => form_any op W)
  rw [h] at HF
  clear h
  go_enter Tryz.func36, Tryz.ntmps36
  go_wp2_with (first | (go_at_call 38; (with_reducible refine (HF.out _).mono ?_); rintro e w1 ⟨rfl, rfl⟩))
  go_ret
  exact ⟨rfl, (Below.refl _ _).alloc (Nat.le_refl _) _⟩
set_option maxHeartbeats 1600000 in
theorem right_at (op d a b m f L H : Int) (h1 h2 h3 h4 g1 g2 g3 : Bool) (w : World) (hf : ¬ f = 0)
    (HF : Hid (∀ W, Calls Tryz.prog 38 #[.int .i64 op] W fun e w' => e = .returned (.int .i64 f) ∧ W = w'))
    (HA : Hid (∀ W, Calls Tryz.prog 66 #[.int .i64 f] W fun e w' => e = .returned (.agg #[.bool h1, .bool h2, .bool h3, .bool h4]) ∧ w' = W.alloc (.cells #[.bool h1, .bool h2, .bool h3, .bool h4] 129)))
    (H1 : Hid (∀ W, Calls Tryz.prog 67 #[.int .i64 d, .bool h1] W fun e w' => e = .returned (.bool g1) ∧ W = w'))
    (H2 : Hid (∀ W, Calls Tryz.prog 67 #[.int .i64 a, .bool h2] W fun e w' => e = .returned (.bool g2) ∧ W = w'))
    (H3 : Hid (∀ W, Calls Tryz.prog 67 #[.int .i64 b, .bool h3] W fun e w' => e = .returned (.bool g3) ∧ W = w'))
    (HI : Hid (∀ W, Calls Tryz.prog 68 #[.int .i64 op] W fun e w' => e = .returned (.tuple #[.int .i64 L, .int .i64 H]) ∧ W = w')) :
    Calls Tryz.prog 36 #[.agg #[.int .i64 op, .int .i64 d, .int .i64 a, .int .i64 b, .int .i64 m]] w fun e w' => e = .returned (.int .i64 (cod f g1 g2 g3 h4 m L H)) ∧ Below w.heap.size w w' := by
  have z : (f == 0) = false := by simpa using hf
  cases g1
  · have e : cod f false g2 g3 h4 m L H = 1 := by simp [cod, hf]
    rw [e]; clear e hf
    go_enter Tryz.func36, Tryz.ntmps36
    go_wp2_with (first | (go_at_call 38; (with_reducible refine (HF.out _).mono ?_); rintro e w1 ⟨rfl, rfl⟩) | (go_at_call 66; (with_reducible refine (HA.out _).mono ?_); rintro e w1 ⟨rfl, rfl⟩) | (go_at_call 67; (with_reducible refine (H1.out _).mono ?_); rintro e w1 ⟨rfl, rfl⟩))
    go_ret
    exact ⟨rfl, (((Below.refl _ _).alloc (Nat.le_refl _) _).alloc (by simp) _).alloc (by simp; omega) _⟩
  cases g2
  · have e : cod f true false g3 h4 m L H = 1 := by simp [cod, hf]
    rw [e]; clear e hf
    go_enter Tryz.func36, Tryz.ntmps36
    go_wp2_with (first | (go_at_call 38; (with_reducible refine (HF.out _).mono ?_); rintro e w1 ⟨rfl, rfl⟩) | (go_at_call 66; (with_reducible refine (HA.out _).mono ?_); rintro e w1 ⟨rfl, rfl⟩) | (go_at_call 67; (with_reducible refine (H1.out _).mono ?_); rintro e w1 ⟨rfl, rfl⟩) | (go_at_call 67; (with_reducible refine (H2.out _).mono ?_); rintro e w1 ⟨rfl, rfl⟩))
    go_ret
    exact ⟨rfl, (((Below.refl _ _).alloc (Nat.le_refl _) _).alloc (by simp) _).alloc (by simp; omega) _⟩
  cases g3
  · have e : cod f true true false h4 m L H = 1 := by simp [cod, hf]
    rw [e]; clear e hf
    go_enter Tryz.func36, Tryz.ntmps36
    go_wp2_with (first | (go_at_call 38; (with_reducible refine (HF.out _).mono ?_); rintro e w1 ⟨rfl, rfl⟩) | (go_at_call 66; (with_reducible refine (HA.out _).mono ?_); rintro e w1 ⟨rfl, rfl⟩) | (go_at_call 67; (with_reducible refine (H1.out _).mono ?_); rintro e w1 ⟨rfl, rfl⟩) | (go_at_call 67; (with_reducible refine (H2.out _).mono ?_); rintro e w1 ⟨rfl, rfl⟩) | (go_at_call 67; (with_reducible refine (H3.out _).mono ?_); rintro e w1 ⟨rfl, rfl⟩))
    go_ret
    exact ⟨rfl, (((Below.refl _ _).alloc (Nat.le_refl _) _).alloc (by simp) _).alloc (by simp; omega) _⟩
  cases h4
  · have e : cod f true true true false m L H = if m = 0 then 0 else 1 := by simp [cod, hf]
    rw [e]; clear e hf
    go_enter Tryz.func36, Tryz.ntmps36
    go_wp2_with (first | (go_at_call 38; (with_reducible refine (HF.out _).mono ?_); rintro e w1 ⟨rfl, rfl⟩) | (go_at_call 66; (with_reducible refine (HA.out _).mono ?_); rintro e w1 ⟨rfl, rfl⟩) | (go_at_call 67; (with_reducible refine (H1.out _).mono ?_); rintro e w1 ⟨rfl, rfl⟩) | (go_at_call 67; (with_reducible refine (H2.out _).mono ?_); rintro e w1 ⟨rfl, rfl⟩) | (go_at_call 67; (with_reducible refine (H3.out _).mono ?_); rintro e w1 ⟨rfl, rfl⟩))
    all_goals go_ret
    all_goals exact ⟨ret_int (by first | rfl | (exfalso; simp_all; done)), (((Below.refl _ _).alloc (Nat.le_refl _) _).alloc (by simp) _).alloc (by simp; omega) _⟩
  · have e : cod f true true true true m L H = if m < L ∨ H < m then 3 else 0 := by simp [cod, hf]
    rw [e]; clear e hf
    go_enter Tryz.func36, Tryz.ntmps36
    go_wp2_with (first | (go_at_call 38; (with_reducible refine (HF.out _).mono ?_); rintro e w1 ⟨rfl, rfl⟩) | (go_at_call 66; (with_reducible refine (HA.out _).mono ?_); rintro e w1 ⟨rfl, rfl⟩) | (go_at_call 67; (with_reducible refine (H1.out _).mono ?_); rintro e w1 ⟨rfl, rfl⟩) | (go_at_call 67; (with_reducible refine (H2.out _).mono ?_); rintro e w1 ⟨rfl, rfl⟩) | (go_at_call 67; (with_reducible refine (H3.out _).mono ?_); rintro e w1 ⟨rfl, rfl⟩) | (go_at_call 68; (with_reducible refine (HI.out _).mono ?_); rintro e w1 ⟨rfl, rfl⟩))
    all_goals go_ret
    all_goals exact ⟨ret_int (by first | rfl | omega | (split <;> omega)), (((Below.refl _ _).alloc (Nat.le_refl _) _).alloc (by simp) _).alloc (by simp; omega) _⟩
theorem right_any (op d a b m : Int) (w : World) :
    Calls Tryz.prog 36 #[.agg #[.int .i64 op, .int .i64 d, .int .i64 a, .int .i64 b, .int .i64 m]] w fun e w' => e = .returned (.int .i64 (IM.rc op d a b m)) ∧ Below w.heap.size w w' := by
  by_cases h : IM.fm op = 0
  · rw [(IM.rc_nine op d a b m).2 h]; exact right_none op d a b m w h
  · obtain ⟨f0, f1⟩ := IM.fm_bd op
    rw [rc_cod]
    exact right_at op d a b m (IM.fm op) (IM.lo op) (IM.hi op) _ _ _ _ _ _ _ w h (Lib.hid (fun W => form_any op W)) (Lib.hid (fun W => fields_any (IM.fm op) W (by omega)))
      (Lib.hid (fun W => reg_any d _ W)) (Lib.hid (fun W => reg_any a _ W)) (Lib.hid (fun W => reg_any b _ W)) (Lib.hid (fun W => range_any op W))

set_option maxHeartbeats 400000 in
theorem rright_none (op d a b m : Int) (w : World) (h : IM.fm op = 0) :
    Calls Tryz.prog 62 #[.agg #[.int .i64 op, .int .i64 d, .int .i64 a, .int .i64 b, .int .i64 m]] w fun e w' => e = .returned (.int .i64 9) ∧ Below w.heap.size w w' := by
  have HF := Lib.hid (fun W => rform_any op W)
  rw [h] at HF
  clear h
  go_enter Tryz.func62, Tryz.ntmps62
  go_wp2_with (first | (go_at_call 61; (with_reducible refine (HF.out _).mono ?_); rintro e w1 ⟨rfl, rfl⟩))
  go_ret
  exact ⟨rfl, (Below.refl _ _).alloc (Nat.le_refl _) _⟩
set_option maxHeartbeats 1600000 in
theorem rright_at (op d a b m f : Int) (h1 h2 h3 h4 g1 g2 g3 gi : Bool) (w : World) (hf : ¬ f = 0) (L H : Int) (hgi : gi = (decide (L ≤ m) && decide (m ≤ H)))
    (HF : Hid (∀ W, Calls Tryz.prog 61 #[.int .i64 op] W fun e w' => e = .returned (.int .i64 f) ∧ W = w'))
    (A1 : Hid (∀ W, Calls Tryz.prog 108 #[.int .i64 f, .int .i64 1] W fun e w' => e = .returned (.bool h1) ∧ W = w'))
    (A2 : Hid (∀ W, Calls Tryz.prog 108 #[.int .i64 f, .int .i64 2] W fun e w' => e = .returned (.bool h2) ∧ W = w'))
    (A3 : Hid (∀ W, Calls Tryz.prog 108 #[.int .i64 f, .int .i64 3] W fun e w' => e = .returned (.bool h3) ∧ W = w'))
    (A4 : Hid (∀ W, Calls Tryz.prog 108 #[.int .i64 f, .int .i64 4] W fun e w' => e = .returned (.bool h4) ∧ W = w'))
    (H1 : Hid (∀ W, Calls Tryz.prog 107 #[.bool h1, .int .i64 d] W fun e w' => e = .returned (.bool g1) ∧ W = w'))
    (H2 : Hid (∀ W, Calls Tryz.prog 107 #[.bool h2, .int .i64 a] W fun e w' => e = .returned (.bool g2) ∧ W = w'))
    (H3 : Hid (∀ W, Calls Tryz.prog 107 #[.bool h3, .int .i64 b] W fun e w' => e = .returned (.bool g3) ∧ W = w'))
    (HI : Hid (∀ W, Calls Tryz.prog 109 #[.int .i64 op, .int .i64 m] W fun e w' => e = .returned (.bool gi) ∧ W = w')) :
    Calls Tryz.prog 62 #[.agg #[.int .i64 op, .int .i64 d, .int .i64 a, .int .i64 b, .int .i64 m]] w fun e w' => e = .returned (.int .i64 (cod f g1 g2 g3 h4 m L H)) ∧ Below w.heap.size w w' := by
  have z : (f == 0) = false := by simpa using hf
  have hx : ¬ (m < L ∨ H < m) ↔ gi = true := by subst hgi; simp
  clear hgi
  cases g1
  · have e : cod f false g2 g3 h4 m L H = 1 := by simp [cod, hf]
    rw [e]; clear e hf
    go_enter Tryz.func62, Tryz.ntmps62
    go_wp2_with (first | (go_at_call 61; (with_reducible refine (HF.out _).mono ?_); rintro e w1 ⟨rfl, rfl⟩))
    go_quiet (first | (go_at_call 108; with_reducible exact q_same A1.out) | (go_at_call 108; with_reducible exact q_same A2.out) | (go_at_call 108; with_reducible exact q_same A3.out) | (go_at_call 108; with_reducible exact q_same A4.out) | (go_at_call 107; with_reducible exact q_same H1.out) | (go_at_call 107; with_reducible exact q_same H2.out) | (go_at_call 107; with_reducible exact q_same H3.out))
    go_wp2
    go_ret
    exact ⟨rfl, below_drewN ((Below.refl _ _).alloc (Nat.le_refl _) _) _⟩
  cases g2
  · have e : cod f true false g3 h4 m L H = 1 := by simp [cod, hf]
    rw [e]; clear e hf
    go_enter Tryz.func62, Tryz.ntmps62
    go_wp2_with (first | (go_at_call 61; (with_reducible refine (HF.out _).mono ?_); rintro e w1 ⟨rfl, rfl⟩))
    go_quiet (first | (go_at_call 108; with_reducible exact q_same A1.out) | (go_at_call 108; with_reducible exact q_same A2.out) | (go_at_call 108; with_reducible exact q_same A3.out) | (go_at_call 108; with_reducible exact q_same A4.out) | (go_at_call 107; with_reducible exact q_same H1.out) | (go_at_call 107; with_reducible exact q_same H2.out) | (go_at_call 107; with_reducible exact q_same H3.out))
    go_wp2
    go_ret
    exact ⟨rfl, below_drewN ((Below.refl _ _).alloc (Nat.le_refl _) _) _⟩
  cases g3
  · have e : cod f true true false h4 m L H = 1 := by simp [cod, hf]
    rw [e]; clear e hf
    go_enter Tryz.func62, Tryz.ntmps62
    go_wp2_with (first | (go_at_call 61; (with_reducible refine (HF.out _).mono ?_); rintro e w1 ⟨rfl, rfl⟩))
    go_quiet (first | (go_at_call 108; with_reducible exact q_same A1.out) | (go_at_call 108; with_reducible exact q_same A2.out) | (go_at_call 108; with_reducible exact q_same A3.out) | (go_at_call 108; with_reducible exact q_same A4.out) | (go_at_call 107; with_reducible exact q_same H1.out) | (go_at_call 107; with_reducible exact q_same H2.out) | (go_at_call 107; with_reducible exact q_same H3.out))
    go_wp2
    go_ret
    exact ⟨rfl, below_drewN ((Below.refl _ _).alloc (Nat.le_refl _) _) _⟩
  cases h4
  · have e : cod f true true true false m L H = if m = 0 then 0 else 1 := by simp [cod, hf]
    rw [e]; clear e hf hx
    by_cases hm : m = 0
    · rw [if_pos hm]
      have hz : (m == 0) = true := by simpa using hm
      go_enter Tryz.func62, Tryz.ntmps62
      go_wp2_with (first | (go_at_call 61; (with_reducible refine (HF.out _).mono ?_); rintro e w1 ⟨rfl, rfl⟩))
      go_quiet (first | (go_at_call 108; with_reducible exact q_same A1.out) | (go_at_call 108; with_reducible exact q_same A2.out) | (go_at_call 108; with_reducible exact q_same A3.out) | (go_at_call 108; with_reducible exact q_same A4.out) | (go_at_call 107; with_reducible exact q_same H1.out) | (go_at_call 107; with_reducible exact q_same H2.out) | (go_at_call 107; with_reducible exact q_same H3.out))
      go_wp2_with (first | (go_at_call 108; (with_reducible refine (A4.out _).mono ?_); rintro e w1 ⟨rfl, rfl⟩))
      go_ret
      exact ⟨rfl, below_drewN ((Below.refl _ _).alloc (Nat.le_refl _) _) _⟩
    · rw [if_neg hm]
      have hz : (m == 0) = false := by simpa using hm
      go_enter Tryz.func62, Tryz.ntmps62
      go_wp2_with (first | (go_at_call 61; (with_reducible refine (HF.out _).mono ?_); rintro e w1 ⟨rfl, rfl⟩))
      go_quiet (first | (go_at_call 108; with_reducible exact q_same A1.out) | (go_at_call 108; with_reducible exact q_same A2.out) | (go_at_call 108; with_reducible exact q_same A3.out) | (go_at_call 108; with_reducible exact q_same A4.out) | (go_at_call 107; with_reducible exact q_same H1.out) | (go_at_call 107; with_reducible exact q_same H2.out) | (go_at_call 107; with_reducible exact q_same H3.out))
      go_wp2
      go_ret
      exact ⟨rfl, below_drewN ((Below.refl _ _).alloc (Nat.le_refl _) _) _⟩
  · have e : cod f true true true true m L H = if gi = true then 0 else 3 := by
      simp only [cod, if_neg hf]
      cases gi
      · have : m < L ∨ H < m := by
          by_cases hh : m < L ∨ H < m
          · exact hh
          · exact absurd (hx.1 hh) (by decide)
        simp [this]
      · have := hx.2 rfl
        simp [this]
    rw [e]; clear e hf hx
    cases gi
    · go_enter Tryz.func62, Tryz.ntmps62
      go_wp2_with (first | (go_at_call 61; (with_reducible refine (HF.out _).mono ?_); rintro e w1 ⟨rfl, rfl⟩))
      go_quiet (first | (go_at_call 108; with_reducible exact q_same A1.out) | (go_at_call 108; with_reducible exact q_same A2.out) | (go_at_call 108; with_reducible exact q_same A3.out) | (go_at_call 108; with_reducible exact q_same A4.out) | (go_at_call 107; with_reducible exact q_same H1.out) | (go_at_call 107; with_reducible exact q_same H2.out) | (go_at_call 107; with_reducible exact q_same H3.out))
      go_wp2_with (first | (go_at_call 108; (with_reducible refine (A4.out _).mono ?_); rintro e w1 ⟨rfl, rfl⟩) | (go_at_call 109; (with_reducible refine (HI.out _).mono ?_); rintro e w1 ⟨rfl, rfl⟩))
      go_ret
      exact ⟨rfl, below_drewN ((Below.refl _ _).alloc (Nat.le_refl _) _) _⟩
    · go_enter Tryz.func62, Tryz.ntmps62
      go_wp2_with (first | (go_at_call 61; (with_reducible refine (HF.out _).mono ?_); rintro e w1 ⟨rfl, rfl⟩))
      go_quiet (first | (go_at_call 108; with_reducible exact q_same A1.out) | (go_at_call 108; with_reducible exact q_same A2.out) | (go_at_call 108; with_reducible exact q_same A3.out) | (go_at_call 108; with_reducible exact q_same A4.out) | (go_at_call 107; with_reducible exact q_same H1.out) | (go_at_call 107; with_reducible exact q_same H2.out) | (go_at_call 107; with_reducible exact q_same H3.out))
      go_wp2_with (first | (go_at_call 108; (with_reducible refine (A4.out _).mono ?_); rintro e w1 ⟨rfl, rfl⟩) | (go_at_call 109; (with_reducible refine (HI.out _).mono ?_); rintro e w1 ⟨rfl, rfl⟩))
      go_ret
      exact ⟨rfl, below_drewN ((Below.refl _ _).alloc (Nat.le_refl _) _) _⟩
theorem rright_any (op d a b m : Int) (w : World) :
    Calls Tryz.prog 62 #[.agg #[.int .i64 op, .int .i64 d, .int .i64 a, .int .i64 b, .int .i64 m]] w fun e w' => e = .returned (.int .i64 (IM.rc op d a b m)) ∧ Below w.heap.size w w' := by
  by_cases h : IM.fm op = 0
  · rw [(IM.rc_nine op d a b m).2 h]; exact rright_none op d a b m w h
  · obtain ⟨f0, f1⟩ := IM.fm_bd op
    rw [rc_cod]
    exact rright_at op d a b m (IM.fm op) _ _ _ _ _ _ _ _ w h (IM.lo op) (IM.hi op) rfl (Lib.hid (fun W => rform_any op W)) (Lib.hid (fun W => has_any (IM.fm op) 1 W (by omega) (by omega))) (Lib.hid (fun W => has_any (IM.fm op) 2 W (by omega) (by omega)))
      (Lib.hid (fun W => has_any (IM.fm op) 3 W (by omega) (by omega))) (Lib.hid (fun W => has_any (IM.fm op) 4 W (by omega) (by omega)))
      (Lib.hid (fun W => rreg_any d _ W)) (Lib.hid (fun W => rreg_any a _ W)) (Lib.hid (fun W => rreg_any b _ W)) (Lib.hid (fun W => rimm_any op m W))
end Go.Proofs.YtcnmnkgnaknpdaaGreatDoor.S06
