/-
  What each bit function of the package and of the reference answers, for every argument of its types (a power, a bit: within the word); none changes memory.
-/
import Derived.Test.YtbeenmglgdhbjaaRows
import Derived.Test.YtbeenmglgdhbjaaS01MathC
import Derived.WalkKit
import Derived.WalkSpells
import Derived.WalkLawsBesides
import Derived.BigQuiet
import Derived.Lib.Hide
namespace Go.Proofs.Ytbeenmglgdhbjaa.S01
open Go.RowKit
theorem ret_int {k : IntKind} {a b : Int} (h : a = b) : Ending.returned (.int k a) = .returned (.int k b) := by rw [h]
theorem ret_bool {a b : Bool} (h : a = b) : Ending.returned (.bool a) = .returned (.bool b) := by rw [h]
/-- In a region that draws: a callee that leaves the world; one that draws. -/
theorem q_same {P : Program} {f : FuncId} {args : Array Value} {v : Value} (h : ∀ W, Calls P f args W fun e w' => e = .returned v ∧ W = w') {w : World} {n : Nat} :
    Calls P f args (w.drewN n) fun e w'' => e = .returned v ∧ ∃ m, w'' = w.drewN m :=
  (h _).mono fun _ _ ⟨he, hw⟩ => ⟨he, n, hw.symm⟩
theorem q_draw {P : Program} {f : FuncId} {args : Array Value} {v : Value} (h : ∀ W, Calls P f args W fun e w' => e = .returned v ∧ ∃ m, w' = W.drewN m) {w : World} {n : Nat} :
    Calls P f args (w.drewN n) fun e w'' => e = .returned v ∧ ∃ m, w'' = w.drewN m :=
  (h _).mono fun _ _ ⟨he, m, hw⟩ => ⟨he, n + m, by rw [hw, World.drewN_drewN]⟩

set_option maxHeartbeats 400000 in
theorem clamp_any (n lo hi : Int) (w : World) (h : lo ≤ hi) :
    Calls Try.prog 51 #[.int .i64 n, .int .i64 lo, .int .i64 hi] w fun e w' => e = .returned (.int .i64 (BM.cl n lo hi)) ∧ w = w' := by
  go_enter Try.func51, Try.ntmps51
  go_wp2
  all_goals (go_ret; exact ⟨ret_int (by unfold BM.cl; split <;> (try split) <;> omega), rfl⟩)
set_option maxHeartbeats 400000 in
theorem ones_any (n : Int) (w : World) (h0 : 0 ≤ n) (h1 : n ≤ 32) :
    Calls Try.prog 50 #[.int .i64 n] w fun e w' => e = .returned (.int .u32 (BM.on n)) ∧ w = w' := by
  have HE := Lib.hid (BM.on_eq n h0 h1)
  go_enter Try.func50, Try.ntmps50
  go_wp2
  go_ret
  exact ⟨ret_int HE.out, rfl⟩
set_option maxHeartbeats 400000 in
theorem zext_any (x n : Int) (w : World) (hx0 : 0 ≤ x) (hx : x < 4294967296) :
    Calls Try.prog 42 #[.int .u32 x, .int .i64 n] w fun e w' => e = .returned (.int .u32 (BM.zx x n)) ∧ w = w' := by
  obtain ⟨hc0, hc1⟩ := BM.cl_bd n 0 32 (by omega)
  go_enter Try.func42, Try.ntmps42
  go_wp2_with (first | (go_at_call 51; refine (clamp_any _ _ _ _ (by omega)).mono ?_; rintro e w' ⟨rfl, rfl⟩) | (go_at_call 50; refine (ones_any _ _ (by omega) (by omega)).mono ?_; rintro e w' ⟨rfl, rfl⟩))
  go_ret
  exact ⟨ret_int (BM.zext_end x n hx0 hx), rfl⟩
set_option maxHeartbeats 400000 in
theorem field_yes (x h l : Int) (w : World) (hx0 : 0 ≤ x) (hx : x < 4294967296) (hle : BM.cl l 0 31 ≤ BM.cl h 0 31) :
    Calls Try.prog 47 #[.int .u32 x, .int .i64 h, .int .i64 l] w fun e w' => e = .returned (.int .u32 (BM.fd x h l)) ∧ ∃ n, w' = w.drewN n := by
  obtain ⟨hh0, hh1⟩ := BM.cl_bd h 0 31 (by omega)
  obtain ⟨hl0, hl1⟩ := BM.cl_bd l 0 31 (by omega)
  have hs1 : IntKind.i64.wrap (BM.cl h 0 31 - BM.cl l 0 31) = BM.cl h 0 31 - BM.cl l 0 31 := IntWalk.i64_in _ (by omega)
  have hs2 : IntKind.i64.wrap (BM.cl h 0 31 - BM.cl l 0 31 + 1) = BM.cl h 0 31 - BM.cl l 0 31 + 1 := IntWalk.i64_in _ (by omega)
  have hone := fun W => ones_any (BM.cl h 0 31 - BM.cl l 0 31 + 1) W (by omega) (by omega)
  have HONE := Lib.hid hone
  clear hone
  go_enter Try.func47, Try.ntmps47
  go_wp2_with (first | (go_at_call 51; refine (clamp_any _ _ _ _ (by omega)).mono ?_; rintro e w' ⟨rfl, rfl⟩))
  go_quiet ((go_at_call 50; exact q_same HONE.out))
  go_wp2
  go_ret
  exact ⟨ret_int (BM.field_end x h l hx0 hx hle), _, rfl⟩
set_option maxHeartbeats 400000 in
theorem field_no (x h l : Int) (w : World) (hlt : BM.cl h 0 31 < BM.cl l 0 31) :
    Calls Try.prog 47 #[.int .u32 x, .int .i64 h, .int .i64 l] w fun e w' => e = .returned (.int .u32 (BM.fd x h l)) ∧ ∃ n, w' = w.drewN n := by
  go_enter Try.func47, Try.ntmps47
  go_wp2_with (first | (go_at_call 51; refine (clamp_any _ _ _ _ (by omega)).mono ?_; rintro e w' ⟨rfl, rfl⟩))
  go_ret
  exact ⟨ret_int (BM.fd_none x h l hlt).symm, 0, rfl⟩
theorem field_any (x h l : Int) (w : World) (hx0 : 0 ≤ x) (hx : x < 4294967296) :
    Calls Try.prog 47 #[.int .u32 x, .int .i64 h, .int .i64 l] w fun e w' => e = .returned (.int .u32 (BM.fd x h l)) ∧ ∃ n, w' = w.drewN n := by
  by_cases hc : BM.cl h 0 31 < BM.cl l 0 31
  · exact field_no x h l w hc
  · exact field_yes x h l w hx0 hx (by omega)
theorem al_one (x : Int) : BM.al x 1 = true := rfl
theorem al_two (x : Int) : BM.al x 2 = (x % 2 == 0) := by simp [BM.al]
theorem al_four (x : Int) : BM.al x 4 = (x % 4 == 0) := by simp [BM.al]
theorem al_no (x n : Int) (h1 : n ≠ 1) (h2 : n ≠ 2) (h4 : n ≠ 4) : BM.al x n = false := by simp [BM.al, h1, h2, h4]
end Go.Proofs.Ytbeenmglgdhbjaa.S01
