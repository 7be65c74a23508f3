/-
  The law on fields that are put and read back: it returns true for every argument of its types and leaves all that was in memory as it was.
-/
import Derived.Test.YthlljmjefejemaaWalkD
namespace Go.Proofs.Ythlljmjefejemaa
open Go.RowKit

/-- In a second region that draws: a callee that leaves the world; one that draws. -/
theorem q_same2 {P : Program} {f : FuncId} {args : Array Value} {v : Value} (h : ∀ W, Calls P f args W fun e w' => e = .returned v ∧ W = w') {w : World} {a n : Nat} :
    Calls P f args (w.drewN (a + n)) fun e w'' => e = .returned v ∧ ∃ m, w'' = w.drewN (a + m) :=
  (h _).mono fun _ _ ⟨he, hw⟩ => ⟨he, n, hw.symm⟩
theorem q_draw2 {P : Program} {f : FuncId} {args : Array Value} {v : Value} (h : ∀ W, Calls P f args W fun e w' => e = .returned v ∧ ∃ m, w' = W.drewN m) {w : World} {a n : Nat} :
    Calls P f args (w.drewN (a + n)) fun e w'' => e = .returned v ∧ ∃ m, w'' = w.drewN (a + m) :=
  (h _).mono fun _ _ ⟨he, m, hw⟩ => ⟨he, n + m, by rw [hw, World.drewN_drewN, Nat.add_assoc]⟩

/-- N is n, brought to 0 and 31. -/
def Cl3 (n N : Int) : Prop := (N = 0 ∧ n < 0) ∨ (N = n ∧ 0 ≤ n ∧ n ≤ 31) ∨ (N = 31 ∧ 31 < n)
theorem cl3 (n : Int) : Cl3 n (BM.cl n 0 31) := by
  unfold Cl3 BM.cl; split
  · omega
  · split <;> omega
theorem zext_at (x n m : Int) (w : World) (hx0 : 0 ≤ x) (hx : x < 4294967296) (h1 : n ≤ m) (h2 : m ≤ n) :
    Calls Try.prog 11 #[.int .u32 x, .int .i64 n] w fun e w' => e = .returned (.int .u32 (BM.zx x m)) ∧ w = w' := by
  obtain rfl : n = m := by omega
  exact zext_any x n w hx0 hx
set_option maxHeartbeats 4000000 in
theorem back_yes (x h l v H L K : Int) (w : World) (hx0 : 0 ≤ x) (hx : x < 4294967296) (hv0 : 0 ≤ v) (hv : v < 4294967296) (hH : Cl3 h H) (hL : Cl3 l L) (hle : L ≤ H)
    (hK1 : K ≤ H - L + 1) (hK2 : H - L + 1 ≤ K)
    (F1 : Hid ((BM.fd (BM.pt x h l v) h l == BM.zx v K) = true)) (F2 : Hid ((BM.pt x h l (BM.fd x h l) == x) = true)) (F3 : Hid ((BM.pt (BM.pt x h l v) h l (BM.fd x h l) == x) = true)) :
    Calls Try.prog 5 #[.int .u32 x, .agg #[.int .i64 h, .int .i64 l], .int .u32 v] w fun e w' => e = .returned (.bool true) ∧ Below w.heap.size w w' := by
  have HP := Lib.hid (BM.pt_bd x h l v)
  have HF := Lib.hid (BM.fd_bd x h l)
  have S1 := Lib.hid (show IntKind.i64.wrap (H - L) = H - L from IntWalk.i64_in _ (by unfold Cl3 at hH hL; omega))
  have S2 := Lib.hid (show IntKind.i64.wrap (H - L + 1) = H - L + 1 from IntWalk.i64_in _ (by unfold Cl3 at hH hL; omega))
  rcases hH with ⟨rfl, hh⟩ | ⟨rfl, hh, hh'⟩ | ⟨rfl, hh⟩
  all_goals rcases hL with ⟨rfl, hl⟩ | ⟨rfl, hl, hl'⟩ | ⟨rfl, hl⟩
  all_goals first | (exfalso; omega) | skip
  all_goals
    have HLE := Lib.hid (And.intro hle (And.intro hK1 hK2))
    clear hle hK1 hK2
    go_enter Try.func5, Try.ntmps5
    go_wp2
    go_quiet (fail)
    obtain ⟨hle, hK1, hK2⟩ := HLE.out
    go_wp2_with (go_at_call 17; refine (put_any _ _ _ _ _ (by omega) (by omega) (by omega)).mono ?_; rintro e w' ⟨rfl, rfl⟩)
    obtain ⟨p0, p1⟩ := HP.out
    obtain ⟨f0, f1⟩ := HF.out
    have e1 := F1.out
    have e2 := F2.out
    have e3 := F3.out
    have hs1 := S1.out
    have hs2 := S2.out
    go_quiet ((first | (go_at_call 15; exact q_draw2 fun W => field_any _ _ _ W (by omega) (by omega)) | (go_at_call 11; exact q_same2 fun W => zext_at _ _ K W (by omega) (by omega) (by omega) (by omega)) | (go_at_call 17; exact q_same2 fun W => put_any _ _ _ _ W (by omega) (by omega) (by omega)) | (go_at_call 14; exact q_draw2 awake_any)))
    go_wp2
    go_ret
    exact ⟨rfl, below_drewN (below_drewN ((Below.refl _ _).alloc (Nat.le_refl _) _) _) _⟩
set_option maxHeartbeats 4000000 in
theorem back_no (x h l v H L : Int) (w : World) (hx0 : 0 ≤ x) (hx : x < 4294967296) (hv0 : 0 ≤ v) (hH : Cl3 h H) (hL : Cl3 l L) (hlt : H < L)
    (F1 : Hid ((BM.pt x h l v == x) = true)) (F2 : Hid ((BM.fd (BM.pt x h l v) h l == 0) = true)) :
    Calls Try.prog 5 #[.int .u32 x, .agg #[.int .i64 h, .int .i64 l], .int .u32 v] w fun e w' => e = .returned (.bool true) ∧ Below w.heap.size w w' := by
  have HP := Lib.hid (BM.pt_bd x h l v)
  rcases hH with ⟨rfl, hh⟩ | ⟨rfl, hh, hh'⟩ | ⟨rfl, hh⟩
  all_goals rcases hL with ⟨rfl, hl⟩ | ⟨rfl, hl, hl'⟩ | ⟨rfl, hl⟩
  all_goals first | (exfalso; omega) | skip
  all_goals
    have HLT := Lib.hid hlt
    clear hlt
    go_enter Try.func5, Try.ntmps5
    go_wp2
    go_quiet (fail)
    have hlt := HLT.out
    obtain ⟨p0, p1⟩ := HP.out
    have e1 := F1.out
    have e2 := F2.out
    go_wp2_with (first | (go_at_call 17; refine (put_any _ _ _ _ _ (by omega) (by omega) (by omega)).mono ?_; rintro e w' ⟨rfl, rfl⟩) | (go_at_call 15; refine (field_any _ _ _ _ (by omega) (by omega)).mono ?_; rintro e w' ⟨rfl, n1, rfl⟩) | (go_at_call 14; refine (awake_any _).mono ?_; rintro e w' ⟨rfl, n2, rfl⟩))
    go_ret
    exact ⟨rfl, by repeat (first | exact (Below.refl _ _).alloc (Nat.le_refl _) _ | refine below_drewN ?_ _)⟩
theorem back_walk (x h l v : Int) (w : World) (hx0 : 0 ≤ x) (hx : x < 4294967296) (hv0 : 0 ≤ v) (hv : v < 4294967296) :
    Calls Try.prog 5 #[.int .u32 x, .agg #[.int .i64 h, .int .i64 l], .int .u32 v] w fun e w' => e = .returned (.bool true) ∧ Below w.heap.size w w' := by
  by_cases hc : BM.cl h 0 31 < BM.cl l 0 31
  · exact back_no x h l v _ _ w hx0 hx hv0 (cl3 h) (cl3 l) hc (by rw [BM.pt_none x h l v hx0 hx hc]; exact beq_self_eq_true x) (by rw [BM.fd_none _ h l hc]; rfl)
  · have hle : BM.cl l 0 31 ≤ BM.cl h 0 31 := by omega
    exact back_yes x h l v _ _ (BM.cl h 0 31 - BM.cl l 0 31 + 1) w hx0 hx hv0 hv (cl3 h) (cl3 l) hle (Int.le_refl _) (Int.le_refl _)
      (by rw [BM.fd_pt x h l v hle]; exact beq_self_eq_true _) (by rw [BM.pt_fd_same x h l hx0 hx]; exact beq_self_eq_true _) (by rw [BM.pt_fd_back x h l v hx0 hx]; exact beq_self_eq_true _)
end Go.Proofs.Ythlljmjefejemaa
