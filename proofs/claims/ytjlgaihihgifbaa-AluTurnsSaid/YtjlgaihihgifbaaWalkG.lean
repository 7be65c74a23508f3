/-
  The law of sums returns true for every input, and leaves all that was in memory as it was.
-/
import Derived.Test.YtjlgaihihgifbaaWalkF
import Derived.Test.YtjlgaihihgifbaaMathD
namespace Go.Proofs.Ytjlgaihihgifbaa
open Go.RowKit S01
/-- What the laws' do answers, under a name of one's own. -/
theorem ldo_at (op a b r : Int) (w : World) (a0 : 0 ≤ a) (a1 : a < 4294967296) (b0 : 0 ≤ b) (b1 : b < 4294967296) (h : Hid (AM.dv op a b = r)) :
    Calls Try.prog 21 #[.int .i64 op, .int .u32 a, .int .u32 b] w fun e w' => e = .returned (.int .u32 r) ∧ ∃ n, w' = w.drewN n := by
  rw [← h.out]; exact ldo_any op a b w a0 a1 b0 b1
/-- What alu.Do answers, under names of one's own. -/
theorem do_at (op a b r : Int) (c : Bool) (w : World) (a0 : 0 ≤ a) (a1 : a < 4294967296) (b0 : 0 ≤ b) (b1 : b < 4294967296) (h : Hid (AM.dv op a b = r)) (hc : Hid (AM.dk op = c)) :
    Calls Try.prog 8 #[.int .i64 op, .int .u32 a, .int .u32 b] w fun e w' => e = .returned (.tuple #[.int .u32 r, .bool c]) ∧ ∃ n, w' = w.drewN n := by
  rw [← h.out, ← hc.out]; exact do_any op a b w a0 a1 b0 b1
theorem below_alloc_drew (w : World) (o : Obj) (n : Nat) : Below w.heap.size w ((w.alloc o).drewN n) :=
  have h := (Below.refl _ w).alloc (Nat.le_refl _) o
  h.trans ((below_drew _ n).mono h.size)
def ofc : Array Value := #[.int .i64 1, .int .i64 3, .int .i64 4, .int .i64 5, .int .i64 9, .int .i64 6, .int .i64 7, .int .i64 8]
theorem ofc_get (k : Nat) (hk : k < 8) : ofc[k]? = some (.int .i64 (AM.ofs k)) := by
  rcases k with _ | _ | _ | _ | _ | _ | _ | _ | k
  all_goals first | rfl | omega
set_option maxHeartbeats 1600000 in
theorem sums_walk (a b : Int) (w : World) (a0 : 0 ≤ a) (a1 : a < 4294967296) (b0 : 0 ≤ b) (b1 : b < 4294967296) :
    Calls Try.prog 5 #[.int .u32 a, .int .u32 b] w fun e w' => e = .returned (.bool true) ∧ Below w.heap.size w w' := by
  obtain ⟨P, hP⟩ : ∃ P, AM.dv 1 a b = P := ⟨_, rfl⟩
  obtain ⟨Q, hQ⟩ : ∃ P, AM.dv 5 a b = P := ⟨_, rfl⟩
  obtain ⟨R, hR⟩ : ∃ P, AM.dv 3 a b = P := ⟨_, rfl⟩
  obtain ⟨S, hS⟩ : ∃ P, AM.dv 4 a b = P := ⟨_, rfl⟩
  obtain ⟨p0, p1⟩ : 0 ≤ P ∧ P < 4294967296 := by rw [← hP]; exact AM.dv_bd 1 a b a0 a1 b0 b1
  obtain ⟨q0, q1⟩ : 0 ≤ Q ∧ Q < 4294967296 := by rw [← hQ]; exact AM.dv_bd 5 a b a0 a1 b0 b1
  have H1 : Hid (AM.dv 2 P b = a) := by show AM.dv 2 P b = a; rw [← hP]; exact AM.sum_sub a b a0 a1
  have H2 : Hid (AM.dv 1 b a = P) := by show AM.dv 1 b a = P; rw [← hP]; exact AM.sum_comm b a
  have H3 : Hid (AM.dv 5 Q b = a) := by show AM.dv 5 Q b = a; rw [← hQ]; exact AM.sum_xor a b a0 a1
  have h4 : (R + S) % 4294967296 = (a + b) % 4294967296 := by rw [← hR, ← hS, AM.sum_and_or a b a0 a1 b0 b1]
  have HP := Lib.hid hP
  have HQ := Lib.hid hQ
  have HR := Lib.hid hR
  have HS := Lib.hid hS
  clear hP hQ hR hS
  go_enter Try.func5, Try.ntmps5
  go_wp2_with (fail)
  refine (ldo_at _ _ _ P _ a0 a1 b0 b1 HP).mono ?_
  rintro e w' ⟨rfl, n1, rfl⟩
  go_wp2_with (fail)
  refine (ldo_at _ _ _ a _ p0 p1 b0 b1 H1).mono ?_
  rintro e w' ⟨rfl, n2, rfl⟩
  go_wp2_with (fail)
  refine (ldo_at _ _ _ P _ a0 a1 b0 b1 HP).mono ?_
  rintro e w' ⟨rfl, n3, rfl⟩
  go_wp2_with (fail)
  refine (ldo_at _ _ _ P _ b0 b1 a0 a1 H2).mono ?_
  rintro e w' ⟨rfl, n4, rfl⟩
  go_wp2_with (fail)
  refine (ldo_at _ _ _ Q _ a0 a1 b0 b1 HQ).mono ?_
  rintro e w' ⟨rfl, n5, rfl⟩
  go_wp2_with (fail)
  refine (ldo_at _ _ _ a _ q0 q1 b0 b1 H3).mono ?_
  rintro e w' ⟨rfl, n6, rfl⟩
  go_wp2_with (fail)
  refine (ldo_at _ _ _ R _ a0 a1 b0 b1 HR).mono ?_
  rintro e w' ⟨rfl, n7, rfl⟩
  go_wp2_with (fail)
  refine (ldo_at _ _ _ S _ a0 a1 b0 b1 HS).mono ?_
  rintro e W ⟨rfl, n8, hW⟩
  have HW : Hid (Below w.heap.size w W) := by
    show Below w.heap.size w W
    rw [hW]
    exact ⟨rfl, rfl, rfl, Nat.le_refl _, fun _ _ => rfl⟩
  clear hW
  go_wp2_with (fail)
  clear HP HQ HR HS H1 H2 H3 h4 p0 p1 q0 q1
  go_loopw [6] (fun c wr => ∃ k m : Nat, (k : Int) ≤ 8 ∧ c = .int .i64 k ∧ wr = (W.alloc (.cells ofc 32)).drewN m) (fun c _ => (8 - intOf c).toNat)
  case atStart => exact ⟨0, 0, by omega, rfl, rfl⟩
  case round =>
    obtain ⟨k, m, hk, rfl, rfl⟩ := hrel
    by_cases hlt : (k : Int) < 8
    · obtain ⟨X, hX⟩ : ∃ X, AM.dv (AM.ofs k) a b = X := ⟨_, rfl⟩
      have H1 : Hid (AM.dv (25 + (k : Int)) a b = X) := (AM.imm_same a b k (by omega)).trans hX
      have H2 := Lib.hid (AM.imm_is k (by omega))
      have HX := Lib.hid hX
      clear hX
      have hc := ofc_get k (by omega)
      go_wp2_with (fail)
      refine (do_at _ _ _ X true _ a0 a1 b0 b1 H1 H2).mono ?_
      rintro e w' ⟨rfl, m1, rfl⟩
      go_wp2_with (fail)
      refine (ldo_at _ _ _ X _ a0 a1 b0 b1 HX).mono ?_
      rintro e w' ⟨rfl, m2, rfl⟩
      go_wp2
      go_roundw
      case rel => exact ⟨k + 1, m + m1 + m2, by omega, by go_num, rfl⟩
      case measure => simp [intOf]; omega
    · go_wp2_with (fail)
      refine (awake_any _).mono ?_
      rintro e w' ⟨rfl, m1, rfl⟩
      go_wp2
      go_ret
      exact ⟨rfl, HW.out.trans ((below_alloc_drew W _ _).mono HW.out.size)⟩
end Go.Proofs.Ytjlgaihihgifbaa
