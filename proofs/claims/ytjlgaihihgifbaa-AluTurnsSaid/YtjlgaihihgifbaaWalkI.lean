/-
  The law of turns returns true for every input, and leaves all that was in memory as it was.
-/
import Derived.Test.YtjlgaihihgifbaaWalkH
namespace Go.Proofs.Ytjlgaihihgifbaa
open Go.RowKit S01
theorem pop_at (x r : Int) (w : World) (h0 : 0 ≤ x) (h1 : x < 4294967296) (h : Hid (AM.pc x = r)) :
    Calls Try.prog 15 #[.int .u32 x] w fun e w' => e = .returned (.int .i64 r) ∧ ∃ n, w' = w.drewN n := by
  rw [← h.out]; exact pop_any x w h0 h1
theorem rev_at (x r : Int) (w : World) (h0 : 0 ≤ x) (h1 : x < 4294967296) (h : Hid (AM.rv x = r)) :
    Calls Try.prog 17 #[.int .u32 x] w fun e w' => e = .returned (.int .u32 r) ∧ w = w' := by
  rw [← h.out]; exact rev_any x w h0 h1
theorem clz_at (x r : Int) (w : World) (h0 : 0 ≤ x) (h1 : x < 4294967296) (h : Hid (AM.cz x = r)) :
    Calls Try.prog 13 #[.int .u32 x] w fun e w' => e = .returned (.int .i64 r) ∧ w = w' := by
  rw [← h.out]; exact clz_any x w h0 h1
theorem not_end (x : Int) (x0 : 0 ≤ x) (x1 : x < 4294967296) : bits .xor .u32 IntKind.u32.max x = 4294967295 - x := by
  rw [show IntKind.u32.max = 4294967295 by decide, AM.xor_end 4294967295 x (by omega) (by omega) x0 x1]
  refine (AM.su_of _ _ (by omega) (by omega) fun j hj => ?_).symm
  rw [show (4294967295 - x).toNat = 2 ^ 32 - (x.toNat + 1) by omega, Nat.testBit_two_pow_sub_succ (by omega), decide_eq_true hj, Bool.true_and,
    show (4294967295 : Int).toNat = 2 ^ 32 - 1 by decide, Nat.testBit_two_pow_sub_one, decide_eq_true hj]
  cases x.toNat.testBit j <;> rfl
set_option maxHeartbeats 4000000 in
set_option maxRecDepth 100000 in
theorem turns_walk (x n : Int) (w : World) (x0 : 0 ≤ x) (x1 : x < 4294967296) (n0 : 0 ≤ n) (n1 : n < 4294967296) :
    Calls Try.prog 7 #[.int .u32 x, .int .u32 n] w fun e w' => e = .returned (.bool true) ∧ Below w.heap.size w w' := by
  obtain ⟨Y, hY⟩ : ∃ X, AM.dv 20 x n = X := ⟨_, rfl⟩
  obtain ⟨y0, y1⟩ : 0 ≤ Y ∧ Y < 4294967296 := by rw [← hY]; exact AM.dv_bd 20 x n x0 x1 n0 n1
  obtain ⟨p, hp⟩ : ∃ X, AM.pc x = X := ⟨_, rfl⟩
  obtain ⟨p0, p1⟩ : 0 ≤ p ∧ p ≤ 32 := by rw [← hp]; exact AM.pc_bd x
  obtain ⟨R, hR⟩ : ∃ X, AM.rv x = X := ⟨_, rfl⟩
  obtain ⟨r0, r1⟩ : 0 ≤ R ∧ R < 4294967296 := by rw [← hR]; exact AM.rv_bd x x0 x1
  have s0 : 0 ≤ n % 32 := by omega
  have s1 : n % 32 < 32 := by omega
  have HB : Hid (AM.dv 20 Y (32 - n % 32) = x) := by show AM.dv 20 Y (32 - n % 32) = x; rw [← hY]; exact AM.turn_back x n x0 x1
  have HPY : Hid (AM.pc Y = p) := by show AM.pc Y = p; rw [← hY, ← hp]; exact AM.turn_pc x n
  have HPR : Hid (AM.pc R = p) := by show AM.pc R = p; rw [← hR, ← hp]; exact AM.rv_pc x x0 x1
  have HRR : Hid (AM.rv R = x) := by show AM.rv R = x; rw [← hR]; exact AM.rv_rv x x0 x1
  have HN : Hid (AM.pc (4294967295 - x) = 32 - p) := by
    show AM.pc (4294967295 - x) = 32 - p
    have := AM.not_pc x x0 x1
    rw [hp] at this; omega
  have hs : p + (32 - p) = 32 := by omega
  have hsg : IntKind.u32.signed = false := rfl
  have hnx := not_end x x0 x1
  obtain ⟨U, hU⟩ : ∃ X, AM.dv 6 x n = X := ⟨_, rfl⟩
  obtain ⟨u0, u1⟩ : 0 ≤ U ∧ U < 4294967296 := by rw [← hU]; exact AM.dv_bd 6 x n x0 x1 n0 n1
  have HU := Lib.hid hU
  have HY := Lib.hid hY
  have HP := Lib.hid hp
  have HR := Lib.hid hR
  clear hY hp hR
  go_enter Try.func7, Try.ntmps7
  go_wp2_with (fail)
  refine (ldo_at _ _ _ Y _ x0 x1 n0 n1 HY).mono ?_
  rintro e w' ⟨rfl, m1, rfl⟩
  go_wp2_with (fail)
  refine (ldo_at _ _ _ x _ y0 y1 (by omega) (by omega) HB).mono ?_
  rintro e w' ⟨rfl, m2, rfl⟩
  go_wp2_with (fail)
  refine (pop_at _ p _ y0 y1 HPY).mono ?_
  rintro e w' ⟨rfl, m3, rfl⟩
  go_wp2_with (fail)
  refine (pop_at _ p _ x0 x1 HP).mono ?_
  rintro e w' ⟨rfl, m4, rfl⟩
  go_wp2_with (fail)
  refine (rev_at _ R _ x0 x1 HR).mono ?_
  rintro e w' ⟨rfl, rfl⟩
  go_wp2_with (fail)
  refine (pop_at _ p _ r0 r1 HPR).mono ?_
  rintro e w' ⟨rfl, m5, rfl⟩
  go_wp2_with (fail)
  refine (pop_at _ p _ x0 x1 HP).mono ?_
  rintro e w' ⟨rfl, m6, rfl⟩
  go_wp2_with (fail)
  refine (rev_at _ R _ x0 x1 HR).mono ?_
  rintro e w' ⟨rfl, rfl⟩
  go_wp2_with (fail)
  refine (rev_at _ x _ r0 r1 HRR).mono ?_
  rintro e w' ⟨rfl, rfl⟩
  go_wp2_with (fail)
  refine (pop_at _ p _ x0 x1 HP).mono ?_
  rintro e w' ⟨rfl, m7, rfl⟩
  go_wp2_with (fail)
  refine (pop_at _ (32 - p) _ (by omega) (by omega) HN).mono ?_
  rintro e w' ⟨rfl, m8, rfl⟩
  go_wp2_with (fail)
  refine (ldo_at _ _ _ U _ x0 x1 n0 n1 HU).mono ?_
  rintro e W ⟨rfl, m9, hW⟩
  have HW : Hid (Below w.heap.size w W) := by
    show Below w.heap.size w W
    rw [hW]
    exact ⟨rfl, rfl, rfl, Nat.le_refl _, fun _ _ => rfl⟩
  clear hW
  clear HB HPY HPR HRR HN HY HP HR HU hnx
  have htm : n.tmod 32 = n % 32 := Int.tmod_eq_emod_of_nonneg n0
  by_cases hn : n % 32 = 0
  · have HD : Hid (∀ W, Calls Try.prog 21 #[.int .i64 7, .int .u32 U, .int .u32 n] W fun e w' => e = .returned (.int .u32 x) ∧ ∃ m, w' = W.drewN m) := fun W => ldo_at 7 U n x W u0 u1 n0 n1 (by show AM.dv 7 U n = x; rw [← hU]; exact AM.up_down_zero x n x0 x1 hn)
    have hb : (n % 32 == 0) = true := AM.beq_yes hn
    have hbn : (n % 32 != 0) = false := by simpa using hn
    clear hU hn
    go_wp2_with (fail)
    go_quiet ((go_at_call 21; exact q_draw HD.out))
    go_wp2_with (fail)
    by_cases hx : x = 0
    · have hxb : (x == 0) = true := AM.beq_yes hx
      have HZ : Hid (AM.cz x = 32) := by show AM.cz x = 32; rw [hx]; exact AM.cz_of_zero
      clear hx
      refine (clz_at _ 32 _ x0 x1 HZ).mono ?_
      rintro e w' ⟨rfl, rfl⟩
      go_wp2_with (fail)
      refine (awake_any _).mono ?_
      rintro e w' ⟨rfl, j1, rfl⟩
      go_wp2
      go_ret
      exact ⟨rfl, HW.out.trans ((below_drew W _).mono HW.out.size)⟩
    · have hxb : (x == 0) = false := AM.beq_no hx
      obtain ⟨z, hz⟩ : ∃ X, AM.cz x = X := ⟨_, rfl⟩
      obtain ⟨z0, z1, hone⟩ := AM.cz_pos x x0 x1 hx
      rw [hz] at z0 z1 hone
      have hzb : (z == 32) = false := AM.beq_no (by omega)
      have HZ := Lib.hid hz
      have HO := Lib.hid hone
      clear hz hone
      refine (clz_at _ z _ x0 x1 HZ).mono ?_
      rintro e w' ⟨rfl, rfl⟩
      go_wp2_with (fail)
      refine (ldo_at _ _ _ 1 _ x0 x1 (by omega) (by omega) HO).mono ?_
      rintro e w' ⟨rfl, j1, rfl⟩
      go_wp2_with (fail)
      refine (awake_any _).mono ?_
      rintro e w' ⟨rfl, j2, rfl⟩
      go_wp2
      go_ret
      exact ⟨rfl, HW.out.trans ((below_drew W _).mono HW.out.size)⟩
  · obtain ⟨P, hP⟩ : ∃ P : Int, P = ((2 ^ (32 - n % 32).toNat : Nat) : Int) := ⟨_, rfl⟩
    have hp31 : 2 ^ (32 - n % 32).toNat ≤ 2 ^ 31 := Nat.pow_le_pow_right (by decide) (by omega)
    have hpos : 0 < 2 ^ (32 - n % 32).toNat := Nat.two_pow_pos _
    have hP1 : P < 4294967296 := by omega
    have hP0 : 0 < P := by omega
    have htx : x.tmod P = x % P := Int.tmod_eq_emod_of_nonneg x0
    have hpw : (2 : Int) ^ (32 - n % 32).toNat = P := by rw [hP, BM.pow_cast]
    have HD : Hid (∀ W, Calls Try.prog 21 #[.int .i64 7, .int .u32 U, .int .u32 n] W fun e w' => e = .returned (.int .u32 (x % P)) ∧ ∃ m, w' = W.drewN m) := fun W => ldo_at 7 U n (x % P) W u0 u1 n0 n1 (by show AM.dv 7 U n = x % P; rw [← hU, hP]; exact AM.up_down x n x0)
    have hb : (n % 32 == 0) = false := AM.beq_no hn
    have hbn : (n % 32 != 0) = true := by simpa using hn
    clear hU hP hp31 hpos
    go_wp2_with (fail)
    go_quiet ((go_at_call 21; exact q_draw HD.out))
    go_wp2_with (fail)
    by_cases hx : x = 0
    · have hxb : (x == 0) = true := AM.beq_yes hx
      have HZ : Hid (AM.cz x = 32) := by show AM.cz x = 32; rw [hx]; exact AM.cz_of_zero
      clear hx
      refine (clz_at _ 32 _ x0 x1 HZ).mono ?_
      rintro e w' ⟨rfl, rfl⟩
      go_wp2_with (fail)
      refine (awake_any _).mono ?_
      rintro e w' ⟨rfl, j1, rfl⟩
      go_wp2
      go_ret
      exact ⟨rfl, HW.out.trans ((below_drew W _).mono HW.out.size)⟩
    · have hxb : (x == 0) = false := AM.beq_no hx
      obtain ⟨z, hz⟩ : ∃ X, AM.cz x = X := ⟨_, rfl⟩
      obtain ⟨z0, z1, hone⟩ := AM.cz_pos x x0 x1 hx
      rw [hz] at z0 z1 hone
      have hzb : (z == 32) = false := AM.beq_no (by omega)
      have HZ := Lib.hid hz
      have HO := Lib.hid hone
      clear hz hone
      refine (clz_at _ z _ x0 x1 HZ).mono ?_
      rintro e w' ⟨rfl, rfl⟩
      go_wp2_with (fail)
      refine (ldo_at _ _ _ 1 _ x0 x1 (by omega) (by omega) HO).mono ?_
      rintro e w' ⟨rfl, j1, rfl⟩
      go_wp2_with (fail)
      refine (awake_any _).mono ?_
      rintro e w' ⟨rfl, j2, rfl⟩
      go_wp2
      go_ret
      exact ⟨rfl, HW.out.trans ((below_drew W _).mono HW.out.size)⟩
end Go.Proofs.Ytjlgaihihgifbaa
