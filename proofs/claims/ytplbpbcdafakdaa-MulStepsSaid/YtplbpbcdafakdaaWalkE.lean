/-
  The law MulPart, walked: behind each number of steps the answer is true, for every two words; memory that was there is unchanged.
-/
import Derived.Test.YtplbpbcdafakdaaWalkD
namespace Go.Proofs.Ytplbpbcdafakdaa
open Go.RowKit S01
theorem part_div (a b : Int) (j : Nat) (hj : j ≤ 32) : (MM.kh a j b 0 * 4294967296 + MM.kl a j b 0 0) / 2 ^ (32 - j) = a * (b % 2 ^ j) := by
  rw [MM.part a b j hj]
  exact Int.mul_ediv_cancel _ (Int.ne_of_gt (Int.pow_pos (by decide)))
theorem pow_bd (j : Nat) (hj : j ≤ 32) : (1 : Int) ≤ 2 ^ j ∧ (2 : Int) ^ j ≤ 4294967296 := by
  have h1 : 1 ≤ 2 ^ j := Nat.one_le_two_pow
  have h2 : 2 ^ j ≤ 2 ^ 32 := Nat.pow_le_pow_right (by decide) hj
  have e : ((2 ^ j : Nat) : Int) = (2 : Int) ^ j := by simp
  rw [← e]
  omega
theorem low_all (b : Int) (b0 : 0 ≤ b) (b1 : b < 4294967296) : b % 2 ^ 32 = b := by omega
theorem alloc_size (w : World) (o : Obj) : w.heap.size < (w.alloc o).heap.size := by simp
set_option maxHeartbeats 400000 in
theorem part_walk (a b k : Int) (w : World) (a0 : 0 ≤ a) (a1 : a < 4294967296) (b0 : 0 ≤ b) (b1 : b < 4294967296) (k0 : 0 ≤ k) (k1 : k < 256) : Calls Try.prog 5 #[.int .u32 a, .int .u32 b, .int .u8 k] w fun e w' => e = .returned (.bool true) ∧ Below w.heap.size w w' := by
  go_enter Try.func5, Try.ntmps5
  go_wp2_with (first | (go_at_call 14; refine (new_any _ _ _).mono ?_; rintro e w1 ⟨rfl, hb1⟩; have HB1 := Lib.hid hb1; clear hb1))
  go_loopw [9] (fun i wr => ∃ (j : Nat), (j : Int) ≤ k % 33 ∧ i = .int .i64 j ∧ w1.heap.size < wr.heap.size ∧ Hid (At wr w1.heap.size a (MM.kb b j) (MM.kh a j b 0) (MM.kl a j b 0 0) (32 - j)) ∧ Hid (Below w.heap.size w wr)) (fun i _ => (33 - intOf i).toNat)
  case atStart => exact ⟨0, by omega, rfl, alloc_size _ _, Lib.hid (At.new _ _ _ _ _ _ _), Lib.hid (HB1.out.alloc HB1.out.size _)⟩
  case round =>
    obtain ⟨j, hj, rfl, hs, hA, hB⟩ := hrel
    obtain ⟨⟨c0, c1, c2, c3, c4⟩, f0, f1, f2, f3, f4⟩ := hA.out
    have Hb := Lib.hid (MM.kb_bd j b b0 b1)
    have Hh := Lib.hid (MM.kh_bd a a0 a1 j b 0 (by decide) (by decide))
    have Hl := Lib.hid (MM.kl_bd a j b 0 0 (by decide) (by decide))
    by_cases hlt : (j : Int) < k % 33
    · go_wp2_with ((go_at_call 11; refine (step_any _ _ _ _ _ _ (by omega) (by omega) Hb.out.1 Hb.out.2 Hh.out.1 Hh.out.2 Hl.out.1 Hl.out.2 (by omega) (by omega)).mono ?_; rintro e w2 ⟨rfl, hb⟩; have HB := Lib.hid hb; obtain ⟨hc, hf⟩ := bcell hb; clear hb))
      have hA1 := (hA.out.below hs HB.out).store a (MM.kb b j / 2) (MM.sh a (MM.kb b j) (MM.kh a j b 0)) (MM.sl a (MM.kb b j) (MM.kh a j b 0) (MM.kl a j b 0 0)) (32 - (j : Int) - 1)
      go_roundw
      case rel => 
        refine ⟨j + 1, by omega, by go_num, by rw [five_size]; exact Nat.lt_of_lt_of_le hs HB.out.size, Lib.hid ?_, Lib.hid (five_below (hB.out.trans (HB.out.mono (Nat.le_trans HB1.out.size (Nat.le_of_lt hs)))) HB1.out.size _ _ _ _ _)⟩
        rw [MM.kb_end, MM.kh_end, MM.kl_end, show (32 : Int) - ((j + 1 : Nat) : Int) = 32 - (j : Int) - 1 by omega]
        exact hA1
      case measure => simp [intOf]; omega
    · have hjk : k % 33 = (j : Int) := by omega
      rw [hjk]
      have hj32 : (j : Int) ≤ 32 := by omega
      have HE := Lib.hid (part_div a b j (by omega))
      have HP := Lib.hid (pow_bd j (by omega))
      clear hjk hlt hj
      obtain ⟨H, hH⟩ : ∃ H, MM.kh a j b 0 = H := ⟨_, rfl⟩
      obtain ⟨L, hL⟩ : ∃ L, MM.kl a j b 0 0 = L := ⟨_, rfl⟩
      rw [hH] at Hh c2 HE
      rw [hL] at Hl c3 HE
      obtain ⟨x0, x1⟩ := Hh.out
      obtain ⟨y0, y1⟩ := Hl.out
      clear hH hL Hh Hl
      by_cases h32 : (j : Int) < 32
      · obtain ⟨p, hp⟩ : ∃ p : Int, (2 : Int) ^ j = p := ⟨_, rfl⟩
        rw [hp] at HE HP
        obtain ⟨p0, p1⟩ := HP.out
        have hw : IntKind.u64.wrap (2 ^ j) = p := by rw [hp, IntKind.wrap_u64]; omega
        obtain ⟨t, ht⟩ : ∃ t, b % p = t := ⟨_, rfl⟩
        have t0 : 0 ≤ t := by rw [← ht]; exact Int.emod_nonneg _ (by omega)
        have t1 : t < 4294967296 := by rw [← ht]; exact Int.lt_of_lt_of_le (Int.emod_lt_of_pos _ (by omega)) p1
        rw [ht] at HE
        obtain ⟨q0, q1⟩ := MM.prod_bd a t a0 a1 t0 t1
        have hE := HE.out
        clear hp HE HP
        go_wp2_with (first | (go_at_call 13; refine (awake_any _).mono ?_; rintro e w4 ⟨rfl, hb4⟩; have HB4 := Lib.hid hb4; clear hb4))
        go_ret
        exact ⟨rfl, then_below hB.out HB4.out⟩
      · obtain rfl : j = 32 := by omega
        rw [low_all b b0 b1] at HE
        obtain ⟨q0, q1⟩ := MM.prod_bd a b a0 a1 b0 b1
        have hE := HE.out
        clear HE HP
        go_wp2_with (first | (go_at_call 13; refine (awake_any _).mono ?_; rintro e w4 ⟨rfl, hb4⟩; have HB4 := Lib.hid hb4; clear hb4))
        go_ret
        exact ⟨rfl, then_below hB.out HB4.out⟩
end Go.Proofs.Ytplbpbcdafakdaa
