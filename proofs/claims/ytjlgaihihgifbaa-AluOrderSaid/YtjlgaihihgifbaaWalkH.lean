/-
  The law of orders returns true for every input, and leaves all that was in memory as it was.
-/
import Derived.Test.YtjlgaihihgifbaaWalkG
namespace Go.Proofs.Ytjlgaihihgifbaa
open Go.RowKit S01
theorem taken_at (op a b : Int) (c : Bool) (w : World) (a0 : 0 ≤ a) (a1 : a < 4294967296) (b0 : 0 ≤ b) (b1 : b < 4294967296) (h : Hid (AM.tk op a b = c)) :
    Calls Try.prog 10 #[.int .i64 op, .int .u32 a, .int .u32 b] w fun e w' => e = .returned (.bool c) ∧ w = w' := by
  rw [← h.out]; exact taken_any op a b w a0 a1 b0 b1
set_option maxHeartbeats 4000000 in
set_option maxRecDepth 100000 in
theorem order_walk (a b c : Int) (w : World) (a0 : 0 ≤ a) (a1 : a < 4294967296) (b0 : 0 ≤ b) (b1 : b < 4294967296) (c0 : 0 ≤ c) (c1 : c < 4294967296) :
    Calls Try.prog 6 #[.int .u32 a, .int .u32 b, .int .u32 c] w fun e w' => e = .returned (.bool true) ∧ Below w.heap.size w w' := by
  go_enter Try.func6, Try.ntmps6
  go_wp2
  go_loopw [7] (fun i wr => ∃ k m : Nat, (k : Int) ≤ 2 ∧ i = .int .i64 k ∧ wr = w.drewN m) (fun i _ => (2 - intOf i).toNat)
  case atStart => exact ⟨0, 0, by omega, rfl, rfl⟩
  case round =>
    obtain ⟨k, m, hk, rfl, rfl⟩ := hrel
    by_cases hlt : (k : Int) < 2
    · obtain ⟨p, hp, hT, hU, hcs⟩ := AM.ord_round k (by omega) a b c a0 a1 b0 b1
      obtain ⟨A, hA⟩ : ∃ X, AM.dv (9 + (k : Int)) a b = X := ⟨_, rfl⟩
      obtain ⟨B, hB⟩ : ∃ X, AM.dv (9 + (k : Int)) b a = X := ⟨_, rfl⟩
      obtain ⟨C, hC⟩ : ∃ X, AM.dv (9 + (k : Int)) b c = X := ⟨_, rfl⟩
      obtain ⟨D, hD⟩ : ∃ X, AM.dv (9 + (k : Int)) a c = X := ⟨_, rfl⟩
      rw [hA] at hp
      rw [hB, hC, hD] at hcs
      have HA := Lib.hid hA
      have HB := Lib.hid hB
      have HC := Lib.hid hC
      have HD := Lib.hid hD
      have HT := Lib.hid hT
      have HU := Lib.hid hU
      clear hA hB hC hD hT hU
      rcases hcs with ⟨rfl, hq, he, hr⟩ | ⟨rfl, hq, he⟩ | ⟨rfl, hq, he⟩
      · rcases hr with hr | ⟨hr, hs⟩
        · go_wp2_with (fail)
          refine (ldo_at _ _ _ A _ a0 a1 b0 b1 HA).mono ?_
          rintro e w' ⟨rfl, m1, rfl⟩
          go_wp2_with (fail)
          refine (ldo_at _ _ _ B _ b0 b1 a0 a1 HB).mono ?_
          rintro e w' ⟨rfl, m2, rfl⟩
          go_wp2_with (fail)
          refine (ldo_at _ _ _ C _ b0 b1 c0 c1 HC).mono ?_
          rintro e w' ⟨rfl, m3, rfl⟩
          go_wp2_with (fail)
          refine (taken_at _ _ _ true _ a0 a1 b0 b1 HT).mono ?_
          rintro e w' ⟨rfl, rfl⟩
          go_wp2_with (fail)
          refine (taken_at _ _ _ false _ a0 a1 b0 b1 HU).mono ?_
          rintro e w' ⟨rfl, rfl⟩
          go_wp2
          go_roundw
          case rel => exact ⟨k + 1, m + m1 + m2 + m3, by omega, by go_num, rfl⟩
          case measure => simp [intOf]; omega
        · go_wp2_with (fail)
          refine (ldo_at _ _ _ A _ a0 a1 b0 b1 HA).mono ?_
          rintro e w' ⟨rfl, m1, rfl⟩
          go_wp2_with (fail)
          refine (ldo_at _ _ _ B _ b0 b1 a0 a1 HB).mono ?_
          rintro e w' ⟨rfl, m2, rfl⟩
          go_wp2_with (fail)
          refine (ldo_at _ _ _ C _ b0 b1 c0 c1 HC).mono ?_
          rintro e w' ⟨rfl, m3, rfl⟩
          go_wp2_with (fail)
          refine (ldo_at _ _ _ D _ a0 a1 c0 c1 HD).mono ?_
          rintro e w' ⟨rfl, m4, rfl⟩
          go_wp2_with (fail)
          refine (taken_at _ _ _ true _ a0 a1 b0 b1 HT).mono ?_
          rintro e w' ⟨rfl, rfl⟩
          go_wp2_with (fail)
          refine (taken_at _ _ _ false _ a0 a1 b0 b1 HU).mono ?_
          rintro e w' ⟨rfl, rfl⟩
          go_wp2
          go_roundw
          case rel => exact ⟨k + 1, m + m1 + m2 + m3 + m4, by omega, by go_num, rfl⟩
          case measure => simp [intOf]; omega
      · go_wp2_with (fail)
        refine (ldo_at _ _ _ A _ a0 a1 b0 b1 HA).mono ?_
        rintro e w' ⟨rfl, m1, rfl⟩
        go_wp2_with (fail)
        refine (ldo_at _ _ _ B _ b0 b1 a0 a1 HB).mono ?_
        rintro e w' ⟨rfl, m2, rfl⟩
        go_wp2_with (fail)
        refine (taken_at _ _ _ false _ a0 a1 b0 b1 HT).mono ?_
        rintro e w' ⟨rfl, rfl⟩
        go_wp2_with (fail)
        refine (taken_at _ _ _ true _ a0 a1 b0 b1 HU).mono ?_
        rintro e w' ⟨rfl, rfl⟩
        go_wp2
        go_roundw
        case rel => exact ⟨k + 1, m + m1 + m2, by omega, by go_num, rfl⟩
        case measure => simp [intOf]; omega
      · go_wp2_with (fail)
        refine (ldo_at _ _ _ A _ a0 a1 b0 b1 HA).mono ?_
        rintro e w' ⟨rfl, m1, rfl⟩
        go_wp2_with (fail)
        refine (ldo_at _ _ _ B _ b0 b1 a0 a1 HB).mono ?_
        rintro e w' ⟨rfl, m2, rfl⟩
        go_wp2_with (fail)
        refine (taken_at _ _ _ false _ a0 a1 b0 b1 HT).mono ?_
        rintro e w' ⟨rfl, rfl⟩
        go_wp2_with (fail)
        refine (taken_at _ _ _ true _ a0 a1 b0 b1 HU).mono ?_
        rintro e w' ⟨rfl, rfl⟩
        go_wp2
        go_roundw
        case rel => exact ⟨k + 1, m + m1 + m2, by omega, by go_num, rfl⟩
        case measure => simp [intOf]; omega
    · obtain ⟨H, hH⟩ : ∃ X, AM.dv 19 a b = X := ⟨_, rfl⟩
      obtain ⟨V, hV⟩ : ∃ X, AM.dv 9 a b = X := ⟨_, rfl⟩
      obtain ⟨H0, H1⟩ : 0 ≤ H ∧ H < 4294967296 := by rw [← hH]; exact AM.dv_bd 19 a b a0 a1 b0 b1
      obtain ⟨L, hL⟩ : ∃ X, AM.dv 18 a b = X := ⟨_, rfl⟩
      obtain ⟨Z, hZ⟩ : ∃ X, AM.dv 9 H L = X := ⟨_, rfl⟩
      have hz : (Z == 1) = false := by rw [← hZ, ← hH, ← hL]; exact AM.max_min a b
      have hsum : L + H = a + b := by rw [← hL, ← hH]; exact AM.min_max_sum a b a0 a1 b0 b1
      have fa := AM.fl_xor a a0 a1
      have fb := AM.fl_xor b b0 b1
      obtain ⟨f0, f1⟩ := AM.fl_bd a
      obtain ⟨g0, g1⟩ := AM.fl_bd b
      have HF : Hid (AM.dv 10 (AM.fl a) (AM.fl b) = V) := (AM.fl_order a b a0 a1 b0 b1).symm.trans hV
      have HV := Lib.hid hV
      have HH := Lib.hid hH
      have HL := Lib.hid hL
      have HZ := Lib.hid hZ
      have H43 : Hid (AM.tk 43 a b = (a == b)) := rfl
      have H44 : Hid (AM.tk 44 a b = !(a == b)) := rfl
      have hor := AM.min_or a b
      rw [hL] at hor
      clear hV hH hL hZ
      cases he : (a == b)
      · rw [he] at H43 H44
        rcases hor with rfl | rfl
        · go_wp2_with (fail)
          refine (ldo_at _ _ _ L _ a0 a1 b0 b1 HL).mono ?_
          rintro e w' ⟨rfl, j1, rfl⟩
          go_wp2_with (fail)
          refine (ldo_at _ _ _ H _ a0 a1 b0 b1 HH).mono ?_
          rintro e w' ⟨rfl, j2, rfl⟩
          go_wp2_with (fail)
          refine (ldo_at _ _ _ Z _ H0 H1 a0 a1 HZ).mono ?_
          rintro e w' ⟨rfl, j3, rfl⟩
          go_wp2_with (fail)
          refine (taken_at _ _ _ false _ a0 a1 b0 b1 H43).mono ?_
          rintro e w' ⟨rfl, rfl⟩
          go_wp2_with (fail)
          refine (taken_at _ _ _ true _ a0 a1 b0 b1 H44).mono ?_
          rintro e w' ⟨rfl, rfl⟩
          go_wp2_with (fail)
          refine (ldo_at _ _ _ V _ a0 a1 b0 b1 HV).mono ?_
          rintro e w' ⟨rfl, j4, rfl⟩
          go_wp2_with (fail)
          refine (ldo_at _ _ _ V _ f0 f1 g0 g1 HF).mono ?_
          rintro e w' ⟨rfl, j5, rfl⟩
          go_wp2_with (fail)
          refine (awake_any _).mono ?_
          rintro e w' ⟨rfl, j6, rfl⟩
          go_wp2
          go_ret
          exact ⟨rfl, below_drew w _⟩
        · have he2 : (L == a) = false := AM.beq_no fun h => by rw [h] at he; simp at he
          have he3 : ¬ L = a := by simpa using he2
          go_wp2_with (fail)
          refine (ldo_at _ _ _ L _ a0 a1 b0 b1 HL).mono ?_
          rintro e w' ⟨rfl, j1, rfl⟩
          go_wp2_with (fail)
          refine (ldo_at _ _ _ H _ a0 a1 b0 b1 HH).mono ?_
          rintro e w' ⟨rfl, j2, rfl⟩
          go_wp2_with (fail)
          refine (ldo_at _ _ _ Z _ H0 H1 b0 b1 HZ).mono ?_
          rintro e w' ⟨rfl, j3, rfl⟩
          go_wp2_with (fail)
          refine (taken_at _ _ _ false _ a0 a1 b0 b1 H43).mono ?_
          rintro e w' ⟨rfl, rfl⟩
          go_wp2_with (fail)
          refine (taken_at _ _ _ true _ a0 a1 b0 b1 H44).mono ?_
          rintro e w' ⟨rfl, rfl⟩
          go_wp2_with (fail)
          refine (ldo_at _ _ _ V _ a0 a1 b0 b1 HV).mono ?_
          rintro e w' ⟨rfl, j4, rfl⟩
          go_wp2_with (fail)
          refine (ldo_at _ _ _ V _ f0 f1 g0 g1 HF).mono ?_
          rintro e w' ⟨rfl, j5, rfl⟩
          go_wp2_with (fail)
          refine (awake_any _).mono ?_
          rintro e w' ⟨rfl, j6, rfl⟩
          go_wp2
          go_ret
          exact ⟨rfl, below_drew w _⟩
      · rw [he] at H43 H44
        obtain rfl : L = a := by
          have : a = b := by simpa using he
          rcases hor with h | h
          · exact h
          · rw [h, this]
        go_wp2_with (fail)
        refine (ldo_at _ _ _ L _ a0 a1 b0 b1 HL).mono ?_
        rintro e w' ⟨rfl, j1, rfl⟩
        go_wp2_with (fail)
        refine (ldo_at _ _ _ H _ a0 a1 b0 b1 HH).mono ?_
        rintro e w' ⟨rfl, j2, rfl⟩
        go_wp2_with (fail)
        refine (ldo_at _ _ _ Z _ H0 H1 a0 a1 HZ).mono ?_
        rintro e w' ⟨rfl, j3, rfl⟩
        go_wp2_with (fail)
        refine (taken_at _ _ _ true _ a0 a1 b0 b1 H43).mono ?_
        rintro e w' ⟨rfl, rfl⟩
        go_wp2_with (fail)
        refine (taken_at _ _ _ false _ a0 a1 b0 b1 H44).mono ?_
        rintro e w' ⟨rfl, rfl⟩
        go_wp2_with (fail)
        refine (ldo_at _ _ _ V _ a0 a1 b0 b1 HV).mono ?_
        rintro e w' ⟨rfl, j4, rfl⟩
        go_wp2_with (fail)
        refine (ldo_at _ _ _ V _ f0 f1 g0 g1 HF).mono ?_
        rintro e w' ⟨rfl, j5, rfl⟩
        go_wp2_with (fail)
        refine (awake_any _).mono ?_
        rintro e w' ⟨rfl, j6, rfl⟩
        go_wp2
        go_ret
        exact ⟨rfl, below_drew w _⟩
end Go.Proofs.Ytjlgaihihgifbaa
