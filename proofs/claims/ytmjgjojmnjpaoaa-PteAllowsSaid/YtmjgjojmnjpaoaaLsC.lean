/-
  The law on entries that come back: it returns true for every word and address, and leaves all that was in memory as it was.
-/
import Derived.Test.YtmjgjojmnjpaoaaWalkD
import Derived.Test.YtmjgjojmnjpaoaaWalkE
import Derived.Test.YtmjgjojmnjpaoaaWalkF
namespace Go.Proofs.Ytmjgjojmnjpaoaa
open Go.RowKit S01 S10 S11
/-- A word without the bits that count for nothing. -/
theorem and_word (x : Int) (h0 : 0 ≤ x) (h1 : x < 4294967296) : bits .and .u32 x 65407 = PT.wd (x % 128) (x / 256 % 256) := by
  have e : bits .and .u32 x 65407 = ((x.toNat &&& 65407 : Nat) : Int) := u32_and x 65407 h0 h1 (by omega) (by omega)
  rw [e]
  have k : x.toNat &&& 65407 = x.toNat % 2 ^ 7 + 2 ^ 8 * (x.toNat / 2 ^ 8 % 2 ^ 8) := by
    rw [Nat.add_comm]
    apply Nat.eq_of_testBit_eq
    intro j
    have hlt : x.toNat % 2 ^ 7 < 2 ^ 8 := by omega
    rw [Nat.testBit_and, Nat.testBit_two_pow_mul_add _ hlt, Nat.testBit_mod_two_pow, Nat.testBit_mod_two_pow, Nat.testBit_div_two_pow]
    by_cases hj : j < 16
    · obtain rfl | rfl | rfl | rfl | rfl | rfl | rfl | rfl | rfl | rfl | rfl | rfl | rfl | rfl | rfl | rfl : j = 0 ∨ j = 1 ∨ j = 2 ∨ j = 3 ∨ j = 4 ∨ j = 5 ∨ j = 6 ∨ j = 7 ∨ j = 8 ∨ j = 9 ∨ j = 10 ∨ j = 11 ∨ j = 12 ∨ j = 13 ∨ j = 14 ∨ j = 15 := by omega
      all_goals (simp; try exact fun _ => by decide)
    · have hm : (65407 : Nat).testBit j = false := Nat.testBit_lt_two_pow (Nat.lt_of_lt_of_le (by decide : 65407 < 2 ^ 16) (Nat.pow_le_pow_right (by decide) (by omega)))
      rw [hm, if_neg (by omega), decide_eq_false (by omega)]
      simp
  rw [k]
  unfold PT.wd
  omega
set_option maxHeartbeats 1600000 in
theorem back_walk (x y : Int) (w : World) (x0 : 0 ≤ x) (x1 : x < 4294967296) (y0 : 0 ≤ y) (y1 : y < 4294967296) :
    Calls Try.prog 6 #[.int .u32 x, .int .u32 y] w fun e w' => e = .returned (.bool true) ∧ Below w.heap.size w w' := by
  have H1 := Lib.hid (fun W => of_any x W x0 x1)
  have e1 := and_word x x0 x1
  have b0 : 0 ≤ x % 128 := by omega
  have b1 : x % 128 < 128 := by omega
  have g0 : 0 ≤ x / 256 % 256 := by omega
  have g1 : x / 256 % 256 < 256 := by omega
  generalize x % 128 = b at *
  generalize x / 256 % 256 = g at *
  have H2 := Lib.hid (fun W => word_any b g W b0 (by omega))
  obtain ⟨v0, v1⟩ := PT.wd_bd b g
  have H3 := Lib.hid (fun W => of_any (PT.wd b g) W v0 (by omega))
  rw [show PT.wd b g % 128 = b by unfold PT.wd; omega, show PT.wd b g / 256 % 256 = g by unfold PT.wd; omega] at H3
  have H4 := Lib.hid (fun W => index_any y 0 W y0 y1)
  have H5 := Lib.hid (fun W => index_any y 1 W y0 y1)
  have HT := Lib.hid (PT.told y y0)
  obtain ⟨p0, p1⟩ := PT.ix_bd y 0
  obtain ⟨q0, q1⟩ := PT.ix_bd y 1
  have H6 := Lib.hid (fun W => addr_any b g y W y0 y1)
  have HA := Lib.hid (show PT.ad g y = g * 64 + y % 64 by unfold PT.ad; omega)
  generalize PT.wd b g = v at *
  generalize PT.ix y 0 = p at *
  generalize PT.ix y 1 = q at *
  generalize PT.ad g y = r at *
  have d0 : decide (g < 0) = false := decide_eq_false (by omega)
  have d1 : decide (255 < g) = false := decide_eq_false (by omega)
  unfold PV at *
  go_enter Try.func6, Try.ntmps6
  go_upto_region 2 with (first | (go_at_call 8; (with_reducible refine (H1.out _).mono ?_); rintro e w1 ⟨rfl, hb⟩; have B1 := Lib.hid hb; clear hb))
  have K0 := Lib.hid (Pk.new w1 b g)
  have B0 := Lib.hid (below_then B1.out (below_one w1 (.cells #[.int .u32 b, .int .i64 g] 24)))
  generalize World.alloc w1 _ = W0 at K0 B0 ⊢
  generalize w1.heap.size = s at *
  clear B1 H1
  have G2 := Lib.hid (kept_call (w := w) (s := s) (b := b) (g := g) H2.out)
  have G3 := Lib.hid (kept_call (w := w) (s := s) (b := b) (g := g) H3.out)
  have G6 := Lib.hid (kept_call (w := w) (s := s) (b := b) (g := g) H6.out)
  have G7 := Lib.hid (kept_call (w := w) (s := s) (b := b) (g := g) awake_any)
  clear H2 H3 H6
  refine wp_region_calm (Kept w s b g) (by kernel_rfl) (by kernel_rfl) ⟨K0.out.drew, B0.out.drew⟩ ?_
  refine wpq_load (by rfl) 24 _ rfl s 0 rfl ([.int .u32 b, .int .i64 g]) _ (fun W hW => hW.1.range) Try.underlying24 rfl (by kernel_rfl) ?_
  simp only [Act.put, List.setIfInBounds_toArray, List.set_cons_zero, List.set_cons_succ]
  refine wpq_call (by rfl) G2.out (fun W => by (go_simp; done)) ?_
  simp only [Act.put, List.setIfInBounds_toArray, List.set_cons_zero, List.set_cons_succ]
  refine wpq_call (by rfl) G3.out (fun W => by (go_simp; done)) ?_
  simp only [Act.put, List.setIfInBounds_toArray, List.set_cons_zero, List.set_cons_succ]
  refine wpq_load (by rfl) 24 _ rfl s 0 rfl ([.int .u32 b, .int .i64 g]) _ (fun W hW => hW.1.range) Try.underlying24 rfl (by kernel_rfl) ?_
  simp only [Act.put, List.setIfInBounds_toArray, List.set_cons_zero, List.set_cons_succ]
  refine wpq_val (v := ?va4) (by rfl) ?ya4 ?ra4
  case ya4 => (intro W hW; go_simp; try rfl)
  simp only [Act.put, List.setIfInBounds_toArray, List.set_cons_zero, List.set_cons_succ]
  refine wpq_val (v := ?va5) (by rfl) ?ya5 ?ra5
  case ya5 => (intro W hW; go_simp; try rfl)
  simp only [Act.put, List.setIfInBounds_toArray, List.set_cons_zero, List.set_cons_succ]
  refine wpq_load (by rfl) 24 _ rfl s 0 rfl ([.int .u32 b, .int .i64 g]) _ (fun W hW => hW.1.range) Try.underlying24 rfl (by kernel_rfl) ?_
  simp only [Act.put, List.setIfInBounds_toArray, List.set_cons_zero, List.set_cons_succ]
  refine wpq_call (by rfl) G2.out (fun W => by (go_simp; done)) ?_
  simp only [Act.put, List.setIfInBounds_toArray, List.set_cons_zero, List.set_cons_succ]
  refine wpq_val (v := ?va8) (by rfl) ?ya8 ?ra8
  case ya8 => (intro W hW; go_simp; try rfl)
  simp only [Act.put, List.setIfInBounds_toArray, List.set_cons_zero, List.set_cons_succ]
  refine wpq_val (v := ?va9) (by rfl) ?ya9 ?ra9
  case ya9 => (intro W hW; go_simp; try rfl)
  simp only [Act.put, List.setIfInBounds_toArray, List.set_cons_zero, List.set_cons_succ]
  refine wpq_val (v := ?va10) (by rfl) ?ya10 ?ra10
  case ya10 => (intro W hW; go_simp; try rfl)
  simp only [Act.put, List.setIfInBounds_toArray, List.set_cons_zero, List.set_cons_succ]
  refine wpq_val (v := ?va11) (by rfl) ?ya11 ?ra11
  case ya11 => (intro W hW; go_simp; try rfl)
  simp only [Act.put, List.setIfInBounds_toArray, List.set_cons_zero, List.set_cons_succ]
  refine wpq_val (v := ?va12) (by rfl) ?ya12 ?ra12
  case ya12 => (intro W hW; go_simp; try rfl)
  simp only [Act.put, List.setIfInBounds_toArray, List.set_cons_zero, List.set_cons_succ]
  refine wpq_val (v := ?va13) (by rfl) ?ya13 ?ra13
  case ya13 => (intro W hW; go_simp; try rfl)
  simp only [Act.put, List.setIfInBounds_toArray, List.set_cons_zero, List.set_cons_succ]
  refine wpq_val (v := ?va14) (by rfl) ?ya14 ?ra14
  case ya14 => (intro W hW; have c1 := hW.1.c1; go_simp; try rfl)
  simp only [Act.put, List.setIfInBounds_toArray, List.set_cons_zero, List.set_cons_succ]
  refine wpq_val (v := ?va15) (by rfl) ?ya15 ?ra15
  case ya15 => (intro W hW; go_simp; try rfl)
  simp only [Act.put, List.setIfInBounds_toArray, List.set_cons_zero, List.set_cons_succ]
  refine wpq_val (v := ?va16) (by rfl) ?ya16 ?ra16
  case ya16 => (intro W hW; go_simp; try rfl)
  simp only [Act.put, List.setIfInBounds_toArray, List.set_cons_zero, List.set_cons_succ]
  refine wpq_val (v := ?va17) (by rfl) ?ya17 ?ra17
  case ya17 => (intro W hW; go_simp; try rfl)
  simp only [Act.put, List.setIfInBounds_toArray, List.set_cons_zero, List.set_cons_succ]
  refine wpq_val (v := ?va18) (by rfl) ?ya18 ?ra18
  case ya18 => (intro W hW; go_simp; try rfl)
  simp only [Act.put, List.setIfInBounds_toArray, List.set_cons_zero, List.set_cons_succ]
  refine wpq_val (v := ?va19) (by rfl) ?ya19 ?ra19
  case ya19 => (intro W hW; have c1 := hW.1.c1; go_simp; try rfl)
  simp only [Act.put, List.setIfInBounds_toArray, List.set_cons_zero, List.set_cons_succ]
  refine wpq_val (v := ?va20) (by rfl) ?ya20 ?ra20
  case ya20 => (intro W hW; go_simp; try rfl)
  simp only [Act.put, List.setIfInBounds_toArray, List.set_cons_zero, List.set_cons_succ]
  refine wpq_val (v := ?va21) (by rfl) ?ya21 ?ra21
  case ya21 => (intro W hW; go_simp; try rfl)
  simp only [Act.put, List.setIfInBounds_toArray, List.set_cons_zero, List.set_cons_succ]
  refine wpQuiet_nil ?_
  clear K0 B0
  intro W hW
  have K1 := Lib.hid hW.1
  have B1 := Lib.hid hW.2
  clear hW
  go_upto_region 5 with (first | (go_at_call 17; (with_reducible refine (H4.out _).mono ?_); rintro e w2 ⟨rfl, hb⟩; have K2 := Lib.hid (K1.out.below hb); have B2 := Lib.hid (below_then B1.out hb); clear hb) | (go_at_call 17; (with_reducible refine (H5.out _).mono ?_); rintro e w3 ⟨rfl, hb⟩; have K3 := Lib.hid (K2.out.below hb); have B3 := Lib.hid (below_then B2.out hb); clear hb))
  rw [HT.out]
  have t1 : Int.tmod y 16384 = y % 16384 := Int.tmod_eq_emod_of_nonneg y0
  have t2 : Int.tmod y 64 = y % 64 := Int.tmod_eq_emod_of_nonneg y0
  have u1 : IntKind.u32.wrap g = g := by rw [IntKind.wrap_u32]; omega
  have u2 : IntKind.u32.wrap (g * 64) = g * 64 := by rw [IntKind.wrap_u32]; omega
  have u3 : IntKind.u32.wrap (g * 64 + y % 64) = r := by rw [IntKind.wrap_u32, HA.out]; omega
  refine wp_region_calm (Kept w s b g) (by kernel_rfl) (by kernel_rfl) ⟨K3.out.drew, B3.out.drew⟩ ?_
  refine wpq_val (v := ?vb0) (by rfl) ?yb0 ?rb0
  case yb0 => (intro W hW; go_simp; try rfl)
  simp only [Act.put, List.setIfInBounds_toArray, List.set_cons_zero, List.set_cons_succ]
  refine wpq_val (v := ?vb1) (by rfl) ?yb1 ?rb1
  case yb1 => (intro W hW; go_simp; try rfl)
  simp only [Act.put, List.setIfInBounds_toArray, List.set_cons_zero, List.set_cons_succ]
  refine wpq_val (v := ?vb2) (by rfl) ?yb2 ?rb2
  case yb2 => (intro W hW; go_simp; try rfl)
  simp only [Act.put, List.setIfInBounds_toArray, List.set_cons_zero, List.set_cons_succ]
  refine wpq_val (v := ?vb3) (by rfl) ?yb3 ?rb3
  case yb3 => (intro W hW; go_simp; try rfl)
  simp only [Act.put, List.setIfInBounds_toArray, List.set_cons_zero, List.set_cons_succ]
  refine wpq_val (v := ?vb4) (by rfl) ?yb4 ?rb4
  case yb4 => (intro W hW; go_simp; try rfl)
  simp only [Act.put, List.setIfInBounds_toArray, List.set_cons_zero, List.set_cons_succ]
  refine wpq_load (by rfl) 24 _ rfl s 0 rfl ([.int .u32 b, .int .i64 g]) _ (fun W hW => hW.1.range) Try.underlying24 rfl (by kernel_rfl) ?_
  simp only [Act.put, List.setIfInBounds_toArray, List.set_cons_zero, List.set_cons_succ]
  refine wpq_val (v := ?vb6) (by rfl) ?yb6 ?rb6
  case yb6 => (intro W hW; go_simp; try rfl)
  simp only [Act.put, List.setIfInBounds_toArray, List.set_cons_zero, List.set_cons_succ]
  refine wpq_call (by rfl) G6.out (fun W => by (go_simp; done)) ?_
  simp only [Act.put, List.setIfInBounds_toArray, List.set_cons_zero, List.set_cons_succ]
  refine wpq_val (v := ?vb8) (by rfl) ?yb8 ?rb8
  case yb8 => (intro W hW; go_simp; try rfl)
  simp only [Act.put, List.setIfInBounds_toArray, List.set_cons_zero, List.set_cons_succ]
  refine wpq_val (v := ?vb9) (by rfl) ?yb9 ?rb9
  case yb9 => (intro W hW; have c1 := hW.1.c1; go_simp; try rfl)
  simp only [Act.put, List.setIfInBounds_toArray, List.set_cons_zero, List.set_cons_succ]
  refine wpq_val (v := ?vb10) (by rfl) ?yb10 ?rb10
  case yb10 => (intro W hW; go_simp; try rfl)
  simp only [Act.put, List.setIfInBounds_toArray, List.set_cons_zero, List.set_cons_succ]
  refine wpq_val (v := ?vb11) (by rfl) ?yb11 ?rb11
  case yb11 => (intro W hW; go_simp; try rfl)
  simp only [Act.put, List.setIfInBounds_toArray, List.set_cons_zero, List.set_cons_succ]
  refine wpq_val (v := ?vb12) (by rfl) ?yb12 ?rb12
  case yb12 => (intro W hW; go_simp; try rfl)
  simp only [Act.put, List.setIfInBounds_toArray, List.set_cons_zero, List.set_cons_succ]
  refine wpq_val (v := ?vb13) (by rfl) ?yb13 ?rb13
  case yb13 => (intro W hW; go_simp; try rfl)
  simp only [Act.put, List.setIfInBounds_toArray, List.set_cons_zero, List.set_cons_succ]
  refine wpq_val (v := ?vb14) (by rfl) ?yb14 ?rb14
  case yb14 => (intro W hW; go_simp; try rfl)
  simp only [Act.put, List.setIfInBounds_toArray, List.set_cons_zero, List.set_cons_succ]
  refine wpq_val (v := ?vb15) (by rfl) ?yb15 ?rb15
  case yb15 => (intro W hW; go_simp; try rfl)
  simp only [Act.put, List.setIfInBounds_toArray, List.set_cons_zero, List.set_cons_succ]
  refine wpq_val (v := ?vb16) (by rfl) ?yb16 ?rb16
  case yb16 => (intro W hW; go_simp; try rfl)
  simp only [Act.put, List.setIfInBounds_toArray, List.set_cons_zero, List.set_cons_succ]
  refine wpq_val (v := ?vb17) (by rfl) ?yb17 ?rb17
  case yb17 => (intro W hW; go_simp; try rfl)
  simp only [Act.put, List.setIfInBounds_toArray, List.set_cons_zero, List.set_cons_succ]
  refine wpq_call (by rfl) G7.out (fun W => by (go_simp; done)) ?_
  simp only [Act.put, List.setIfInBounds_toArray, List.set_cons_zero, List.set_cons_succ]
  refine wpq_val (v := ?vb19) (by rfl) ?yb19 ?rb19
  case yb19 => (intro W hW; go_simp; try rfl)
  simp only [Act.put, List.setIfInBounds_toArray, List.set_cons_zero, List.set_cons_succ]
  refine wpq_val (v := ?vb20) (by rfl) ?yb20 ?rb20
  case yb20 => (intro W hW; go_simp; try rfl)
  simp only [Act.put, List.setIfInBounds_toArray, List.set_cons_zero, List.set_cons_succ]
  refine wpQuiet_nil ?_
  intro W hW
  have HB := Lib.hid hW.2
  clear hW
  go_wp2
  go_ret
  exact ⟨rfl, HB.out⟩
end Go.Proofs.Ytmjgjojmnjpaoaa
