/-
  The law on words in which bytes are replaced: it returns true for every two words, place and size, and leaves all that was in memory as it was.
-/
import Derived.Test.YthlljmjefejemaaWalkI
namespace Go.Proofs.Ythlljmjefejemaa
open Go.RowKit

theorem own_four {w : World} {B : Nat} {x : Value} {l : List Int} (h : w.ownsRow B 5 1 x 4 (cs l)) : ∃ g cap, x = .slice (some ⟨g, 0, none⟩) 4 cap ∧ B ≤ g ∧ g < w.heap.size := by
  rcases own_open h with ⟨h0, _⟩ | ⟨g, cap, rfl, h1, h2, _⟩
  · omega
  · exact ⟨g, cap, rfl, h1, h2⟩
/-- The two rows of the reference's Merge after k rounds. -/
structure Two (w wr : World) (old v a s : Int) (B g1 c1 g2 c2 k : Nat) : Prop where
  one : wr.ownsRow w.heap.size 5 1 (.slice (some ⟨g1, 0, none⟩) 4 c1) 4 (cs (BM.mm old v a s k))
  two : wr.ownsRow B 5 1 (.slice (some ⟨g2, 0, none⟩) 4 c2) 4 (cs (BM.bl v 4))
  below : Below w.heap.size w wr
theorem Two.cell1 {w wr : World} {old v a s : Int} {B g1 c1 g2 c2 k : Nat} (h : Two w wr old v a s B g1 c1 g2 c2 k) (hk : k < 4) : ∃ c, wr.cell? ⟨g1, k, none⟩ = some (.int .u8 c) := by
  rcases own_open h.one with ⟨h0, _⟩ | ⟨g, cap, e, _, _, hc⟩
  · omega
  · simp only [Value.slice.injEq, Option.some.injEq, Addr.mk.injEq, and_true, true_and] at e
    obtain ⟨rfl, rfl⟩ := e
    exact ⟨_, hc k hk⟩
theorem Two.cell2 {w wr : World} {old v a s : Int} {B g1 c1 g2 c2 k : Nat} (h : Two w wr old v a s B g1 c1 g2 c2 k) (i : Nat) (hi : i < 4) : wr.cell? ⟨g2, i, none⟩ = some (.int .u8 (BM.bb v i)) := by
  rcases own_open h.two with ⟨h0, _⟩ | ⟨g, cap, e, _, _, hc⟩
  · omega
  · simp only [Value.slice.injEq, Option.some.injEq, Addr.mk.injEq, and_true, true_and] at e
    obtain ⟨rfl, rfl⟩ := e
    rw [hc i hi, BM.bl_get v 4 i hi]
theorem Two.store {w wr : World} {old v a s : Int} {B g1 c1 g2 c2 k : Nat} (h : Two w wr old v a s B g1 c1 g2 c2 k) (hne : g1 ≠ g2) (hb : w.heap.size ≤ g1) (hin : BM.inn a s k = true) :
    Two w (wr.setCell ⟨g1, k, none⟩ (.int .u8 (BM.bb v ((k : Int) - a).toNat))) old v a s B g1 c1 g2 c2 (k + 1) := by
  have h1 := h.one.stored k (.int .u8 (BM.bb v ((k : Int) - a).toNat))
  refine ⟨?_, h.two.kept h1.2 (.inr ?_), h.below.setCell hb _⟩
  · have e : (cs (BM.mm old v a s k)).set k (.int .u8 (BM.bb v ((k : Int) - a).toNat)) = cs (BM.mm old v a s (k + 1)) := by
      rw [← BM.mm_set old v a s k hin]; simp [cs]
    rw [← e]; exact h1.1
  · simp only [Value.ownBlock, ne_eq, Option.some.injEq]; omega
theorem Two.skip {w wr : World} {old v a s : Int} {B g1 c1 g2 c2 k : Nat} (h : Two w wr old v a s B g1 c1 g2 c2 k) (hin : BM.inn a s k = false) : Two w wr old v a s B g1 c1 g2 c2 (k + 1) :=
  ⟨by rw [BM.mm_skip old v a s k hin]; exact h.one, h.two, h.below⟩

set_option maxHeartbeats 1600000 in
theorem rmerge_any (old v at' size : Int) (w : World) (ho0 : 0 ≤ old) (ho : old < 4294967296) (hv0 : 0 ≤ v) (hv : v < 4294967296) :
    Calls Try.prog 29 #[.int .u32 old, .int .u32 v, .int .i64 at', .int .i64 size] w fun e w' => e = .returned (.int .u32 (BM.mg old v at' size)) ∧ Below w.heap.size w w' := by
  obtain ⟨ha0, ha1⟩ := BM.cl_bd at' (-4) 4 (by omega)
  obtain ⟨hs0, hs1⟩ := BM.cl_bd size 0 4 (by omega)
  have HM := Lib.hid (BM.wo_mm old v at' size ho0 hv0)
  have H4 := Lib.hid (show BM.cl 4 0 4 = ((4 : Nat) : Int) by decide)
  go_enter Try.func29, Try.ntmps29
  go_wp2_with (first | (go_at_call 32; refine (brought_any _ _ _ _).mono ?_; rintro e w' ⟨rfl, rfl⟩))
  refine (rbytes_any old 4 4 w ho0 ho H4 (by omega)).mono ?_
  rintro e w1 ⟨x1, rfl, hm1⟩
  obtain ⟨g1, c1, rfl, hg1, hg1'⟩ := own_four hm1.1
  have M1 := Lib.hid hm1
  clear hm1
  go_wp2_with (fail)
  refine (rbytes_any v 4 4 w1 hv0 hv H4 (by omega)).mono ?_
  rintro e w2 ⟨x2, rfl, hm2⟩
  obtain ⟨g2, c2, rfl, hg2, hg2'⟩ := own_four hm2.1
  have T0 : Hid (Two w w2 old v (BM.cl at' (-4) 4) (BM.cl size 0 4) w1.heap.size g1 c1 g2 c2 0) :=
    ⟨by rw [BM.mm_zero]; exact own_below M1.out.1 hm2.2, hm2.1, M1.out.2.trans (hm2.2.mono M1.out.2.size)⟩
  clear hm2 M1
  go_wp2
  go_loopw [11] (fun i wr => ∃ k : Nat, (k : Int) ≤ 4 ∧ i = .int .i64 k ∧ Two w wr old v (BM.cl at' (-4) 4) (BM.cl size 0 4) w1.heap.size g1 c1 g2 c2 k) (fun i _ => (4 - intOf i).toNat)
  case atStart => exact ⟨0, by omega, rfl, T0.out⟩
  case round =>
    obtain ⟨k, hk, rfl, hT⟩ := hrel
    have HT := Lib.hid hT
    clear hT
    by_cases hlt : (k : Int) < 4
    · by_cases g0 : BM.cl at' (-4) 4 ≤ (k : Int)
      · by_cases gg : (k : Int) - BM.cl at' (-4) 4 < BM.cl size 0 4
        · have HR := Lib.hid (HT.out.store (by omega) hg1 (by unfold BM.inn; simp only [Bool.and_eq_true, decide_eq_true_eq]; omega))
          obtain ⟨c, hc1⟩ := HT.out.cell1 (by omega)
          have hc2 := HT.out.cell2 ((k : Int) - BM.cl at' (-4) 4).toNat (by omega)
          have hfr := HT.out.one.frozenAt k
          go_wp2
          go_roundw
          case rel => exact ⟨k + 1, by omega, by go_num, HR.out⟩
          case measure => simp [intOf]; omega
        · have HR := Lib.hid (HT.out.skip (by unfold BM.inn; simp only [Bool.and_eq_false_iff, decide_eq_false_iff_not]; omega))
          have g2' : BM.cl size 0 4 ≤ (k : Int) - BM.cl at' (-4) 4 := by omega
          clear gg
          have hd : decide ((k : Int) - BM.cl at' (-4) 4 < BM.cl size 0 4) = false := by simp; omega
          go_wp2
          go_roundw
          case rel => exact ⟨k + 1, by omega, by go_num, HR.out⟩
          case measure => simp [intOf]; omega
      · have HR := Lib.hid (HT.out.skip (by unfold BM.inn; simp only [Bool.and_eq_false_iff, decide_eq_false_iff_not]; omega))
        have g2' : (k : Int) < BM.cl at' (-4) 4 := by omega
        clear g0
        have hd : decide (BM.cl at' (-4) 4 ≤ (k : Int)) = false := by simp; omega
        go_wp2
        go_roundw
        case rel => exact ⟨k + 1, by omega, by go_num, HR.out⟩
        case measure => simp [intOf]; omega
    · go_wp2_with (go_at_call 27; refine (rof_own _ 4 _ _ _ (by omega) (BM.mm_Bs _ _ _ _ _) HT.out.one).mono ?_; rintro e w' ⟨rfl, hd'⟩)
      go_ret
      obtain rfl : k = 4 := by omega
      exact ⟨ret_int HM.out, HT.out.below.trans (hd'.below.mono HT.out.below.size)⟩
set_option maxHeartbeats 1600000 in
theorem merges_walk (old v p s : Int) (w : World) (ho0 : 0 ≤ old) (ho : old < 4294967296) (hv0 : 0 ≤ v) (hv : v < 4294967296) :
    Calls Try.prog 9 #[.int .u32 old, .int .u32 v, .agg #[.int .i64 p, .int .i64 s]] w fun e w' => e = .returned (.bool true) ∧ Below w.heap.size w w' := by
  obtain ⟨m0, m1⟩ := BM.mg_bd old v p s
  have e1 : (BM.mg (BM.mg old v p s) old 0 4 == old) = true := by rw [BM.mg_whole _ old ho0 ho]; exact beq_self_eq_true _
  have e2 : (BM.mg old v 0 4 == v) = true := by rw [BM.mg_whole _ v hv0 hv]; exact beq_self_eq_true _
  go_enter Try.func9, Try.ntmps9
  go_wp2_with (first | (go_at_call 28; refine (merge_any _ _ _ _ _ (by omega) (by omega) (by omega)).mono ?_; rintro e w' ⟨rfl, rfl⟩) | (go_at_call 29; refine (rmerge_any _ _ _ _ _ (by omega) (by omega) (by omega) (by omega)).mono ?_; rintro e w' ⟨rfl, hb⟩) | (go_at_call 14; refine (awake_any _).mono ?_; rintro e w' ⟨rfl, n1, rfl⟩))
  go_ret
  refine ⟨rfl, below_drewN ?_ _⟩
  exact ((Below.refl _ _).alloc (Nat.le_refl _) _).trans (hb.mono (by simp))
end Go.Proofs.Ythlljmjefejemaa
