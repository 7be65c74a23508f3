/-
  The laws' own look at an image, its text and a sum (awake) answers true.
-/
import Derived.Test.YtcilhippjiichaaDoorSame
import Derived.Test.YtcilhippjiichaaDoorGk
import Derived.Test.YtcilhippjiichaaDoorWalkJ
import Derived.Test.YtcilhippjiichaaDoorWalkL
namespace Go.Proofs.YtcilhippjiichaaDoor
open Go.RowKit Go.Maps S02
namespace RM
def wakeL : List (Nat × List UInt8) := [(0, [5, 0, 64, 100])]
theorem wake_tx : tx 0 wakeL = [115, 101, 103, 32, 48, 48, 48, 48, 48, 48, 48, 48, 32, 48, 53, 48, 48, 52, 48, 54, 52, 32, 53, 55, 10, 115, 116, 97, 114, 116, 32, 48, 48, 48, 48, 48, 48, 48, 48, 32, 48, 48, 10] := by decide
theorem wake_rt : rt wakeL = 0 := by decide
end RM
theorem wake_sg {w W : World} (h0 : W.heap[w.heap.size]? = some (.cells #[.int .u8 5, .int .u8 0, .int .u8 64, .int .u8 100] 5 (0, 0))) (h1 : W.heap[w.heap.size + 1]? = some (.cells #[.int .u32 0, .slice (some ⟨w.heap.size, 0, none⟩) 4 4] 51 (0, 0))) : SgR W (.slice (some ⟨w.heap.size + 1, 0, none⟩) 1 1) RM.wakeL := by
  refine .inr ⟨by simp [RM.wakeL], w.heap.size + 1, 0, 1, rfl, fun j p hp => ?_⟩
  match j, hp with
  | 0, hp =>
    simp only [RM.wakeL, List.getElem?_cons_zero, Option.some.injEq] at hp
    subst hp
    refine ⟨cell_of h1 rfl, _, cell_of h1 rfl, .inr ⟨by simp, w.heap.size, 0, 4, rfl, by decide, by unfold maxLen; decide, fun i hi => ?_⟩⟩
    match i, hi with
    | 0, _ => exact cell_of h0 rfl
    | 1, _ => exact cell_of h0 rfl
    | 2, _ => exact cell_of h0 rfl
    | 3, _ => exact cell_of h0 rfl
theorem own_one {w : World} {N n : Nat} {v : Value} {ps : List (Nat × Value × List UInt8)} (h : SG N w v ps) (hl : ps.length = n) : ∃ A c, v = .slice A n c := by
  subst hl
  exact own_form h.own
set_option maxHeartbeats 4000000 in
theorem awake_any (w : World) (ht : Tabs w) (hm : Mx w) : Calls Tryd.prog 10 #[] w fun e w' => e = .returned (.bool true) ∧ Below w.heap.size w w' := by
  have HT := Lib.hid ht
  have HM := Lib.hid hm
  have H2 := Lib.hid (below_two w (.cells #[.int .u8 5, .int .u8 0, .int .u8 64, .int .u8 100] 5) (.cells #[.int .u32 0, .slice (some ⟨w.heap.size, 0, none⟩) 4 4] 51))
  have HS := Lib.hid (wake_sg (w := w) (W := (w.alloc (.cells #[.int .u8 5, .int .u8 0, .int .u8 64, .int .u8 100] 5)).alloc (.cells #[.int .u32 0, .slice (some ⟨w.heap.size, 0, none⟩) 4 4] 51)) (by rw [Below.heap_alloc _ _ _ (by simp)]; exact heap_alloc_new w _) (by
    have := heap_alloc_new (w.alloc (.cells #[.int .u8 5, .int .u8 0, .int .u8 64, .int .u8 100] 5)) (.cells #[.int .u32 0, .slice (some ⟨w.heap.size, 0, none⟩) 4 4] 51)
    simpa using this))
  have HX := Lib.hid (text_yes (st := 0) HS.out (by decide) RM.wake_rt (HT.out.on H2.out))
  rw [RM.wake_tx] at HX
  clear ht hm
  go_enter Tryd.func10, Tryd.ntmps10
  go_upto_region 2 with (go_at_call 16; refine HX.out.mono ?_; rintro e w1 ⟨rfl, hb1⟩; have HB1 := Lib.hid (H2.out.trans (hb1.mono H2.out.size)); clear hb1)
  have HP := Lib.hid (parse_any ⟨#[115, 101, 103, 32, 48, 48, 48, 48, 48, 48, 48, 48, 32, 48, 53, 48, 48, 52, 48, 54, 52, 32, 53, 55, 10, 115, 116, 97, 114, 116, 32, 48, 48, 48, 48, 48, 48, 48, 48, 32, 48, 48, 10]⟩ w1 (by decide) (HM.out.on HB1.out))
  unfold PsPost at HP
  rw [← RM.wake_tx, RM.PA_tx RM.wake_rt (by decide), RM.wake_tx] at HP
  go_upto_region 3 with (go_at_call 20; refine HP.out.mono ?_; rintro e w2 ⟨v, ps, rfl, hsg, hsp, hb2⟩; obtain ⟨A, c, rfl⟩ := own_one hsg (n := 1) (by have := congrArg List.length hsp; simpa [RM.wakeL] using this); have HB2 := Lib.hid (HB1.out.trans (hb2.mono HB1.out.size)); clear hb2 hsg hsp)
  have HI := Lib.hid (heap_alloc_new w2 (.cells #[.int .u32 0, .slice A 1 c] 25))
  have HB3 := Lib.hid (HB2.out.alloc HB2.out.size (.cells #[.int .u32 0, .slice A 1 c] 25))
  obtain ⟨W3, hW3⟩ : ∃ W3, w2.alloc (.cells #[.int .u32 0, .slice A 1 c] 25) = W3 := ⟨_, rfl⟩
  rw [hW3] at HI HB3 ⊢
  clear hW3
  have i1 := cell_of (o := 1) HI.out rfl
  have HB4 := Lib.hid (HB3.out.alloc HB3.out.size (.cells #[.int .u8 200, .int .u8 100] 5))
  have HY := Lib.hid (sum_any (w := W3.alloc (.cells #[.int .u8 200, .int .u8 100] 5)) (v := .slice (some ⟨W3.heap.size, 0, none⟩) 2 2) (bs := [200, 100]) (.inr ⟨by simp, W3.heap.size, 0, 2, rfl, by decide, by unfold maxLen; decide, fun i hi => by
    match i, hi with
    | 0, _ => exact cell_of (heap_alloc_new W3 _) rfl
    | 1, _ => exact cell_of (heap_alloc_new W3 _) rfl⟩) (by decide))
  rw [show RM.ng (RM.tot [200, 100]) = 212 from rfl] at HY
  go_wp2_with (go_at_call 18; refine HY.out.mono ?_; rintro e w5 ⟨rfl, rfl⟩)
  go_ret
  exact ⟨rfl, HB4.out⟩
end Go.Proofs.YtcilhippjiichaaDoor
