/-
  The chapter's examples hold; nothing that was there is changed.
-/
import Derived.Test.YtdkpigfhdiopmaaWalkH
namespace Go.Proofs.Ytdkpigfhdiopmaa
open Go.RowKit Go.Maps S01
theorem zeros_by {w w1 : World} (hown : w1.ownsRow w.heap.size 5 1 (.slice (some ⟨w.heap.size, 0, none⟩) 64 64) 64 (madeCells (Value.int .u8 0).cells (64 * 1)).toList) : ByR w1 (.slice (some ⟨w.heap.size, 0, none⟩) 64 64) (List.replicate 64 0) := by
  refine ByR.of_own (N := w.heap.size) ?_
  have e : (madeCells (Value.int .u8 0).cells (64 * 1)).toList = byC (List.replicate 64 0) := by
    show (madeCells #[Value.int .u8 0] (64 * 1)).toList = _
    rw [toList_madeCells_one, Nat.mul_one, byC, List.map_replicate]
    rfl
  rw [e] at hown
  rw [List.length_replicate]
  exact hown
theorem ex_facts : ∃ T, MM.wt (List.replicate 64 0) 4 2 258 = T ∧ T.length = 64 ∧ MM.rd T 5 1 = 1 := ⟨_, rfl, by decide +kernel, by decide +kernel⟩
set_option maxHeartbeats 1600000 in
theorem awake_any (w : World) : Calls Try.prog 8 #[] w fun e w' => e = .returned (.bool true) ∧ Below w.heap.size w w' := by
  obtain ⟨i0, hi, hz0, hz1, hz2⟩ := info_parts info5
  have HI := Lib.hid (And.intro hi (And.intro hz0 (And.intro hz1 hz2)))
  clear hi hz0 hz1 hz2
  obtain ⟨T, hT, hTl, hTr⟩ := ex_facts
  have HW := Lib.hid (fun (W : World) (v : Value) (h : ByR W v (List.replicate 64 0)) => write_any (w := W) (v := v) 4 2 258 h (by decide) (by decide) (by decide))
  rw [hT, List.length_replicate, show MM.ck 64 4 2 = 0 by decide, show ((258 : Nat) : Int) = 258 from rfl] at HW
  have HRD := Lib.hid (fun (W : World) (v : Value) (h : ByR W v T) => read_any (w := W) (v := v) 5 1 h (by rw [hTl]; decide) (by decide) (by decide))
  rw [hTr, hTl, show MM.ck 64 5 1 = 0 by decide] at HRD
  have HCK := Lib.hid (fun (a : Option Addr) (c : Nat) (W : World) => check_any a 64 c 62 4 W (by decide) (by decide) (by decide))
  rw [show MM.ck 64 62 4 = 9 by decide] at HCK
  have HRG := Lib.hid (fun (a : Option Addr) (c : Nat) (W : World) => right_any a 64 c W (by decide))
  rw [show MM.rg 64 = true by decide] at HRG
  have HTL := Lib.hid hTl
  clear hT hTl hTr
  go_enter Try.func8, Try.ntmps8
  go_wp2_with (first
    | (at_make; refine wpList_make_full _ rfl _ _ 22 rfl w.heap.size 5 i0 (.int .u8 0) 1 Try.underlying22 HI.out.1 HI.out.2.1 HI.out.2.2.1 .i64 .i64 _ _ 64 rfl rfl rfl rfl (by rw [HI.out.2.2.2]; decide) (by decide) (Nat.le_refl _) ?_; intro w1 hown hgrow; have HY := Lib.hid (zeros_by hown); have HB1 := Lib.hid ((Below.refl _ _).grown hgrow (Nat.le_refl _) (by intro k hk; cases hk)); clear hown hgrow)
    | (go_at_call 16; refine (HW.out _ _ HY.out).mono ?_; rintro e w2 ⟨v', rfl, hby, hb2⟩; obtain ⟨A, c, rfl⟩ := by_form hby; have HY2 := Lib.hid hby; have HB2 := Lib.hid (HB1.out.trans (hb2.mono HB1.out.size)); rw [HTL.out] at HY2; rw [HTL.out]; clear hby hb2)
    | (go_at_call 14; refine (HRD.out _ _ HY2.out).mono ?_; rintro e w3 ⟨rfl, rfl⟩)
    | (go_at_call 11; refine (HCK.out _ _ _).mono ?_; rintro e w4 ⟨rfl, rfl⟩)
    | (go_at_call 9; refine (HRG.out _ _ _).mono ?_; rintro e w5 ⟨rfl, rfl⟩))
  go_ret
  exact ⟨rfl, HB2.out⟩
end Go.Proofs.Ytdkpigfhdiopmaa
