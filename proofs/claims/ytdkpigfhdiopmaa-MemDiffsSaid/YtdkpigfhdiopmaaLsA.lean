/-
  The law on memory's size and its locations: it returns true for every memory and location, and leaves all that was in memory as it was.
-/
import Derived.Test.YtdkpigfhdiopmaaWalkI
import Derived.StillTailTactics
namespace Go.Proofs.Ytdkpigfhdiopmaa
open Go.RowKit Go.Maps S01
theorem turned {P : Program} {f : FuncId} {us : Array Value} {W : World} {v : Value} (h : Calls P f us W fun e w' => e = .returned v ∧ W = w') : Calls P f us W fun e w' => e = .returned v ∧ w' = W := h.mono fun _ _ ⟨h1, h2⟩ => ⟨h1, h2.symm⟩
set_option maxHeartbeats 3200000 in
theorem checks_walk {W : World} {v : Value} {bs : List UInt8} (x s : Int) (hv : ByR W v bs) (hn : bs.length ≤ maxLen) (h0 : 0 ≤ x) (hx : x < 4294967296) :
    Calls Try.prog 3 #[v, .agg #[.int .u32 x, .int .i64 s]] W fun e w' => e = .returned (.bool true) ∧ Below W.heap.size W w' := by
  obtain ⟨A, c, rfl⟩ := by_form hv
  obtain ⟨n, hnn⟩ : ∃ n, bs.length = n := ⟨_, rfl⟩
  rw [hnn] at hv hn ⊢
  have hm : n ≤ 9223372036854775807 := hn
  clear hv hnn
  have H1 := Lib.hid (fun w => turned (right_any A n c w hn))
  have H2 := Lib.hid (fun w => turned (rright_any A n c w hn))
  have H3 := Lib.hid (fun w => turned (check_any A n c x s w hn h0 hx))
  have H4 := Lib.hid (fun w => turned (rcheck_any A n c x s w hn h0 hx))
  have H5 := Lib.hid (fun w => turned (line_any x w h0 hx))
  generalize MM.rg n = r at H1 H2
  generalize MM.ck n x s = k at H3 H4
  clear hn
  by_cases hbig : (20000 : Int) < n
  · go_enter Try.func3, Try.ntmps3
    go_wp2_with (go_at_call 8; refine (awake_any _).mono ?_; rintro e w1 ⟨rfl, hb1⟩; have HB1 := Lib.hid (below_then (below_one W _) hb1); clear hb1)
    go_ret
    exact ⟨rfl, HB1.out⟩
  · go_enter Try.func3, Try.ntmps3
    go_upto_region 3 with fail
    obtain ⟨W1, hW1⟩ : ∃ W1, W.alloc (.cells #[.int .u32 x, .int .i64 s] 25) = W1 := ⟨_, rfl⟩
    have HB := Lib.hid (show Below W.heap.size W W1.drew from hW1 ▸ (below_one W _).drew)
    have c0 : W1.drew.cell? ⟨W.heap.size, 0, none⟩ = some (.int .u32 x) := cell_of (w := W1) (hW1 ▸ heap_alloc_new W _) rfl
    have c1 : W1.drew.cell? ⟨W.heap.size, 1, none⟩ = some (.int .i64 s) := cell_of (w := W1) (hW1 ▸ heap_alloc_new W _) rfl
    rw [hW1]
    clear hW1
    refine wp_region_still_tail 30 (by kernel_rfl) (by kernel_rfl) ?_
    change wpStill _ _ W1.drew (fun a' => wpList _ _ _ _ a' W1.drew) _ _
    generalize W1.drew = W2 at *
    simp only [List.take_succ_cons, List.take_zero, List.drop_succ_cons, List.drop_zero]
    repeat (first | still_step | still_call (H1.out _) | still_call (H2.out _) | still_call (H3.out _) | still_call (H4.out _) | still_call (H5.out _))
    refine wpStill_nil ?_
    go_wp2_with (go_at_call 8; refine (awake_any _).mono ?_; rintro e w1 ⟨rfl, hb1⟩; have HB1 := Lib.hid (HB.out.trans (hb1.mono HB.out.size)); clear hb1)
    go_ret
    exact ⟨rfl, HB1.out⟩
end Go.Proofs.Ytdkpigfhdiopmaa
