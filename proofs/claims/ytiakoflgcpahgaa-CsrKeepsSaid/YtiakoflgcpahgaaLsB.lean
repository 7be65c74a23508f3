/-
  The law on reads: it returns true for every core and register, and leaves all that was in memory as it was.
-/
import Derived.Test.YtiakoflgcpahgaaLsA
import Derived.Test.YtiakoflgcpahgaaCalm
namespace Go.Proofs.Ytiakoflgcpahgaa
open Go.RowKit S01 S10
/-- The core lies in the block s, and nothing that was there is changed. -/
def Kept (w : World) (s : Nat) (f : Nat → Int) (h : Bool) (v : World) : Prop := Bk v s f h ∧ Below w.heap.size w v
theorem kept_call {w : World} {s : Nat} {f : Nat → Int} {h : Bool} {F : FuncId} {args : Array Value} {u : Value} (hc : ∀ W, Calls Try.prog F args W fun e w' => e = .returned u ∧ Below W.heap.size W w') :
    ∀ v, Kept w s f h v → Calls Try.prog F args v fun e v' => e = .returned u ∧ Kept w s f h v' :=
  fun v hv => (hc v).mono fun _ _ ⟨he, hb⟩ => ⟨he, hv.1.below hb, below_then hv.2 hb⟩
theorem kept_same {w : World} {s : Nat} {f : Nat → Int} {h : Bool} {F : FuncId} {args : Array Value} {u : Value} (hc : ∀ W, Calls Try.prog F args W fun e w' => e = .returned u ∧ W = w') :
    ∀ v, Kept w s f h v → Calls Try.prog F args v fun e v' => e = .returned u ∧ Kept w s f h v' :=
  fun v hv => (hc v).mono fun _ _ ⟨he, hb⟩ => ⟨he, hb ▸ hv⟩
set_option maxHeartbeats 1600000 in
theorem reads_walk (f : Nat → Int) (h : Bool) (n : Int) (w : World) (hf : CM.Ok f) :
    Calls Try.prog 3 #[AR f h, .int .i64 n] w fun e w' => e = .returned (.bool true) ∧ Below w.heap.size w w' := by
  have H1 := Lib.hid (fun W => read_any f h n W hf)
  have H2 := Lib.hid (fun W => rread_any f h n W hf)
  have H3 := Lib.hid (fun W => kernel_any f h W hf)
  have H4 := Lib.hid (fun W => rkernel_any f h W hf)
  have H5 := Lib.hid (fun W => masked_any n W)
  have H6 := Lib.hid (fun W => rmasked_any n W)
  generalize CM.rv f n = v at H1 H2
  generalize CM.rk f n = c at H1 H2
  generalize CM.km f = km at H3 H4
  generalize CM.mk n = m at H5 H6
  clear hf
  unfold AR at H1 H2 H3 H4 ⊢
  go_enter Try.func3, Try.ntmps3
  go_upto_region 1 with fail
  have K0 := Lib.hid (Bk.new w f h)
  have B0 := Lib.hid (below_one w (.cells (AC f h).toArray 26))
  generalize World.alloc w _ = W0 at K0 B0 ⊢
  have R0 := Lib.hid K0.out.range
  go_upto_region 3 with (first | (refine wpList_load_mid rfl 26 _ rfl w.heap.size 0 rfl (AC f h) _ R0.out Try.underlying26 rfl (by kernel_rfl) ?_) | (go_at_call 8; (with_reducible refine (H1.out _).mono ?_); rintro e w1 ⟨rfl, hb⟩; have B1 := Lib.hid (below_then B0.out hb); have K1 := Lib.hid (K0.out.below hb); have R1 := Lib.hid (K0.out.below hb).range; clear hb) | (refine wpList_load_mid rfl 26 _ rfl w.heap.size 0 rfl (AC f h) _ R1.out Try.underlying26 rfl (by kernel_rfl) ?_) | (go_at_call 9; (with_reducible refine (H2.out _).mono ?_); rintro e w2 ⟨rfl, hb⟩; have B2 := Lib.hid (below_then B1.out hb); have K2 := Lib.hid (K1.out.below hb); clear hb))
  clear R0 R1 K0 B0 K1 B1 H1 H2
  have G3 := Lib.hid (kept_call (w := w) (s := w.heap.size) (f := f) (h := h) H3.out)
  have G4 := Lib.hid (kept_call (w := w) (s := w.heap.size) (f := f) (h := h) H4.out)
  have G5 := Lib.hid (kept_call (w := w) (s := w.heap.size) (f := f) (h := h) H5.out)
  have G6 := Lib.hid (kept_same (w := w) (s := w.heap.size) (f := f) (h := h) H6.out)
  have G7 := Lib.hid (kept_call (w := w) (s := w.heap.size) (f := f) (h := h) awake_any)
  clear H3 H4 H5 H6
  refine wp_region_calm (Kept w w.heap.size f h) (by kernel_rfl) (by kernel_rfl) ⟨K2.out.drew, B2.out.drew⟩ ?_
  refine wpq_load (by rfl) 26 _ rfl w.heap.size 0 rfl (AC f h) _ (fun W hW => hW.1.range) Try.underlying26 rfl (by kernel_rfl) ?_
  simp only [Act.put, List.setIfInBounds_toArray, List.set_cons_zero, List.set_cons_succ]
  refine wpq_call (by rfl) G3.out (fun W => by (go_simp; done)) ?_
  simp only [Act.put, List.setIfInBounds_toArray, List.set_cons_zero, List.set_cons_succ]
  refine wpq_load (by rfl) 26 _ rfl w.heap.size 0 rfl (AC f h) _ (fun W hW => hW.1.range) Try.underlying26 rfl (by kernel_rfl) ?_
  simp only [Act.put, List.setIfInBounds_toArray, List.set_cons_zero, List.set_cons_succ]
  refine wpq_call (by rfl) G4.out (fun W => by (go_simp; done)) ?_
  simp only [Act.put, List.setIfInBounds_toArray, List.set_cons_zero, List.set_cons_succ]
  refine wpq_val (v := ?v4) (by rfl) ?y4 ?r4
  case y4 => (intro W hW; go_simp; try rfl)
  simp only [Act.put, List.setIfInBounds_toArray, List.set_cons_zero, List.set_cons_succ]
  refine wpq_val (v := ?v5) (by rfl) ?y5 ?r5
  case y5 => (intro W hW; go_simp; try rfl)
  simp only [Act.put, List.setIfInBounds_toArray, List.set_cons_zero, List.set_cons_succ]
  refine wpq_val (v := ?v6) (by rfl) ?y6 ?r6
  case y6 => (intro W hW; go_simp; try rfl)
  simp only [Act.put, List.setIfInBounds_toArray, List.set_cons_zero, List.set_cons_succ]
  refine wpq_call (by rfl) G5.out (fun W => by (go_simp; done)) ?_
  simp only [Act.put, List.setIfInBounds_toArray, List.set_cons_zero, List.set_cons_succ]
  refine wpq_val (v := ?v8) (by rfl) ?y8 ?r8
  case y8 => (intro W hW; go_simp; try rfl)
  simp only [Act.put, List.setIfInBounds_toArray, List.set_cons_zero, List.set_cons_succ]
  refine wpq_call (by rfl) G6.out (fun W => by (go_simp; done)) ?_
  simp only [Act.put, List.setIfInBounds_toArray, List.set_cons_zero, List.set_cons_succ]
  refine wpq_val (v := ?v10) (by rfl) ?y10 ?r10
  case y10 => (intro W hW; go_simp; try rfl)
  simp only [Act.put, List.setIfInBounds_toArray, List.set_cons_zero, List.set_cons_succ]
  refine wpq_val (v := ?v11) (by rfl) ?y11 ?r11
  case y11 => (intro W hW; go_simp; try rfl)
  simp only [Act.put, List.setIfInBounds_toArray, List.set_cons_zero, List.set_cons_succ]
  refine wpq_val (v := ?v12) (by rfl) ?y12 ?r12
  case y12 => (intro W hW; go_simp; try rfl)
  simp only [Act.put, List.setIfInBounds_toArray, List.set_cons_zero, List.set_cons_succ]
  refine wpq_val (v := ?v13) (by rfl) ?y13 ?r13
  case y13 => (intro W hW; go_simp; try rfl)
  simp only [Act.put, List.setIfInBounds_toArray, List.set_cons_zero, List.set_cons_succ]
  refine wpq_val (v := ?v14) (by rfl) ?y14 ?r14
  case y14 => (intro W hW; go_simp; try rfl)
  simp only [Act.put, List.setIfInBounds_toArray, List.set_cons_zero, List.set_cons_succ]
  refine wpq_val (v := ?v15) (by rfl) ?y15 ?r15
  case y15 => (intro W hW; go_simp; try rfl)
  simp only [Act.put, List.setIfInBounds_toArray, List.set_cons_zero, List.set_cons_succ]
  refine wpq_val (v := ?v16) (by rfl) ?y16 ?r16
  case y16 => (intro W hW; go_simp; try rfl)
  simp only [Act.put, List.setIfInBounds_toArray, List.set_cons_zero, List.set_cons_succ]
  refine wpq_val (v := ?v17) (by rfl) ?y17 ?r17
  case y17 => (intro W hW; go_simp; try rfl)
  simp only [Act.put, List.setIfInBounds_toArray, List.set_cons_zero, List.set_cons_succ]
  refine wpq_val (v := ?v18) (by rfl) ?y18 ?r18
  case y18 => (intro W hW; go_simp; try rfl)
  simp only [Act.put, List.setIfInBounds_toArray, List.set_cons_zero, List.set_cons_succ]
  refine wpq_val (v := ?v19) (by rfl) ?y19 ?r19
  case y19 => (intro W hW; go_simp; try rfl)
  simp only [Act.put, List.setIfInBounds_toArray, List.set_cons_zero, List.set_cons_succ]
  refine wpq_val (v := ?v20) (by rfl) ?y20 ?r20
  case y20 => (intro W hW; go_simp; try rfl)
  simp only [Act.put, List.setIfInBounds_toArray, List.set_cons_zero, List.set_cons_succ]
  refine wpq_val (v := ?v21) (by rfl) ?y21 ?r21
  case y21 => (intro W hW; go_simp; try rfl)
  simp only [Act.put, List.setIfInBounds_toArray, List.set_cons_zero, List.set_cons_succ]
  refine wpq_val (v := ?v22) (by rfl) ?y22 ?r22
  case y22 => (intro W hW; go_simp; try rfl)
  simp only [Act.put, List.setIfInBounds_toArray, List.set_cons_zero, List.set_cons_succ]
  refine wpq_call (by rfl) G7.out (fun W => by (go_simp; done)) ?_
  simp only [Act.put, List.setIfInBounds_toArray, List.set_cons_zero, List.set_cons_succ]
  refine wpq_val (v := ?v24) (by rfl) ?y24 ?r24
  case y24 => (intro W hW; go_simp; try rfl)
  simp only [Act.put, List.setIfInBounds_toArray, List.set_cons_zero, List.set_cons_succ]
  refine wpq_val (v := ?v25) (by rfl) ?y25 ?r25
  case y25 => (intro W hW; go_simp; try rfl)
  simp only [Act.put, List.setIfInBounds_toArray, List.set_cons_zero, List.set_cons_succ]
  refine wpQuiet_nil ?_
  intro W hW
  have HB := Lib.hid hW.2
  clear hW
  go_wp2
  go_ret
  exact ⟨rfl, HB.out⟩
end Go.Proofs.Ytiakoflgcpahgaa
