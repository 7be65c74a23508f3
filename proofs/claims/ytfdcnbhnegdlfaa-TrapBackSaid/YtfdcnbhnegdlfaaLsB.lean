/-
  The law on interrupts, breakpoints and single steps: it returns true for every core and place, and leaves all that was in memory as it was.
-/
import Derived.Test.YtfdcnbhnegdlfaaWalkG
namespace Go.Proofs.Ytfdcnbhnegdlfaa
open Go.RowKit S01 S10 S11
/-- The core lies in the block s, and nothing that was there is changed. -/
def Kept (w : World) (s : Nat) (f : Nat → Int) (h : Bool) (v : World) : Prop := Bk v s f h ∧ Below w.heap.size w v
theorem kept_call {w : World} {s : Nat} {f : Nat → Int} {h : Bool} {F : FuncId} {args : Array Value} {u : Value} (hc : ∀ W, Calls Try.prog F args W fun e w' => e = .returned u ∧ Below W.heap.size W w') :
    ∀ v, Kept w s f h v → Calls Try.prog F args v fun e v' => e = .returned u ∧ Kept w s f h v' :=
  fun v hv => (hc v).mono fun _ _ ⟨he, hb⟩ => ⟨he, hv.1.below hb, below_then hv.2 hb⟩
set_option maxHeartbeats 1600000 in
theorem asks_walk (f : Nat → Int) (h : Bool) (p : Int) (w : World) (hf : CM.Ok f) (hp : CM.Wd p) :
    Calls Try.prog 5 #[AR f h, .int .u32 p] w fun e w' => e = .returned (.bool true) ∧ Below w.heap.size w w' := by
  have H1 := Lib.hid (fun W => pend_any f h W hf)
  have H2 := Lib.hid (fun W => rpend_any f h W hf)
  have H3 := Lib.hid (fun W => stops_any f h p W hf hp)
  have H4 := Lib.hid (fun W => rstops_any f h p W hf hp)
  have H5 := Lib.hid (fun W => single_any f h W hf)
  have H6 := Lib.hid (fun W => rsingle_any f h W hf)
  clear hf hp
  generalize TR.pd f = x1 at H1 H2
  generalize TR.st f p = x2 at H3 H4
  generalize TR.sg f = x3 at H5 H6
  unfold AR at H1 H2 H3 H4 H5 H6 ⊢
  go_enter Try.func5, Try.ntmps5
  go_upto_region 1 with fail
  have K0 := Lib.hid (Bk.new w f h)
  have B0 := Lib.hid (below_one w (.cells (AC f h).toArray 26))
  generalize World.alloc w _ = W0 at K0 B0 ⊢
  have G1 := Lib.hid (kept_call (w := w) (s := w.heap.size) (f := f) (h := h) H1.out)
  have G2 := Lib.hid (kept_call (w := w) (s := w.heap.size) (f := f) (h := h) H2.out)
  have G3 := Lib.hid (kept_call (w := w) (s := w.heap.size) (f := f) (h := h) H3.out)
  have G4 := Lib.hid (kept_call (w := w) (s := w.heap.size) (f := f) (h := h) H4.out)
  have G5 := Lib.hid (kept_call (w := w) (s := w.heap.size) (f := f) (h := h) H5.out)
  have G6 := Lib.hid (kept_call (w := w) (s := w.heap.size) (f := f) (h := h) H6.out)
  have G7 := Lib.hid (kept_call (w := w) (s := w.heap.size) (f := f) (h := h) awake_any)
  clear H1 H2 H3 H4 H5 H6
  refine wp_region_calm (Kept w w.heap.size f h) (by kernel_rfl) (by kernel_rfl) ⟨K0.out.drew, B0.out.drew⟩ ?_
  refine wpq_load (by rfl) 26 _ rfl w.heap.size 0 rfl (AC f h) _ (fun W hW => hW.1.range) Try.underlying26 rfl (by kernel_rfl) ?_
  simp only [Act.put, List.setIfInBounds_toArray, List.set_cons_zero, List.set_cons_succ]
  refine wpq_call (by rfl) G1.out (fun W => by (go_simp; done)) ?_
  simp only [Act.put, List.setIfInBounds_toArray, List.set_cons_zero, List.set_cons_succ]
  refine wpq_load (by rfl) 26 _ rfl w.heap.size 0 rfl (AC f h) _ (fun W hW => hW.1.range) Try.underlying26 rfl (by kernel_rfl) ?_
  simp only [Act.put, List.setIfInBounds_toArray, List.set_cons_zero, List.set_cons_succ]
  refine wpq_call (by rfl) G2.out (fun W => by (go_simp; done)) ?_
  simp only [Act.put, List.setIfInBounds_toArray, List.set_cons_zero, List.set_cons_succ]
  refine wpq_val (v := ?v4) (by rfl) ?y4 ?r4
  case y4 => (intro W hW; go_simp; try rfl)
  simp only [Act.put, List.setIfInBounds_toArray, List.set_cons_zero, List.set_cons_succ]
  refine wpq_val (v := ?v5) (by rfl) ?y5 ?r5
  case y5 => (intro W hW; go_simp; try rfl)
  simp only [Act.put, List.setIfInBounds_toArray, List.set_cons_zero, List.set_cons_succ]
  refine wpq_load (by rfl) 26 _ rfl w.heap.size 0 rfl (AC f h) _ (fun W hW => hW.1.range) Try.underlying26 rfl (by kernel_rfl) ?_
  simp only [Act.put, List.setIfInBounds_toArray, List.set_cons_zero, List.set_cons_succ]
  refine wpq_val (v := ?v7) (by rfl) ?y7 ?r7
  case y7 => (intro W hW; go_simp; try rfl)
  simp only [Act.put, List.setIfInBounds_toArray, List.set_cons_zero, List.set_cons_succ]
  refine wpq_call (by rfl) G3.out (fun W => by (go_simp; done)) ?_
  simp only [Act.put, List.setIfInBounds_toArray, List.set_cons_zero, List.set_cons_succ]
  refine wpq_load (by rfl) 26 _ rfl w.heap.size 0 rfl (AC f h) _ (fun W hW => hW.1.range) Try.underlying26 rfl (by kernel_rfl) ?_
  simp only [Act.put, List.setIfInBounds_toArray, List.set_cons_zero, List.set_cons_succ]
  refine wpq_val (v := ?v10) (by rfl) ?y10 ?r10
  case y10 => (intro W hW; go_simp; try rfl)
  simp only [Act.put, List.setIfInBounds_toArray, List.set_cons_zero, List.set_cons_succ]
  refine wpq_call (by rfl) G4.out (fun W => by (go_simp; done)) ?_
  simp only [Act.put, List.setIfInBounds_toArray, List.set_cons_zero, List.set_cons_succ]
  refine wpq_val (v := ?v12) (by rfl) ?y12 ?r12
  case y12 => (intro W hW; go_simp; try rfl)
  simp only [Act.put, List.setIfInBounds_toArray, List.set_cons_zero, List.set_cons_succ]
  refine wpq_val (v := ?v13) (by rfl) ?y13 ?r13
  case y13 => (intro W hW; go_simp; try rfl)
  simp only [Act.put, List.setIfInBounds_toArray, List.set_cons_zero, List.set_cons_succ]
  refine wpq_val (v := ?v14) (by rfl) ?y14 ?r14
  case y14 => (intro W hW; go_simp; try rfl)
  simp only [Act.put, List.setIfInBounds_toArray, List.set_cons_zero, List.set_cons_succ]
  refine wpq_load (by rfl) 26 _ rfl w.heap.size 0 rfl (AC f h) _ (fun W hW => hW.1.range) Try.underlying26 rfl (by kernel_rfl) ?_
  simp only [Act.put, List.setIfInBounds_toArray, List.set_cons_zero, List.set_cons_succ]
  refine wpq_call (by rfl) G5.out (fun W => by (go_simp; done)) ?_
  simp only [Act.put, List.setIfInBounds_toArray, List.set_cons_zero, List.set_cons_succ]
  refine wpq_load (by rfl) 26 _ rfl w.heap.size 0 rfl (AC f h) _ (fun W hW => hW.1.range) Try.underlying26 rfl (by kernel_rfl) ?_
  simp only [Act.put, List.setIfInBounds_toArray, List.set_cons_zero, List.set_cons_succ]
  refine wpq_call (by rfl) G6.out (fun W => by (go_simp; done)) ?_
  simp only [Act.put, List.setIfInBounds_toArray, List.set_cons_zero, List.set_cons_succ]
  refine wpq_val (v := ?v19) (by rfl) ?y19 ?r19
  case y19 => (intro W hW; go_simp; try rfl)
  simp only [Act.put, List.setIfInBounds_toArray, List.set_cons_zero, List.set_cons_succ]
  refine wpq_val (v := ?v20) (by rfl) ?y20 ?r20
  case y20 => (intro W hW; go_simp; try rfl)
  simp only [Act.put, List.setIfInBounds_toArray, List.set_cons_zero, List.set_cons_succ]
  refine wpq_val (v := ?v21) (by rfl) ?y21 ?r21
  case y21 => (intro W hW; go_simp; try rfl)
  simp only [Act.put, List.setIfInBounds_toArray, List.set_cons_zero, List.set_cons_succ]
  refine wpq_call (by rfl) G7.out (fun W => by (go_simp; done)) ?_
  simp only [Act.put, List.setIfInBounds_toArray, List.set_cons_zero, List.set_cons_succ]
  refine wpq_val (v := ?v23) (by rfl) ?y23 ?r23
  case y23 => (intro W hW; go_simp; try rfl)
  simp only [Act.put, List.setIfInBounds_toArray, List.set_cons_zero, List.set_cons_succ]
  refine wpq_val (v := ?v24) (by rfl) ?y24 ?r24
  case y24 => (intro W hW; go_simp; try rfl)
  simp only [Act.put, List.setIfInBounds_toArray, List.set_cons_zero, List.set_cons_succ]
  refine wpQuiet_nil ?_
  intro W hW
  have HB := Lib.hid hW.2
  clear hW
  go_wp2
  go_ret
  exact ⟨rfl, HB.out⟩
end Go.Proofs.Ytfdcnbhnegdlfaa
