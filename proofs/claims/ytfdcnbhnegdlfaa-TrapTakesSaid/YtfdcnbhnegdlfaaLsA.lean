/-
  The law on traps taken: it returns true for every core, cause and event, and leaves all that was in memory as it was. And what the laws keep: a core in a block, an event in another.
-/
import Derived.Test.YtfdcnbhnegdlfaaWalkG
namespace Go.Proofs.Ytfdcnbhnegdlfaa
open Go.RowKit S01 S10 S11
/-- An event whose place is p and whose value is v lies in the block s. -/
def Ev (w : World) (s : Nat) (p v : Int) : Prop := ∃ E : Array Value, w.heap[s]? = some (.cells E 28 (0, 0)) ∧ E[0]? = some (.int .u32 p) ∧ E[3]? = some (.int .u32 v)
theorem Ev.at0 {w : World} {s : Nat} {p v : Int} (h : Ev w s p v) : w.cell? ⟨s, 0, none⟩ = some (.int .u32 p) := by
  obtain ⟨E, h1, h2, -⟩ := h; exact cell_of h1 h2
theorem Ev.at3 {w : World} {s : Nat} {p v : Int} (h : Ev w s p v) : w.cell? ⟨s, 3, none⟩ = some (.int .u32 v) := by
  obtain ⟨E, h1, -, h3⟩ := h; exact cell_of h1 h3
theorem Ev.below {w w1 : World} {s : Nat} {p v : Int} (h : Ev w s p v) (hb : Below w.heap.size w w1) : Ev w1 s p v := by
  obtain ⟨E, h1, h2, h3⟩ := h
  exact ⟨E, (hb.block s (lt_of_heap h1)).trans h1, h2, h3⟩
theorem Ev.drew {w : World} {s : Nat} {p v : Int} (h : Ev w s p v) : Ev w.drew s p v := h
theorem Ev.other {w : World} {s s' : Nat} {p v : Int} (h : Ev w s p v) (hs : s ≠ s') (k : Nat) (x : Value) : Ev (w.setCell ⟨s', k, none⟩ x) s p v := by
  obtain ⟨E, h1, h2, h3⟩ := h
  exact ⟨E, (heap_other hs).trans h1, h2, h3⟩
/-- A core and an event, each in a new block. -/
theorem ce_new (w : World) (f : Nat → Int) (h : Bool) (E : Array Value) (p v : Int) (h0 : E[0]? = some (.int .u32 p)) (h3 : E[3]? = some (.int .u32 v)) :
    Bk ((w.alloc (.cells (AC f h).toArray 26)).alloc (.cells E 28)) w.heap.size f h ∧ Ev ((w.alloc (.cells (AC f h).toArray 26)).alloc (.cells E 28)) (w.heap.size + 1) p v ∧ Below w.heap.size w ((w.alloc (.cells (AC f h).toArray 26)).alloc (.cells E 28)) := by
  refine ⟨(Bk.new w f h).more _, ⟨E, ?_, h0, h3⟩, below_then (below_one _ _) (below_one _ _)⟩
  have := heap_alloc_new (w.alloc (.cells (AC f h).toArray 26)) (.cells E 28)
  rwa [show (w.alloc (.cells (AC f h).toArray 26)).heap.size = w.heap.size + 1 by simp] at this
/-- The core lies in the block s, the event behind it, and nothing that was there is changed. -/
def KeptE (w : World) (s t : Nat) (f : Nat → Int) (h : Bool) (p v : Int) (W : World) : Prop := Bk W s f h ∧ Ev W t p v ∧ Below w.heap.size w W
theorem keptE_call {w : World} {s t : Nat} {f : Nat → Int} {h : Bool} {p v : Int} {F : FuncId} {args : Array Value} {u : Value} (hc : ∀ W, Calls Try.prog F args W fun e w' => e = .returned u ∧ Below W.heap.size W w') :
    ∀ W, KeptE w s t f h p v W → Calls Try.prog F args W fun e w' => e = .returned u ∧ KeptE w s t f h p v w' :=
  fun W hW => (hc W).mono fun _ _ ⟨he, hb⟩ => ⟨he, hW.1.below hb, hW.2.1.below hb, below_then hW.2.2 hb⟩
set_option maxHeartbeats 1600000 in
theorem takes_walk (f : Nat → Int) (h : Bool) (c : Int) (E : Array Value) (p v : Int) (w : World) (hf : CM.Ok f) (h0 : E[0]? = some (.int .u32 p)) (h3 : E[3]? = some (.int .u32 v)) (hp : CM.Wd p) (hv : CM.Wd v) :
    Calls Try.prog 3 #[AR f h, .int .i64 c, .agg E] w fun e w' => e = .returned (.bool true) ∧ Below w.heap.size w w' := by
  have H1 := Lib.hid (fun W => take_any f h c v p W hf hv hp)
  have H2 := Lib.hid (fun W => rtake_any f h c v p W hf hv hp)
  have T := Lib.hid (ce_new w f h E p v h0 h3)
  clear hf hp hv h0 h3
  generalize TR.tk f c v p = g at H1 H2
  have hE := same_core g h
  unfold AR at H1 H2 ⊢
  go_enter Try.func3, Try.ntmps3
  go_upto_region 1 with fail
  generalize World.alloc (World.alloc w _) _ = W0 at T ⊢
  have G1 := Lib.hid (keptE_call (w := w) (s := w.heap.size) (t := w.heap.size + 1) (f := f) (h := h) (p := p) (v := v) H1.out)
  have G2 := Lib.hid (keptE_call (w := w) (s := w.heap.size) (t := w.heap.size + 1) (f := f) (h := h) (p := p) (v := v) H2.out)
  have G3 := Lib.hid (keptE_call (w := w) (s := w.heap.size) (t := w.heap.size + 1) (f := f) (h := h) (p := p) (v := v) awake_any)
  refine wp_region_calm (KeptE w w.heap.size (w.heap.size + 1) f h p v) (by kernel_rfl) (by kernel_rfl) ⟨T.out.1.drew, T.out.2.1.drew, T.out.2.2.drew⟩ ?_
  refine wpq_load (by rfl) 26 _ rfl w.heap.size 0 rfl (AC f h) _ (fun W hW => hW.1.range) Try.underlying26 rfl (by kernel_rfl) ?_
  simp only [Act.put, List.setIfInBounds_toArray, List.set_cons_zero, List.set_cons_succ]
  refine wpq_val (v := ?v1) (by rfl) ?y1 ?r1
  case y1 => (intro W hW; go_simp; try rfl)
  simp only [Act.put, List.setIfInBounds_toArray, List.set_cons_zero, List.set_cons_succ]
  refine wpq_val (v := ?v2) (by rfl) ?y2 ?r2
  case y2 => (intro W hW; go_simp; try rfl)
  simp only [Act.put, List.setIfInBounds_toArray, List.set_cons_zero, List.set_cons_succ]
  refine wpq_val (v := ?v3) (by rfl) ?y3 ?r3
  case y3 => (intro W hW; have q0 := hW.2.1.at0; have q3 := hW.2.1.at3; go_simp; try rfl)
  simp only [Act.put, List.setIfInBounds_toArray, List.set_cons_zero, List.set_cons_succ]
  refine wpq_val (v := ?v4) (by rfl) ?y4 ?r4
  case y4 => (intro W hW; go_simp; try rfl)
  simp only [Act.put, List.setIfInBounds_toArray, List.set_cons_zero, List.set_cons_succ]
  refine wpq_val (v := ?v5) (by rfl) ?y5 ?r5
  case y5 => (intro W hW; have q0 := hW.2.1.at0; have q3 := hW.2.1.at3; go_simp; try rfl)
  simp only [Act.put, List.setIfInBounds_toArray, List.set_cons_zero, List.set_cons_succ]
  refine wpq_call (by rfl) G1.out (fun W => by (go_simp; done)) ?_
  simp only [Act.put, List.setIfInBounds_toArray, List.set_cons_zero, List.set_cons_succ]
  refine wpq_load (by rfl) 26 _ rfl w.heap.size 0 rfl (AC f h) _ (fun W hW => hW.1.range) Try.underlying26 rfl (by kernel_rfl) ?_
  simp only [Act.put, List.setIfInBounds_toArray, List.set_cons_zero, List.set_cons_succ]
  refine wpq_val (v := ?v8) (by rfl) ?y8 ?r8
  case y8 => (intro W hW; go_simp; try rfl)
  simp only [Act.put, List.setIfInBounds_toArray, List.set_cons_zero, List.set_cons_succ]
  refine wpq_val (v := ?v9) (by rfl) ?y9 ?r9
  case y9 => (intro W hW; go_simp; try rfl)
  simp only [Act.put, List.setIfInBounds_toArray, List.set_cons_zero, List.set_cons_succ]
  refine wpq_val (v := ?v10) (by rfl) ?y10 ?r10
  case y10 => (intro W hW; have q0 := hW.2.1.at0; have q3 := hW.2.1.at3; go_simp; try rfl)
  simp only [Act.put, List.setIfInBounds_toArray, List.set_cons_zero, List.set_cons_succ]
  refine wpq_val (v := ?v11) (by rfl) ?y11 ?r11
  case y11 => (intro W hW; go_simp; try rfl)
  simp only [Act.put, List.setIfInBounds_toArray, List.set_cons_zero, List.set_cons_succ]
  refine wpq_val (v := ?v12) (by rfl) ?y12 ?r12
  case y12 => (intro W hW; have q0 := hW.2.1.at0; have q3 := hW.2.1.at3; go_simp; try rfl)
  simp only [Act.put, List.setIfInBounds_toArray, List.set_cons_zero, List.set_cons_succ]
  refine wpq_call (by rfl) G2.out (fun W => by (go_simp; done)) ?_
  simp only [Act.put, List.setIfInBounds_toArray, List.set_cons_zero, List.set_cons_succ]
  refine wpq_val (v := ?v14) (by rfl) ?y14 ?r14
  case y14 => (intro W hW; go_simp; try rfl)
  simp only [Act.put, List.setIfInBounds_toArray, List.set_cons_zero, List.set_cons_succ]
  refine wpq_val (v := ?v15) (by rfl) ?y15 ?r15
  case y15 => (intro W hW; go_simp; try rfl)
  simp only [Act.put, List.setIfInBounds_toArray, List.set_cons_zero, List.set_cons_succ]
  refine wpq_call (by rfl) G3.out (fun W => by (go_simp; done)) ?_
  simp only [Act.put, List.setIfInBounds_toArray, List.set_cons_zero, List.set_cons_succ]
  refine wpq_val (v := ?v17) (by rfl) ?y17 ?r17
  case y17 => (intro W hW; go_simp; try rfl)
  simp only [Act.put, List.setIfInBounds_toArray, List.set_cons_zero, List.set_cons_succ]
  refine wpq_val (v := ?v18) (by rfl) ?y18 ?r18
  case y18 => (intro W hW; go_simp; try rfl)
  simp only [Act.put, List.setIfInBounds_toArray, List.set_cons_zero, List.set_cons_succ]
  refine wpQuiet_nil ?_
  intro W hW
  have HB := Lib.hid hW.2.2
  clear hW
  go_wp2
  go_ret
  exact ⟨rfl, HB.out⟩
end Go.Proofs.Ytfdcnbhnegdlfaa
