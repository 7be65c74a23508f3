/-
  The law on where accesses go: it returns true for every core, slice of bytes and access, and leaves all that was in memory as it was.
-/
import Derived.Test.YtbeenmglgdhbjaaWalkJ
namespace Go.Proofs.Ytbeenmglgdhbjaa
open Go.RowKit Go.Maps S01 S10 S11 S12
/-- An ask lies in the block s. -/
def Qk (w : World) (s : Nat) (va a : Int) : Prop := w.heap[s]? = some (.cells #[.int .u32 va, .int .i64 a] 37 (0, 0))
theorem Qk.c0 {w : World} {s : Nat} {va a : Int} (h : Qk w s va a) : w.cell? ⟨s, 0, none⟩ = some (.int .u32 va) := cell_of h rfl
theorem Qk.c1 {w : World} {s : Nat} {va a : Int} (h : Qk w s va a) : w.cell? ⟨s, 1, none⟩ = some (.int .i64 a) := cell_of h rfl
theorem Qk.lt {w : World} {s : Nat} {va a : Int} (h : Qk w s va a) : s < w.heap.size := lt_of_heap h
theorem Qk.below {w w1 : World} {s : Nat} {va a : Int} (h : Qk w s va a) (hb : Below w.heap.size w w1) : Qk w1 s va a := (hb.block s h.lt).trans h
theorem Qk.drew {w : World} {s : Nat} {va a : Int} (h : Qk w s va a) : Qk w.drew s va a := h
theorem Qk.new (w : World) (va a : Int) : Qk (w.alloc (.cells #[.int .u32 va, .int .i64 a] 37)) w.heap.size va a := heap_alloc_new w _
/-- A core and an ask lie there, and nothing that was there is changed. -/
def KeptA (w : World) (s t : Nat) (f : Nat → Int) (h : Bool) (va a : Int) (v : World) : Prop := Bk v s f h ∧ Qk v t va a ∧ Below w.heap.size w v
theorem keptA_call {w : World} {s t : Nat} {f : Nat → Int} {h : Bool} {va a : Int} {F : FuncId} {args : Array Value} {u : Value} (hc : ∀ W, Calls Try.prog F args W fun e w' => e = .returned u ∧ Below W.heap.size W w') :
    ∀ v, KeptA w s t f h va a v → Calls Try.prog F args v fun e v' => e = .returned u ∧ KeptA w s t f h va a v' :=
  fun v hv => (hc v).mono fun _ _ ⟨he, hb⟩ => ⟨he, hv.1.below hb, hv.2.1.below hb, below_then hv.2.2 hb⟩
theorem keptA_same {w : World} {s t : Nat} {f : Nat → Int} {h : Bool} {va a : Int} {F : FuncId} {args : Array Value} {u : Value} (hc : ∀ W, Calls Try.prog F args W fun e w' => e = .returned u ∧ W = w') :
    ∀ v, KeptA w s t f h va a v → Calls Try.prog F args v fun e v' => e = .returned u ∧ KeptA w s t f h va a v' :=
  fun v hv => (hc v).mono fun _ _ ⟨he, hb⟩ => ⟨he, hb ▸ hv⟩
/-- An ask by value. -/
def QV (va a : Int) : Value := .agg #[.int .u32 va, .int .i64 a]
set_option maxHeartbeats 3200000 in
theorem trans_walk {w : World} {v : Value} {bs : List UInt8} (f : Nat → Int) (h : Bool) (va a : Int) (hf : CM.Ok f) (hv : ByR w v bs) (hn : bs.length ≤ maxLen) (a0 : 0 ≤ va) (a1 : va < 4294967296) :
    Calls Try.prog 4 #[AR f h, v, QV va a] w fun e w' => e = .returned (.bool true) ∧ Below w.heap.size w w' := by
  have HA := Lib.hid awake_any
  have K0 := Lib.hid ((Bk.new w f h).below (below_one _ (.cells #[.int .u32 va, .int .i64 a] 37)))
  have Q0 := Lib.hid (show Qk ((w.alloc (.cells (AC f h).toArray 35)).alloc (.cells #[.int .u32 va, .int .i64 a] 37)) (w.heap.size + 1) va a by have e := Qk.new (w.alloc (.cells (AC f h).toArray 35)) va a; rwa [show (w.alloc (.cells (AC f h).toArray 35)).heap.size = w.heap.size + 1 by simp] at e)
  have B0 := Lib.hid (below_then (below_one w (.cells (AC f h).toArray 35)) (below_one _ (.cells #[.int .u32 va, .int .i64 a] 37)))
  by_cases hl : bs.length ≤ 4096
  · have H1 := Lib.hid (fun (W : World) (hb : Below w.heap.size w W) => trans_any (w := W) f h va a hf (hv.below hb) hn a0 a1)
    have H2 := Lib.hid (fun (W : World) (hb : Below w.heap.size w W) => rtrans_any (w := W) f h va a hf (hv.below hb) hn a0 a1)
    have H14 := fun W => paged_any f h W hf
    have H15 := fun W => rpaged_any f h W hf
    have H16 := fun W => fault_any a W
    have H17 := fun W => rfault_any a W
    generalize WK.tr f bs va a = r at *
    obtain ⟨x, y⟩ := r
    dsimp only at H1 H2
    generalize WK.pg f = pg at *
    generalize WK.fl a = fa at *
    obtain ⟨A, cc, rfl⟩ := by_form hv
    have hd : decide (4096 < (bs.length : Int)) = false := by simp; omega
    clear hv hn a0 a1 hf
    generalize bs.length = n at *
    unfold AR QV at *
    go_enter Try.func4, Try.ntmps4
    go_upto_region 1 with fail
    generalize World.alloc _ _ = W0 at K0 Q0 B0 ⊢
    have R0 := Lib.hid K0.out.range
    go_upto_region 3 with fail
    generalize w.heap.size + 1 = t at *
    have c0 := Q0.out.c0
    have c1 := Q0.out.c1
    go_upto_region 4 with (first | (refine wpList_load_mid rfl 35 _ rfl w.heap.size 0 rfl (AC f h) _ R0.out Try.underlying35 rfl (by kernel_rfl) ?_) | (go_at_call 12; (with_reducible refine (H1.out _ B0.out).mono ?_); rintro e w1 ⟨rfl, hb⟩; have B1 := Lib.hid (below_then B0.out hb); have K1 := Lib.hid (K0.out.below hb); have Q1 := Lib.hid (Q0.out.below hb); clear hb))
    have R1 := Lib.hid K1.out.range
    have d0 := Q1.out.c0
    have d1 := Q1.out.c1
    clear c0 c1 K0 Q0 B0 R0
    go_upto_region 5 with (first | (refine wpList_load_mid rfl 35 _ rfl w.heap.size 0 rfl (AC f h) _ R1.out Try.underlying35 rfl (by kernel_rfl) ?_) | (go_at_call 13; (with_reducible refine (H2.out _ B1.out).mono ?_); rintro e w2 ⟨rfl, hb⟩; have B2 := Lib.hid (below_then B1.out hb); have K2 := Lib.hid (K1.out.below hb); have Q2 := Lib.hid (Q1.out.below hb); clear hb))
    clear d0 d1 K1 Q1 B1 R1 H1 H2
    have G14 := Lib.hid (keptA_call (w := w) (s := w.heap.size) (t := t) (f := f) (h := h) (va := va) (a := a) H14)
    have G15 := Lib.hid (keptA_call (w := w) (s := w.heap.size) (t := t) (f := f) (h := h) (va := va) (a := a) H15)
    have G16 := Lib.hid (keptA_same (w := w) (s := w.heap.size) (t := t) (f := f) (h := h) (va := va) (a := a) H16)
    have G17 := Lib.hid (keptA_same (w := w) (s := w.heap.size) (t := t) (f := f) (h := h) (va := va) (a := a) H17)
    have G8 := Lib.hid (keptA_call (w := w) (s := w.heap.size) (t := t) (f := f) (h := h) (va := va) (a := a) HA.out)
    clear H14 H15 H16 H17 HA
    refine wp_region_calm (KeptA w w.heap.size t f h va a) (by kernel_rfl) (by kernel_rfl) ⟨K2.out.drew, Q2.out.drew, B2.out.drew⟩ ?_
    refine wpq_val (v := ?vr0) (by rfl) ?yr0 ?rr0
    case yr0 => (intro W hW; go_simp; try rfl)
    simp only [Act.put, List.setIfInBounds_toArray, List.set_cons_zero, List.set_cons_succ]
    refine wpq_val (v := ?vr1) (by rfl) ?yr1 ?rr1
    case yr1 => (intro W hW; go_simp; try rfl)
    simp only [Act.put, List.setIfInBounds_toArray, List.set_cons_zero, List.set_cons_succ]
    refine wpq_val (v := ?vr2) (by rfl) ?yr2 ?rr2
    case yr2 => (intro W hW; go_simp; try rfl)
    simp only [Act.put, List.setIfInBounds_toArray, List.set_cons_zero, List.set_cons_succ]
    refine wpq_val (v := ?vr3) (by rfl) ?yr3 ?rr3
    case yr3 => (intro W hW; go_simp; try rfl)
    simp only [Act.put, List.setIfInBounds_toArray, List.set_cons_zero, List.set_cons_succ]
    refine wpq_val (v := ?vr4) (by rfl) ?yr4 ?rr4
    case yr4 => (intro W hW; go_simp; try rfl)
    simp only [Act.put, List.setIfInBounds_toArray, List.set_cons_zero, List.set_cons_succ]
    refine wpq_val (v := ?vr5) (by rfl) ?yr5 ?rr5
    case yr5 => (intro W hW; go_simp; try rfl)
    simp only [Act.put, List.setIfInBounds_toArray, List.set_cons_zero, List.set_cons_succ]
    refine wpq_val (v := ?vr6) (by rfl) ?yr6 ?rr6
    case yr6 => (intro W hW; go_simp; try rfl)
    simp only [Act.put, List.setIfInBounds_toArray, List.set_cons_zero, List.set_cons_succ]
    refine wpq_val (v := ?vr7) (by rfl) ?yr7 ?rr7
    case yr7 => (intro W hW; go_simp; try rfl)
    simp only [Act.put, List.setIfInBounds_toArray, List.set_cons_zero, List.set_cons_succ]
    refine wpq_val (v := ?vr8) (by rfl) ?yr8 ?rr8
    case yr8 => (intro W hW; go_simp; try rfl)
    simp only [Act.put, List.setIfInBounds_toArray, List.set_cons_zero, List.set_cons_succ]
    refine wpq_load (by rfl) 35 _ rfl w.heap.size 0 rfl (AC f h) _ (fun W hW => hW.1.range) Try.underlying35 rfl (by kernel_rfl) ?_
    simp only [Act.put, List.setIfInBounds_toArray, List.set_cons_zero, List.set_cons_succ]
    refine wpq_call (by rfl) G14.out (fun W => by (go_simp; done)) ?_
    simp only [Act.put, List.setIfInBounds_toArray, List.set_cons_zero, List.set_cons_succ]
    refine wpq_load (by rfl) 35 _ rfl w.heap.size 0 rfl (AC f h) _ (fun W hW => hW.1.range) Try.underlying35 rfl (by kernel_rfl) ?_
    simp only [Act.put, List.setIfInBounds_toArray, List.set_cons_zero, List.set_cons_succ]
    refine wpq_call (by rfl) G15.out (fun W => by (go_simp; done)) ?_
    simp only [Act.put, List.setIfInBounds_toArray, List.set_cons_zero, List.set_cons_succ]
    refine wpq_val (v := ?vr13) (by rfl) ?yr13 ?rr13
    case yr13 => (intro W hW; go_simp; try rfl)
    simp only [Act.put, List.setIfInBounds_toArray, List.set_cons_zero, List.set_cons_succ]
    refine wpq_val (v := ?vr14) (by rfl) ?yr14 ?rr14
    case yr14 => (intro W hW; go_simp; try rfl)
    simp only [Act.put, List.setIfInBounds_toArray, List.set_cons_zero, List.set_cons_succ]
    refine wpq_val (v := ?vr15) (by rfl) ?yr15 ?rr15
    case yr15 => (intro W hW; go_simp; try rfl)
    simp only [Act.put, List.setIfInBounds_toArray, List.set_cons_zero, List.set_cons_succ]
    refine wpq_val (v := ?vr16) (by rfl) ?yr16 ?rr16
    case yr16 => (intro W hW; go_simp; try rfl)
    simp only [Act.put, List.setIfInBounds_toArray, List.set_cons_zero, List.set_cons_succ]
    refine wpq_val (v := ?vr17) (by rfl) ?yr17 ?rr17
    case yr17 => (intro W hW; have d1 := hW.2.1.c1; go_simp; try rfl)
    simp only [Act.put, List.setIfInBounds_toArray, List.set_cons_zero, List.set_cons_succ]
    refine wpq_call (by rfl) G16.out (fun W => by (go_simp; done)) ?_
    simp only [Act.put, List.setIfInBounds_toArray, List.set_cons_zero, List.set_cons_succ]
    refine wpq_val (v := ?vr19) (by rfl) ?yr19 ?rr19
    case yr19 => (intro W hW; go_simp; try rfl)
    simp only [Act.put, List.setIfInBounds_toArray, List.set_cons_zero, List.set_cons_succ]
    refine wpq_val (v := ?vr20) (by rfl) ?yr20 ?rr20
    case yr20 => (intro W hW; have d1 := hW.2.1.c1; go_simp; try rfl)
    simp only [Act.put, List.setIfInBounds_toArray, List.set_cons_zero, List.set_cons_succ]
    refine wpq_call (by rfl) G17.out (fun W => by (go_simp; done)) ?_
    simp only [Act.put, List.setIfInBounds_toArray, List.set_cons_zero, List.set_cons_succ]
    refine wpq_val (v := ?vr22) (by rfl) ?yr22 ?rr22
    case yr22 => (intro W hW; go_simp; try rfl)
    simp only [Act.put, List.setIfInBounds_toArray, List.set_cons_zero, List.set_cons_succ]
    refine wpq_val (v := ?vr23) (by rfl) ?yr23 ?rr23
    case yr23 => (intro W hW; go_simp; try rfl)
    simp only [Act.put, List.setIfInBounds_toArray, List.set_cons_zero, List.set_cons_succ]
    refine wpq_val (v := ?vr24) (by rfl) ?yr24 ?rr24
    case yr24 => (intro W hW; go_simp; try rfl)
    simp only [Act.put, List.setIfInBounds_toArray, List.set_cons_zero, List.set_cons_succ]
    refine wpq_call (by rfl) G8.out (fun W => by (go_simp; done)) ?_
    simp only [Act.put, List.setIfInBounds_toArray, List.set_cons_zero, List.set_cons_succ]
    refine wpq_val (v := ?vr26) (by rfl) ?yr26 ?rr26
    case yr26 => (intro W hW; go_simp; try rfl)
    simp only [Act.put, List.setIfInBounds_toArray, List.set_cons_zero, List.set_cons_succ]
    refine wpq_val (v := ?vr27) (by rfl) ?yr27 ?rr27
    case yr27 => (intro W hW; go_simp; try rfl)
    simp only [Act.put, List.setIfInBounds_toArray, List.set_cons_zero, List.set_cons_succ]
    refine wpQuiet_nil ?_
    intro W hW
    have HB := Lib.hid hW.2.2
    clear hW
    go_wp2
    go_ret
    exact ⟨rfl, HB.out⟩
  · obtain ⟨A, cc, rfl⟩ := by_form hv
    have hd : decide (4096 < (bs.length : Int)) = true := by simp; omega
    clear hv hn a0 a1 hf
    generalize bs.length = n at *
    unfold AR QV
    go_enter Try.func4, Try.ntmps4
    go_upto_region 1 with fail
    generalize World.alloc _ _ = W0 at K0 Q0 B0 ⊢
    go_wp2_with (go_at_call 8; (with_reducible refine (HA.out _).mono ?_); rintro e w6 ⟨rfl, hb⟩; have B6 := Lib.hid (below_then B0.out hb); clear hb)
    go_ret
    exact ⟨rfl, B6.out⟩
end Go.Proofs.Ytbeenmglgdhbjaa
