/-
  The law on traps and returns: it returns true for every core, cause and event, and leaves all that was in memory as it was.
-/
import Derived.Test.YtfdcnbhnegdlfaaLsA
import Derived.BigRegion
namespace Go.Proofs.Ytfdcnbhnegdlfaa
open Go.RowKit S01 S10 S11
theorem core_51 {f : Nat → Int} (hf : CM.Ok f) : bits .and .u32 (f 17) 51 = CM.an (f 17) 51 := and_an _ 51 (hf 17 (by decide)) ⟨by decide, by decide⟩
/-- The core and the event lie there, another core besides, and nothing that was there is changed. -/
def KeptB (w : World) (s t u : Nat) (f g : Nat → Int) (h k : Bool) (p v : Int) (W : World) : Prop := KeptE w s t f h p v W ∧ Bk W u g k
theorem keptB_call {w : World} {s t u : Nat} {f g : Nat → Int} {h k : Bool} {p v : Int} {F : FuncId} {args : Array Value} {x : Value} (hc : ∀ W, Calls Try.prog F args W fun e w' => e = .returned x ∧ Below W.heap.size W w') :
    ∀ W, KeptB w s t u f g h k p v W → Calls Try.prog F args W fun e w' => e = .returned x ∧ KeptB w s t u f g h k p v w' :=
  fun W hW => (hc W).mono fun _ _ ⟨he, hb⟩ => ⟨he, ⟨hW.1.1.below hb, hW.1.2.1.below hb, below_then hW.1.2.2 hb⟩, hW.2.below hb⟩
set_option maxRecDepth 20000 in
set_option maxHeartbeats 4000000 in
theorem back_walk (f : Nat → Int) (h : Bool) (c : Int) (E : Array Value) (p v : Int) (w : World) (hf : CM.Ok f) (h0 : E[0]? = some (.int .u32 p)) (h3 : E[3]? = some (.int .u32 v)) (hp : CM.Wd p) (hv : CM.Wd v) :
    Calls Try.prog 6 #[AR f h, .int .i64 c, .agg E] w fun e w' => e = .returned (.bool true) ∧ Below w.heap.size w w' := by
  have T := Lib.hid (ce_new w f h E p v h0 h3)
  have go := TR.tk_ok hf c hv hp
  have ro := TR.bk_ok hf c hv hp
  have H1 := Lib.hid (fun W => take_any f h c v p W hf hv hp)
  have H2 := Lib.hid (fun W => kernel_any (TR.tk f c v p) h W go)
  have H3 := Lib.hid (fun W => pend_any (TR.tk f c v p) h W go)
  have H4 := Lib.hid (fun W => stops_any (TR.tk f c v p) h p W go hp)
  have H5 := Lib.hid (fun W => stops_any (TR.tk f c v p) h (f 21) W go (hf 21 (by decide)))
  have H6 := Lib.hid (fun W => single_any (TR.tk f c v p) h W go)
  have H7 := Lib.hid (fun W => ret_any (TR.tk f c v p) h W go)
  rw [TR.tk_km] at H2
  rw [TR.tk_pd] at H3
  rw [TR.tk_st] at H4 H5
  rw [TR.tk_sg] at H6
  rw [TR.tk_rt, TR.tk_rh, TR.tk_rc] at H7
  have J1 := Lib.hid (fun W => kernel_any (TR.bk f c v p) h W ro)
  have J2 := Lib.hid (fun W => kernel_any f h W hf)
  have J3 := Lib.hid (fun W => pend_any (TR.bk f c v p) h W ro)
  have J4 := Lib.hid (fun W => pend_any f h W hf)
  have J5 := Lib.hid (fun W => single_any (TR.bk f c v p) h W ro)
  have J6 := Lib.hid (fun W => single_any f h W hf)
  have J7 := Lib.hid (fun W => stops_any (TR.bk f c v p) h p W ro hp)
  have J8 := Lib.hid (fun W => stops_any f h p W hf hp)
  rw [TR.bk_km] at J1
  rw [TR.bk_pd] at J3
  rw [TR.bk_sg] at J5
  rw [TR.bk_st] at J7
  have X0 := Lib.hid (TR.tk_0 f c v p)
  have X1 := Lib.hid (TR.bk_0 f c v p)
  have m1 := core_51 hf
  have m2 := (core_51 ro).trans (TR.bk_51 hf c hv hp)
  have XB := Lib.hid (TR.bk_back f c v p)
  clear hp hv h0 h3 go ro
  generalize TR.tk f c v p = g at H1 H2 H3 H4 H5 H6 H7 X0
  generalize TR.bk f c v p = r at H7 J1 J3 J5 J7 X1 m2 XB
  generalize CM.an (f 17) 51 = m at m1 m2
  generalize CM.km f = y1 at J1 J2
  generalize TR.pd f = y2 at J3 J4
  generalize TR.sg f = y3 at J5 J6
  generalize TR.st f p = y4 at J7 J8
  have hE := same_core f h
  unfold AR at H1 H2 H3 H4 H5 H6 H7 J1 J2 J3 J4 J5 J6 J7 J8 ⊢
  go_enter Try.func6, Try.ntmps6
  go_upto_region 1 with fail
  generalize World.alloc (World.alloc w _) _ = W0 at T ⊢
  have R0 := Lib.hid T.out.1.range
  have c0 := T.out.2.1.at0
  have c3 := T.out.2.1.at3
  go_upto_region 2 with (first | (refine wpList_load_mid rfl 26 _ rfl w.heap.size 0 rfl (AC f h) _ R0.out Try.underlying26 rfl (by kernel_rfl) ?_) | (go_at_call 7; (with_reducible refine (H1.out _).mono ?_); rintro e w1 ⟨rfl, hb⟩; have HB1 := Lib.hid hb; clear hb; have hS := store_new w1 g h; have hl := AC_len g h))
  clear hS hl c0 c3
  have K1 := Lib.hid ((T.out.1.below HB1.out).more (.cells (AC g h).toArray 26))
  have V1 := Lib.hid ((T.out.2.1.below HB1.out).below (below_one w1 (.cells (AC g h).toArray 26)))
  have M1 := Lib.hid (Bk.new w1 g h)
  have B1 := Lib.hid (below_then (below_then T.out.2.2 HB1.out) (below_one w1 (.cells (AC g h).toArray 26)))
  generalize World.alloc _ _ = W1 at K1 V1 M1 B1 ⊢
  generalize w1.heap.size = s1 at *
  have R1 := Lib.hid M1.out.range
  go_upto_region 4 with (first | (refine wpList_load_wanted rfl 26 _ rfl s1 0 rfl (AC g h) _ R5.out Try.underlying26 rfl (by kernel_rfl) ?_) | (refine wpList_load_wanted rfl 26 _ rfl s1 0 rfl (AC g h) _ R4.out Try.underlying26 rfl (by kernel_rfl) ?_) | (refine wpList_load_wanted rfl 26 _ rfl s1 0 rfl (AC g h) _ R3.out Try.underlying26 rfl (by kernel_rfl) ?_) | (refine wpList_load_wanted rfl 26 _ rfl s1 0 rfl (AC g h) _ R2.out Try.underlying26 rfl (by kernel_rfl) ?_) | (refine wpList_load_mid rfl 26 _ rfl s1 0 rfl (AC g h) _ R1.out Try.underlying26 rfl (by kernel_rfl) ?_) | (go_at_call 18; (with_reducible refine (H2.out _).mono ?_); rintro e w2 ⟨rfl, hb⟩; have K2 := Lib.hid (K1.out.below hb); have V2 := Lib.hid (V1.out.below hb); have M2 := Lib.hid (M1.out.below hb); have B2 := Lib.hid (below_then B1.out hb); clear hb; have R2 := Lib.hid M2.out.range) | (go_at_call 12; (with_reducible refine (H3.out _).mono ?_); rintro e w3 ⟨rfl, hb⟩; have K3 := Lib.hid (K2.out.below hb); have V3 := Lib.hid (V2.out.below hb); have M3 := Lib.hid (M2.out.below hb); have B3 := Lib.hid (below_then B2.out hb); clear hb; have R3 := Lib.hid M3.out.range; have d0 := V3.out.at0) | (go_at_call 14; (with_reducible refine (H4.out _).mono ?_); rintro e w4 ⟨rfl, hb⟩; have K4 := Lib.hid (K3.out.below hb); have V4 := Lib.hid (V3.out.below hb); have M4 := Lib.hid (M3.out.below hb); have B4 := Lib.hid (below_then B3.out hb); clear hb; have R4 := Lib.hid M4.out.range; have d1 := M4.out.cell (k := 0) (by decide); rw [X0.out] at d1) | (go_at_call 14; (with_reducible refine (H5.out _).mono ?_); rintro e w5 ⟨rfl, hb⟩; have K5 := Lib.hid (K4.out.below hb); have V5 := Lib.hid (V4.out.below hb); have M5 := Lib.hid (M4.out.below hb); have B5 := Lib.hid (below_then B4.out hb); clear hb; have R5 := Lib.hid M5.out.range) | (go_at_call 16; (with_reducible refine (H6.out _).mono ?_); rintro e w6 ⟨rfl, hb⟩; have K6 := Lib.hid (K5.out.below hb); have V6 := Lib.hid (V5.out.below hb); have M6 := Lib.hid (M5.out.below hb); have B6 := Lib.hid (below_then B5.out hb); clear hb; have R6 := Lib.hid M6.out.range; have d2 := M6.out.cell (k := 0) (by decide); rw [X0.out] at d2; have d3 := K6.out.cell (k := 21) (by decide)))
  clear d0 d1 d2 d3
  go_upto_region 5 with (first | (refine wpList_load_mid rfl 26 _ rfl s1 0 rfl (AC g h) _ R6.out Try.underlying26 rfl (by kernel_rfl) ?_) | (go_at_call 10; (with_reducible refine (H7.out _).mono ?_); rintro e w7 ⟨rfl, hb⟩; have HB7 := Lib.hid hb; clear hb; have hS := store_new w7 r h; have hl := AC_len r h))
  clear hS hl
  have K8 := Lib.hid ((K6.out.below HB7.out).more (.cells (AC r h).toArray 26))
  have V8 := Lib.hid ((V6.out.below HB7.out).below (below_one w7 (.cells (AC r h).toArray 26)))
  have M8 := Lib.hid (Bk.new w7 r h)
  have B8 := Lib.hid (below_then (below_then B6.out HB7.out) (below_one w7 (.cells (AC r h).toArray 26)))
  have N8 : w.heap.size ≠ w7.heap.size := by have := K6.out.lt; have := HB7.out.size; omega
  have O8 : w.heap.size ≤ w7.heap.size := by have := B6.out.size; have := HB7.out.size; omega
  generalize World.alloc _ _ = W8 at K8 V8 M8 B8 ⊢
  generalize w7.heap.size = s8 at *
  go_upto_region 6 with fail
  clear R0 R1 R2 R3 R4 R5 R6 K1 K2 K3 K4 K5 K6 V1 V2 V3 V4 V5 V6 M1 M2 M3 M4 M5 M6 B1 B2 B3 B4 B5 B6 H1 H2 H3 H4 H5 H6 H7 HB1 HB7
  have G1 := Lib.hid (keptB_call (w := w) (s := w.heap.size) (t := w.heap.size + 1) (u := s8) (f := f) (g := r) (h := h) (k := h) (p := p) (v := v) J1.out)
  have G2 := Lib.hid (keptB_call (w := w) (s := w.heap.size) (t := w.heap.size + 1) (u := s8) (f := f) (g := r) (h := h) (k := h) (p := p) (v := v) J2.out)
  have G3 := Lib.hid (keptB_call (w := w) (s := w.heap.size) (t := w.heap.size + 1) (u := s8) (f := f) (g := r) (h := h) (k := h) (p := p) (v := v) J3.out)
  have G4 := Lib.hid (keptB_call (w := w) (s := w.heap.size) (t := w.heap.size + 1) (u := s8) (f := f) (g := r) (h := h) (k := h) (p := p) (v := v) J4.out)
  have G5 := Lib.hid (keptB_call (w := w) (s := w.heap.size) (t := w.heap.size + 1) (u := s8) (f := f) (g := r) (h := h) (k := h) (p := p) (v := v) J5.out)
  have G6 := Lib.hid (keptB_call (w := w) (s := w.heap.size) (t := w.heap.size + 1) (u := s8) (f := f) (g := r) (h := h) (k := h) (p := p) (v := v) J6.out)
  have G7 := Lib.hid (keptB_call (w := w) (s := w.heap.size) (t := w.heap.size + 1) (u := s8) (f := f) (g := r) (h := h) (k := h) (p := p) (v := v) J7.out)
  have G8 := Lib.hid (keptB_call (w := w) (s := w.heap.size) (t := w.heap.size + 1) (u := s8) (f := f) (g := r) (h := h) (k := h) (p := p) (v := v) J8.out)
  refine wp_region_calm (KeptB w w.heap.size (w.heap.size + 1) s8 f r h h p v) (by kernel_rfl) (by kernel_rfl) ⟨⟨K8.out.drew, V8.out.drew, B8.out.drew⟩, M8.out.drew⟩ ?_
  refine wpq_val (v := ?v0) (by rfl) ?y0 ?r0
  case y0 => (intro W hW; go_simp; try rfl)
  simp only [Act.put, List.setIfInBounds_toArray, List.set_cons_zero, List.set_cons_succ]
  refine wpq_val (v := ?v1) (by rfl) ?y1 ?r1
  case y1 => (intro W hW; go_simp; try rfl)
  simp only [Act.put, List.setIfInBounds_toArray, List.set_cons_zero, List.set_cons_succ]
  refine wpq_val (v := ?v2) (by rfl) ?y2 ?r2
  case y2 => (intro W hW; go_simp; try rfl)
  simp only [Act.put, List.setIfInBounds_toArray, List.set_cons_zero, List.set_cons_succ]
  refine wpq_val (v := ?v3) (by rfl) ?y3 ?r3
  case y3 => (intro W hW; go_simp; try rfl)
  simp only [Act.put, List.setIfInBounds_toArray, List.set_cons_zero, List.set_cons_succ]
  refine wpq_val (v := ?v4) (by rfl) ?y4 ?r4
  case y4 => (intro W hW; have q0 := hW.1.2.1.at0; have q1 := hW.2.cell (k := 0) (by decide); rw [X1.out] at q1; have q2 := hW.2.cell (k := 17) (by decide); have q3 := hW.1.1.cell (k := 17) (by decide); go_simp; try rfl)
  simp only [Act.put, List.setIfInBounds_toArray, List.set_cons_zero, List.set_cons_succ]
  refine wpq_val (v := ?v5) (by rfl) ?y5 ?r5
  case y5 => (intro W hW; go_simp; try rfl)
  simp only [Act.put, List.setIfInBounds_toArray, List.set_cons_zero, List.set_cons_succ]
  refine wpq_val (v := ?v6) (by rfl) ?y6 ?r6
  case y6 => (intro W hW; have q0 := hW.1.2.1.at0; have q1 := hW.2.cell (k := 0) (by decide); rw [X1.out] at q1; have q2 := hW.2.cell (k := 17) (by decide); have q3 := hW.1.1.cell (k := 17) (by decide); go_simp; try rfl)
  simp only [Act.put, List.setIfInBounds_toArray, List.set_cons_zero, List.set_cons_succ]
  refine wpq_val (v := ?v7) (by rfl) ?y7 ?r7
  case y7 => (intro W hW; go_simp; try rfl)
  simp only [Act.put, List.setIfInBounds_toArray, List.set_cons_zero, List.set_cons_succ]
  refine wpq_val (v := ?v8) (by rfl) ?y8 ?r8
  case y8 => (intro W hW; go_simp; try rfl)
  simp only [Act.put, List.setIfInBounds_toArray, List.set_cons_zero, List.set_cons_succ]
  refine wpq_val (v := ?v9) (by rfl) ?y9 ?r9
  case y9 => (intro W hW; go_simp; try rfl)
  simp only [Act.put, List.setIfInBounds_toArray, List.set_cons_zero, List.set_cons_succ]
  refine wpq_val (v := ?v10) (by rfl) ?y10 ?r10
  case y10 => (intro W hW; go_simp; try rfl)
  simp only [Act.put, List.setIfInBounds_toArray, List.set_cons_zero, List.set_cons_succ]
  refine wpq_val (v := ?v11) (by rfl) ?y11 ?r11
  case y11 => (intro W hW; go_simp; try rfl)
  simp only [Act.put, List.setIfInBounds_toArray, List.set_cons_zero, List.set_cons_succ]
  refine wpq_val (v := ?v12) (by rfl) ?y12 ?r12
  case y12 => (intro W hW; have q0 := hW.1.2.1.at0; have q1 := hW.2.cell (k := 0) (by decide); rw [X1.out] at q1; have q2 := hW.2.cell (k := 17) (by decide); have q3 := hW.1.1.cell (k := 17) (by decide); go_simp; try rfl)
  simp only [Act.put, List.setIfInBounds_toArray, List.set_cons_zero, List.set_cons_succ]
  refine wpq_val (v := ?v13) (by rfl) ?y13 ?r13
  case y13 => (intro W hW; go_simp; try rfl)
  simp only [Act.put, List.setIfInBounds_toArray, List.set_cons_zero, List.set_cons_succ]
  refine wpq_val (v := ?v14) (by rfl) ?y14 ?r14
  case y14 => (intro W hW; go_simp; try rfl)
  simp only [Act.put, List.setIfInBounds_toArray, List.set_cons_zero, List.set_cons_succ]
  refine wpq_val (v := ?v15) (by rfl) ?y15 ?r15
  case y15 => (intro W hW; go_simp; try rfl)
  simp only [Act.put, List.setIfInBounds_toArray, List.set_cons_zero, List.set_cons_succ]
  refine wpq_val (v := ?v16) (by rfl) ?y16 ?r16
  case y16 => (intro W hW; go_simp; try rfl)
  simp only [Act.put, List.setIfInBounds_toArray, List.set_cons_zero, List.set_cons_succ]
  refine wpq_val (v := ?v17) (by rfl) ?y17 ?r17
  case y17 => (intro W hW; have q0 := hW.1.2.1.at0; have q1 := hW.2.cell (k := 0) (by decide); rw [X1.out] at q1; have q2 := hW.2.cell (k := 17) (by decide); have q3 := hW.1.1.cell (k := 17) (by decide); go_simp; try rfl)
  simp only [Act.put, List.setIfInBounds_toArray, List.set_cons_zero, List.set_cons_succ]
  refine wpq_val (v := ?v18) (by rfl) ?y18 ?r18
  case y18 => (intro W hW; go_simp; try rfl)
  simp only [Act.put, List.setIfInBounds_toArray, List.set_cons_zero, List.set_cons_succ]
  refine wpq_val (v := ?v19) (by rfl) ?y19 ?r19
  case y19 => (intro W hW; go_simp; try rfl)
  simp only [Act.put, List.setIfInBounds_toArray, List.set_cons_zero, List.set_cons_succ]
  refine wpq_val (v := ?v20) (by rfl) ?y20 ?r20
  case y20 => (intro W hW; go_simp; try rfl)
  simp only [Act.put, List.setIfInBounds_toArray, List.set_cons_zero, List.set_cons_succ]
  refine wpq_val (v := ?v21) (by rfl) ?y21 ?r21
  case y21 => (intro W hW; go_simp; try rfl)
  simp only [Act.put, List.setIfInBounds_toArray, List.set_cons_zero, List.set_cons_succ]
  refine wpq_val (v := ?v22) (by rfl) ?y22 ?r22
  case y22 => (intro W hW; go_simp; try rfl)
  simp only [Act.put, List.setIfInBounds_toArray, List.set_cons_zero, List.set_cons_succ]
  refine wpq_load (by rfl) 26 _ rfl s8 0 rfl (AC r h) _ (fun W hW => hW.2.range) Try.underlying26 rfl (by kernel_rfl) ?_
  simp only [Act.put, List.setIfInBounds_toArray, List.set_cons_zero, List.set_cons_succ]
  refine wpq_call (by rfl) G1.out (fun W => by (go_simp; done)) ?_
  simp only [Act.put, List.setIfInBounds_toArray, List.set_cons_zero, List.set_cons_succ]
  refine wpq_load (by rfl) 26 _ rfl w.heap.size 0 rfl (AC f h) _ (fun W hW => hW.1.1.range) Try.underlying26 rfl (by kernel_rfl) ?_
  simp only [Act.put, List.setIfInBounds_toArray, List.set_cons_zero, List.set_cons_succ]
  refine wpq_call (by rfl) G2.out (fun W => by (go_simp; done)) ?_
  simp only [Act.put, List.setIfInBounds_toArray, List.set_cons_zero, List.set_cons_succ]
  refine wpq_val (v := ?v27) (by rfl) ?y27 ?r27
  case y27 => (intro W hW; go_simp; try rfl)
  simp only [Act.put, List.setIfInBounds_toArray, List.set_cons_zero, List.set_cons_succ]
  refine wpq_val (v := ?v28) (by rfl) ?y28 ?r28
  case y28 => (intro W hW; go_simp; try rfl)
  simp only [Act.put, List.setIfInBounds_toArray, List.set_cons_zero, List.set_cons_succ]
  refine wpq_val (v := ?v29) (by rfl) ?y29 ?r29
  case y29 => (intro W hW; go_simp; try rfl)
  simp only [Act.put, List.setIfInBounds_toArray, List.set_cons_zero, List.set_cons_succ]
  refine wpq_load (by rfl) 26 _ rfl s8 0 rfl (AC r h) _ (fun W hW => hW.2.range) Try.underlying26 rfl (by kernel_rfl) ?_
  simp only [Act.put, List.setIfInBounds_toArray, List.set_cons_zero, List.set_cons_succ]
  refine wpq_call (by rfl) G3.out (fun W => by (go_simp; done)) ?_
  simp only [Act.put, List.setIfInBounds_toArray, List.set_cons_zero, List.set_cons_succ]
  refine wpq_load (by rfl) 26 _ rfl w.heap.size 0 rfl (AC f h) _ (fun W hW => hW.1.1.range) Try.underlying26 rfl (by kernel_rfl) ?_
  simp only [Act.put, List.setIfInBounds_toArray, List.set_cons_zero, List.set_cons_succ]
  refine wpq_call (by rfl) G4.out (fun W => by (go_simp; done)) ?_
  simp only [Act.put, List.setIfInBounds_toArray, List.set_cons_zero, List.set_cons_succ]
  refine wpq_val (v := ?v34) (by rfl) ?y34 ?r34
  case y34 => (intro W hW; go_simp; try rfl)
  simp only [Act.put, List.setIfInBounds_toArray, List.set_cons_zero, List.set_cons_succ]
  refine wpq_val (v := ?v35) (by rfl) ?y35 ?r35
  case y35 => (intro W hW; go_simp; try rfl)
  simp only [Act.put, List.setIfInBounds_toArray, List.set_cons_zero, List.set_cons_succ]
  refine wpq_val (v := ?v36) (by rfl) ?y36 ?r36
  case y36 => (intro W hW; go_simp; try rfl)
  simp only [Act.put, List.setIfInBounds_toArray, List.set_cons_zero, List.set_cons_succ]
  refine wpq_load (by rfl) 26 _ rfl s8 0 rfl (AC r h) _ (fun W hW => hW.2.range) Try.underlying26 rfl (by kernel_rfl) ?_
  simp only [Act.put, List.setIfInBounds_toArray, List.set_cons_zero, List.set_cons_succ]
  refine wpq_call (by rfl) G5.out (fun W => by (go_simp; done)) ?_
  simp only [Act.put, List.setIfInBounds_toArray, List.set_cons_zero, List.set_cons_succ]
  refine wpq_load (by rfl) 26 _ rfl w.heap.size 0 rfl (AC f h) _ (fun W hW => hW.1.1.range) Try.underlying26 rfl (by kernel_rfl) ?_
  simp only [Act.put, List.setIfInBounds_toArray, List.set_cons_zero, List.set_cons_succ]
  refine wpq_call (by rfl) G6.out (fun W => by (go_simp; done)) ?_
  simp only [Act.put, List.setIfInBounds_toArray, List.set_cons_zero, List.set_cons_succ]
  refine wpq_val (v := ?v41) (by rfl) ?y41 ?r41
  case y41 => (intro W hW; go_simp; try rfl)
  simp only [Act.put, List.setIfInBounds_toArray, List.set_cons_zero, List.set_cons_succ]
  refine wpq_val (v := ?v42) (by rfl) ?y42 ?r42
  case y42 => (intro W hW; go_simp; try rfl)
  simp only [Act.put, List.setIfInBounds_toArray, List.set_cons_zero, List.set_cons_succ]
  refine wpq_val (v := ?v43) (by rfl) ?y43 ?r43
  case y43 => (intro W hW; go_simp; try rfl)
  simp only [Act.put, List.setIfInBounds_toArray, List.set_cons_zero, List.set_cons_succ]
  refine wpq_load (by rfl) 26 _ rfl s8 0 rfl (AC r h) _ (fun W hW => hW.2.range) Try.underlying26 rfl (by kernel_rfl) ?_
  simp only [Act.put, List.setIfInBounds_toArray, List.set_cons_zero, List.set_cons_succ]
  refine wpq_val (v := ?v45) (by rfl) ?y45 ?r45
  case y45 => (intro W hW; go_simp; try rfl)
  simp only [Act.put, List.setIfInBounds_toArray, List.set_cons_zero, List.set_cons_succ]
  refine wpq_val (v := ?v46) (by rfl) ?y46 ?r46
  case y46 => (intro W hW; have q0 := hW.1.2.1.at0; have q1 := hW.2.cell (k := 0) (by decide); rw [X1.out] at q1; have q2 := hW.2.cell (k := 17) (by decide); have q3 := hW.1.1.cell (k := 17) (by decide); go_simp; try rfl)
  simp only [Act.put, List.setIfInBounds_toArray, List.set_cons_zero, List.set_cons_succ]
  refine wpq_call (by rfl) G7.out (fun W => by (go_simp; done)) ?_
  simp only [Act.put, List.setIfInBounds_toArray, List.set_cons_zero, List.set_cons_succ]
  refine wpq_load (by rfl) 26 _ rfl w.heap.size 0 rfl (AC f h) _ (fun W hW => hW.1.1.range) Try.underlying26 rfl (by kernel_rfl) ?_
  simp only [Act.put, List.setIfInBounds_toArray, List.set_cons_zero, List.set_cons_succ]
  refine wpq_val (v := ?v49) (by rfl) ?y49 ?r49
  case y49 => (intro W hW; go_simp; try rfl)
  simp only [Act.put, List.setIfInBounds_toArray, List.set_cons_zero, List.set_cons_succ]
  refine wpq_val (v := ?v50) (by rfl) ?y50 ?r50
  case y50 => (intro W hW; have q0 := hW.1.2.1.at0; have q1 := hW.2.cell (k := 0) (by decide); rw [X1.out] at q1; have q2 := hW.2.cell (k := 17) (by decide); have q3 := hW.1.1.cell (k := 17) (by decide); go_simp; try rfl)
  simp only [Act.put, List.setIfInBounds_toArray, List.set_cons_zero, List.set_cons_succ]
  refine wpq_call (by rfl) G8.out (fun W => by (go_simp; done)) ?_
  simp only [Act.put, List.setIfInBounds_toArray, List.set_cons_zero, List.set_cons_succ]
  refine wpq_val (v := ?v52) (by rfl) ?y52 ?r52
  case y52 => (intro W hW; go_simp; try rfl)
  simp only [Act.put, List.setIfInBounds_toArray, List.set_cons_zero, List.set_cons_succ]
  refine wpq_val (v := ?v53) (by rfl) ?y53 ?r53
  case y53 => (intro W hW; go_simp; try rfl)
  simp only [Act.put, List.setIfInBounds_toArray, List.set_cons_zero, List.set_cons_succ]
  refine wpQuiet_nil ?_
  intro W hW
  have K9 := Lib.hid hW.1.1
  have V9 := Lib.hid hW.1.2.1
  have B9 := Lib.hid hW.1.2.2
  have M9 := Lib.hid hW.2
  clear hW G1 G2 G3 G4 G5 G6 G7 G8 J1 J2 J3 J4 J5 J6 J7 J8 K8 V8 M8 B8
  go_upto_region 8 with fail
  have a0 := K9.out.cell (k := 0) (by decide)
  have a1 := K9.out.cell (k := 17) (by decide)
  have a2 := K9.out.cell (k := 18) (by decide)
  have a3 := K9.out.cell (k := 19) (by decide)
  have a4 := K9.out.cell (k := 20) (by decide)
  have b0 := M9.out.cell (k := 0) (by decide)
  have b1 := M9.out.cell (k := 17) (by decide)
  have b2 := M9.out.cell (k := 18) (by decide)
  have b3 := M9.out.cell (k := 19) (by decide)
  have b4 := M9.out.cell (k := 20) (by decide)
  have z0 := M9.out.free 0
  have z1 := M9.out.free 17
  have z2 := M9.out.free 18
  have z3 := M9.out.free 19
  have z4 := M9.out.free 20
  clear hE m1 m2 X0 X1 T
  go_region
  have M10 := Lib.hid (XB.out ▸ (((((M9.out.set (k := 0) (f 0) (by decide)).set (k := 17) (f 17) (by decide)).set (k := 18) (f 18) (by decide)).set (k := 19) (f 19) (by decide)).set (k := 20) (f 20) (by decide)).drew)
  have K10 := Lib.hid (((((K9.out.other N8 0 (.int .u32 (f 0))).other N8 17 (.int .u32 (f 17))).other N8 18 (.int .u32 (f 18))).other N8 19 (.int .u32 (f 19))).other N8 20 (.int .u32 (f 20))).drew
  have B10 := Lib.hid (((((B9.out.setCell (p := ⟨s8, 0, none⟩) O8 (.int .u32 (f 0))).setCell (p := ⟨s8, 17, none⟩) O8 (.int .u32 (f 17))).setCell (p := ⟨s8, 18, none⟩) O8 (.int .u32 (f 18))).setCell (p := ⟨s8, 19, none⟩) O8 (.int .u32 (f 19))).setCell (p := ⟨s8, 20, none⟩) O8 (.int .u32 (f 20))).drew
  generalize World.drew _ = W10 at M10 K10 B10 ⊢
  clear a0 a1 a2 a3 a4 b0 b1 b2 b3 b4 z0 z1 z2 z3 z4 K9 M9 V9 B9 XB
  have hE := same_core f h
  have R10 := Lib.hid M10.out.range
  have S10 := Lib.hid K10.out.range
  go_wp2_with (first | (refine wpList_load_mid rfl 26 _ rfl s8 0 rfl (AC f h) _ R10.out Try.underlying26 rfl (by kernel_rfl) ?_) | (refine wpList_load_mid rfl 26 _ rfl w.heap.size 0 rfl (AC f h) _ S10.out Try.underlying26 rfl (by kernel_rfl) ?_) | (go_at_call 9; (with_reducible refine (awake_any _).mono ?_); rintro e w11 ⟨rfl, hb⟩; have B11 := Lib.hid (below_then B10.out hb); clear hb))
  go_ret
  exact ⟨rfl, B11.out⟩
end Go.Proofs.Ytfdcnbhnegdlfaa
