/-
  The law on what is written and read back, where the register may be written.
-/
import Derived.Test.YtiakoflgcpahgaaLsD
namespace Go.Proofs.Ytiakoflgcpahgaa
open Go.RowKit S01 S10
set_option maxHeartbeats 3200000 in
theorem back_good (f : Nat → Int) (h : Bool) (k : Nat) (v : Int) (w : World) (hf : CM.Ok f) (hv : CM.Wd v) (hk : CM.ks f k = 0) :
    Calls Try.prog 6 #[AR f h, .int .i64 k, .int .u32 v] w fun e w' => e = .returned (.bool true) ∧ Below w.heap.size w w' := by
  have H1 := Lib.hid (fun W => write_any f h k v W hf hv)
  have e1 : CM.wf f k v = CM.up f (17 + k) (CM.an v (CM.mk k)) := if_pos hk
  have e2 : CM.wh f h k = h := if_pos hk
  rw [e1, e2, hk] at H1
  have hg : CM.Ok (CM.up f (17 + k) (CM.an v (CM.mk k))) := e1 ▸ CM.wf_ok hf k v hv
  obtain ⟨k0, k1⟩ := CM.kn_iff.1 (CM.ks_zero hk).2
  have k2 : (k : Int) < 12 := by omega
  have d : decide ((k : Int) < 0) = false := by simp
  have d2 : decide (12 ≤ (k : Int)) = false := by simpa using (by omega : (k : Int) < 12)
  have H3 := Lib.hid (fun W => kernel_any f h W hf)
  rw [(CM.ks_zero hk).1] at H3
  have H5 := Lib.hid (fun W => masked_any k W)
  have HX := Lib.hid (show CM.up f (17 + k) (CM.an v (CM.mk k)) (17 + k) = CM.an v (CM.mk k) from CM.up_at _ _ _)
  have HU := Lib.hid (show CM.up (CM.up f (17 + k) (CM.an v (CM.mk k))) (17 + k) (f (17 + k)) = f from CM.up_back _ _ _)
  have e0 := and_an v (CM.mk k) hv (CM.mk_bd k)
  have H6 := Lib.hid (fun W => read_any (CM.up f (17 + k) (CM.an v (CM.mk k))) h k W hg)
  have H7 := Lib.hid (fun W => kernel_any (CM.up f (17 + k) (CM.an v (CM.mk k))) h W hg)
  have HR : Hid (CM.km (CM.up f (17 + k) (CM.an v (CM.mk k))) = true → CM.rv (CM.up f (17 + k) (CM.an v (CM.mk k))) k = CM.an v (CM.mk k) ∧ CM.rk (CM.up f (17 + k) (CM.an v (CM.mk k))) k = 0) := Lib.hid fun hm => by
    have r0 : CM.rk (CM.up f (17 + k) (CM.an v (CM.mk k))) k = 0 := by
      unfold CM.rk
      split
      · rfl
      · exact CM.ks_ok hm (CM.ks_zero hk).2
    refine ⟨?_, r0⟩
    unfold CM.rv
    rw [if_pos r0]
    exact CM.up_at _ _ _
  generalize CM.mk (k : Int) = m at *
  generalize CM.an v m = x at *
  generalize CM.up f (17 + k) x = g at *
  generalize CM.rv g k = rv at *
  generalize CM.rk g k = rk at *
  generalize CM.km g = km at *
  clear hk e1 e2 hf hv hg k0 k1
  unfold AR at H1 H3 H6 H7 ⊢
  go_enter Try.func6, Try.ntmps6
  go_upto_region 1 with fail
  have K0 := Lib.hid (Bk.new w f h)
  have B0 := Lib.hid (below_one w (.cells (AC f h).toArray 26))
  generalize World.alloc w _ = W0 at K0 B0 ⊢
  have R0 := Lib.hid K0.out.range
  go_upto_region 4 with (first | (refine wpList_load_mid rfl 26 _ rfl w.heap.size 0 rfl (AC f h) _ R0.out Try.underlying26 rfl (by kernel_rfl) ?_) | (go_at_call 15; (with_reducible refine (H1.out _).mono ?_); rintro e w1 ⟨rfl, hb⟩; have HB1 := Lib.hid hb; clear hb; have hS := store_new w1 g h; have hl := AC_len g h))
  clear hS hl
  have L1 := Lib.hid (Bk.new w1 g h)
  have K1 := Lib.hid ((K0.out.below HB1.out).more (.cells (AC g h).toArray 26))
  have B1 := Lib.hid (below_then (below_then B0.out HB1.out) (below_one w1 (.cells (AC g h).toArray 26)))
  have N1 := Lib.hid (show w.heap.size ≠ w1.heap.size from Nat.ne_of_lt (K0.out.below HB1.out).lt)
  have N2 := Lib.hid (show w.heap.size ≤ w1.heap.size from Nat.le_of_lt (K0.out.below HB1.out).lt)
  generalize World.alloc w1 _ = W1 at K1 L1 B1 ⊢
  generalize w1.heap.size = s1 at *
  have G3 := Lib.hid (kept2_call (w := w) (s := w.heap.size) (f := f) (h := h) (s' := s1) (f' := g) (h' := h) H3.out)
  have G5 := Lib.hid (kept2_call (w := w) (s := w.heap.size) (f := f) (h := h) (s' := s1) (f' := g) (h' := h) H5.out)
  refine wp_region_calm (Kept2 w w.heap.size f h s1 g h) (by kernel_rfl) (by kernel_rfl) ⟨K1.out.drew, L1.out.drew, B1.out.drew⟩ ?_
  refine wpq_load (by rfl) 26 _ rfl w.heap.size 0 rfl (AC f h) _ (fun W hW => hW.1.range) Try.underlying26 rfl (by kernel_rfl) ?_
  simp only [Act.put, List.setIfInBounds_toArray, List.set_cons_zero, List.set_cons_succ]
  refine wpq_call (by rfl) G3.out (fun W => by (go_simp; done)) ?_
  simp only [Act.put, List.setIfInBounds_toArray, List.set_cons_zero, List.set_cons_succ]
  refine wpq_val (v := ?v2) (by rfl) ?y2 ?r2
  case y2 => (intro W hW; go_simp; try rfl)
  simp only [Act.put, List.setIfInBounds_toArray, List.set_cons_zero, List.set_cons_succ]
  refine wpq_val (v := ?v3) (by rfl) ?y3 ?r3
  case y3 => (intro W hW; go_simp; try rfl)
  simp only [Act.put, List.setIfInBounds_toArray, List.set_cons_zero, List.set_cons_succ]
  refine wpq_val (v := ?v4) (by rfl) ?y4 ?r4
  case y4 => (intro W hW; go_simp; try rfl)
  simp only [Act.put, List.setIfInBounds_toArray, List.set_cons_zero, List.set_cons_succ]
  refine wpq_val (v := ?v5) (by rfl) ?y5 ?r5
  case y5 => (intro W hW; go_simp; try rfl)
  simp only [Act.put, List.setIfInBounds_toArray, List.set_cons_zero, List.set_cons_succ]
  refine wpq_val (v := ?v6) (by rfl) ?y6 ?r6
  case y6 => (intro W hW; go_simp; try rfl)
  simp only [Act.put, List.setIfInBounds_toArray, List.set_cons_zero, List.set_cons_succ]
  refine wpq_val (v := ?v7) (by rfl) ?y7 ?r7
  case y7 => (intro W hW; go_simp; try rfl)
  simp only [Act.put, List.setIfInBounds_toArray, List.set_cons_zero, List.set_cons_succ]
  refine wpq_val (v := ?v8) (by rfl) ?y8 ?r8
  case y8 => (intro W hW; go_simp; try rfl)
  simp only [Act.put, List.setIfInBounds_toArray, List.set_cons_zero, List.set_cons_succ]
  refine wpq_val (v := ?v9) (by rfl) ?y9 ?r9
  case y9 => (intro W hW; go_simp; try rfl)
  simp only [Act.put, List.setIfInBounds_toArray, List.set_cons_zero, List.set_cons_succ]
  refine wpq_val (v := ?v10) (by rfl) ?y10 ?r10
  case y10 => (intro W hW; go_simp; try rfl)
  simp only [Act.put, List.setIfInBounds_toArray, List.set_cons_zero, List.set_cons_succ]
  refine wpq_val (v := ?v11) (by rfl) ?y11 ?r11
  case y11 => (intro W hW; go_simp; try rfl)
  simp only [Act.put, List.setIfInBounds_toArray, List.set_cons_zero, List.set_cons_succ]
  refine wpq_val (v := ?v12) (by rfl) ?y12 ?r12
  case y12 => (intro W hW; go_simp; try rfl)
  simp only [Act.put, List.setIfInBounds_toArray, List.set_cons_zero, List.set_cons_succ]
  refine wpq_val (v := ?v13) (by rfl) ?y13 ?r13
  case y13 => (intro W hW; go_simp; try rfl)
  simp only [Act.put, List.setIfInBounds_toArray, List.set_cons_zero, List.set_cons_succ]
  refine wpq_val (v := ?v14) (by rfl) ?y14 ?r14
  case y14 => (intro W hW; go_simp; try rfl)
  simp only [Act.put, List.setIfInBounds_toArray, List.set_cons_zero, List.set_cons_succ]
  refine wpq_val (v := ?v15) (by rfl) ?y15 ?r15
  case y15 => (intro W hW; have c := hW.2.1.cell (k := 17 + k) (by omega); rw [HX.out] at c; go_simp; try rfl)
  simp only [Act.put, List.setIfInBounds_toArray, List.set_cons_zero, List.set_cons_succ]
  refine wpq_val (v := ?v16) (by rfl) ?y16 ?r16
  case y16 => (intro W hW; go_simp; try rfl)
  simp only [Act.put, List.setIfInBounds_toArray, List.set_cons_zero, List.set_cons_succ]
  refine wpq_val (v := ?v17) (by rfl) ?y17 ?r17
  case y17 => (intro W hW; go_simp; try rfl)
  simp only [Act.put, List.setIfInBounds_toArray, List.set_cons_zero, List.set_cons_succ]
  refine wpq_call (by rfl) G5.out (fun W => by (go_simp; done)) ?_
  simp only [Act.put, List.setIfInBounds_toArray, List.set_cons_zero, List.set_cons_succ]
  refine wpq_val (v := ?v19) (by rfl) ?y19 ?r19
  case y19 => (intro W hW; go_simp; try rfl)
  simp only [Act.put, List.setIfInBounds_toArray, List.set_cons_zero, List.set_cons_succ]
  refine wpq_val (v := ?v20) (by rfl) ?y20 ?r20
  case y20 => (intro W hW; go_simp; try rfl)
  simp only [Act.put, List.setIfInBounds_toArray, List.set_cons_zero, List.set_cons_succ]
  refine wpq_val (v := ?v21) (by rfl) ?y21 ?r21
  case y21 => (intro W hW; go_simp; try rfl)
  simp only [Act.put, List.setIfInBounds_toArray, List.set_cons_zero, List.set_cons_succ]
  refine wpQuiet_nil ?_
  intro W hW
  have K2 := Lib.hid hW.1
  have L2 := Lib.hid hW.2.1
  have B2 := Lib.hid hW.2.2
  have R2 := Lib.hid hW.2.1.range
  clear hW K1 L1 B1 G3 G5 H3 R0 K0 B0
  go_upto_region 7 with (first | (refine wpList_load_mid rfl 26 _ rfl s1 0 rfl (AC g h) _ R2.out Try.underlying26 rfl (by kernel_rfl) ?_) | (go_at_call 8; (with_reducible refine (H6.out _).mono ?_); rintro e w3 ⟨rfl, hb⟩; have K3 := Lib.hid (K2.out.below hb); have L3 := Lib.hid (L2.out.below hb); have B3 := Lib.hid (below_then B2.out hb); clear hb))
  have R3 := Lib.hid L3.out.range
  go_wp2_with (refine wpList_load_mid rfl 26 _ rfl s1 0 rfl (AC g h) _ R3.out Try.underlying26 rfl (by kernel_rfl) ?_)
  (with_reducible refine (H7.out _).mono ?_); rintro e w4 ⟨rfl, hb⟩
  have K4 := Lib.hid (K3.out.below hb)
  have L4 := Lib.hid (L3.out.below hb)
  have B4 := Lib.hid (below_then B3.out hb)
  clear hb K2 L2 B2 R2 K3 L3 B3 R3 H1 H6 H7
  cases km
  · go_upto_region 9 with fail
    have c1 := L4.out.cell (k := 17 + k) (by omega)
    have f1 := L4.out.free (17 + k)
    have c2 := K4.out.cell (k := 17 + k) (by omega)
    go_upto_region 10 with fail
    have HQ := Lib.hid (show Bk (World.setCell w4 ⟨s1, 17 + k, none⟩ (.int .u32 (f (17 + k)))) s1 f h by have e := L4.out.set (k := 17 + k) (f (17 + k)) (by omega); rwa [HU.out] at e).range
    have HP := Lib.hid (K4.out.other N1.out (17 + k) (.int .u32 (f (17 + k)))).range
    have HB := Lib.hid (B4.out.setCell (p := ⟨s1, 17 + k, none⟩) N2.out (.int .u32 (f (17 + k))))
    clear c1 f1 c2
    generalize World.setCell w4 _ _ = W9 at HQ HP HB ⊢
    have hE := same_core f h
    go_wp2_with (first | (refine wpList_load_mid rfl 26 _ rfl s1 0 rfl (AC f h) _ HQ.out Try.underlying26 rfl (by kernel_rfl) ?_) | (refine wpList_load_mid rfl 26 _ rfl w.heap.size 0 rfl (AC f h) _ HP.out Try.underlying26 rfl (by kernel_rfl) ?_) | (go_at_call 14; refine (awake_any _).mono ?_; rintro e wz ⟨rfl, hb⟩; have HZ := Lib.hid (below_then HB.out hb); clear hb))
    go_ret
    exact ⟨rfl, HZ.out⟩
  · obtain ⟨rfl, rfl⟩ := HR.out rfl
    go_upto_region 9 with (go_at_call 12; (with_reducible refine (H5.out _).mono ?_); rintro e w5 ⟨rfl, hb⟩; have K5 := Lib.hid (K4.out.below hb); have L5 := Lib.hid (L4.out.below hb); have B5 := Lib.hid (below_then B4.out hb); clear hb)
    have c1 := L5.out.cell (k := 17 + k) (by omega)
    have f1 := L5.out.free (17 + k)
    have c2 := K5.out.cell (k := 17 + k) (by omega)
    go_upto_region 10 with fail
    have HQ := Lib.hid (show Bk (World.setCell w5 ⟨s1, 17 + k, none⟩ (.int .u32 (f (17 + k)))) s1 f h by have e := L5.out.set (k := 17 + k) (f (17 + k)) (by omega); rwa [HU.out] at e).range
    have HP := Lib.hid (K5.out.other N1.out (17 + k) (.int .u32 (f (17 + k)))).range
    have HB := Lib.hid (B5.out.setCell (p := ⟨s1, 17 + k, none⟩) N2.out (.int .u32 (f (17 + k))))
    clear c1 f1 c2
    generalize World.setCell w5 _ _ = W9 at HQ HP HB ⊢
    have hE := same_core f h
    go_wp2_with (first | (refine wpList_load_mid rfl 26 _ rfl s1 0 rfl (AC f h) _ HQ.out Try.underlying26 rfl (by kernel_rfl) ?_) | (refine wpList_load_mid rfl 26 _ rfl w.heap.size 0 rfl (AC f h) _ HP.out Try.underlying26 rfl (by kernel_rfl) ?_) | (go_at_call 14; refine (awake_any _).mono ?_; rintro e wz ⟨rfl, hb⟩; have HZ := Lib.hid (below_then HB.out hb); clear hb))
    go_ret
    exact ⟨rfl, HZ.out⟩
theorem back_walk (f : Nat → Int) (h : Bool) (n v : Int) (w : World) (hf : CM.Ok f) (hv : CM.Wd v) :
    Calls Try.prog 6 #[AR f h, .int .i64 n, .int .u32 v] w fun e w' => e = .returned (.bool true) ∧ Below w.heap.size w w' := by
  by_cases hk : CM.ks f n = 0
  · obtain ⟨k, rfl⟩ := Int.eq_ofNat_of_zero_le (CM.kn_iff.1 (CM.ks_zero hk).2).1
    exact back_good f h k v w hf hv hk
  · exact back_bad f h n v w hf hv hk
end Go.Proofs.Ytiakoflgcpahgaa
