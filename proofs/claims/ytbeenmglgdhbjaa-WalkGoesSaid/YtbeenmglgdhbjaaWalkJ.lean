/-
  The chapter's examples hold; nothing that was there is changed.
-/
import Derived.Test.YtbeenmglgdhbjaaWalkI
import Derived.Test.YtbeenmglgdhbjaaWalkD
import Derived.Test.YtbeenmglgdhbjaaWalkE
import Derived.Test.YtbeenmglgdhbjaaS11Calm
import Derived.Deep.WholeRow
import Derived.OrdersHeld
namespace Go.Proofs.Ytbeenmglgdhbjaa
open Go.RowKit Go.Maps S01 S10 S11 S12
section
variable {P : Program} {o : Oper} {a : Act}
/-- A call whose answer hangs on the world. -/
theorem wp_of_some {w : World} {f : FuncId} {args : Array Value} {R : Value → World → Prop} {K : Act → World → Prop} {Q : Exit → Act → World → Prop} (hc : Calls P f args w fun e w' => ∃ v, e = .returned v ∧ R v w') (he : (execOp a.eval o).run P w = .ok (.enter f args) w)
    (h : ∀ v w', R v w' → K (a.put o.dst v) w') : o.wp P a w K Q := by
  unfold Oper.wp
  rw [he, Oper.upon_enter]
  refine hc.mono ?_
  rintro e w' ⟨v, rfl, hr⟩
  exact h v w' hr
end
theorem run_op_build {P : Program} {ρ : Operand → Value} {o : Oper} {w : World} {t : TypeId} {parts : Array (Nat × Operand)} {cells : Array Value} (ho : o.op = .build t parts) (h : P.built t (parts.map fun (i, x) => (i, ρ x)).toList = some cells) :
    (execOp ρ o).run P w = .ok (.value (.agg cells)) w := by
  have e := run_build (P := P) w t (parts.map fun (i, x) => (i, ρ x)) cells h
  unfold execOp
  simp only [ho, Sem.run_bind, e, Result.andThen_ok, Sem.run_pure]
theorem core_all (f : Nat → Int) (h : Bool) : (AC f h).toArray.all (·.oneCell') = true := all_oneCell_toArray (AC_one f h)
theorem core_size (f : Nat → Int) (h : Bool) : (Try.prog.info? 35).map (·.size) = some (AC f h).toArray.size := by kernel_rfl
/-- The core of the examples. -/
def ex : Nat → Int := CM.up (fun _ => 0) 17 16
theorem ex_ok : CM.Ok ex := CM.up_ok CM.zero_ok _ ⟨by decide, by decide⟩
theorem ex_core : AC ex false = [.int .u32 0, .int .u32 0, .int .u32 0, .int .u32 0, .int .u32 0, .int .u32 0, .int .u32 0, .int .u32 0, .int .u32 0, .int .u32 0, .int .u32 0, .int .u32 0, .int .u32 0, .int .u32 0, .int .u32 0, .int .u32 0, .int .u32 0, .int .u32 16, .int .u32 0, .int .u32 0, .int .u32 0, .int .u32 0, .int .u32 0, .int .u32 0, .int .u32 0, .int .u32 0, .int .u32 0, .int .u32 0, .int .u32 0, .bool false] := rfl
set_option maxRecDepth 100000 in
theorem ex_tr : WK.tr ex TB 70 2 = (134, 0) ∧ WK.tr ex TB 70 3 = (0, 6) := by decide +kernel
set_option maxRecDepth 100000 in
theorem ex_wk : (WK.wk TB 0 70).L = [0, 68] ∧ (WK.wk TB 0 70).ok = true := by decide +kernel
set_option maxRecDepth 100000 in
set_option maxHeartbeats 3200000 in
theorem awake_any (w : World) : Calls Try.prog 8 #[] w fun e w' => e = .returned (.bool true) ∧ Below w.heap.size w w' := by
  have HT := Lib.hid tables_any
  have H2 := Lib.hid (fun (W : World) (v : Value) (hv : ByR W v TB) => trans_any (w := W) (v := v) ex false 70 2 ex_ok hv (by rw [TB_len]; decide) (by decide) (by decide))
  have H3 := Lib.hid (fun (W : World) (v : Value) (hv : ByR W v TB) => trans_any (w := W) (v := v) ex false 70 3 ex_ok hv (by rw [TB_len]; decide) (by decide) (by decide))
  rw [ex_tr.1] at H2
  rw [ex_tr.2] at H3
  have HW := Lib.hid (fun (W : World) (v : Value) (hv : ByR W v TB) => walk_any (w := W) (v := v) 0 70 hv (by rw [TB_len]; decide) (by decide) (by decide) (by decide) (by decide))
  have HF := Lib.hid (fun W => fault_any 2 W)
  rw [show WK.fl 2 = 4 from rfl] at HF
  obtain ⟨e1, e2⟩ := ex_wk
  unfold WkPost at HW
  generalize WK.wk TB 0 70 = r at HW e1 e2
  obtain ⟨rb, rg, rl, ro⟩ := r
  simp only [] at e1 e2
  subst e1 e2
  generalize TB = tb at *
  unfold AR PV at *
  go_enter Try.func8, Try.ntmps8
  go_upto_region 1 with fail
  refine wp_region_lit ?_
  refine wpList_plain rfl fun K1 hK1 => ?_
  refine wp_of_val (v := .agg #[.int .u32 16, .int .u32 0, .int .u32 0, .int .u32 0, .int .u32 0, .int .u32 0, .int .u32 0, .int .u32 0, .int .u32 0, .int .u32 0, .int .u32 0, .int .u32 0]) (w' := w) (run_op_build rfl (by kernel_rfl)) (hK1 _ _ ?_)
  clear hK1 K1
  simp only [Act.put, List.setIfInBounds_toArray, List.set_cons_zero, List.set_cons_succ]
  refine wpList_plain rfl fun K1 hK1 => ?_
  refine wp_of_val (v := AR ex false) (w' := w) (run_op_build rfl (by kernel_rfl)) (hK1 _ _ ?_)
  clear hK1 K1
  simp only [Act.put, List.setIfInBounds_toArray, List.set_cons_zero, List.set_cons_succ]
  refine wpList_plain rfl fun K1 hK1 => ?_
  refine wp_of_val (v := .pointer (some ⟨w.heap.size, 0, none⟩)) (w' := w.alloc (.cells (AC (fun _ => 0) false).toArray 35)) (by rw [zero_core]; (go_simp; done)) (hK1 _ _ ?_)
  clear hK1 K1
  simp only [Act.put, List.setIfInBounds_toArray, List.set_cons_zero, List.set_cons_succ]
  refine wpList_store_mid rfl 35 _ _ rfl w.heap.size 0 (AC ex false).toArray rfl rfl ((Bk.new w (fun _ => 0) false).there' _ _) (core_size _ _) (core_all _ _) ?_
  have K1 := Lib.hid ((Bk.new w (fun _ => 0) false).store' ex false)
  have B1 := Lib.hid (below_setCells (Nat.le_refl _) (AC ex false).toArray.toList 0 _ (below_one w (.cells (AC (fun _ => 0) false).toArray 35)))
  generalize World.setCells _ _ _ _ = W1 at K1 B1 ⊢
  refine wpList_nil ?_
  generalize ex = f at *
  go_upto_region 2 with fail
  dsimp only at HW H2 H3
  refine wp_region_held (S := fun W => Bk W w.heap.size f false) (by kernel_rfl) ?_
  change wpAnyH _ _ _ _ _ _ _ _ (World.drew _)
  have B2 := Lib.hid B1.out.drew
  have hS2 := K1.out.drew
  generalize World.drew _ = W2 at B2 hS2 ⊢
  clear K1 B1
  refine wpAnyH_take (i := 0) (v := _) rfl (by kernel_rfl) (by kernel_rfl) (by kernel_rfl) (fun _ _ _ h => h) (yieldsIf_load_mid (by rfl) 35 _ rfl w.heap.size 0 rfl (AC f false) _ (fun W hW => hW.range) Try.underlying35 rfl (by kernel_rfl)) hS2 ?rt0
  simp only [Act.put, List.getElem_toArray, List.getElem_cons_zero, List.setIfInBounds_toArray, List.set_cons_zero, List.set_cons_succ]
  refine wpAnyH_all (rs := [1]) (by kernel_rfl) (by decide) (fun i hi => ?_)
  obtain rfl : i = 1 := by simpa using hi
  refine wpOp_step rfl (fun K' hK => ?_)
  rw [if_pos (by rfl)]
  simp only [List.getElem_toArray, List.getElem_cons_succ, List.getElem_cons_zero]
  refine wp_of_some (R := fun v w' => ByR w' v tb ∧ Below W2.heap.size W2 w') (HT.out W2) (by (go_simp; done)) (fun v W3 hR => hK _ _ ⟨hS2.below hR.2, ?_⟩)
  have hS3 := hS2.below hR.2
  have B3 := Lib.hid (below_then B2.out hR.2)
  have HY := Lib.hid hR.1
  clear hi hK K' hR hS2 B2
  obtain ⟨A3, c3, rfl⟩ := by_form HY.out
  simp only [Act.put, List.setIfInBounds_toArray, List.set_cons_zero, List.set_cons_succ]
  refine wpAnyH_all (rs := [2]) (by kernel_rfl) (by decide) (fun i hi => ?_)
  obtain rfl : i = 2 := by simpa using hi
  refine wpOp_step rfl (fun K' hK => ?_)
  rw [if_pos (by rfl)]
  simp only [List.getElem_toArray, List.getElem_cons_succ, List.getElem_cons_zero]
  refine wp_of_enter (H2.out W3 _ HY.out) (by (go_simp; done)) (fun W4 hb => hK _ _ ⟨hS3.below hb, ?_⟩)
  have hS4 := hS3.below hb
  have B4 := Lib.hid (below_then B3.out hb)
  clear hi hK K' hb hS3 B3 HY
  simp only [Act.put, List.setIfInBounds_toArray, List.set_cons_zero, List.set_cons_succ]
  refine wpAnyH_take (i := 3) (v := ?vt3) rfl (by kernel_rfl) (by kernel_rfl) (by kernel_rfl) (fun _ _ _ h => h) (Or.inl ⟨by rfl, ?yt3⟩) hS4 ?rt3
  case yt3 => (intro W hW; go_simp; try rfl)
  simp only [Act.put, List.getElem_toArray, List.getElem_cons_succ, List.getElem_cons_zero, List.setIfInBounds_toArray, List.set_cons_zero, List.set_cons_succ]
  refine wpAnyH_take (i := 4) (v := ?vt4) rfl (by kernel_rfl) (by kernel_rfl) (by kernel_rfl) (fun _ _ _ h => h) (Or.inl ⟨by rfl, ?yt4⟩) hS4 ?rt4
  case yt4 => (intro W hW; go_simp; try rfl)
  simp only [Act.put, List.getElem_toArray, List.getElem_cons_succ, List.getElem_cons_zero, List.setIfInBounds_toArray, List.set_cons_zero, List.set_cons_succ]
  refine wpAnyH_take (i := 5) (v := ?vt5) rfl (by kernel_rfl) (by kernel_rfl) (by kernel_rfl) (fun _ _ _ h => h) (Or.inl ⟨by rfl, ?yt5⟩) hS4 ?rt5
  case yt5 => (intro W hW; go_simp; try rfl)
  simp only [Act.put, List.getElem_toArray, List.getElem_cons_succ, List.getElem_cons_zero, List.setIfInBounds_toArray, List.set_cons_zero, List.set_cons_succ]
  refine wpAnyH_take (i := 6) (v := ?vt6) rfl (by kernel_rfl) (by kernel_rfl) (by kernel_rfl) (fun _ _ _ h => h) (Or.inl ⟨by rfl, ?yt6⟩) hS4 ?rt6
  case yt6 => (intro W hW; go_simp; try rfl)
  simp only [Act.put, List.getElem_toArray, List.getElem_cons_succ, List.getElem_cons_zero, List.setIfInBounds_toArray, List.set_cons_zero, List.set_cons_succ]
  refine wpAnyH_take (i := 7) (v := ?vt7) rfl (by kernel_rfl) (by kernel_rfl) (by kernel_rfl) (fun _ _ _ h => h) (Or.inl ⟨by rfl, ?yt7⟩) hS4 ?rt7
  case yt7 => (intro W hW; go_simp; try rfl)
  simp only [Act.put, List.getElem_toArray, List.getElem_cons_succ, List.getElem_cons_zero, List.setIfInBounds_toArray, List.set_cons_zero, List.set_cons_succ]
  refine wpAnyH_done (by kernel_rfl) ?_ _
  have XK := Lib.hid hS4
  have XB := Lib.hid B4.out
  clear hS4 B4
  go_upto_region 4 with (first | (go_at_call 21; (with_reducible refine (HT.out _).mono ?_); rintro e w5 ⟨v, rfl, hy, hb⟩; have HY := Lib.hid hy; have B5 := Lib.hid (below_then XB.out hb); have K5 := Lib.hid (XK.out.below hb); clear hy hb; obtain ⟨A5, c5, rfl⟩ := by_form HY.out) | (go_at_call 9; (with_reducible refine (HW.out _ _ HY.out).mono ?_); rintro e w6 ⟨x, rfl, ho, hb⟩; have B6 := Lib.hid (below_then B5.out hb); have K6 := Lib.hid (K5.out.below hb); have O6 := Lib.hid ho; clear ho hb))
  have hb := below_one w6 (.cells #[.int .u32 rb, .int .i64 rg] 26)
  have B7 := Lib.hid (below_then B6.out hb)
  have K7 := Lib.hid (K6.out.below hb)
  have O7 := Lib.hid (own_later O6.out hb)
  clear hb
  generalize World.alloc w6 _ = W7 at B7 K7 O7 ⊢
  clear XB XK HY B5 K5 B6 K6 O6
  obtain ⟨h0, -⟩ | ⟨G, cap, rfl, -, -, hc⟩ := own_words O7.out
  · simp at h0
  have C7 := Lib.hid (hc 1 (by decide))
  clear hc O7
  refine wp_region_held (S := fun W => Bk W w.heap.size f false) (by kernel_rfl) ?_
  change wpAnyH _ _ _ _ _ _ _ _ (World.drew _)
  have B2 := Lib.hid B7.out.drew
  have C2 := Lib.hid (show (World.drew W7).cell? ⟨G, 1, none⟩ = _ from C7.out)
  have hS2 := K7.out.drew
  generalize World.drew _ = W2 at B2 hS2 C2 ⊢
  clear K7 B7
  refine wpAnyH_take (i := 0) (v := _) rfl (by kernel_rfl) (by kernel_rfl) (by kernel_rfl) (fun _ _ _ h => h) (yieldsIf_load_mid (by rfl) 35 _ rfl w.heap.size 0 rfl (AC f false) _ (fun W hW => hW.range) Try.underlying35 rfl (by kernel_rfl)) hS2 ?ru0
  simp only [Act.put, List.getElem_toArray, List.getElem_cons_zero, List.setIfInBounds_toArray, List.set_cons_zero, List.set_cons_succ]
  refine wpAnyH_all (rs := [1]) (by kernel_rfl) (by decide) (fun i hi => ?_)
  obtain rfl : i = 1 := by simpa using hi
  refine wpOp_step rfl (fun K' hK => ?_)
  rw [if_pos (by rfl)]
  simp only [List.getElem_toArray, List.getElem_cons_succ, List.getElem_cons_zero]
  refine wp_of_some (R := fun v w' => ByR w' v tb ∧ Below W2.heap.size W2 w') (HT.out W2) (by (go_simp; done)) (fun v W3 hR => hK _ _ ⟨hS2.below hR.2, ?_⟩)
  have hS3 := hS2.below hR.2
  have B3 := Lib.hid (below_then B2.out hR.2)
  have C3 := Lib.hid (cell_below hR.2 C2.out)
  have HY := Lib.hid hR.1
  clear hi hK K' hR hS2 B2
  obtain ⟨A3, c3, rfl⟩ := by_form HY.out
  simp only [Act.put, List.setIfInBounds_toArray, List.set_cons_zero, List.set_cons_succ]
  refine wpAnyH_all (rs := [2]) (by kernel_rfl) (by decide) (fun i hi => ?_)
  obtain rfl : i = 2 := by simpa using hi
  refine wpOp_step rfl (fun K' hK => ?_)
  rw [if_pos (by rfl)]
  simp only [List.getElem_toArray, List.getElem_cons_succ, List.getElem_cons_zero]
  refine wp_of_enter (H3.out W3 _ HY.out) (by (go_simp; done)) (fun W4 hb => hK _ _ ⟨hS3.below hb, ?_⟩)
  have hS4 := hS3.below hb
  have B4 := Lib.hid (below_then B3.out hb)
  have C4 := Lib.hid (cell_below hb C3.out)
  clear hi hK K' hb hS3 B3 HY
  simp only [Act.put, List.setIfInBounds_toArray, List.set_cons_zero, List.set_cons_succ]
  refine wpAnyH_take (i := 3) (v := ?vu3) rfl (by kernel_rfl) (by kernel_rfl) (by kernel_rfl) (fun _ _ _ h => h) (Or.inl ⟨by rfl, ?yu3⟩) hS4 ?ru3
  case yu3 => (intro W hW; go_simp; try rfl)
  simp only [Act.put, List.getElem_toArray, List.getElem_cons_succ, List.getElem_cons_zero, List.setIfInBounds_toArray, List.set_cons_zero, List.set_cons_succ]
  refine wpAnyH_take (i := 4) (v := ?vu4) rfl (by kernel_rfl) (by kernel_rfl) (by kernel_rfl) (fun _ _ _ h => h) (Or.inl ⟨by rfl, ?yu4⟩) hS4 ?ru4
  case yu4 => (intro W hW; go_simp; try rfl)
  simp only [Act.put, List.getElem_toArray, List.getElem_cons_succ, List.getElem_cons_zero, List.setIfInBounds_toArray, List.set_cons_zero, List.set_cons_succ]
  refine wpAnyH_take (i := 5) (v := ?vu5) rfl (by kernel_rfl) (by kernel_rfl) (by kernel_rfl) (fun _ _ _ h => h) (Or.inl ⟨by rfl, ?yu5⟩) hS4 ?ru5
  case yu5 => (intro W hW; go_simp; try rfl)
  simp only [Act.put, List.getElem_toArray, List.getElem_cons_succ, List.getElem_cons_zero, List.setIfInBounds_toArray, List.set_cons_zero, List.set_cons_succ]
  refine wpAnyH_take (i := 6) (v := ?vu6) rfl (by kernel_rfl) (by kernel_rfl) (by kernel_rfl) (fun _ _ _ h => h) (Or.inl ⟨by rfl, ?yu6⟩) hS4 ?ru6
  case yu6 => (intro W hW; go_simp; try rfl)
  simp only [Act.put, List.getElem_toArray, List.getElem_cons_succ, List.getElem_cons_zero, List.setIfInBounds_toArray, List.set_cons_zero, List.set_cons_succ]
  refine wpAnyH_take (i := 7) (v := ?vu7) rfl (by kernel_rfl) (by kernel_rfl) (by kernel_rfl) (fun _ _ _ h => h) (Or.inl ⟨by rfl, ?yu7⟩) hS4 ?ru7
  case yu7 => (intro W hW; go_simp; try rfl)
  simp only [Act.put, List.getElem_toArray, List.getElem_cons_succ, List.getElem_cons_zero, List.setIfInBounds_toArray, List.set_cons_zero, List.set_cons_succ]
  refine wpAnyH_done (by kernel_rfl) ?_ _
  have ZK := Lib.hid hS4
  have ZB := Lib.hid B4.out
  clear hS4 B4
  have cc := C4.out
  rw [show ([0, 68] : List Int).getD 1 0 = 68 from rfl] at cc
  go_wp2_with (go_at_call 16; (with_reducible refine (HF.out _).mono ?_); rintro e w8 ⟨rfl, rfl⟩)
  go_ret
  exact ⟨rfl, ZB.out⟩
end Go.Proofs.Ytbeenmglgdhbjaa
