/-
  The word of an entry: of package pte and of the reference.
-/
import Derived.Test.YtmjgjojmnjpaoaaWalkB
namespace Go.Proofs.Ytmjgjojmnjpaoaa
open Go.RowKit S01 S10 S11
set_option maxHeartbeats 800000 in
theorem word_any (b g : Int) (w : World) (h0 : 0 ≤ b) (h1 : b < 4294967296) :
    Calls Try.prog 10 #[PV b g] w fun e w' => e = .returned (.int .u32 (PT.wd b g)) ∧ Below w.heap.size w w' := by
  have H1 := Lib.hid (fun W => zext_any b 7 W h0 h1)
  have H2 := Lib.hid (page_any b g)
  rw [PT.zx7 _ h0] at H1
  have HO := Lib.hid (PT.wd_or b g)
  have k0 : 0 ≤ g % 256 := by omega
  have k1 : g % 256 < 256 := by omega
  generalize PT.wd b g = r at *
  generalize g % 256 = k at *
  have y0 : 0 ≤ b % 128 := by omega
  have y1 : b % 128 < 128 := by omega
  generalize b % 128 = y at *
  unfold PV
  go_enter Try.func10, Try.ntmps10
  go_upto_region 1 with fail
  have K0 := Lib.hid (Pk.new w b g)
  have B0 := Lib.hid (below_one w (.cells #[.int .u32 b, .int .i64 g] 24))
  generalize World.alloc w _ = W0 at K0 B0 ⊢
  have G1 := Lib.hid (kept_same (w := w) (s := w.heap.size) (b := b) (g := g) H1.out)
  have G2 := Lib.hid (kept_call (w := w) (s := w.heap.size) (b := b) (g := g) H2.out)
  clear H1 H2
  refine wp_region_calm (Kept w w.heap.size b g) (by kernel_rfl) (by kernel_rfl) ⟨K0.out.drew, B0.out.drew⟩ ?_
  refine wpq_load (by rfl) 24 _ rfl w.heap.size 0 rfl ([.int .u32 b, .int .i64 g]) _ (fun W hW => hW.1.range) Try.underlying24 rfl (by kernel_rfl) ?_
  simp only [Act.put, List.setIfInBounds_toArray, List.set_cons_zero, List.set_cons_succ]
  refine wpq_call (by rfl) G2.out (fun W => by (go_simp; done)) ?_
  simp only [Act.put, List.setIfInBounds_toArray, List.set_cons_zero, List.set_cons_succ]
  refine wpq_val (v := ?v2) (by rfl) ?y2 ?r2
  case y2 => (intro W hW; go_simp; try rfl)
  simp only [Act.put, List.setIfInBounds_toArray, List.set_cons_zero, List.set_cons_succ]
  refine wpq_val (v := ?v3) (by rfl) ?y3 ?r3
  case y3 => (intro W hW; go_simp; try rfl)
  simp only [Act.put, List.setIfInBounds_toArray, List.set_cons_zero, List.set_cons_succ]
  refine wpq_val (v := ?v4) (by rfl) ?y4 ?r4
  case y4 => (intro W hW; have c0 := hW.1.c0; go_simp; try rfl)
  simp only [Act.put, List.setIfInBounds_toArray, List.set_cons_zero, List.set_cons_succ]
  refine wpq_call (by rfl) G1.out (fun W => by (go_simp; done)) ?_
  simp only [Act.put, List.setIfInBounds_toArray, List.set_cons_zero, List.set_cons_succ]
  refine wpq_val (v := ?v6) (by rfl) ?y6 ?r6
  case y6 => (intro W hW; go_simp; try rfl)
  simp only [Act.put, List.setIfInBounds_toArray, List.set_cons_zero, List.set_cons_succ]
  refine wpq_val (v := ?v7) (by rfl) ?y7 ?r7
  case y7 => (intro W hW; go_simp; try rfl)
  simp only [Act.put, List.setIfInBounds_toArray, List.set_cons_zero, List.set_cons_succ]
  refine wpQuiet_nil ?_
  intro W hW
  have HB := Lib.hid hW.2
  clear hW
  go_wp2
  go_ret
  exact ⟨ret_int HO.out, HB.out⟩
set_option maxHeartbeats 800000 in
theorem rword_any (b g : Int) (w : World) (h0 : 0 ≤ b) (_h1 : b < 4294967296) (g0 : -9223372036854775808 ≤ g) (g1 : g < 9223372036854775808) :
    Calls Try.prog 11 #[PV b g] w fun e w' => e = .returned (.int .u32 (PT.wd b g)) ∧ Below w.heap.size w w' := by
  have H2 := Lib.hid (fun W => rpage_any g W g0 g1)
  have HO := Lib.hid (show PT.wd b g = b % 128 + 256 * (g % 256) from rfl)
  have k0 : 0 ≤ g % 256 := by omega
  have k1 : g % 256 < 256 := by omega
  generalize PT.wd b g = r at *
  generalize g % 256 = k at *
  unfold PV
  go_enter Try.func11, Try.ntmps11
  go_upto_region 1 with fail
  have K0 := Lib.hid (Pk.new w b g)
  have B0 := Lib.hid (below_one w (.cells #[.int .u32 b, .int .i64 g] 24))
  generalize World.alloc w _ = W0 at K0 B0 ⊢
  have G2 := Lib.hid (kept_same (w := w) (s := w.heap.size) (b := b) (g := g) H2.out)
  clear H2
  refine wp_region_calm (Kept w w.heap.size b g) (by kernel_rfl) (by kernel_rfl) ⟨K0.out.drew, B0.out.drew⟩ ?_
  refine wpq_val (v := ?v0) (by rfl) ?y0 ?r0
  case y0 => (intro W hW; go_simp; try rfl)
  simp only [Act.put, List.setIfInBounds_toArray, List.set_cons_zero, List.set_cons_succ]
  refine wpq_val (v := ?v1) (by rfl) ?y1 ?r1
  case y1 => (intro W hW; have c0 := hW.1.c0; go_simp; try rfl)
  simp only [Act.put, List.setIfInBounds_toArray, List.set_cons_zero, List.set_cons_succ]
  refine wpq_val (v := ?v2) (by rfl) ?y2 ?r2
  case y2 => (intro W hW; go_simp; try rfl)
  simp only [Act.put, List.setIfInBounds_toArray, List.set_cons_zero, List.set_cons_succ]
  refine wpq_val (v := ?v3) (by rfl) ?y3 ?r3
  case y3 => (intro W hW; go_simp; try rfl)
  simp only [Act.put, List.setIfInBounds_toArray, List.set_cons_zero, List.set_cons_succ]
  refine wpq_val (v := ?v4) (by rfl) ?y4 ?r4
  case y4 => (intro W hW; have c1 := hW.1.c1; go_simp; try rfl)
  simp only [Act.put, List.setIfInBounds_toArray, List.set_cons_zero, List.set_cons_succ]
  refine wpq_call (by rfl) G2.out (fun W => by (go_simp; done)) ?_
  simp only [Act.put, List.setIfInBounds_toArray, List.set_cons_zero, List.set_cons_succ]
  refine wpq_val (v := ?v6) (by rfl) ?y6 ?r6
  case y6 => (intro W hW; go_simp; try rfl)
  simp only [Act.put, List.setIfInBounds_toArray, List.set_cons_zero, List.set_cons_succ]
  refine wpq_val (v := ?v7) (by rfl) ?y7 ?r7
  case y7 => (intro W hW; go_simp; try rfl)
  simp only [Act.put, List.setIfInBounds_toArray, List.set_cons_zero, List.set_cons_succ]
  refine wpq_val (v := ?v8) (by rfl) ?y8 ?r8
  case y8 => (intro W hW; go_simp; try rfl)
  simp only [Act.put, List.setIfInBounds_toArray, List.set_cons_zero, List.set_cons_succ]
  refine wpQuiet_nil ?_
  intro W hW
  have HB := Lib.hid hW.2
  clear hW
  go_wp2
  go_ret
  exact ⟨ret_int (by rw [HO.out, Int.tmod_eq_emod_of_nonneg h0, IntKind.wrap_u32, IntKind.wrap_u32]; omega), HB.out⟩
end Go.Proofs.Ytmjgjojmnjpaoaa
