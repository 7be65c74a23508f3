/-
  The law on words: it returns true for every word and entry, and leaves all that was in memory as it was.
-/
import Derived.Test.YtmjgjojmnjpaoaaWalkD
import Derived.Test.YtmjgjojmnjpaoaaWalkE
import Derived.Test.YtmjgjojmnjpaoaaWalkF
namespace Go.Proofs.Ytmjgjojmnjpaoaa
open Go.RowKit S01 S10 S11
set_option maxHeartbeats 1600000 in
theorem words_walk (x b g : Int) (w : World) (x0 : 0 ≤ x) (x1 : x < 4294967296) (h0 : 0 ≤ b) (h1 : b < 4294967296) (g0 : -9223372036854775808 ≤ g) (g1 : g < 9223372036854775808) :
    Calls Try.prog 3 #[.int .u32 x, PV b g] w fun e w' => e = .returned (.bool true) ∧ Below w.heap.size w w' := by
  have H1 := Lib.hid (fun W => of_any x W x0 x1)
  have H2 := Lib.hid (fun W => rof_any x W x0 x1)
  have H3 := Lib.hid (fun W => word_any b g W h0 h1)
  have H4 := Lib.hid (fun W => rword_any b g W h0 h1 g0 g1)
  have H5 := Lib.hid (fun W => leaf_any b g W h0 h1)
  have H6 := Lib.hid (fun W => rleaf_any b g W h0 h1)
  generalize PT.wd b g = v at H3 H4
  generalize PT.lf b = f at H5 H6
  generalize x % 128 = p at H1 H2
  generalize x / 256 % 256 = q at H1 H2
  clear x0 x1 h0 h1 g0 g1
  unfold PV at *
  go_enter Try.func3, Try.ntmps3
  go_upto_region 1 with fail
  have K0 := Lib.hid (Pk.new w b g)
  have B0 := Lib.hid (below_one w (.cells #[.int .u32 b, .int .i64 g] 24))
  generalize World.alloc w _ = W0 at K0 B0 ⊢
  have G1 := Lib.hid (kept_call (w := w) (s := w.heap.size) (b := b) (g := g) H1.out)
  have G2 := Lib.hid (kept_call (w := w) (s := w.heap.size) (b := b) (g := g) H2.out)
  have G3 := Lib.hid (kept_call (w := w) (s := w.heap.size) (b := b) (g := g) H3.out)
  have G4 := Lib.hid (kept_call (w := w) (s := w.heap.size) (b := b) (g := g) H4.out)
  have G5 := Lib.hid (kept_call (w := w) (s := w.heap.size) (b := b) (g := g) H5.out)
  have G6 := Lib.hid (kept_call (w := w) (s := w.heap.size) (b := b) (g := g) H6.out)
  have G7 := Lib.hid (kept_call (w := w) (s := w.heap.size) (b := b) (g := g) awake_any)
  clear H1 H2 H3 H4 H5 H6
  refine wp_region_calm (Kept w w.heap.size b g) (by kernel_rfl) (by kernel_rfl) ⟨K0.out.drew, B0.out.drew⟩ ?_
  refine wpq_val (v := ?v0) (by rfl) ?y0 ?r0
  case y0 => (intro W hW; go_simp; try rfl)
  simp only [Act.put, List.setIfInBounds_toArray, List.set_cons_zero, List.set_cons_succ]
  refine wpq_call (by rfl) G1.out (fun W => by (go_simp; done)) ?_
  simp only [Act.put, List.setIfInBounds_toArray, List.set_cons_zero, List.set_cons_succ]
  refine wpq_val (v := ?v2) (by rfl) ?y2 ?r2
  case y2 => (intro W hW; go_simp; try rfl)
  simp only [Act.put, List.setIfInBounds_toArray, List.set_cons_zero, List.set_cons_succ]
  refine wpq_call (by rfl) G2.out (fun W => by (go_simp; done)) ?_
  simp only [Act.put, List.setIfInBounds_toArray, List.set_cons_zero, List.set_cons_succ]
  refine wpq_val (v := ?v4) (by rfl) ?y4 ?r4
  case y4 => (intro W hW; go_simp; try rfl)
  simp only [Act.put, List.setIfInBounds_toArray, List.set_cons_zero, List.set_cons_succ]
  refine wpq_val (v := ?v5) (by rfl) ?y5 ?r5
  case y5 => (intro W hW; go_simp; try rfl)
  simp only [Act.put, List.setIfInBounds_toArray, List.set_cons_zero, List.set_cons_succ]
  refine wpq_load (by rfl) 24 _ rfl w.heap.size 0 rfl ([.int .u32 b, .int .i64 g]) _ (fun W hW => hW.1.range) Try.underlying24 rfl (by kernel_rfl) ?_
  simp only [Act.put, List.setIfInBounds_toArray, List.set_cons_zero, List.set_cons_succ]
  refine wpq_call (by rfl) G3.out (fun W => by (go_simp; done)) ?_
  simp only [Act.put, List.setIfInBounds_toArray, List.set_cons_zero, List.set_cons_succ]
  refine wpq_load (by rfl) 24 _ rfl w.heap.size 0 rfl ([.int .u32 b, .int .i64 g]) _ (fun W hW => hW.1.range) Try.underlying24 rfl (by kernel_rfl) ?_
  simp only [Act.put, List.setIfInBounds_toArray, List.set_cons_zero, List.set_cons_succ]
  refine wpq_call (by rfl) G4.out (fun W => by (go_simp; done)) ?_
  simp only [Act.put, List.setIfInBounds_toArray, List.set_cons_zero, List.set_cons_succ]
  refine wpq_val (v := ?v10) (by rfl) ?y10 ?r10
  case y10 => (intro W hW; go_simp; try rfl)
  simp only [Act.put, List.setIfInBounds_toArray, List.set_cons_zero, List.set_cons_succ]
  refine wpq_val (v := ?v11) (by rfl) ?y11 ?r11
  case y11 => (intro W hW; go_simp; try rfl)
  simp only [Act.put, List.setIfInBounds_toArray, List.set_cons_zero, List.set_cons_succ]
  refine wpq_val (v := ?v12) (by rfl) ?y12 ?r12
  case y12 => (intro W hW; go_simp; try rfl)
  simp only [Act.put, List.setIfInBounds_toArray, List.set_cons_zero, List.set_cons_succ]
  refine wpq_load (by rfl) 24 _ rfl w.heap.size 0 rfl ([.int .u32 b, .int .i64 g]) _ (fun W hW => hW.1.range) Try.underlying24 rfl (by kernel_rfl) ?_
  simp only [Act.put, List.setIfInBounds_toArray, List.set_cons_zero, List.set_cons_succ]
  refine wpq_call (by rfl) G5.out (fun W => by (go_simp; done)) ?_
  simp only [Act.put, List.setIfInBounds_toArray, List.set_cons_zero, List.set_cons_succ]
  refine wpq_load (by rfl) 24 _ rfl w.heap.size 0 rfl ([.int .u32 b, .int .i64 g]) _ (fun W hW => hW.1.range) Try.underlying24 rfl (by kernel_rfl) ?_
  simp only [Act.put, List.setIfInBounds_toArray, List.set_cons_zero, List.set_cons_succ]
  refine wpq_call (by rfl) G6.out (fun W => by (go_simp; done)) ?_
  simp only [Act.put, List.setIfInBounds_toArray, List.set_cons_zero, List.set_cons_succ]
  refine wpq_val (v := ?v17) (by rfl) ?y17 ?r17
  case y17 => (intro W hW; go_simp; try rfl)
  simp only [Act.put, List.setIfInBounds_toArray, List.set_cons_zero, List.set_cons_succ]
  refine wpq_val (v := ?v18) (by rfl) ?y18 ?r18
  case y18 => (intro W hW; go_simp; try rfl)
  simp only [Act.put, List.setIfInBounds_toArray, List.set_cons_zero, List.set_cons_succ]
  refine wpq_val (v := ?v19) (by rfl) ?y19 ?r19
  case y19 => (intro W hW; go_simp; try rfl)
  simp only [Act.put, List.setIfInBounds_toArray, List.set_cons_zero, List.set_cons_succ]
  refine wpq_call (by rfl) G7.out (fun W => by (go_simp; done)) ?_
  simp only [Act.put, List.setIfInBounds_toArray, List.set_cons_zero, List.set_cons_succ]
  refine wpq_val (v := ?v21) (by rfl) ?y21 ?r21
  case y21 => (intro W hW; go_simp; try rfl)
  simp only [Act.put, List.setIfInBounds_toArray, List.set_cons_zero, List.set_cons_succ]
  refine wpq_val (v := ?v22) (by rfl) ?y22 ?r22
  case y22 => (intro W hW; go_simp; try rfl)
  simp only [Act.put, List.setIfInBounds_toArray, List.set_cons_zero, List.set_cons_succ]
  refine wpQuiet_nil ?_
  intro W hW
  have HB := Lib.hid hW.2
  clear hW
  go_wp2
  go_ret
  exact ⟨rfl, HB.out⟩
end Go.Proofs.Ytmjgjojmnjpaoaa
