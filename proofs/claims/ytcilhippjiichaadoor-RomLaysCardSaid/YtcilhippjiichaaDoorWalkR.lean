/-
  What added answers: an image with what a line tells. No condition but lengths, and that the rows are one's own.
-/
import Derived.Test.YtcilhippjiichaaDoorWalkQ
namespace Go.Proofs.YtcilhippjiichaaDoor
open Go.RowKit Go.Maps S02
theorem below_three (w : World) (o o' o'' : Obj) : Below w.heap.size w (((w.alloc o).alloc o').alloc o'') := (below_two w o o').alloc (by simp; omega) o''
theorem own_form {w : World} {B e size n : Nat} {v : Value} {xs : List Value} (h : w.ownsRow B e size v n xs) : ∃ A c, v = .slice A n c := by
  rcases h.2 with ⟨rfl, rfl⟩ | ⟨g, cap, cur, rfl, -⟩
  · exact ⟨_, _, rfl⟩
  · exact ⟨_, _, rfl⟩
/-- The three blocks of added: the line, the image, the answer. -/
structure AZ (N : Nat) (w W : World) (B : Nat) (x : Array Value) (y : Array Value) : Prop where
  xz : W.heap[B]? = some (.cells x 70 (0, 0))
  yz : W.heap[B + 1]? = some (.cells y 25 (0, 0))
  rz : W.heap[B + 2]? = some (.cells #[.int .u32 0, .slice none 0 0] 25 (0, 0))
  sz : w.heap.size = B
  nb : N ≤ B
  kp : Kp N w W
theorem AZ.start {N : Nat} {w : World} {x y : Array Value} (hN : N ≤ w.heap.size) : AZ N w (((w.alloc (.cells x 70)).alloc (.cells y 25)).alloc (.cells #[.int .u32 0, .slice none 0 0] 25)) w.heap.size x y := by
  have e1 : (w.alloc (.cells x 70)).heap.size = w.heap.size + 1 := by simp
  have e2 : ((w.alloc (.cells x 70)).alloc (.cells y 25)).heap.size = w.heap.size + 2 := by simp
  refine ⟨?_, ?_, ?_, rfl, hN, Kp.of (below_three w _ _ _) hN⟩
  · rw [Below.heap_alloc _ _ _ (by rw [e2]; omega), Below.heap_alloc _ _ _ (by rw [e1]; omega)]; exact heap_alloc_new w _
  · rw [Below.heap_alloc _ _ _ (by rw [e2]; omega)]
    have := heap_alloc_new (w.alloc (.cells x 70)) (.cells y 25)
    rwa [e1] at this
  · have := heap_alloc_new ((w.alloc (.cells x 70)).alloc (.cells y 25)) (.cells #[.int .u32 0, .slice none 0 0] 25)
    rwa [e2] at this
theorem AZ.kept {N : Nat} {w W W' : World} {B : Nat} {x y : Array Value} (h : AZ N w W B x y) (hk : Kp N W W') : AZ N w W' B x y :=
  ⟨hk.heap h.xz (by decide) (by decide), hk.heap h.yz (by decide) (by decide), hk.heap h.rz (by decide) (by decide), h.sz, h.nb, h.kp.trans hk⟩
theorem AZ.put {N : Nat} {w W : World} {B o : Nat} {x y : Array Value} (h : AZ N w W B x y) (u : Value) : AZ N w (W.setCell ⟨B + 1, o, none⟩ u) B x (y.setIfInBounds o u) :=
  ⟨(heap_other (by omega)).trans h.xz, heap_set h.yz, (heap_other (by omega)).trans h.rz, h.sz, h.nb, h.kp.set (by have := h.nb; omega) _ fun c e f hc => absurd (lt_of_heap hc) (by have := h.sz; omega)⟩
theorem AZ.done {N : Nat} {w W : World} {B : Nat} {x y : Array Value} (h : AZ N w W B x y) (u v : Value) : Kp N w ((W.setCell ⟨B + 2, 0, none⟩ u).setCell ⟨B + 2, 1, none⟩ v) := by
  have hk : ∀ c e f, w.heap[B + 2]? = some (Obj.cells c e f) → e = 51 ∨ e = 5 := fun c e f hc => absurd (lt_of_heap hc) (by have := h.sz; omega)
  exact (h.kp.set (by have := h.nb; omega) _ hk).set (by have := h.nb; omega) _ hk
theorem AZ.sg {N : Nat} {w W : World} {B : Nat} {x y : Array Value} (h : AZ N w W B x y) {v : Value} {ps : List (Nat × Value × List UInt8)} (hs : SG N W v ps) (u u' : Value) : SG N ((W.setCell ⟨B + 2, 0, none⟩ u).setCell ⟨B + 2, 1, none⟩ u') v ps :=
  (hs.off h.rz (by decide) _ _).off (heap_set h.rz) (by decide) _ _
theorem AZ.r {N : Nat} {w W : World} {B : Nat} {x y : Array Value} (h : AZ N w W B x y) : W.cell? ⟨B + 2, 0, none⟩ = some (.int .u32 0) ∧ W.cell? ⟨B + 2, 1, none⟩ = some (.slice none 0 0) ∧ ∀ o, W.frozen? ⟨B + 2, o, none⟩ = false := ⟨cell_of h.rz (by simp), cell_of h.rz (by simp), fun _ => unfrozen h.rz⟩
set_option maxHeartbeats 4000000 in
theorem added_seg {N : Nat} {w : World} {sv dv : Value} {ps : List (Nat × Value × List UInt8)} (a st : Nat) (bs : List UInt8) (m : Int) (hs : SG N w sv ps) (hN : N ≤ w.heap.size) (hd : w.ownsRow N 5 1 dv bs.length (byC bs)) (hM : ∀ k, dv.ownBlock = some k → ∀ p ∈ ps, p.2.1.ownBlock ≠ some k) (hn : ps.length ≤ 1000) :
    Calls Tryd.prog 34 #[.agg #[.string ⟨#[115, 101, 103]⟩, .int .u32 a, dv, .int .u8 m], .agg #[.int .u32 st, sv]] w fun e w' => ∃ v, e = .returned (.agg #[.int .u32 st, v]) ∧ SG N w' v (ps ++ [(a, dv, bs)]) ∧ Kp N w w' := by
  obtain ⟨A, c, rfl⟩ := by_form (ByR.of_own hd)
  obtain ⟨sa, sc, rfl⟩ := sv_form (SgR.of_sg hs rfl)
  rw [List.length_map] at hs ⊢
  obtain ⟨i0, HI⟩ := info_parts seg_info
  have HI := Lib.hid HI
  have HZ := Lib.hid (AZ.start (N := N) (w := w) (x := #[.string ⟨#[115, 101, 103]⟩, .int .u32 a, .slice A bs.length c, .int .u8 m]) (y := #[.int .u32 st, .slice sa ps.length sc]) hN)
  have HS := Lib.hid (show SG N (((w.alloc (.cells #[.string ⟨#[115, 101, 103]⟩, .int .u32 a, .slice A bs.length c, .int .u8 m] 70)).alloc (.cells #[.int .u32 st, .slice sa ps.length sc] 25)).alloc (.cells #[.int .u32 0, .slice none 0 0] 25)) (.slice sa ps.length sc) ps from hs.below (below_three w _ _ _))
  have HD := Lib.hid (show World.ownsRow (((w.alloc (.cells #[.string ⟨#[115, 101, 103]⟩, .int .u32 a, .slice A bs.length c, .int .u8 m] 70)).alloc (.cells #[.int .u32 st, .slice sa ps.length sc] 25)).alloc (.cells #[.int .u32 0, .slice none 0 0] 25)) N 5 1 (.slice A bs.length c) bs.length (byC bs) from own_blk hd (below_three w _ _ _))
  have HM := Lib.hid hM
  clear hs hd hM
  go_enter Tryd.func34, Tryd.ntmps34
  go_upto_region 1 with fail
  obtain ⟨W0, hW0⟩ : ∃ W0, (((w.alloc (.cells #[.string ⟨#[115, 101, 103]⟩, .int .u32 a, .slice A bs.length c, .int .u8 m] 70)).alloc (.cells #[.int .u32 st, .slice sa ps.length sc] 25)).alloc (.cells #[.int .u32 0, .slice none 0 0] 25)) = W0 := ⟨_, rfl⟩
  obtain ⟨B, hB⟩ : ∃ B, w.heap.size = B := ⟨_, rfl⟩
  rw [hW0, hB] at HZ
  rw [hW0] at HS HD ⊢
  rw [hB]
  have hNB : N ≤ B := by rw [← hB]; exact hN
  clear hW0 hB hN
  have hNW : N ≤ W0.heap.size := by have := lt_of_heap HZ.out.xz; omega
  have x0 := cell_of (o := 0) HZ.out.xz rfl
  have x1 := cell_of (o := 1) HZ.out.xz rfl
  have x2 := cell_of (o := 2) HZ.out.xz rfl
  have y1 := cell_of (o := 1) HZ.out.yz rfl
  go_upto_region 8 with (at_builtin; refine wpList_append_lies _ rfl _ _ 23 rfl N 51 i0 (.agg #[.int .u32 0, .slice none 0 0]) 2 32 Tryd.underlying23 HI.out.1 HI.out.2.1 HI.out.2.2.1 HI.out.2.2.2 rfl (by decide) (.slice sa ps.length sc) ps.length (sgC ps) rfl (HS.out.own.alloc _) ⟨_, 0, none⟩ 1 1 [.int .u32 a, .slice A bs.length c] rfl rfl (two_new _ _ _ _) (seg_one _ _ _ _) (by decide) (by unfold maxLen; omega) (by omega) (by simp; omega) _ rfl ?_; intro g cap w1 ho1 hg1 hv1 hl1; have HG := Lib.hid ((HS.out.below (below_one W0 (.cells #[.int .u32 a, .slice A bs.length c] 51))).seg hg1 ho1 (own_blk HD.out (below_one W0 _)) HM.out); have HZ1 := Lib.hid (HZ.out.kept ((Kp.of (below_one W0 _) hNW).trans (Kp.grown hg1 (HS.out.own.alloc _) (.inl rfl) (by simp; omega)))); have z1 := cell_of (o := 1) HZ1.out.yz rfl; have z2 : w1.frozen? ⟨B + 1, 1, none⟩ = false := unfrozen HZ1.out.yz; clear ho1 hg1 hv1 hl1)
  have HZ2 := Lib.hid (HZ1.out.put (o := 1) (.slice (some ⟨g, 0, none⟩) (ps.length + 1) cap))
  have HG2 := Lib.hid (HG.out.off HZ1.out.yz (by decide) 1 (.slice (some ⟨g, 0, none⟩) (ps.length + 1) cap))
  obtain ⟨W2, hW2⟩ : ∃ W2, w1.setCell ⟨B + 1, 1, none⟩ (.slice (some ⟨g, 0, none⟩) (ps.length + 1) cap) = W2 := ⟨_, rfl⟩
  rw [hW2] at HZ2 HG2 ⊢
  clear hW2 z1 z2 x0 x1 x2 y1
  have y0 := cell_of (o := 0) HZ2.out.yz rfl
  have y1 := cell_of (o := 1) HZ2.out.yz rfl
  obtain ⟨r0, r1, rf⟩ := HZ2.out.r
  go_wp2
  refine bodyPost_ret (v := .agg #[.int .u32 st, .slice (some ⟨g, 0, none⟩) (ps.length + 1) cap]) (by simp [results, Tryd.results34, go_sem, r0, r1]) rfl ?_
  exact ⟨_, rfl, HZ2.out.sg HG2.out _ _, HZ2.out.done _ _⟩
set_option maxHeartbeats 4000000 in
theorem added_start {N : Nat} {w : World} {sv : Value} {ps : List (Nat × Value × List UInt8)} (a st : Nat) (m : Int) (nd cd : Nat) (A : Option Addr) (hs : SG N w sv ps) (hN : N ≤ w.heap.size) :
    Calls Tryd.prog 34 #[.agg #[.string ⟨#[115, 116, 97, 114, 116]⟩, .int .u32 a, .slice A nd cd, .int .u8 m], .agg #[.int .u32 st, sv]] w fun e w' => e = .returned (.agg #[.int .u32 a, sv]) ∧ SG N w' sv ps ∧ Kp N w w' := by
  obtain ⟨sa, sc, rfl⟩ := sv_form (SgR.of_sg hs rfl)
  rw [List.length_map] at hs ⊢
  have HZ := Lib.hid (AZ.start (N := N) (w := w) (x := #[.string ⟨#[115, 116, 97, 114, 116]⟩, .int .u32 a, .slice A nd cd, .int .u8 m]) (y := #[.int .u32 st, .slice sa ps.length sc]) hN)
  have HS := Lib.hid (show SG N (((w.alloc (.cells #[.string ⟨#[115, 116, 97, 114, 116]⟩, .int .u32 a, .slice A nd cd, .int .u8 m] 70)).alloc (.cells #[.int .u32 st, .slice sa ps.length sc] 25)).alloc (.cells #[.int .u32 0, .slice none 0 0] 25)) (.slice sa ps.length sc) ps from hs.below (below_three w _ _ _))
  clear hs
  go_enter Tryd.func34, Tryd.ntmps34
  go_upto_region 1 with fail
  obtain ⟨W0, hW0⟩ : ∃ W0, (((w.alloc (.cells #[.string ⟨#[115, 116, 97, 114, 116]⟩, .int .u32 a, .slice A nd cd, .int .u8 m] 70)).alloc (.cells #[.int .u32 st, .slice sa ps.length sc] 25)).alloc (.cells #[.int .u32 0, .slice none 0 0] 25)) = W0 := ⟨_, rfl⟩
  obtain ⟨B, hB⟩ : ∃ B, w.heap.size = B := ⟨_, rfl⟩
  rw [hW0, hB] at HZ
  rw [hW0] at HS ⊢
  rw [hB]
  clear hW0 hB hN
  have x0 := cell_of (o := 0) HZ.out.xz rfl
  have x1 := cell_of (o := 1) HZ.out.xz rfl
  have y0 := cell_of (o := 0) HZ.out.yz rfl
  have y1 := cell_of (o := 1) HZ.out.yz rfl
  have yf : ∀ o, W0.frozen? ⟨B + 1, o, none⟩ = false := fun o => unfrozen HZ.out.yz
  have HZ2 := Lib.hid (HZ.out.put (o := 0) (.int .u32 a))
  have HG2 := Lib.hid (HS.out.off HZ.out.yz (by decide) 0 (.int .u32 a))
  go_upto_region 8 with fail
  obtain ⟨W2, hW2⟩ : ∃ W2, W0.setCell ⟨B + 1, 0, none⟩ (.int .u32 a) = W2 := ⟨_, rfl⟩
  rw [hW2] at HZ2 HG2 ⊢
  clear hW2 x0 x1 y0 y1 yf
  have y0 := cell_of (o := 0) HZ2.out.yz rfl
  have y1 := cell_of (o := 1) HZ2.out.yz rfl
  obtain ⟨r0, r1, rf⟩ := HZ2.out.r
  go_wp2
  refine bodyPost_ret (v := .agg #[.int .u32 a, .slice sa ps.length sc]) (by simp [results, Tryd.results34, go_sem, r0, r1]) rfl ?_
  exact ⟨rfl, HZ2.out.sg HG2.out _ _, HZ2.out.done _ _⟩
set_option maxHeartbeats 4000000 in
theorem added_and {N : Nat} {w : World} {sv dv ev : Value} {ps : List (Nat × Value × List UInt8)} (a a0 st : Nat) (bs b0 : List UInt8) (m : Int) (hs : SG N w sv (ps ++ [(a0, dv, b0)])) (hN : N ≤ w.heap.size) (hd : ByR w ev bs) (hn : ps.length ≤ 1000) (hb0 : b0.length ≤ 100000) (hb : bs.length ≤ 100000) :
    Calls Tryd.prog 34 #[.agg #[.string ⟨#[97, 110, 100]⟩, .int .u32 a, ev, .int .u8 m], .agg #[.int .u32 st, sv]] w fun e w' => ∃ d', e = .returned (.agg #[.int .u32 st, sv]) ∧ SG N w' sv (ps ++ [(a0, d', b0 ++ bs)]) ∧ Kp N w w' := by
  obtain ⟨A, c, rfl⟩ := by_form hd
  obtain ⟨G, sc, rfl, -, -⟩ := hs.lies (by simp)
  obtain ⟨n, hnn⟩ : ∃ n, ps.length = n := ⟨_, rfl⟩
  have hl : (ps ++ [(a0, dv, b0)]).length = n + 1 := by rw [List.length_append, List.length_singleton, hnn]
  rw [hl] at hs ⊢
  have hx : w.ownsRow N 5 1 dv b0.length (byC b0) := hs.dat (a0, dv, b0) (by simp)
  obtain ⟨D, dc, rfl⟩ := by_form (ByR.of_own hx)
  clear hx
  rw [hnn] at hn
  have HNN := Lib.hid hnn
  have HZ := Lib.hid (AZ.start (N := N) (w := w) (x := #[.string ⟨#[97, 110, 100]⟩, .int .u32 a, .slice A bs.length c, .int .u8 m]) (y := #[.int .u32 st, .slice (some ⟨G, 0, none⟩) (n + 1) sc]) hN)
  have HS := Lib.hid (show SG N (((w.alloc (.cells #[.string ⟨#[97, 110, 100]⟩, .int .u32 a, .slice A bs.length c, .int .u8 m] 70)).alloc (.cells #[.int .u32 st, .slice (some ⟨G, 0, none⟩) (n + 1) sc] 25)).alloc (.cells #[.int .u32 0, .slice none 0 0] 25)) (.slice (some ⟨G, 0, none⟩) (n + 1) sc) (ps ++ [(a0, .slice D b0.length dc, b0)]) from hs.below (below_three w _ _ _))
  have HD := Lib.hid (show ByR (((w.alloc (.cells #[.string ⟨#[97, 110, 100]⟩, .int .u32 a, .slice A bs.length c, .int .u8 m] 70)).alloc (.cells #[.int .u32 st, .slice (some ⟨G, 0, none⟩) (n + 1) sc] 25)).alloc (.cells #[.int .u32 0, .slice none 0 0] 25)) (.slice A bs.length c) bs from hd.below (below_three w _ _ _))
  clear hs hd hnn hl
  go_enter Tryd.func34, Tryd.ntmps34
  go_upto_region 1 with fail
  obtain ⟨W0, hW0⟩ : ∃ W0, (((w.alloc (.cells #[.string ⟨#[97, 110, 100]⟩, .int .u32 a, .slice A bs.length c, .int .u8 m] 70)).alloc (.cells #[.int .u32 st, .slice (some ⟨G, 0, none⟩) (n + 1) sc] 25)).alloc (.cells #[.int .u32 0, .slice none 0 0] 25)) = W0 := ⟨_, rfl⟩
  obtain ⟨B, hB⟩ : ∃ B, w.heap.size = B := ⟨_, rfl⟩
  rw [hW0, hB] at HZ
  rw [hW0] at HS HD ⊢
  rw [hB]
  clear hW0 hB hN
  have HNW := Lib.hid (show N ≤ W0.heap.size by have := lt_of_heap HZ.out.xz; have := HZ.out.nb; omega)
  have HOD := Lib.hid (show W0.ownsRow N 5 1 (.slice D b0.length dc) b0.length (byC b0) from HS.out.dat (a0, .slice D b0.length dc, b0) (by simp))
  have x0 := cell_of (o := 0) HZ.out.xz rfl
  have x2 := cell_of (o := 2) HZ.out.xz rfl
  have y1 := cell_of (o := 1) HZ.out.yz rfl
  obtain ⟨-, g1, -⟩ := HS.out.cell (by rw [List.length_append, HNN.out]; rfl) (j := n) (p := (a0, .slice D b0.length dc, b0)) (by rw [← HNN.out]; simp)
  have g3 : W0.cell? ⟨G, n * 2 + 1, none⟩ = some (.slice D b0.length dc) := by rw [Nat.mul_comm]; exact g1
  clear g1
  go_upto_region 7 with fail
  have HL := Lib.hid (show b0.length + bs.length ≤ 100000000 by omega)
  go_region_law (refine step_append_by (v := .slice D b0.length dc) (x := .slice A bs.length c) rfl (.tmp 34) (.tmp 37) rfl (by simp [Act.eval]) (by simp [Act.eval]) HOD.out.drew HD.out HL.out HNW.out ?_; intro d' w1 ho1 hg1 hv1; obtain ⟨dA', dc', rfl⟩ := own_form ho1; obtain ⟨q1, q2, q3, q4, q5⟩ := (HS.out.below (Below.refl W0.heap.size W0).drew).more (bs' := bs) (i := n * 2 + 1) (by rw [HNN.out]) hg1 ho1 hv1 (by rw [HNN.out]; omega); have HG := Lib.hid q1; have HZ2 := Lib.hid (HZ.out.kept (((Kp.of (Below.refl W0.heap.size W0).drew HNW.out).trans (Kp.grown hg1 HOD.out.drew (.inr rfl) HNW.out)).set (o := n * 2 + 1) q4 (.slice dA' (b0.length + bs.length) dc') (fun c e f hc => by obtain ⟨cs, hcs⟩ := q5; have hcs : W0.heap[G]? = some (.cells cs 51 (0, 0)) := hcs; rw [hcs] at hc; injection hc with hc; injection hc with _ h2; exact .inl h2.symm))); clear q1 q4 q5 hg1 ho1 hv1)
  all_goals
    obtain ⟨W2, hW2⟩ : ∃ W2, w1.setCell ⟨G, n * 2 + 1, none⟩ (.slice dA' (b0.length + bs.length) dc') = W2 := ⟨_, rfl⟩
    rw [hW2] at HZ2 HG ⊢
    clear hW2 q2 q3 x0 x2 y1 g3
    have y0 := cell_of (o := 0) HZ2.out.yz rfl
    have y1 := cell_of (o := 1) HZ2.out.yz rfl
    obtain ⟨r0, r1, rf⟩ := HZ2.out.r
    go_wp2
    refine bodyPost_ret (v := .agg #[.int .u32 st, .slice (some ⟨G, 0, none⟩) (n + 1) sc]) (by simp [results, Tryd.results34, go_sem, r0, r1]) rfl ?_
    exact ⟨_, rfl, HZ2.out.sg HG.out _ _, HZ2.out.done _ _⟩
end Go.Proofs.YtcilhippjiichaaDoor
