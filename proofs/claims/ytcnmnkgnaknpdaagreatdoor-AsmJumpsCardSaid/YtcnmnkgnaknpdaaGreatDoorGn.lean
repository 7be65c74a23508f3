/-
  The segments of an image in memory: a row of addresses and rows of bytes; a segment more, a byte more.
  What image answers: the segments of what is placed, and where the program begins.
  What image answers, walked: the segments of what is placed, and where the program begins.
  How bytes, segments and names lie in memory, whoever owns them; what was made lies so.
  What Assemble answers: the image and the names of a program, or its first error with the line.
  The laws' own look at two programs (awake) answers true.
-/
import Derived.Test.YtcnmnkgnaknpdaaGreatDoorGj
import Derived.Deep.AppendLies
import Derived.Deep.RegionLaw
import Derived.Test.YtcnmnkgnaknpdaaGreatDoorGm
import Derived.Deep.OwnRows
import Derived.Carry
import Derived.RegionTactic
import Derived.BigRegion
import Derived.Deep.Cut
import Derived.Test.YtcnmnkgnaknpdaaGreatDoorGi

/-! WalkR -/
namespace Go.Proofs.YtcnmnkgnaknpdaaGreatDoor
open Go.RowKit Go.Maps S02 S06 S07
def byC (bs : List UInt8) : List Value := bs.map fun b => .int .u8 b.toNat
def sgC (ps : List (Nat × Value × List UInt8)) : List Value := ps.flatMap fun p => [.int .u32 p.1, p.2.1]
theorem byC_snoc (bs : List UInt8) (b : UInt8) : byC (bs ++ [b]) = byC bs ++ [.int .u8 b.toNat] := by simp [byC]
theorem sgC_len (ps : List (Nat × Value × List UInt8)) : (sgC ps).length = ps.length * 2 := by
  induction ps with
  | nil => rfl
  | cons p r ih => rw [sgC, List.flatMap_cons, List.length_append, ← sgC, ih]; simp; omega
theorem sgC_snoc (ps : List (Nat × Value × List UInt8)) (a : Nat) (d : Value) (bs : List UInt8) : sgC (ps ++ [(a, d, bs)]) = sgC ps ++ [.int .u32 a, d] := by simp [sgC]
theorem sgC_at : ∀ (ps : List (Nat × Value × List UInt8)) (j : Nat) (p : Nat × Value × List UInt8), ps[j]? = some p → (sgC ps)[2 * j]? = some (.int .u32 p.1) ∧ (sgC ps)[2 * j + 1]? = some p.2.1
  | [], _, _, h => by simp at h
  | x :: r, 0, p, h => by simp at h; subst h; exact ⟨rfl, rfl⟩
  | x :: r, j + 1, p, h => by
    rw [List.getElem?_cons_succ] at h
    obtain ⟨h1, h2⟩ := sgC_at r j p h
    rw [show sgC (x :: r) = .int .u32 x.1 :: x.2.1 :: sgC r from rfl]
    rw [show 2 * (j + 1) = 2 * j + 1 + 1 by omega]
    simp only [List.getElem?_cons_succ]
    exact ⟨h1, h2⟩
theorem sgC_set (ps : List (Nat × Value × List UInt8)) (a : Nat) (d d' : Value) (bs bs' : List UInt8) : (sgC (ps ++ [(a, d, bs)])).set (2 * ps.length + 1) d' = sgC (ps ++ [(a, d', bs')]) := by
  rw [sgC_snoc, sgC_snoc, List.set_append_right _ _ (by rw [sgC_len]; omega), sgC_len, show 2 * ps.length + 1 - ps.length * 2 = 1 by omega]
  rfl
/-- Segments that lie in rows of one's own. -/
structure SG (N : Nat) (w : World) (v : Value) (ps : List (Nat × Value × List UInt8)) : Prop where
  own : w.ownsRow N 49 2 v ps.length (sgC ps)
  dat : ∀ p ∈ ps, w.ownsRow N 5 1 p.2.1 p.2.2.length (byC p.2.2)
  sep : ps.Pairwise fun a b => ∀ k, a.2.1.ownBlock = some k → b.2.1.ownBlock ≠ some k
theorem SG.nil (N : Nat) (w : World) : SG N w (.slice none 0 0) [] := ⟨World.ownsRow_nil _ _ _ _, fun p hp => by simp at hp, List.Pairwise.nil⟩
theorem SG.keep {N : Nat} {w w' : World} {v : Value} {ps : List (Nat × Value × List UInt8)} (h : SG N w v ps) (hb : ∀ (k : Nat) (c : Array Value) (e : TypeId) (f : Nat × Nat), w.heap[k]? = some (Obj.cells c e f) → e = 49 ∨ e = 5 → w'.heap[k]? = w.heap[k]?) : SG N w' v ps :=
  ⟨own_keep h.own fun k hk => by obtain ⟨_, _, c, hc⟩ := own_lt h.own hk; exact hb k c _ _ hc (.inl rfl),
   fun p hp => own_keep (h.dat p hp) fun k hk => by obtain ⟨_, _, c, hc⟩ := own_lt (h.dat p hp) hk; exact hb k c _ _ hc (.inr rfl), h.sep⟩
theorem SG.below {N : Nat} {w w' : World} {v : Value} {ps : List (Nat × Value × List UInt8)} (h : SG N w v ps) (hb : Below w.heap.size w w') : SG N w' v ps := h.keep fun k _c _e _f hk _ => hb.block k (lt_of_heap hk)
theorem kind_ne {w : World} {j k : Nat} {c c' : Array Value} {e e' : TypeId} {f f' : Nat × Nat} (h : w.heap[j]? = some (.cells c e f)) (h' : w.heap[k]? = some (.cells c' e' f')) (he : e ≠ e') : j ≠ k := by
  rintro rfl
  rw [h] at h'
  injection h' with h'
  injection h' with _ h2
  exact he h2
theorem SG.off {N : Nat} {w : World} {v : Value} {ps : List (Nat × Value × List UInt8)} (h : SG N w v ps) {k : Nat} {c : Array Value} {e : TypeId} {f : Nat × Nat} (hk : w.heap[k]? = some (.cells c e f)) (he : e ≠ 49 ∧ e ≠ 5) (o : Nat) (u : Value) : SG N (w.setCell ⟨k, o, none⟩ u) v ps :=
  h.keep fun j c' e' f' hj he' => heap_other (kind_ne hj hk (by rintro rfl; exact he'.elim he.1 he.2))
theorem SG.lies {N : Nat} {w : World} {v : Value} {ps : List (Nat × Value × List UInt8)} (h : SG N w v ps) (h0 : ps ≠ []) : ∃ G c, v = .slice (some ⟨G, 0, none⟩) ps.length c ∧ N ≤ G ∧ (∃ cs, w.heap[G]? = some (.cells cs 49 (0, 0))) := by
  rcases h.own.2 with ⟨_, h1⟩ | ⟨g, cap, cur, hv, h1, h2, _⟩
  · exact absurd (List.eq_nil_of_length_eq_zero h1) h0
  · exact ⟨g, cap, hv, h1, cur, h2⟩
theorem SG.cell {N : Nat} {w : World} {G n c : Nat} {ps : List (Nat × Value × List UInt8)} (h : SG N w (.slice (some ⟨G, 0, none⟩) n c) ps) (hn : ps.length = n) {j : Nat} {p : Nat × Value × List UInt8} (hj : ps[j]? = some p) :
    w.cell? ⟨G, 2 * j, none⟩ = some (.int .u32 p.1) ∧ w.cell? ⟨G, 2 * j + 1, none⟩ = some p.2.1 ∧ (∀ o, w.frozen? ⟨G, o, none⟩ = false) := by
  subst hn
  have hl : j < ps.length := (List.getElem?_eq_some_iff.1 hj).1
  obtain ⟨h1, h2⟩ := sgC_at ps j p hj
  exact ⟨(h.own.cellAt (2 * j) (by omega)).trans h1, (h.own.cellAt (2 * j + 1) (by omega)).trans h2, fun o => h.own.frozenAt o⟩
/-- A segment more. -/
theorem SG.seg {N : Nat} {w w1 : World} {v v' : Value} {ps : List (Nat × Value × List UInt8)} {o : Obj} {a : Nat} (h : SG N w v ps) (hg : (w.alloc o).grownBy w1 v.ownBlock) (ho : w1.ownsRow N 49 2 v' (ps.length + 1) (sgC ps ++ [.int .u32 a, .slice none 0 0])) : SG N w1 v' (ps ++ [(a, .slice none 0 0, [])]) := by
  refine ⟨?_, fun p hp => ?_, ?_⟩
  · rw [sgC_snoc, List.length_append]; exact ho
  · rcases List.mem_append.1 hp with hp | hp
    · refine own_keep (h.dat p hp) fun k hk => ?_
      obtain ⟨_, h2, c, hc⟩ := own_lt (h.dat p hp) hk
      rw [hg.block k (by simp; omega) ?_, Below.heap_alloc w o k h2]
      intro e
      obtain ⟨_, _, c', hc'⟩ := own_lt h.own e.symm
      exact kind_ne hc hc' (by decide) rfl
    · rw [List.mem_singleton] at hp; subst hp; exact World.ownsRow_nil _ _ _ _
  · rw [List.pairwise_append]
    refine ⟨h.sep, List.pairwise_singleton _ _, fun x _ y hy k _ => ?_⟩
    rw [List.mem_singleton] at hy; subst hy; simp [Value.ownBlock]
/-- A byte more. -/
theorem SG.byte {N : Nat} {w w1 : World} {G n c : Nat} {dv dv' : Value} {ps : List (Nat × Value × List UInt8)} {o : Obj} {a : Nat} {bs : List UInt8} {b : UInt8} {i : Nat} (h : SG N w (.slice (some ⟨G, 0, none⟩) n c) (ps ++ [(a, dv, bs)])) (hn : ps.length + 1 = n) (hg : (w.alloc o).grownBy w1 dv.ownBlock) (ho : w1.ownsRow N 5 1 dv' (bs.length + 1) (byC bs ++ [.int .u8 b.toNat])) (hv : dv.ownBlock = dv'.ownBlock ∨ dv'.ownBlock = some (w.heap.size + 1)) (hi : i = 2 * ps.length + 1) :
    SG N (w1.setCell ⟨G, i, none⟩ dv') (.slice (some ⟨G, 0, none⟩) n c) (ps ++ [(a, dv', bs ++ [b])]) := by
  subst hn hi
  obtain ⟨G1, G2, cs, hG⟩ := own_lt h.own rfl
  have hd : w.ownsRow N 5 1 dv bs.length (byC bs) := h.dat (a, dv, bs) (by simp)
  have kp : ∀ (k : Nat) (c' : Array Value) (e : TypeId) (f : Nat × Nat), w.heap[k]? = some (Obj.cells c' e f) → dv.ownBlock ≠ some k → w1.heap[k]? = w.heap[k]? := fun k c' e f hk hne => by
    rw [hg.block k (by have := lt_of_heap hk; simp; omega) (fun e => hne e.symm), Below.heap_alloc w o k (lt_of_heap hk)]
  have hGne : dv.ownBlock ≠ some G := fun e => by
    obtain ⟨_, _, c', hc'⟩ := own_lt hd e
    exact kind_ne hG hc' (by decide) rfl
  have hG1 : w1.heap[G]? = some (.cells cs 49 (0, 0)) := (kp G _ _ _ hG hGne).trans hG
  have hs := List.pairwise_append.1 h.sep
  refine ⟨?_, fun p hp => ?_, ?_⟩
  · have h1 : w1.ownsRow N 49 2 (.slice (some ⟨G, 0, none⟩) (ps.length + 1) c) (ps ++ [(a, dv, bs)]).length (sgC (ps ++ [(a, dv, bs)])) := own_keep h.own fun k hk => by
      simp only [Value.ownBlock, Option.some.injEq] at hk
      subst hk
      exact kp G _ _ _ hG hGne
    rw [List.length_append, List.length_singleton] at h1
    have h2 := (h1.stored (2 * ps.length + 1) dv').1
    rw [sgC_set ps a dv dv' bs (bs ++ [b])] at h2
    rw [List.length_append, List.length_singleton]
    exact h2
  · have h' : w1.ownsRow N 5 1 p.2.1 p.2.2.length (byC p.2.2) := by
      rcases List.mem_append.1 hp with hp | hp
      · refine own_keep (h.dat p (List.mem_append_left _ hp)) fun k hk => ?_
        obtain ⟨_, _, c', hc'⟩ := own_lt (h.dat p (List.mem_append_left _ hp)) hk
        exact kp k _ _ _ hc' (hs.2.2 p hp (a, dv, bs) (by simp) k hk)
      · rw [List.mem_singleton] at hp
        subst hp
        rw [byC_snoc, List.length_append]
        exact ho
    refine own_keep h' fun k hk => ?_
    obtain ⟨_, _, c', hc'⟩ := own_lt h' hk
    exact heap_other (kind_ne hc' hG1 (by decide))
  · rw [List.pairwise_append]
    refine ⟨hs.1, List.pairwise_singleton _ _, fun x hx y hy k hk => ?_⟩
    rw [List.mem_singleton] at hy
    subst hy
    rcases hv with hv | hv
    · rw [← hv]; exact hs.2.2 x hx (a, dv, bs) (by simp) k hk
    · rw [hv]
      have := (own_lt (h.dat x (List.mem_append_left _ hx)) hk).2.1
      intro e
      injection e with e
      omega
end Go.Proofs.YtcnmnkgnaknpdaaGreatDoor
/-! WalkS -/
namespace Go.Proofs.YtcnmnkgnaknpdaaGreatDoor
open Go.RowKit Go.Maps S02 S06 S07
namespace AS
theorem ext_snoc (l : List (Nat × List UInt8)) (a : Nat) (bs : List UInt8) (c : UInt8) : ext (l ++ [(a, bs)]) c = l ++ [(a, bs ++ [c])] := by
  induction l with
  | nil => rfl
  | cons p r ih =>
    cases r with
    | nil => rfl
    | cons q r => rw [List.cons_append, List.cons_append, ext, ← List.cons_append, ih]; rfl
theorem ext_ne {l : List (Nat × List UInt8)} (h : l ≠ []) (c : UInt8) : ext l c ≠ [] := by
  match l, h with
  | [p], _ => simp [ext]
  | p :: q :: r, _ => simp [ext]
theorem segs_ne {pl : Nat → Bool} (m : Nat → UInt8) : ∀ {i : Nat}, pl i = true → segs pl m (i + 1) ≠ []
  | 0, h => by rw [segs, if_pos h, if_pos (.inl rfl)]; simp
  | i + 1, h => by
    rw [segs, if_pos h]
    split
    · simp
    · rename_i c
      simp at c
      exact ext_ne (segs_ne m c) _
theorem segs_no {pl : Nat → Bool} {m : Nat → UInt8} {i : Nat} (h : pl i = false) : segs pl m (i + 1) = segs pl m i := by rw [segs, if_neg (by rw [h]; simp)]
theorem segs_new {pl : Nat → Bool} {m : Nat → UInt8} {i : Nat} (h : pl i = true) (h' : i = 0 ∨ pl (i - 1) = false) : segs pl m (i + 1) = segs pl m i ++ [(i, [] ++ [m i])] := by rw [segs, if_pos h, if_pos h']; rfl
theorem segs_more {pl : Nat → Bool} {m : Nat → UInt8} {i : Nat} (h : pl i = true) (h' : ¬ i = 0) (h'' : pl (i - 1) = true) : ∃ l a bs, segs pl m i = l ++ [(a, bs)] ∧ segs pl m (i + 1) = l ++ [(a, bs ++ [m i])] := by
  obtain ⟨j, rfl⟩ : ∃ j, i = j + 1 := ⟨i - 1, by omega⟩
  have h0 := segs_ne m (i := j) (by simpa using h'')
  rcases List.eq_nil_or_concat (segs pl m (j + 1)) with h1 | ⟨l, ⟨a, bs⟩, h1⟩
  · exact absurd h1 h0
  · rw [List.concat_eq_append] at h1
    refine ⟨l, a, bs, h1, ?_⟩
    rw [segs, if_pos h, if_neg (by simp at h''; simp [h'']), h1, ext_snoc]
end AS
/-- An image that is being made: N: the block of the answer; beside it the block of the image. -/
structure IJ (w wr : World) (N : Nat) (l : List (Nat × List UInt8)) (v : Value) (ps : List (Nat × Value × List UInt8)) : Prop where
  r0 : wr.heap[N]? = some (.cells #[.int .u32 0, .slice none 0 0] 26 (0, 0))
  bx : wr.heap[N + 1]? = some (.cells #[.int .u32 0, v] 26 (0, 0))
  sg : SG N wr v ps
  sp : ps.map (fun p => (p.1, p.2.2)) = l
  old : Below N w wr
theorem IJ.drew {w wr : World} {N : Nat} {l : List (Nat × List UInt8)} {v : Value} {ps : List (Nat × Value × List UInt8)} (h : IJ w wr N l v ps) : IJ w wr.drew N l v ps := ⟨h.r0, h.bx, h.sg.below (Below.refl _ _).drew, h.sp, h.old.drew⟩
theorem IJ.seg {w wr w1 : World} {N : Nat} {l : List (Nat × List UInt8)} {v v' : Value} {ps : List (Nat × Value × List UInt8)} {o : Obj} {a : Nat} (h : IJ w wr N l v ps) (hg : (wr.alloc o).grownBy w1 v.ownBlock) (ho : w1.ownsRow N 49 2 v' (ps.length + 1) (sgC ps ++ [.int .u32 a, .slice none 0 0])) :
    w1.cell? ⟨N + 1, 1, none⟩ = some v ∧ w1.frozen? ⟨N + 1, 1, none⟩ = false ∧ IJ w (w1.setCell ⟨N + 1, 1, none⟩ v') N (l ++ [(a, [])]) v' (ps ++ [(a, .slice none 0 0, [])]) := by
  have kp : ∀ (k : Nat) (c : Array Value) (e : TypeId) (f : Nat × Nat), wr.heap[k]? = some (Obj.cells c e f) → e ≠ 49 → w1.heap[k]? = wr.heap[k]? := fun k c e f hk he => by
    rw [hg.block k (by have := lt_of_heap hk; simp; omega) (fun e' => ?_), Below.heap_alloc wr o k (lt_of_heap hk)]
    obtain ⟨_, _, c', hc'⟩ := own_lt h.sg.own e'.symm
    exact kind_ne hk hc' he rfl
  have b1 : w1.heap[N + 1]? = some (.cells #[.int .u32 0, v] 26 (0, 0)) := (kp _ _ _ _ h.bx (by decide)).trans h.bx
  have b0 : w1.heap[N]? = some (.cells #[.int .u32 0, .slice none 0 0] 26 (0, 0)) := (kp _ _ _ _ h.r0 (by decide)).trans h.r0
  refine ⟨cell_of b1 (by simp), unfrozen b1, (heap_other (by omega)).trans b0, heap_set b1, (h.sg.seg hg ho).off b1 (by decide) _ _, by simp [h.sp], ?_⟩
  have hN := lt_of_heap h.r0
  have h1 : Below N w (wr.alloc o) := h.old.alloc (by omega) o
  exact (h1.grown hg (by simp; omega) fun k hk => (own_lt h.sg.own hk).1).setCell (by show N ≤ N + 1; omega) _
theorem IJ.byte {w wr w1 : World} {N G n c i : Nat} {l : List (Nat × List UInt8)} {dv dv' : Value} {ps : List (Nat × Value × List UInt8)} {o : Obj} {a : Nat} {bs : List UInt8} {b : UInt8} (h : IJ w wr N (l ++ [(a, bs)]) (.slice (some ⟨G, 0, none⟩) n c) (ps ++ [(a, dv, bs)])) (hn : ps.length + 1 = n) (hg : (wr.alloc o).grownBy w1 dv.ownBlock) (ho : w1.ownsRow N 5 1 dv' (bs.length + 1) (byC bs ++ [.int .u8 b.toNat])) (hv : dv.ownBlock = dv'.ownBlock ∨ dv'.ownBlock = some (wr.heap.size + 1)) (hi : i = 2 * ps.length + 1) :
    w1.cell? ⟨G, i, none⟩ = some dv ∧ w1.frozen? ⟨G, i, none⟩ = false ∧ IJ w (w1.setCell ⟨G, i, none⟩ dv') N (l ++ [(a, bs ++ [b])]) (.slice (some ⟨G, 0, none⟩) n c) (ps ++ [(a, dv', bs ++ [b])]) := by
  have hd : wr.ownsRow N 5 1 dv bs.length (byC bs) := h.sg.dat (a, dv, bs) (by simp)
  have kp : ∀ (k : Nat) (c : Array Value) (e : TypeId) (f : Nat × Nat), wr.heap[k]? = some (Obj.cells c e f) → e ≠ 5 → w1.heap[k]? = wr.heap[k]? := fun k c e f hk he => by
    rw [hg.block k (by have := lt_of_heap hk; simp; omega) (fun e' => ?_), Below.heap_alloc wr o k (lt_of_heap hk)]
    obtain ⟨_, _, c', hc'⟩ := own_lt hd e'.symm
    exact kind_ne hk hc' he rfl
  obtain ⟨G1, G2, cs, hG⟩ := own_lt h.sg.own rfl
  obtain ⟨_, c2, c3⟩ := h.sg.cell (by simp [hn]) (j := ps.length) (p := (a, dv, bs)) (by simp)
  have hG1 := (kp G _ _ _ hG (by decide)).trans hG
  have b1 := (kp _ _ _ _ h.bx (by decide)).trans h.bx
  have b0 := (kp _ _ _ _ h.r0 (by decide)).trans h.r0
  have hs := h.sg.byte hn hg ho hv hi
  subst hi
  refine ⟨(World.cell?_of_block (w := wr) (a := ⟨G, 2 * ps.length + 1, none⟩) (kp G _ _ _ hG (by decide))).trans c2, unfrozen hG1, (heap_other (kind_ne b0 hG1 (by decide))).trans b0, (heap_other (kind_ne b1 hG1 (by decide))).trans b1, hs, ?_, ?_⟩
  · have := h.sp
    rw [List.map_append] at this
    have := (List.append_inj' this rfl).1
    simp [this]
  · have hN := lt_of_heap h.r0
    have h1 : Below N w (wr.alloc o) := h.old.alloc (by omega) o
    exact (h1.grown hg (by simp; omega) fun k hk => (own_lt hd hk).1).setCell (by show N ≤ G; omega) _
theorem IJ.split {w wr : World} {N : Nat} {l : List (Nat × List UInt8)} {a : Nat} {bs : List UInt8} {v : Value} {ps : List (Nat × Value × List UInt8)} (h : IJ w wr N (l ++ [(a, bs)]) v ps) : ∃ qs dv, ps = qs ++ [(a, dv, bs)] := by
  have hs := h.sp
  rcases List.eq_nil_or_concat ps with rfl | ⟨qs, ⟨a', dv, bs'⟩, rfl⟩
  · simp at hs
  · rw [List.concat_eq_append] at hs ⊢
    rw [List.map_append] at hs
    have := (List.append_inj' hs rfl).2
    simp at this
    obtain ⟨rfl, rfl⟩ := this
    exact ⟨qs, dv, rfl⟩
theorem IJ.c {w wr : World} {N : Nat} {l : List (Nat × List UInt8)} {v : Value} {ps : List (Nat × Value × List UInt8)} (h : IJ w wr N l v ps) : wr.cell? ⟨N + 1, 0, none⟩ = some (.int .u32 0) ∧ wr.cell? ⟨N + 1, 1, none⟩ = some v ∧ (∀ o, wr.frozen? ⟨N + 1, o, none⟩ = false) ∧ wr.cell? ⟨N, 0, none⟩ = some (.int .u32 0) ∧ wr.cell? ⟨N, 1, none⟩ = some (.slice none 0 0) ∧ (∀ o, wr.frozen? ⟨N, o, none⟩ = false) :=
  ⟨cell_of h.bx (by simp), cell_of h.bx (by simp), fun _ => unfrozen h.bx, cell_of h.r0 (by simp), cell_of h.r0 (by simp), fun _ => unfrozen h.r0⟩
end Go.Proofs.YtcnmnkgnaknpdaaGreatDoor
/-! WalkT -/
namespace Go.Proofs.YtcnmnkgnaknpdaaGreatDoor
open Go.RowKit Go.Maps S02 S06 S07
theorem seg_info : (Tryz.prog.info? 49).map (fun i => (i.zero, i.size, i.bytes)) = some (some (.agg #[.int .u32 0, .slice none 0 0]), 2, 32) := by kernel_rfl
theorem byte_info : (Tryz.prog.info? 5).map (fun i => (i.zero, i.size, i.bytes)) = some (some (.int .u8 0), 1, 1) := by kernel_rfl
namespace AS
theorem ext_len (l : List (Nat × List UInt8)) (c : UInt8) (n : Nat) (h : ∀ p ∈ l, p.2.length ≤ n) : (ext l c).length = l.length ∧ ∀ p ∈ ext l c, p.2.length ≤ n + 1 := by
  rcases List.eq_nil_or_concat l with rfl | ⟨l', ⟨a, bs⟩, rfl⟩
  · exact ⟨rfl, fun p hp => by simp [ext] at hp⟩
  · rw [List.concat_eq_append] at h ⊢
    rw [ext_snoc]
    refine ⟨by simp, fun p hp => ?_⟩
    rcases List.mem_append.1 hp with hp | hp
    · have := h p (List.mem_append_left _ hp); omega
    · rw [List.mem_singleton] at hp
      subst hp
      have := h (a, bs) (by simp)
      simp at this ⊢
      exact this
theorem segs_len (pl : Nat → Bool) (m : Nat → UInt8) : ∀ k, (segs pl m k).length ≤ k ∧ ∀ p ∈ segs pl m k, p.2.length ≤ k
  | 0 => ⟨Nat.le_refl _, fun p hp => by simp [segs] at hp⟩
  | k + 1 => by
    obtain ⟨h1, h2⟩ := segs_len pl m k
    rw [segs]
    split
    · split
      · refine ⟨by simp; omega, fun p hp => ?_⟩
        rcases List.mem_append.1 hp with hp | hp
        · have := h2 p hp; omega
        · rw [List.mem_singleton] at hp; subst hp; simp
      · obtain ⟨h3, h4⟩ := ext_len (segs pl m k) (m k) k h2
        exact ⟨by omega, h4⟩
    · exact ⟨by omega, fun p hp => by have := h2 p hp; omega⟩
end AS
theorem IJ.bd {w wr : World} {N k : Nat} {pl : Nat → Bool} {m : Nat → UInt8} {v : Value} {ps : List (Nat × Value × List UInt8)} (h : IJ w wr N (AS.segs pl m k) v ps) : ps.length ≤ k ∧ ∀ p ∈ ps, p.2.2.length ≤ k := by
  obtain ⟨h1, h2⟩ := AS.segs_len pl m k
  rw [← h.sp] at h1 h2
  exact ⟨by simpa using h1, fun p hp => h2 (p.1, p.2.2) (List.mem_map.2 ⟨p, hp, rfl⟩)⟩
theorem seg_one (a : Nat) : ∀ z ∈ [Value.int .u32 a, .slice none 0 0], z.oneCell' = true := by
  intro z hz
  simp at hz
  rcases hz with rfl | rfl <;> rfl
def ImPost (w : World) (l : List (Nat × List UInt8)) (s : Nat) (e : Ending) (w' : World) : Prop := ∃ v ps, e = .returned (.agg #[.int .u32 s, v]) ∧ SG w.heap.size w' v ps ∧ ps.map (fun p => (p.1, p.2.2)) = l ∧ Below w.heap.size w w'
theorem IJ.start (w : World) : IJ w ((w.alloc (.cells #[.int .u32 0, .slice none 0 0] 26)).alloc (.cells #[.int .u32 0, .slice none 0 0] 26)) w.heap.size [] (.slice none 0 0) [] := by
  refine ⟨by rw [Below.heap_alloc _ _ _ (by simp)]; exact heap_alloc_new w _, by have := heap_alloc_new (w.alloc (.cells #[.int .u32 0, .slice none 0 0] 26)) (.cells #[.int .u32 0, .slice none 0 0] 26); simpa using this, SG.nil _ _, rfl, ((Below.refl _ w).alloc (Nat.le_refl _) _).alloc (by simp) _⟩
/-- The segments, and the two blocks of the answer and of the image. -/
structure Fz (N : Nat) (w W : World) (v : Value) (ps : List (Nat × Value × List UInt8)) : Prop where
  sg : SG N W v ps
  old : Below N w W
  b0 : ∃ c f, W.heap[N]? = some (.cells c 26 f)
  b1 : ∃ c f, W.heap[N + 1]? = some (.cells c 26 f)
theorem Fz.of {w wr : World} {N : Nat} {l : List (Nat × List UInt8)} {v : Value} {ps : List (Nat × Value × List UInt8)} (h : IJ w wr N l v ps) : Fz N w wr v ps := ⟨h.sg, h.old, ⟨_, _, h.r0⟩, ⟨_, _, h.bx⟩⟩
theorem Fz.set0 {N : Nat} {w W : World} {v : Value} {ps : List (Nat × Value × List UInt8)} {o : Nat} {u : Value} (h : Fz N w W v ps) : Fz N w (W.setCell ⟨N, o, none⟩ u) v ps := by
  obtain ⟨c, f, h0⟩ := h.b0
  obtain ⟨c', f', h1⟩ := h.b1
  exact ⟨h.sg.off h0 (by decide) _ _, h.old.setCell (Nat.le_refl N) _, ⟨_, _, heap_set h0⟩, ⟨_, _, (heap_other (by omega)).trans h1⟩⟩
theorem Fz.set1 {N : Nat} {w W : World} {v : Value} {ps : List (Nat × Value × List UInt8)} {o : Nat} {u : Value} (h : Fz N w W v ps) : Fz N w (W.setCell ⟨N + 1, o, none⟩ u) v ps := by
  obtain ⟨c, f, h0⟩ := h.b0
  obtain ⟨c', f', h1⟩ := h.b1
  exact ⟨h.sg.off h1 (by decide) _ _, h.old.setCell (Nat.le_succ N) _, ⟨_, _, (heap_other (by omega)).trans h0⟩, ⟨_, _, heap_set h1⟩⟩
theorem im_end {w W : World} {v : Value} {ps : List (Nat × Value × List UInt8)} {l : List (Nat × List UInt8)} {s : Nat} (hs : ps.map (fun p => (p.1, p.2.2)) = l) (h : Fz w.heap.size w W v ps) : ImPost w l s (.returned (.agg #[.int .u32 s, v])) W := ⟨v, ps, rfl, h.sg, hs, h.old⟩
set_option maxHeartbeats 8000000 in
theorem image_any {q : Q} {w : World} {ns : List (List UInt8 × Nat)} {x : Int} {pl : Nat → Bool} {m : Nat → UInt8} (hp : PS q w ns x pl m) :
    Calls Tryz.prog 24 #[.pointer (some ⟨q.P, 0, none⟩)] w (ImPost w (AS.segs pl m 16384) (AS.start ns (AS.segs pl m 16384))) := by
  obtain ⟨i0, HI⟩ := info_parts seg_info
  have HI := Lib.hid HI
  obtain ⟨i1, HJ⟩ := info_parts byte_info
  have HJ := Lib.hid HJ
  have HP := Lib.hid hp
  have HS := Lib.hid (IJ.start w)
  have d4 : ∀ o1 o2, ((w.alloc o1).alloc o2).cell? ⟨q.P, 4, none⟩ = some (.slice (some ⟨q.L, 0, none⟩) 16384 16384) := fun o1 o2 => by
    obtain ⟨v, _, _, _, _, c4, _, _⟩ := (hp.below (((Below.refl _ w).alloc (Nat.le_refl _) o1).alloc (by simp) o2)).c
    exact c4
  clear hp
  go_enter Tryz.func24, Tryz.ntmps24
  go_wp2
  clear d4
  go_loopw [13] (fun i wr => ∃ k : Nat, k ≤ 16384 ∧ i = .int .i64 k ∧ ∃ v ps, Hid (IJ w wr w.heap.size (AS.segs pl m k) v ps)) (fun i _ => 16384 - (intOf i).toNat)
  case atStart => exact ⟨0, by omega, rfl, _, _, HS⟩
  case round =>
    obtain ⟨k, hk, rfl, v, ps, hR⟩ := hrel
    clear HS
    have HQ := Lib.hid (HP.out.below hR.out.old)
    obtain ⟨b0, b1, bf, r0, r1, rf⟩ := hR.out.c
    have HK := Lib.hid hk
    clear hk
    by_cases hlt : (k : Int) < 16384
    · have HLT := Lib.hid (show k < 16384 by omega)
      obtain ⟨_, _, _, _, c3, c4, _, _⟩ := HQ.out.c
      obtain ⟨p0, _⟩ := HQ.out.pl_cell k HLT.out
      obtain ⟨m0, _⟩ := HQ.out.mem_cell k HLT.out
      cases hpl : pl k
      · have HX := Lib.hid (show IJ w wr w.heap.size (AS.segs pl m (k + 1)) v ps by rw [AS.segs_no hpl]; exact hR.out)
        rw [hpl] at p0
        clear b0 b1 bf r0 r1 rf c3 m0
        go_wp2
        go_roundw
        case rel => exact ⟨k + 1, by have := HLT.out; omega, by go_num, _, _, HX⟩
        case measure => have := HLT.out; simp [intOf]; omega
      · rw [hpl] at p0
        have HPL := Lib.hid hpl
        clear hpl
        have hbd : (ps.length : Int) ≤ 16384 := by have := hR.out.bd.1; have := HLT.out; omega
        by_cases hnew : k = 0 ∨ pl (k - 1) = false
        · have HNW := Lib.hid hnew
          by_cases hk0 : (k : Int) = 0
          · have hk0' : ((k : Int) == 0) = true := by simpa using hk0
            clear hnew hk0
            go_upto_region 8 with (at_builtin; refine wpList_append_lies _ rfl _ _ 24 rfl w.heap.size 49 i0 (.agg #[.int .u32 0, .slice none 0 0]) 2 32 Tryz.underlying24 HI.out.1 HI.out.2.1 HI.out.2.2.1 HI.out.2.2.2 rfl (by decide) _ ps.length (sgC ps) rfl (hR.out.sg.own.alloc _) ⟨_, 0, none⟩ 1 1 [.int .u32 (k : Nat), .slice none 0 0] rfl rfl (two_new _ _ _ _) (seg_one _) (by decide) (by unfold maxLen; omega) (by omega) (by have := hR.out.old.size; simp; omega) _ rfl ?_)
            intro g cap w1 ho1 hg1 hv1 hl1
            obtain ⟨e1, e2, e3⟩ := hR.out.seg (a := k) hg1 ho1
            have HX := Lib.hid e3
            clear ho1 hg1 hv1 hl1 e3 b0 b1 bf r0 r1 rf p0 m0 c3 c4 hR HQ
            obtain ⟨n, hn⟩ : ∃ n, ps.length = n := ⟨_, rfl⟩
            rw [hn] at HX hbd
            rw [hn]
            have HNN := Lib.hid hn
            clear hn
            go_upto_region 8 with fail
            obtain ⟨W2, hW⟩ : ∃ W2, w1.setCell ⟨w.heap.size + 1, 1, none⟩ (.slice (some ⟨g, 0, none⟩) (n + 1) cap) = W2 := ⟨_, rfl⟩
            rw [hW] at HX ⊢
            clear hW e1 e2
            obtain ⟨a, ha⟩ : ∃ a, k = a := ⟨_, rfl⟩
            obtain ⟨dv, hdv⟩ : ∃ dv, Value.slice none 0 0 = dv := ⟨_, rfl⟩
            obtain ⟨bs, hbs⟩ : ∃ bs : List UInt8, [] = bs := ⟨_, rfl⟩
            have HX : Hid (IJ w W2 w.heap.size (AS.segs pl m k ++ [(a, bs)]) (.slice (some ⟨g, 0, none⟩) (n + 1) cap) (ps ++ [(a, dv, bs)])) := by rw [← ha, ← hdv, ← hbs]; exact HX
            have hbb : bs.length ≤ 16384 := by rw [← hbs]; simp
            have HSP := Lib.hid (show AS.segs pl m (k + 1) = AS.segs pl m k ++ [(a, bs ++ [m k])] by rw [← ha, ← hbs]; exact AS.segs_new HPL.out HNW.out)
            clear ha hdv hbs
            obtain ⟨b0, b1, bf, -, -, -⟩ := HX.out.c
            obtain ⟨g0, g1, g2⟩ := HX.out.sg.cell (by rw [List.length_append, HNN.out]; rfl) (j := n) (p := (a, dv, bs)) (by rw [← HNN.out]; simp)
            have HQ2 := Lib.hid (HP.out.below HX.out.old)
            obtain ⟨_, -, -, -, c3, -, -, -⟩ := HQ2.out.c
            obtain ⟨m0, -⟩ := HQ2.out.mem_cell k HLT.out
            have HD := Lib.hid (show W2.ownsRow w.heap.size 5 1 dv bs.length (byC bs) from HX.out.sg.dat (a, dv, bs) (by simp))
            clear g0
            have g3 : W2.cell? ⟨g, n * 2 + 1, none⟩ = some dv := by rw [Nat.mul_comm]; exact g1
            have g4 : ∀ o, (W2.alloc o).cell? ⟨g, n * 2 + 1, none⟩ = some dv := fun o => ((Below.refl W2.heap.size W2).alloc (Nat.le_refl _) o).cell (p := ⟨g, n * 2 + 1, none⟩) (World.block_lt_of_cell? _ _ g3) |>.trans g3
            go_upto_region 9 with fail
            clear HNW hk0'
            go_region_law (refine step_append_lies _ rfl (.tmp 56) (.tmp 64) 47 rfl w.heap.size 5 i1 (.int .u8 0) 1 1 Tryz.underlying47 HJ.out.1 HJ.out.2.1 HJ.out.2.2.1 HJ.out.2.2.2 rfl (by decide) dv bs.length (byC bs) (by simp [Act.eval]) (HD.out.alloc _).drew ⟨W2.heap.size, 0, none⟩ 1 1 [.int .u8 (m k).toNat] (by simp [Act.eval]) rfl (cell_one_new W2 _ 5) (by simp [Value.oneCell']) (by decide) (by unfold maxLen; omega) (by omega) (by have := HX.out.old.size; simp; omega) (W2.heap.size + 1) (by simp) ?_; intro g' cap' w3 ho3 hg3 hv3 hl3; obtain ⟨y1, y2, y3⟩ := HX.out.byte (b := m k) (i := n * 2 + 1) (by rw [HNN.out]) ⟨hg3.os, hg3.tape, hg3.output, hg3.size, hg3.block⟩ ho3 (hv3.imp id (fun h => congrArg some h)) (by rw [HNN.out]; omega); have HY := Lib.hid y3; clear y3 ho3 hg3 hv3 hl3)
            all_goals
              rw [← HSP.out] at HY
              go_wp2
              go_roundw
              case rel => exact ⟨k + 1, by have := HLT.out; omega, by go_num, _, _, HY⟩
              case measure => have := HLT.out; simp [intOf]; omega
          · obtain ⟨j, rfl⟩ : ∃ j, k = j + 1 := ⟨k - 1, by omega⟩
            have hj : pl j = false := by exact hnew.elim (fun h => by omega) (fun h => by simpa using h)
            have hk0' : ((j : Int) + 1 == 0) = false := by simp; omega
            have hk1 : (j : Int) + 1 < 16384 := by omega
            have hk2 : 0 ≤ (j : Int) + 1 := by omega
            have HJJ := Lib.hid (show j < 16384 by have := HLT.out; omega)
            obtain ⟨p1, -⟩ := HQ.out.pl_cell j HJJ.out
            rw [hj] at p1
            clear hj hnew hk0 hlt
            go_upto_region 8 with (at_builtin; refine wpList_append_lies _ rfl _ _ 24 rfl w.heap.size 49 i0 (.agg #[.int .u32 0, .slice none 0 0]) 2 32 Tryz.underlying24 HI.out.1 HI.out.2.1 HI.out.2.2.1 HI.out.2.2.2 rfl (by decide) _ ps.length (sgC ps) rfl (hR.out.sg.own.alloc _) ⟨_, 0, none⟩ 1 1 [.int .u32 ((j + 1) : Nat), .slice none 0 0] rfl rfl (two_new _ _ _ _) (seg_one _) (by decide) (by unfold maxLen; omega) (by omega) (by have := hR.out.old.size; simp; omega) _ rfl ?_)
            intro g cap w1 ho1 hg1 hv1 hl1
            obtain ⟨e1, e2, e3⟩ := hR.out.seg (a := (j + 1)) hg1 ho1
            have HX := Lib.hid e3
            clear ho1 hg1 hv1 hl1 e3 b0 b1 bf r0 r1 rf p0 p1 m0 c3 c4 hR HQ
            obtain ⟨n, hn⟩ : ∃ n, ps.length = n := ⟨_, rfl⟩
            rw [hn] at HX hbd
            rw [hn]
            have HNN := Lib.hid hn
            clear hn
            go_upto_region 8 with fail
            obtain ⟨W2, hW⟩ : ∃ W2, w1.setCell ⟨w.heap.size + 1, 1, none⟩ (.slice (some ⟨g, 0, none⟩) (n + 1) cap) = W2 := ⟨_, rfl⟩
            rw [hW] at HX ⊢
            clear hW e1 e2
            obtain ⟨a, ha⟩ : ∃ a, (j + 1) = a := ⟨_, rfl⟩
            obtain ⟨dv, hdv⟩ : ∃ dv, Value.slice none 0 0 = dv := ⟨_, rfl⟩
            obtain ⟨bs, hbs⟩ : ∃ bs : List UInt8, [] = bs := ⟨_, rfl⟩
            have HX : Hid (IJ w W2 w.heap.size (AS.segs pl m (j + 1) ++ [(a, bs)]) (.slice (some ⟨g, 0, none⟩) (n + 1) cap) (ps ++ [(a, dv, bs)])) := by rw [← ha, ← hdv, ← hbs]; exact HX
            have hbb : bs.length ≤ 16384 := by rw [← hbs]; simp
            have HSP := Lib.hid (show AS.segs pl m ((j + 1) + 1) = AS.segs pl m (j + 1) ++ [(a, bs ++ [m (j + 1)])] by rw [← ha, ← hbs]; exact AS.segs_new HPL.out HNW.out)
            clear ha hdv hbs
            obtain ⟨b0, b1, bf, -, -, -⟩ := HX.out.c
            obtain ⟨g0, g1, g2⟩ := HX.out.sg.cell (by rw [List.length_append, HNN.out]; rfl) (j := n) (p := (a, dv, bs)) (by rw [← HNN.out]; simp)
            have HQ2 := Lib.hid (HP.out.below HX.out.old)
            obtain ⟨_, -, -, -, c3, -, -, -⟩ := HQ2.out.c
            obtain ⟨m0, -⟩ := HQ2.out.mem_cell (j + 1) HLT.out
            have HD := Lib.hid (show W2.ownsRow w.heap.size 5 1 dv bs.length (byC bs) from HX.out.sg.dat (a, dv, bs) (by simp))
            clear g0
            have g3 : W2.cell? ⟨g, n * 2 + 1, none⟩ = some dv := by rw [Nat.mul_comm]; exact g1
            have g4 : ∀ o, (W2.alloc o).cell? ⟨g, n * 2 + 1, none⟩ = some dv := fun o => ((Below.refl W2.heap.size W2).alloc (Nat.le_refl _) o).cell (p := ⟨g, n * 2 + 1, none⟩) (World.block_lt_of_cell? _ _ g3) |>.trans g3
            go_upto_region 9 with fail
            clear HNW hk0'
            go_region_law (refine step_append_lies _ rfl (.tmp 56) (.tmp 64) 47 rfl w.heap.size 5 i1 (.int .u8 0) 1 1 Tryz.underlying47 HJ.out.1 HJ.out.2.1 HJ.out.2.2.1 HJ.out.2.2.2 rfl (by decide) dv bs.length (byC bs) (by simp [Act.eval]) (HD.out.alloc _).drew ⟨W2.heap.size, 0, none⟩ 1 1 [.int .u8 (m (j + 1)).toNat] (by simp [Act.eval]) rfl (cell_one_new W2 _ 5) (by simp [Value.oneCell']) (by decide) (by unfold maxLen; omega) (by omega) (by have := HX.out.old.size; simp; omega) (W2.heap.size + 1) (by simp) ?_; intro g' cap' w3 ho3 hg3 hv3 hl3; obtain ⟨y1, y2, y3⟩ := HX.out.byte (b := m (j + 1)) (i := n * 2 + 1) (by rw [HNN.out]) ⟨hg3.os, hg3.tape, hg3.output, hg3.size, hg3.block⟩ ho3 (hv3.imp id (fun h => congrArg some h)) (by rw [HNN.out]; omega); have HY := Lib.hid y3; clear y3 ho3 hg3 hv3 hl3)
            all_goals
              rw [← HSP.out] at HY
              go_wp2
              go_roundw
              case rel => exact ⟨(j + 1) + 1, by have := HLT.out; omega, by go_num, _, _, HY⟩
              case measure => have := HLT.out; simp [intOf]; omega
        · have hk0 : ¬ k = 0 := fun h => hnew (.inl h)
          have hj0 : pl (k - 1) = true := by cases h : pl (k - 1) with | true => rfl | false => exact absurd (.inr h) hnew
          obtain ⟨l, a, bs, hs1, hs2⟩ := AS.segs_more (m := m) HPL.out hk0 hj0
          have hbb : bs.length ≤ 16384 := by have := (AS.segs_len pl m k).2 (a, bs) (by rw [hs1]; simp); have := HLT.out; simp at *; omega
          rw [hs1] at hR
          obtain ⟨qs, dv, rfl⟩ := hR.out.split
          obtain ⟨g, cap, rfl, -, -⟩ := hR.out.sg.lies (by simp)
          have HSP := Lib.hid hs2
          obtain ⟨n, hn⟩ : ∃ n, qs.length = n := ⟨_, rfl⟩
          rw [List.length_append, List.length_singleton, hn] at hR b1 hbd
          have HNN := Lib.hid hn
          obtain ⟨j, rfl⟩ : ∃ j, k = j + 1 := ⟨k - 1, by omega⟩
          have hj : pl j = true := by simpa using hj0
          have hk0' : ((j : Int) + 1 == 0) = false := by simp; omega
          have hk1 : (j : Int) + 1 < 16384 := by omega
          have hk2 : 0 ≤ (j : Int) + 1 := by omega
          have HJJ := Lib.hid (show j < 16384 by have := HLT.out; omega)
          obtain ⟨p1, -⟩ := HQ.out.pl_cell j HJJ.out
          rw [hj] at p1
          have HX := hR
          clear hR hlt hn hj hj0 hnew hk0 hs1 hs2 b0 b1 bf r0 r1 rf m0 c3
          have hbd' : (n : Int) ≤ 16384 := by omega
          obtain ⟨b0, b1, bf, -, -, -⟩ := HX.out.c
          obtain ⟨g0, g1, g2⟩ := HX.out.sg.cell (by rw [List.length_append, HNN.out]; rfl) (j := n) (p := (a, dv, bs)) (by rw [← HNN.out]; simp)
          have HQ2 := Lib.hid (HP.out.below HX.out.old)
          obtain ⟨_, -, -, -, c3, -, -, -⟩ := HQ2.out.c
          obtain ⟨m0, -⟩ := HQ2.out.mem_cell (j + 1) HLT.out
          have HD := Lib.hid (show wr.ownsRow w.heap.size 5 1 dv bs.length (byC bs) from HX.out.sg.dat (a, dv, bs) (by simp))
          clear g0
          have g3 : wr.cell? ⟨g, n * 2 + 1, none⟩ = some dv := by rw [Nat.mul_comm]; exact g1
          have g4 : ∀ o, (wr.alloc o).cell? ⟨g, n * 2 + 1, none⟩ = some dv := fun o => ((Below.refl wr.heap.size wr).alloc (Nat.le_refl _) o).cell (p := ⟨g, n * 2 + 1, none⟩) (World.block_lt_of_cell? _ _ g3) |>.trans g3
          go_upto_region 9 with fail
          clear hk0'
          go_region_law (refine step_append_lies _ rfl (.tmp 56) (.tmp 64) 47 rfl w.heap.size 5 i1 (.int .u8 0) 1 1 Tryz.underlying47 HJ.out.1 HJ.out.2.1 HJ.out.2.2.1 HJ.out.2.2.2 rfl (by decide) dv bs.length (byC bs) (by simp [Act.eval]) (HD.out.alloc _).drew ⟨wr.heap.size, 0, none⟩ 1 1 [.int .u8 (m (j + 1)).toNat] (by simp [Act.eval]) rfl (cell_one_new wr _ 5) (by simp [Value.oneCell']) (by decide) (by unfold maxLen; omega) (by omega) (by have := HX.out.old.size; simp; omega) (wr.heap.size + 1) (by simp) ?_; intro g' cap' w3 ho3 hg3 hv3 hl3; obtain ⟨y1, y2, y3⟩ := HX.out.byte (b := m (j + 1)) (i := n * 2 + 1) (by rw [HNN.out]) ⟨hg3.os, hg3.tape, hg3.output, hg3.size, hg3.block⟩ ho3 (hv3.imp id (fun h => congrArg some h)) (by rw [HNN.out]; omega); have HY := Lib.hid y3; clear y3 ho3 hg3 hv3 hl3)
          all_goals
            rw [← HSP.out] at HY
            go_wp2
            go_roundw
            case rel => exact ⟨(j + 1) + 1, by have := HLT.out; omega, by go_num, _, _, HY⟩
            case measure => have := HLT.out; simp [intOf]; omega
    · obtain rfl : k = 16384 := by have := HK.out; omega
      have hF := Fz.of hR.out
      have hsp := hR.out.sp
      have hbd : (ps.length : Int) ≤ 16384 := by have := hR.out.bd.1; omega
      generalize AS.segs pl m 16384 = L at *
      have HM := Lib.hid HQ.out.map
      have HU := Lib.hid (nm_at ns AS.tStart HQ.out.un.1)
      have HH := Lib.hid (nm_has ns AS.tStart)
      have HKy := Lib.hid (show keyOf Tryz.prog 9 (.string ⟨#[115, 116, 97, 114, 116]⟩) = some (.string AS.tStart) from WideMaps.keyOf_string_mk Tryz.underlying9 (len_max ⟨#[115, 116, 97, 114, 116]⟩ (by decide)))
      obtain ⟨_, -, c1, -, -, -, -, -⟩ := HQ.out.c
      have HSP := Lib.hid hsp
      have HF := Lib.hid hF
      have hNM : q.M ≠ w.heap.size + 1 := by have := HP.out.k5; omega
      have HPN := Lib.hid hNM
      clear hNM hsp hF HK hlt HQ
      cases ps with
      | nil =>
        obtain ⟨a, c, rfl⟩ : ∃ a c, v = .slice a 0 c := by
          rcases hR.out.sg.own.2 with ⟨h, -⟩ | ⟨g, cap, cur, h, -⟩
          · exact ⟨none, 0, h⟩
          · exact ⟨_, _, h⟩
        have hL : L = [] := HSP.out.symm
        subst hL
        clear hR
        cases hf : AS.fnd ns AS.tStart with
        | none =>
          rw [hf] at HH
          have HSt := Lib.hid (show AS.start ns [] = 0 by unfold AS.start; rw [hf])
          clear hf HU
          go_wp2_with (at_lookup; refine wpList_lookup_own_ok_int _ rfl _ _ 61 rfl 9 23 .u32 law Tryz.underlying61 Tryz.underlying23 (zero23 _) q.M _ _ rfl HM.out _ _ rfl HKy.out ?_; intro z hat hwc; rw [HH.out]; clear hat hwc)
          refine bodyPost_ret (v := .agg #[.int .u32 (0 : Nat), .slice a 0 c]) (by simp [results, Tryz.results24, go_sem, r0, r1]) rfl ?_
          rw [HSt.out]
          exact im_end HSP.out (HF.out.set0.set0)
        | some u =>
          rw [hf] at HH HU
          have HSt := Lib.hid (show AS.start ns [] = u by unfold AS.start; rw [hf])
          clear hf
          go_wp2_with (at_lookup; refine wpList_lookup_own_ok_int _ rfl _ _ 61 rfl 9 23 .u32 law Tryz.underlying61 Tryz.underlying23 (zero23 _) q.M _ _ rfl HM.out _ _ rfl HKy.out ?_; intro z hat hwc; rw [HH.out]; have hcu := Lib.hid (lit_inj (hat.symm.trans HU.out)); clear hat hwc)
          refine bodyPost_ret (v := .agg #[.int .u32 z, .slice a 0 c]) (by simp [results, Tryz.results24, go_sem, r0, r1]) rfl ?_
          rw [HSt.out, show z = (u : Int) from hcu.out]
          exact im_end HSP.out (HF.out.set1.set0.set0)
      | cons p r =>
        obtain ⟨p0, p1, p2⟩ := p
        obtain ⟨g, cap, rfl, -, -⟩ := hR.out.sg.lies (by simp)
        obtain ⟨n, hn⟩ : ∃ n, ((p0, p1, p2) :: r).length = n + 1 := ⟨_, rfl⟩
        rw [hn] at hR b1 hbd HF
        obtain ⟨g0, -, g2⟩ := hR.out.sg.cell hn (j := 0) (p := (p0, p1, p2)) rfl
        rw [Nat.mul_zero] at g0
        have g0 : wr.cell? ⟨g, 0, none⟩ = some (.int .u32 p0) := g0
        have hgN : (w.heap.size + 1 == g) = false := by
          obtain ⟨_, _, cs, hg⟩ := own_lt hR.out.sg.own rfl
          have := kind_ne hR.out.bx hg (by decide)
          simpa using this
        obtain ⟨L', hL⟩ : ∃ L', L = (p0, p2) :: L' := ⟨_, HSP.out.symm⟩
        have HL := Lib.hid hL
        clear hR hL hn
        cases hf : AS.fnd ns AS.tStart with
        | none =>
          rw [hf] at HH
          have HSt := Lib.hid (show AS.start ns L = p0 by unfold AS.start; rw [hf, HL.out])
          clear hf HU
          go_wp2_with (at_lookup; refine wpList_lookup_own_ok_int _ rfl _ _ 61 rfl 9 23 .u32 law Tryz.underlying61 Tryz.underlying23 (zero23 _) q.M _ _ rfl (HM.out.setCell HPN.out _) _ _ rfl HKy.out ?_; intro z hat hwc; rw [HH.out]; clear hat hwc)
          refine bodyPost_ret (v := .agg #[.int .u32 p0, .slice (some ⟨g, 0, none⟩) (n + 1) cap]) (by simp [results, Tryz.results24, go_sem, r0, r1]) rfl ?_
          rw [HSt.out]
          exact im_end HSP.out (HF.out.set1.set0.set0)
        | some u =>
          rw [hf] at HH HU
          have HSt := Lib.hid (show AS.start ns L = u by unfold AS.start; rw [hf])
          clear hf
          go_wp2_with (at_lookup; refine wpList_lookup_own_ok_int _ rfl _ _ 61 rfl 9 23 .u32 law Tryz.underlying61 Tryz.underlying23 (zero23 _) q.M _ _ rfl (HM.out.setCell HPN.out _) _ _ rfl HKy.out ?_; intro z hat hwc; rw [HH.out]; have hcu := Lib.hid (lit_inj (hat.symm.trans HU.out)); clear hat hwc)
          refine bodyPost_ret (v := .agg #[.int .u32 z, .slice (some ⟨g, 0, none⟩) (n + 1) cap]) (by simp [results, Tryz.results24, go_sem, r0, r1]) rfl ?_
          rw [HSt.out, show z = (u : Int) from hcu.out]
          exact im_end HSP.out (HF.out.set1.set1.set0.set0)
end Go.Proofs.YtcnmnkgnaknpdaaGreatDoor
/-! WalkU -/
namespace Go.Proofs.YtcnmnkgnaknpdaaGreatDoor
open Go.RowKit Go.Maps S02 S06 S07
/-- A slice of bytes. -/
def ByR (w : World) (v : Value) (bs : List UInt8) : Prop :=
  (bs = [] ∧ ∃ a c, v = .slice a 0 c) ∨ (bs ≠ [] ∧ ∃ g o c, v = .slice (some ⟨g, o, none⟩) bs.length c ∧ bs.length ≤ c ∧ c ≤ maxLen ∧ ∀ j, j < bs.length → w.cell? ⟨g, o + j, none⟩ = some (.int .u8 (bs.getD j 0).toNat))
/-- A slice of segments. -/
def SgR (w : World) (v : Value) (l : List (Nat × List UInt8)) : Prop :=
  (l = [] ∧ ∃ a c, v = .slice a 0 c) ∨ (l ≠ [] ∧ ∃ g o c, v = .slice (some ⟨g, o, none⟩) l.length c ∧ ∀ j p, l[j]? = some p → w.cell? ⟨g, o + j * 2, none⟩ = some (.int .u32 p.1) ∧ ∃ d, w.cell? ⟨g, o + j * 2 + 1, none⟩ = some d ∧ ByR w d p.2)
/-- A slice of names. -/
def NmR (w : World) (v : Value) (l : List (List UInt8 × Nat)) : Prop :=
  (l = [] ∧ ∃ a c, v = .slice a 0 c) ∨ (l ≠ [] ∧ ∃ g o c, v = .slice (some ⟨g, o, none⟩) l.length c ∧ ∀ j p, l[j]? = some p → w.cell? ⟨g, o + j * 2, none⟩ = some (NM.tv p.1) ∧ w.cell? ⟨g, o + j * 2 + 1, none⟩ = some (.int .u32 p.2))
theorem cell_below {w w' : World} {a : Addr} {v : Value} (hb : Below w.heap.size w w') (h : w.cell? a = some v) : w'.cell? a = some v := (hb.cell (World.block_lt_of_cell? _ _ h)).trans h
theorem ByR.below {w w' : World} {v : Value} {bs : List UInt8} (h : ByR w v bs) (hb : Below w.heap.size w w') : ByR w' v bs := by
  rcases h with h | ⟨h0, g, o, c, hv, h1, h2, h3⟩
  · exact .inl h
  · exact .inr ⟨h0, g, o, c, hv, h1, h2, fun j hj => cell_below hb (h3 j hj)⟩
theorem SgR.below {w w' : World} {v : Value} {l : List (Nat × List UInt8)} (h : SgR w v l) (hb : Below w.heap.size w w') : SgR w' v l := by
  rcases h with h | ⟨h0, g, o, c, hv, h3⟩
  · exact .inl h
  · refine .inr ⟨h0, g, o, c, hv, fun j p hj => ?_⟩
    obtain ⟨h4, d, h5, h6⟩ := h3 j p hj
    exact ⟨cell_below hb h4, d, cell_below hb h5, h6.below hb⟩
theorem NmR.below {w w' : World} {v : Value} {l : List (List UInt8 × Nat)} (h : NmR w v l) (hb : Below w.heap.size w w') : NmR w' v l := by
  rcases h with h | ⟨h0, g, o, c, hv, h3⟩
  · exact .inl h
  · exact .inr ⟨h0, g, o, c, hv, fun j p hj => ⟨cell_below hb (h3 j p hj).1, cell_below hb (h3 j p hj).2⟩⟩
theorem ByR.of_own {w : World} {N : Nat} {v : Value} {bs : List UInt8} (h : w.ownsRow N 5 1 v bs.length (byC bs)) : ByR w v bs := by
  by_cases e : bs = []
  · subst e
    rcases h.2 with ⟨h, -⟩ | ⟨g, cap, cur, h, -⟩
    · exact .inl ⟨rfl, _, _, h⟩
    · exact .inl ⟨rfl, _, _, h⟩
  · rcases h.2 with ⟨_, h0⟩ | ⟨g, cap, cur, rfl, h1, h2, h3, h4, -⟩
    · exact absurd (List.eq_nil_of_length_eq_zero h0) e
    · refine .inr ⟨e, g, 0, cap, rfl, h3, h4, fun j hj => ?_⟩
      rw [Nat.zero_add, h.cellAt j (by omega), byC, List.getElem?_map, List.getElem?_eq_getElem hj, List.getD_eq_getElem?_getD, List.getElem?_eq_getElem hj]
      rfl
theorem SgR.of_sg {w : World} {N : Nat} {v : Value} {ps : List (Nat × Value × List UInt8)} {l : List (Nat × List UInt8)} (h : SG N w v ps) (hl : ps.map (fun p => (p.1, p.2.2)) = l) : SgR w v l := by
  subst hl
  by_cases e : ps = []
  · subst e
    rcases h.own.2 with ⟨h, -⟩ | ⟨g, cap, cur, h, -⟩
    · exact .inl ⟨rfl, _, _, h⟩
    · exact .inl ⟨rfl, _, _, h⟩
  · obtain ⟨G, c, rfl, -, -⟩ := h.lies e
    refine .inr ⟨by simpa using e, G, 0, c, by rw [List.length_map], fun j p hj => ?_⟩
    rw [List.getElem?_map, Option.map_eq_some_iff] at hj
    obtain ⟨p', hj, rfl⟩ := hj
    obtain ⟨h1, h2, -⟩ := h.cell rfl hj
    rw [Nat.zero_add, Nat.mul_comm]
    exact ⟨h1, _, h2, ByR.of_own (h.dat p' (List.mem_of_getElem? hj))⟩
theorem nmC_at : ∀ (l : List (List UInt8 × Nat)) (j : Nat) (p : List UInt8 × Nat), l[j]? = some p → (nmC l)[2 * j]? = some (NM.tv p.1) ∧ (nmC l)[2 * j + 1]? = some (.int .u32 p.2)
  | [], _, _, h => by simp at h
  | x :: r, 0, p, h => by simp at h; subst h; exact ⟨rfl, rfl⟩
  | x :: r, j + 1, p, h => by
    rw [List.getElem?_cons_succ] at h
    obtain ⟨h1, h2⟩ := nmC_at r j p h
    rw [show nmC (x :: r) = NM.tv x.1 :: .int .u32 x.2 :: nmC r from rfl]
    rw [show 2 * (j + 1) = 2 * j + 1 + 1 by omega]
    simp only [List.getElem?_cons_succ]
    exact ⟨h1, h2⟩
theorem NmR.of_own {w : World} {N : Nat} {v : Value} {l : List (List UInt8 × Nat)} (h : w.ownsRow N 57 2 v l.length (nmC l)) : NmR w v l := by
  by_cases e : l = []
  · subst e
    rcases h.2 with ⟨h, -⟩ | ⟨g, cap, cur, h, -⟩
    · exact .inl ⟨rfl, _, _, h⟩
    · exact .inl ⟨rfl, _, _, h⟩
  · rcases h.2 with ⟨_, h0⟩ | ⟨g, cap, cur, rfl, h1, h2, h3, h4, -⟩
    · exact absurd (List.eq_nil_of_length_eq_zero h0) e
    · refine .inr ⟨e, g, 0, cap, rfl, fun j p hj => ?_⟩
      have hl : j < l.length := (List.getElem?_eq_some_iff.1 hj).1
      obtain ⟨g1, g2⟩ := nmC_at l j p hj
      rw [Nat.zero_add, Nat.mul_comm]
      exact ⟨(h.cellAt (2 * j) (by omega)).trans g1, (h.cellAt (2 * j + 1) (by omega)).trans g2⟩
/-- What assembling leaves. -/
def AmPost (w : World) (A : AS.Ans) (e : Ending) (w' : World) : Prop := ∃ sv nv, e = .returned (.tuple #[.agg #[.int .u32 A.start, sv], nv, .int .i64 A.line, .int .i64 A.err]) ∧ Below w.heap.size w w' ∧ SgR w' sv A.segs ∧ NmR w' nv A.names
theorem AmPost.none {w w' : World} {A : AS.Ans} {k : Nat} {E : Int} (hA : A = ⟨0, [], [], k, E⟩) (hb : Below w.heap.size w w') : AmPost w A (.returned (.tuple #[.agg #[.int .u32 0, .slice none 0 0], .slice none 0 0, .int .i64 k, .int .i64 E])) w' := by
  subst hA
  exact ⟨_, _, rfl, hb, .inl ⟨rfl, _, _, rfl⟩, .inl ⟨rfl, _, _, rfl⟩⟩
end Go.Proofs.YtcnmnkgnaknpdaaGreatDoor
/-! WalkV -/
namespace Go.Proofs.YtcnmnkgnaknpdaaGreatDoor
open Go.RowKit Go.Maps S02 S06 S07
theorem made_at (z : Value) (n : Nat) : (madeCells #[z] n).size = n ∧ ∀ i, i < n → (madeCells #[z] n)[i]? = some z := by
  have h := toList_madeCells_one z n
  refine ⟨by rw [← Array.length_toList, h, List.length_replicate], fun i hi => ?_⟩
  rw [← Array.getElem?_toList, h, List.getElem?_replicate, if_pos hi]
theorem bool_info : (Tryz.prog.info? 4).map (fun i => (i.zero, i.size, i.bytes)) = some (some (.bool false), 1, 1) := by kernel_rfl
theorem made_u8 : ∃ c : Array Value, c.size = 16384 ∧ (∀ i, i < 16384 → c[i]? = some (.int .u8 0)) ∧ ∀ w, (Instr.makeSlice 47 (.int .i64 16384) (.int .i64 16384)).run Tryz.prog w = .ok (.slice (some ⟨w.heap.size, 0, none⟩) 16384 16384) (w.alloc (.cells c 5)) :=
  ⟨madeCells #[.int .u8 0] 16384, (made_at _ _).1, (made_at _ _).2, fun w => run_make_row' (P := Tryz.prog) 47 5 (.int .u8 0) 1 Tryz.underlying47 byte_info rfl .i64 .i64 16384 (by decide) (by decide) w⟩
theorem made_bool : ∃ c : Array Value, c.size = 16384 ∧ (∀ i, i < 16384 → c[i]? = some (.bool false)) ∧ ∀ w, (Instr.makeSlice 62 (.int .i64 16384) (.int .i64 16384)).run Tryz.prog w = .ok (.slice (some ⟨w.heap.size, 0, none⟩) 16384 16384) (w.alloc (.cells c 4)) :=
  ⟨madeCells #[.bool false] 16384, (made_at _ _).1, (made_at _ _).2, fun w => run_make_row' (P := Tryz.prog) 62 4 (.bool false) 1 Tryz.underlying62 bool_info rfl .i64 .i64 16384 (by decide) (by decide) w⟩
theorem PS.new {q : Q} {W : World} {cB cL : Array Value} (tb : Tb W) (n5 : 5 ≤ q.N ∧ q.N ≤ q.P ∧ q.N ≤ q.M ∧ q.N ≤ q.B ∧ q.N ≤ q.L) (k5 : q.P < q.K ∧ q.M < q.K ∧ q.B < q.K ∧ q.L < q.K ∧ q.K ≤ W.heap.size) (ne : q.P ≠ q.M ∧ q.P ≠ q.B ∧ q.P ≠ q.L ∧ q.M ≠ q.B ∧ q.M ≠ q.L ∧ q.B ≠ q.L)
    (b1 : cB.size = 16384) (b2 : ∀ i, i < 16384 → cB[i]? = some (.int .u8 0)) (l1 : cL.size = 16384) (l2 : ∀ i, i < 16384 → cL[i]? = some (.bool false))
    (hP : W.heap[q.P]? = some (.cells #[.slice none 0 0, .map (some q.M), .int .i64 0, .slice (some ⟨q.B, 0, none⟩) 16384 16384, .slice (some ⟨q.L, 0, none⟩) 16384 16384] 64 (0, 0))) (hM : W.heap[q.M]? = some (.map #[] 0)) (hB : W.heap[q.B]? = some (.cells cB 5 (0, 0))) (hL : W.heap[q.L]? = some (.cells cL 4 (0, 0))) : S1 q W ⟨[], 0, []⟩ := by
  refine ⟨tb, n5, k5, ne, ⟨_, hP, World.ownsRow_nil _ _ _ _⟩, ⟨List.nodup_nil, fun p hp => (by cases hp)⟩, ?_, ⟨cB, hB, b1, b2⟩, ⟨cL, hL, l1, l2⟩⟩
  obtain ⟨es, clock, h1, h2⟩ := World.ownsMap_made (H := Unit) W Tryz.prog 9 (plainElem Tryz.prog 23)
  rw [heap_alloc_new] at h1
  injection h1 with h1
  injection h1 with h3 h4
  subst h3 h4
  exact ⟨_, _, hM, h2⟩
theorem four_new (w : World) (o1 o2 o3 o4 : Obj) : let W := ((((w.alloc o1).alloc o2).alloc o3).alloc o4).drew
    W.heap[w.heap.size]? = some o1 ∧ W.heap[w.heap.size + 1]? = some o2 ∧ W.heap[w.heap.size + 2]? = some o3 ∧ W.heap[w.heap.size + 3]? = some o4 ∧ W.heap.size = w.heap.size + 4 ∧ Below w.heap.size w W := by
  have e0 : (w.alloc o1).heap.size = w.heap.size + 1 := by simp
  have e1 : ((w.alloc o1).alloc o2).heap.size = w.heap.size + 2 := by simp
  have e2 : (((w.alloc o1).alloc o2).alloc o3).heap.size = w.heap.size + 3 := by simp
  have e3 : ((((w.alloc o1).alloc o2).alloc o3).alloc o4).heap.size = w.heap.size + 4 := by simp
  refine ⟨?_, ?_, ?_, ?_, e3, ?_⟩
  · show ((((w.alloc o1).alloc o2).alloc o3).alloc o4).heap[w.heap.size]? = _
    rw [Below.heap_alloc _ _ _ (by omega), Below.heap_alloc _ _ _ (by omega), Below.heap_alloc _ _ _ (by omega)]
    exact heap_alloc_new w o1
  · show ((((w.alloc o1).alloc o2).alloc o3).alloc o4).heap[w.heap.size + 1]? = _
    rw [Below.heap_alloc _ _ _ (by omega), Below.heap_alloc _ _ _ (by omega), ← e0]
    exact heap_alloc_new (w.alloc o1) o2
  · show ((((w.alloc o1).alloc o2).alloc o3).alloc o4).heap[w.heap.size + 2]? = _
    rw [Below.heap_alloc _ _ _ (by omega), ← e1]
    exact heap_alloc_new ((w.alloc o1).alloc o2) o3
  · show ((((w.alloc o1).alloc o2).alloc o3).alloc o4).heap[w.heap.size + 3]? = _
    rw [← e2]
    exact heap_alloc_new (((w.alloc o1).alloc o2).alloc o3) o4
  · exact (((((Below.refl _ w).alloc (Nat.le_refl _) o1).alloc (by omega) o2).alloc (by omega) o3).alloc (by omega) o4).drew
def lies3 (N : Nat) (o1 o2 o3 : Obj) (k : Nat) (o : Obj) : Prop := k = N ∧ o1 = o ∨ k = N + 1 ∧ o2 = o ∨ k = N + 1 + 1 ∧ o3 = o
theorem new_ps {w1 : World} {o1 o2 o3 : Obj} {M B L : Nat} {cB cL : Array Value} (tb : Tb w1) (h5 : 5 ≤ w1.heap.size) (b1 : cB.size = 16384) (b2 : ∀ i, i < 16384 → cB[i]? = some (.int .u8 0)) (l1 : cL.size = 16384) (l2 : ∀ i, i < 16384 → cL[i]? = some (.bool false))
    (hM : lies3 w1.heap.size o1 o2 o3 M (.map #[] 0)) (hB : lies3 w1.heap.size o1 o2 o3 B (.cells cB 5)) (hL : lies3 w1.heap.size o1 o2 o3 L (.cells cL 4)) (ne : M ≠ B ∧ M ≠ L ∧ B ≠ L) (P : Value) (hP : P = .pointer (some ⟨w1.heap.size + 1 + 1 + 1, 0, none⟩)) :
    ∃ q : Q, P = .pointer (some ⟨q.P, 0, none⟩) ∧ q.N = w1.heap.size ∧ Hid (S1 q ((((w1.alloc o1).alloc o2).alloc o3).alloc (.cells #[.slice none 0 0, .map (some M), .int .i64 0, .slice (some ⟨B, 0, none⟩) 16384 16384, .slice (some ⟨L, 0, none⟩) 16384 16384] 64)).drew ⟨[], 0, []⟩) ∧ Hid (Below w1.heap.size w1 ((((w1.alloc o1).alloc o2).alloc o3).alloc (.cells #[.slice none 0 0, .map (some M), .int .i64 0, .slice (some ⟨B, 0, none⟩) 16384 16384, .slice (some ⟨L, 0, none⟩) 16384 16384] 64)).drew) := by
  obtain ⟨a1, a2, a3, a4, a5, a6⟩ := four_new w1 o1 o2 o3 (.cells #[.slice none 0 0, .map (some M), .int .i64 0, .slice (some ⟨B, 0, none⟩) 16384 16384, .slice (some ⟨L, 0, none⟩) 16384 16384] 64)
  have key : ∀ k o, lies3 w1.heap.size o1 o2 o3 k o → w1.heap.size ≤ k ∧ k ≤ w1.heap.size + 2 ∧ ((((w1.alloc o1).alloc o2).alloc o3).alloc (.cells #[.slice none 0 0, .map (some M), .int .i64 0, .slice (some ⟨B, 0, none⟩) 16384 16384, .slice (some ⟨L, 0, none⟩) 16384 16384] 64)).drew.heap[k]? = some o := by
    rintro k o (⟨rfl, rfl⟩ | ⟨rfl, rfl⟩ | ⟨rfl, rfl⟩)
    · exact ⟨Nat.le_refl _, by omega, a1⟩
    · exact ⟨by omega, by omega, a2⟩
    · exact ⟨by omega, by omega, a3⟩
  obtain ⟨m1, m2, m3⟩ := key _ _ hM
  obtain ⟨c1, c2, c3⟩ := key _ _ hB
  obtain ⟨d1, d2, d3⟩ := key _ _ hL
  refine ⟨⟨w1.heap.size, w1.heap.size + 3, M, B, L, w1.heap.size + 4⟩, hP, rfl, Lib.hid (PS.new (tb.on a6) ?_ ?_ ?_ b1 b2 l1 l2 a4 m3 c3 d3), Lib.hid a6⟩
  · exact ⟨h5, by show w1.heap.size ≤ w1.heap.size + 3; omega, m1, c1, d1⟩
  · show w1.heap.size + 3 < w1.heap.size + 4 ∧ M < w1.heap.size + 4 ∧ B < w1.heap.size + 4 ∧ L < w1.heap.size + 4 ∧ w1.heap.size + 4 ≤ _
    rw [a5]
    omega
  · show w1.heap.size + 3 ≠ M ∧ w1.heap.size + 3 ≠ B ∧ w1.heap.size + 3 ≠ L ∧ M ≠ B ∧ M ≠ L ∧ B ≠ L
    omega
namespace AS
def st0 : St := ⟨[], 0, []⟩
theorem asm_0 {s : List UInt8} (h : ¬ NM.lE s = 0) : asm s = ⟨0, [], [], 0, NM.lE s⟩ := by unfold asm; rw [if_neg h]
theorem asm_1 {s : List UInt8} {E : Int} {k : Nat} {st : St} (h : NM.lE s = 0) (hF : first (NM.lL s) 0 ⟨[], 0, []⟩ = (E, k, st)) (hE : ¬ E = 0) : asm s = ⟨0, [], [], k, E⟩ := by
  unfold asm; rw [if_pos h, hF, if_neg hE]
theorem asm_2 {s : List UInt8} {E : Int} {j k : Nat} {st : St} {m : Nat → UInt8} (h : NM.lE s = 0) (hF : first (NM.lL s) 0 ⟨[], 0, []⟩ = (0, j, st)) (hG : second st.names st.items (fun _ => 0) = (E, k, m)) (hE : ¬ E = 0) : asm s = ⟨0, [], [], k, E⟩ := by
  unfold asm; rw [if_pos h, hF, if_pos rfl]; simp only []; rw [hG, if_neg hE]
theorem asm_3 {s : List UInt8} {j k : Nat} {st : St} {m : Nat → UInt8} (h : NM.lE s = 0) (hF : first (NM.lL s) 0 ⟨[], 0, []⟩ = (0, j, st)) (hG : second st.names st.items (fun _ => 0) = (0, k, m)) : asm s = ⟨start st.names (segs (cov st.items) m 16384), segs (cov st.items) m 16384, st.names, 0, 0⟩ := by
  unfold asm; rw [if_pos h, hF, if_pos rfl]; simp only []; rw [hG, if_pos rfl]
end AS
theorem am_end {q : Q} {w w2 w3 : World} {ns : List (List UInt8 × Nat)} {x : Int} {pl : Nat → Bool} {m : Nat → UInt8} {sv nv : Value} {ps : List (Nat × Value × List UInt8)} {l : List (Nat × List UInt8)} {c : Array Value} {u0 u1 : Value} (hp : PS q w2 ns x pl m) (hn : w2.cell? ⟨q.P, 0, none⟩ = some nv) (hb : Below w2.heap.size w2 w3) (hsg : SG w2.heap.size w3 sv ps) (hsp : ps.map (fun p => (p.1, p.2.2)) = l) (hR : w3.heap[w.heap.size]? = some (.cells c 26 (0, 0))) (hw : Below w.heap.size w w3) {A : AS.Ans} (hA : A = ⟨AS.start ns l, l, ns, 0, 0⟩) :
    AmPost w A (.returned (.tuple #[.agg #[.int .u32 (AS.start ns l), sv], nv, .int .i64 0, .int .i64 0])) ((w3.setCell ⟨w.heap.size, 0, none⟩ u0).setCell ⟨w.heap.size, 1, none⟩ u1) := by
  subst hA
  have hR' : (w3.setCell ⟨w.heap.size, 0, none⟩ u0).heap[w.heap.size]? = some (.cells (c.setIfInBounds 0 u0) 26 (0, 0)) := heap_set hR
  obtain ⟨v, c0, _, _, _, _, _, ho⟩ := hp.c
  obtain rfl : nv = v := by rw [hn] at c0; injection c0
  refine ⟨sv, nv, rfl, (hw.setCell (Nat.le_refl _) _).setCell (Nat.le_refl _) _, SgR.of_sg ((hsg.off hR (by decide) _ _).off hR' (by decide) _ _) hsp, NmR.of_own (N := q.K) ?_⟩
  refine own_keep ho fun k hk => ?_
  obtain ⟨_, hlt, c', hc'⟩ := own_lt ho hk
  have h3 := (hb.block k hlt).trans hc'
  have hne := kind_ne h3 hR (by decide)
  rw [heap_other hne, heap_other hne, hb.block k hlt]
set_option maxHeartbeats 4000000 in
theorem asmAll_any (s : ByteArray) (w : World) (hs : s.size ≤ 9223372036854775807) (ht : Tb w) (h5 : 5 ≤ w.heap.size) : Calls Tryz.prog 9 #[.string s] w (AmPost w (AS.asm s.data.toList)) := by
  have HL := Lib.hid (fun W => lines_any s W hs)
  obtain ⟨cB, b1, b2, hmB⟩ := made_u8
  obtain ⟨cL, l1, l2, hmL⟩ := made_bool
  have hmM := fun w => run_makeMap (P := Tryz.prog) 61 w
  by_cases hE : NM.lE s.data.toList = 0
  · rw [hE] at HL
    go_enter Tryz.func9, Tryz.ntmps9
    go_upto_region 4 with (go_at_call 22; refine (HL.out _).mono ?_; rintro e w1 ⟨lv, rfl, hr1⟩; have HR1 := Lib.hid hr1; clear hr1)
    have HTB := Lib.hid (ht.on (((Below.refl _ w).alloc (Nat.le_refl _) _).trans (HR1.out.2.mono (by simp))))
    have H5 := Lib.hid (show 5 ≤ w1.heap.size by have := HR1.out.2.size; simp at this; omega)
    clear ht h5
    go_cut [8] from 11 (fun p W => ∃ q : Q, p = .pointer (some ⟨q.P, 0, none⟩) ∧ q.N = w1.heap.size ∧ Hid (S1 q W ⟨[], 0, []⟩) ∧ Hid (Below w1.heap.size w1 W))
    case first =>
      go_region
      all_goals
        go_wp2_with fail
        go_meet
        case rel => exact new_ps HTB.out H5.out b1 b2 l1 l2 (by unfold lies3; simp) (by unfold lies3; simp) (by unfold lies3; simp) (by omega) _ rfl
    case rest =>
      obtain ⟨q, rfl, hqN, HS, HB⟩ := hcut
      have hRb : w1.heap[w.heap.size]? = some (.cells #[.int .u32 0, .slice none 0 0] 26 (0, 0)) := by rw [HR1.out.2.block w.heap.size (by simp)]; exact heap_alloc_new w _
      have hlt1 := lt_of_heap hRb
      have hRc : wc.heap[w.heap.size]? = some (.cells #[.int .u32 0, .slice none 0 0] 26 (0, 0)) := (HB.out.block _ hlt1).trans hRb
      have hwc : Below w.heap.size w wc := (((Below.refl _ w).alloc (Nat.le_refl _) _).trans (HR1.out.2.mono (by simp))).trans (HB.out.mono (by omega))
      have HA := assemble_any (NM.lL s.data.toList) lv HS.out ((TxR.of_row HR1.out).keep (Tame.below HB.out)) (AS.lL_tot _)
      have HRc := Lib.hid hRc
      have HWC := Lib.hid hwc
      have HQN := Lib.hid (show w.heap.size < q.N by omega)
      have HE := Lib.hid hE
      clear hRb hlt1 hRc hwc hqN HS HB HTB H5 HR1 HL hmB hmL hmM b1 b2 l1 l2 hE
      unfold pt at HA
      rcases hF : AS.first (NM.lL s.data.toList) 0 ⟨[], 0, []⟩ with ⟨E, k, st⟩
      by_cases hE1 : E = 0
      · subst hE1
        rcases hG : AS.second st.names st.items (fun _ => 0) with ⟨E, k2, m⟩
        by_cases hE2 : E = 0
        · subst hE2
          have HAs := Lib.hid (AS.asm_3 HE.out hF hG)
          have HA2 : Hid (Calls Tryz.prog 23 #[.pointer (some ⟨q.P, 0, none⟩), lv] wc fun e w' => e = .returned (.tuple #[.int .i64 0, .int .i64 0]) ∧ Below q.N wc w' ∧ PS q w' st.names st.pos (AS.cov st.items) m) := Lib.hid (HA.mono (by
            rintro e w' ⟨F, rfl, hb, h⟩
            rw [hF] at h
            rcases h with ⟨h, -⟩ | ⟨-, G, rfl, h⟩
            · exact absurd rfl h
            · simp only [] at h
              rw [hG] at h
              rcases h with ⟨h, -⟩ | ⟨-, h1, h2⟩
              · exact absurd rfl h
              · exact ⟨h1, hb, h2⟩))
          clear HA hF hG
          go_upto_region 8 with (go_at_call 23; refine HA2.out.mono ?_; rintro e w2 ⟨rfl, hb2, hp2⟩; have HB2 := Lib.hid hb2; have HP2 := Lib.hid hp2; clear hb2 hp2)
          obtain ⟨nv, c0, -, -, -, -, -, -⟩ := HP2.out.c
          have HR2 := Lib.hid ((HB2.out.block _ HQN.out).trans HRc.out)
          have HW2 := Lib.hid (HWC.out.trans (HB2.out.mono (Nat.le_of_lt HQN.out)))
          have HIM := Lib.hid (image_any HP2.out.drew)
          have HN0 := Lib.hid c0
          have hne : w.heap.size < q.P := by have := HP2.out.n5; have := HQN.out; omega
          have hnb : (q.P == w.heap.size) = false := by simp; omega
          have hnc : (w.heap.size == q.P) = false := by simp; omega
          generalize AS.segs (AS.cov st.items) m 16384 = L at *
          obtain ⟨S, hS⟩ : ∃ S, AS.start st.names L = S := ⟨_, rfl⟩
          have HSS := Lib.hid hS
          rw [hS] at HIM
          clear hS
          go_region_with (go_at_call 24; refine HIM.out.mono ?_; rintro e w3 ⟨sv, ps, rfl, hsg, hsp, hb3⟩; obtain ⟨sa, sc, rfl⟩ : ∃ a c, sv = .slice a ps.length c := (by rcases hsg.own.2 with ⟨h, h0⟩ | ⟨g, cap, cur, h, -⟩ <;> first | exact ⟨_, _, h0 ▸ h⟩ | exact ⟨_, _, h⟩); have HSG := Lib.hid hsg; have HSP := Lib.hid hsp; have HB3 := Lib.hid (show Below w2.heap.size w2 w3 from (below_drewN' w2 1).trans hb3); have c3 := cell_below HB3.out HN0.out; have HR3 := Lib.hid ((HB3.out.block _ (lt_of_heap HR2.out)).trans HR2.out); have r0 := cell_of (o := 0) HR3.out rfl; have r1 := cell_of (o := 1) HR3.out rfl; have rf := fun o => unfrozen (o := o) HR3.out; clear hsg hsp hb3)
          all_goals
            go_wp2
            refine bodyPost_ret (v := .tuple #[.agg #[.int .u32 S, .slice sa ps.length sc], nv, .int .i64 0, .int .i64 0]) (by simp [results, Tryz.results9, go_sem, r0, r1]) rfl ?_
            rw [← HSS.out]
            exact am_end HP2.out HN0.out HB3.out HSG.out HSP.out HR3.out (HW2.out.trans (HB3.out.mono (Nat.le_of_lt (lt_of_heap HR2.out)))) (by rw [HAs.out])
        · have HAs := Lib.hid (AS.asm_2 HE.out hF hG hE2)
          have HA2 : Hid (Calls Tryz.prog 23 #[.pointer (some ⟨q.P, 0, none⟩), lv] wc fun e w' => e = .returned (.tuple #[.int .i64 k2, .int .i64 E]) ∧ Below q.N wc w') := Lib.hid (HA.mono (by
            rintro e w' ⟨F, rfl, hb, h⟩
            rw [hF] at h
            rcases h with ⟨h, -⟩ | ⟨-, G, rfl, h⟩
            · exact absurd rfl h
            · simp only [] at h
              rw [hG] at h
              rcases h with ⟨-, h⟩ | ⟨h, -⟩
              · exact ⟨h, hb⟩
              · exact absurd h hE2))
          have e1 : (E == 0) = false := by simp [hE2]
          have e2 : (E != 0) = true := by simp [hE2]
          clear HA hF hG hE2
          go_wp2_with (go_at_call 23; refine HA2.out.mono ?_; rintro e w2 ⟨rfl, hb2⟩; have HB2 := Lib.hid hb2; clear hb2; have HR2 := Lib.hid ((HB2.out.block _ HQN.out).trans HRc.out); have r0 := cell_of (o := 0) HR2.out rfl; have r1 := cell_of (o := 1) HR2.out rfl; have rf := fun o => unfrozen (o := o) HR2.out)
          refine bodyPost_ret (v := .tuple #[.agg #[.int .u32 0, .slice none 0 0], .slice none 0 0, .int .i64 k2, .int .i64 E]) (by simp [results, Tryz.results9, go_sem, r0, r1]) rfl ?_
          exact AmPost.none HAs.out (((HWC.out.trans (HB2.out.mono (Nat.le_of_lt HQN.out))).setCell (Nat.le_refl _) _).setCell (Nat.le_refl _) _)
      · have HAs := Lib.hid (AS.asm_1 HE.out hF hE1)
        have HA2 : Hid (Calls Tryz.prog 23 #[.pointer (some ⟨q.P, 0, none⟩), lv] wc fun e w' => e = .returned (.tuple #[.int .i64 k, .int .i64 E]) ∧ Below q.N wc w') := Lib.hid (HA.mono (by
          rintro e w' ⟨F, rfl, hb, h⟩
          rw [hF] at h
          rcases h with ⟨-, h⟩ | ⟨h, -⟩
          · exact ⟨h, hb⟩
          · exact absurd h hE1))
        have e1 : (E == 0) = false := by simp [hE1]
        have e2 : (E != 0) = true := by simp [hE1]
        clear HA hF hE1
        go_wp2_with (go_at_call 23; refine HA2.out.mono ?_; rintro e w2 ⟨rfl, hb2⟩; have HB2 := Lib.hid hb2; clear hb2; have HR2 := Lib.hid ((HB2.out.block _ HQN.out).trans HRc.out); have r0 := cell_of (o := 0) HR2.out rfl; have r1 := cell_of (o := 1) HR2.out rfl; have rf := fun o => unfrozen (o := o) HR2.out)
        refine bodyPost_ret (v := .tuple #[.agg #[.int .u32 0, .slice none 0 0], .slice none 0 0, .int .i64 k, .int .i64 E]) (by simp [results, Tryz.results9, go_sem, r0, r1]) rfl ?_
        exact AmPost.none HAs.out (((HWC.out.trans (HB2.out.mono (Nat.le_of_lt HQN.out))).setCell (Nat.le_refl _) _).setCell (Nat.le_refl _) _)
  · have HAs := Lib.hid (AS.asm_0 hE)
    generalize NM.lE s.data.toList = E at *
    have e1 : (E == 0) = false := by simp [hE]
    have e2 : (E != 0) = true := by simp [hE]
    clear hE hmB hmL hmM b1 b2 l1 l2
    go_enter Tryz.func9, Tryz.ntmps9
    go_wp2_with (go_at_call 22; refine (HL.out _).mono ?_; rintro e w1 ⟨lv, rfl, hr1⟩; have HR1 := Lib.hid hr1; clear hr1; have HR2 := Lib.hid (show w1.heap[w.heap.size]? = some (.cells #[.int .u32 0, .slice none 0 0] 26 (0, 0)) by rw [HR1.out.2.block w.heap.size (by simp)]; exact heap_alloc_new w _); have r0 := cell_of (o := 0) HR2.out rfl; have r1 := cell_of (o := 1) HR2.out rfl; have rf := fun o => unfrozen (o := o) HR2.out)
    refine bodyPost_ret (v := .tuple #[.agg #[.int .u32 0, .slice none 0 0], .slice none 0 0, .int .i64 0, .int .i64 E]) (by simp [results, Tryz.results9, go_sem, r0, r1]) rfl ?_
    exact AmPost.none (k := 0) HAs.out (((((Below.refl _ w).alloc (Nat.le_refl _) _).trans (HR1.out.2.mono (by simp))).setCell (Nat.le_refl _) _).setCell (Nat.le_refl _) _)
end Go.Proofs.YtcnmnkgnaknpdaaGreatDoor
/-! WalkW -/
namespace Go.Proofs.YtcnmnkgnaknpdaaGreatDoor
open Go.RowKit Go.Maps S02 S06 S07
theorem wake_sg {w : World} {v : Value} (h : SgR w v [(0, [7, 0, 0, 0, 0, 0, 0, 0])]) : ∃ g o c g2 o2 c2, v = .slice (some ⟨g, o, none⟩) 1 c ∧ w.cell? ⟨g, o + 1, none⟩ = some (.slice (some ⟨g2, o2, none⟩) 8 c2) ∧ w.cell? ⟨g2, o2, none⟩ = some (.int .u8 7) := by
  rcases h with ⟨h, -⟩ | ⟨-, g, o, c, hv, h3⟩
  · cases h
  · obtain ⟨-, d, h5, h6⟩ := h3 0 _ rfl
    rcases h6 with ⟨h, -⟩ | ⟨-, g2, o2, c2, rfl, -, -, h8⟩
    · cases h
    · exact ⟨g, o, c, g2, o2, c2, hv, by simpa using h5, by simpa using h8 0 (by decide)⟩
theorem wake_nm {w : World} {v : Value} (h : NmR w v [(AS.tStart, 0), ([107], 9)]) : ∃ g o c, v = .slice (some ⟨g, o, none⟩) 2 c ∧ w.cell? ⟨g, o + 3, none⟩ = some (.int .u32 9) := by
  rcases h with ⟨h, -⟩ | ⟨-, g, o, c, hv, h3⟩
  · cases h
  · exact ⟨g, o, c, hv, by simpa using (h3 1 _ rfl).2⟩
theorem sg_nil {w : World} {v : Value} (h : SgR w v []) : ∃ a c, v = .slice a 0 c := by
  rcases h with ⟨-, h⟩ | ⟨h, -⟩
  · exact h
  · exact absurd rfl h
theorem awake_any (w : World) (ht : Tb w) (h5 : 5 ≤ w.heap.size) : Calls Tryz.prog 8 #[] w fun e w' => e = .returned (.bool true) ∧ Below w.heap.size w w' := by
  have H1 := Lib.hid (fun (W : World) (ht : Tb W) (h5 : 5 ≤ W.heap.size) => show Calls Tryz.prog 9 #[.string ⟨#[115, 116, 97, 114, 116, 58, 32, 46, 119, 111, 114, 100, 32, 55, 44, 32, 115, 116, 97, 114, 116, 32, 59, 32, 115, 101, 118, 101, 110, 10, 46, 101, 113, 117, 32, 107, 32, 57, 10]⟩] W (AmPost W ⟨0, [(0, [7, 0, 0, 0, 0, 0, 0, 0])], [(AS.tStart, 0), ([107], 9)], 0, 0⟩) by rw [← AS.asm_w1]; exact asmAll_any ⟨AS.wake1.toArray⟩ W (by decide) ht h5)
  have H2 := Lib.hid (fun (W : World) (ht : Tb W) (h5 : 5 ≤ W.heap.size) => show Calls Tryz.prog 9 #[.string ⟨#[46, 119, 111, 114, 100, 32, 55, 10, 46, 111, 114, 103, 32, 50, 10, 46, 98, 121, 116, 101, 32, 49, 10]⟩] W (AmPost W ⟨0, [], [], 3, 7⟩) by rw [← AS.asm_w2]; exact asmAll_any ⟨AS.wake2.toArray⟩ W (by decide) ht h5)
  have HT := Lib.hid ht
  have H5 := Lib.hid h5
  clear ht h5
  go_enter Tryz.func8, Tryz.ntmps8
  go_upto_region 2 with (go_at_call 9; refine (H1.out _ HT.out H5.out).mono ?_; rintro e w1 ⟨sv, nv, rfl, hb1, hsg, hnm⟩; obtain ⟨g, o, c, g2, o2, c2, rfl, x1, x2⟩ := wake_sg hsg; obtain ⟨g3, o3, c3, rfl, x3⟩ := wake_nm hnm; have HB1 := Lib.hid hb1; clear hb1 hsg hnm)
  have HA := Lib.hid (HB1.out.alloc HB1.out.size (.cells #[.int .u32 0, .slice (some ⟨g, o, none⟩) 1 c] 26))
  have HT1 := Lib.hid (HT.out.on HA.out)
  have H51 := Lib.hid (show 5 ≤ (w1.alloc (.cells #[.int .u32 0, .slice (some ⟨g, o, none⟩) 1 c] 26)).heap.size by have := HA.out.size; have := H5.out; omega)
  go_upto_region 3 with (go_at_call 9; refine (H2.out _ HT1.out H51.out).mono ?_; rintro e w2 ⟨sv2, nv2, rfl, hb2, hsg2, -⟩; obtain ⟨a2, k2, rfl⟩ := sg_nil hsg2; have HB2 := Lib.hid hb2; clear hb2 hsg2)
  have HC := Lib.hid (fun (ob : Obj) => show Below w1.heap.size w1 (w2.alloc ob) from (((Below.refl _ w1).alloc (Nat.le_refl _) _).trans (HB2.out.mono (by simp))).alloc (by have := HB2.out.size; simp at this; omega) ob)
  have y1 := fun ob => cell_below (HC.out ob) x1
  have y2 := fun ob => cell_below (HC.out ob) x2
  have y3 := fun ob => cell_below (HC.out ob) x3
  have HI := Lib.hid (fun (ob : Obj) => show (w2.alloc ob).heap[w1.heap.size]? = some (.cells #[.int .u32 0, .slice (some ⟨g, o, none⟩) 1 c] 26 (0, 0)) by rw [Below.heap_alloc _ _ _ (by have := HB2.out.size; simp at this; omega), HB2.out.block _ (by simp)]; exact heap_alloc_new w1 _)
  have y4 := fun ob => cell_of (o := 1) (HI.out ob) rfl
  clear x1 x2 x3
  go_wp2
  go_ret
  exact ⟨rfl, (HA.out.trans (HB2.out.mono HA.out.size)).alloc (by have := HA.out.size; have := HB2.out.size; omega) _⟩
end Go.Proofs.YtcnmnkgnaknpdaaGreatDoor
