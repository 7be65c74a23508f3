/-
  What added answers, whatever the line; a line ahead of which an image is being read, in memory. No condition but lengths.
-/
import Derived.Test.YtcilhippjiichaaDoorWalkR
namespace Go.Proofs.YtcilhippjiichaaDoor
open Go.RowKit Go.Maps S02
theorem added_any {N M : Nat} {w : World} {sv v : Value} {ps : List (Nat × Value × List UInt8)} {l : List (Nat × List UInt8)} {x : RM.Ln} {st kl al nl : Nat} (hI : RM.PI kl al nl l) (hf : RM.fl kl al nl x.k x.a = true) (hx : x.ok) (hs : SG N w sv ps) (hl : ps.map (fun p => (p.1, p.2.2)) = l) (hNM : N ≤ M) (hMw : M ≤ w.heap.size) (hv : w.ownsRow M 5 1 v x.bs.length (byC x.bs)) (hM : ∀ p ∈ ps, ∀ k, p.2.1.ownBlock = some k → k < M) :
    Calls Tryd.prog 34 #[lnV (RM.wdK x.k) x.a v x.s, .agg #[.int .u32 st, sv]] w (AaPost N w x st l) := by
  obtain ⟨hk, -, -, -, h16⟩ := hx
  have hn : ps.length ≤ 64 := by rw [← List.length_map (f := fun p : Nat × Value × List UInt8 => (p.1, p.2.2)), hl]; exact (RM.rt_open hI.ok).1
  rcases hk with hk | hk | hk
  · rw [show lnV (RM.wdK x.k) x.a v x.s = .agg #[.string ⟨#[115, 101, 103]⟩, .int .u32 x.a, v, .int .u8 x.s] by rw [hk]; rfl]
    refine (added_seg x.a st x.bs x.s hs (by omega) (own_base hv hNM) (fun k hk p hp e => ?_) (by omega)).mono fun e w' h => ?_
    · have h1 := hM p hp k e
      have h2 := (own_lt hv hk).1
      omega
    · obtain ⟨v', rfl, h1, h2⟩ := h
      exact ⟨v', _, by rw [if_neg (by omega)], h1, by rw [RM.ad_one hk, List.map_append, hl]; rfl, h2⟩
  · rw [show lnV (RM.wdK x.k) x.a v x.s = .agg #[.string ⟨#[97, 110, 100]⟩, .int .u32 x.a, v, .int .u8 x.s] by rw [hk]; rfl]
    rw [hk] at hf
    obtain ⟨l', a0, b0, rfl, -⟩ := hI.two hf
    obtain ⟨qs, dv, rfl, hq⟩ := hs.split hl
    have hb0 := ((RM.rt_open hI.ok).2.2 (a0, b0) (by simp)).2
    simp only [] at hb0
    refine (added_and x.a a0 st x.bs b0 x.s hs (by omega) (ByR.of_own hv) (by rw [List.length_append] at hn; omega) (by omega) (by omega)).mono fun e w' h => ?_
    obtain ⟨d', rfl, h1, h2⟩ := h
    exact ⟨sv, _, by rw [if_neg (by omega)], h1, by rw [RM.ad_two hk, List.map_append, hq]; rfl, h2⟩
  · obtain ⟨A, c, rfl⟩ := own_form hv
    rw [show lnV (RM.wdK x.k) x.a (.slice A x.bs.length c) x.s = .agg #[.string ⟨#[115, 116, 97, 114, 116]⟩, .int .u32 x.a, .slice A x.bs.length c, .int .u8 x.s] by rw [hk]; rfl]
    refine (added_start x.a st x.s x.bs.length c A hs (by omega)).mono fun e w' h => ?_
    obtain ⟨rfl, h1, h2⟩ := h
    exact ⟨sv, ps, by rw [if_pos hk], h1, by rw [RM.ad_three hk, hl], h2⟩
theorem row_at {w : World} {N n : Nat} {A : Option Addr} {c : Nat} {acc : List (List UInt8)} (h : w.ownsRow N 9 1 (.slice A n c) acc.length (acc.map NM.tv)) (h0 : 0 < acc.length) : n = acc.length ∧ ∃ g, A = some ⟨g, 0, none⟩ ∧ ∀ j, j < acc.length → w.cell? ⟨g, j, none⟩ = some (NM.tv (acc.getD j [])) := by
  rcases h.2 with ⟨_, h1⟩ | ⟨g, cap, cur, hv, h1, h2, h3, h4, -⟩
  · omega
  · injection hv with e1 e2 e3
    subst e1 e2 e3
    refine ⟨rfl, g, rfl, fun j hj => ?_⟩
    rw [h.cellAt j (by omega), List.getElem?_map, List.getElem?_eq_getElem hj, List.getD_eq_getElem?_getD, List.getElem?_eq_getElem hj]
    rfl
namespace RM
theorem ln_short (l : List UInt8) : ∀ k, ∀ x ∈ (NM.ln l k).1, x.length ≤ l.length
  | 0, x, h => by simp [NM.ln] at h
  | k + 1, x, h => by
    rw [NM.ln] at h
    split at h
    · rcases List.mem_append.1 h with h | h
      · exact ln_short l k x h
      · rw [List.mem_singleton] at h
        subst h
        unfold NM.sl
        rw [List.length_take, List.length_drop]
        omega
    · exact ln_short l k x h
theorem lL_short {l : List UInt8} (h : NM.lE l = 0) : l.length ≤ 65536 ∧ (NM.lL l).length ≤ 65536 ∧ ∀ x ∈ NM.lL l, x.length ≤ 65536 := by
  have h1 : l.length ≤ 65536 := by
    unfold NM.lE at h
    split at h
    · cases h
    · omega
  unfold NM.lL
  rw [if_pos h]
  exact ⟨h1, by have := (NM.ln_bd l l.length).2; omega, fun x hx => by have := ln_short l _ x hx; omega⟩
end RM
/-- What Parse leaves. -/
def PsPost (w : World) (s : List UInt8) (e : Ending) (w' : World) : Prop :=
  ∃ v ps, e = .returned (.tuple #[.agg #[.int .u32 (RM.PA s).2.1, v], .int .i64 (RM.PA s).2.2.1, .int .i64 (RM.PA s).2.2.2]) ∧ SG w.heap.size w' v ps ∧ ps.map (fun p => (p.1, p.2.2)) = (RM.PA s).1 ∧ Below w.heap.size w w'
theorem PsPost.bad {w w' : World} {s : List UInt8} {k : Nat} {E : Int} (h : RM.PA s = ([], 0, k, E)) (hb : Below w.heap.size w w') : PsPost w s (.returned (.tuple #[.agg #[.int .u32 0, .slice none 0 0], .int .i64 k, .int .i64 E])) w' :=
  ⟨.slice none 0 0, [], by rw [h]; rfl, SG.nil _ _, by rw [h]; rfl, hb⟩
theorem PsPost.good {w w' : World} {s : List UInt8} {st : Nat} {l : List (Nat × List UInt8)} {v : Value} {ps : List (Nat × Value × List UInt8)} (h : RM.PA s = (l, st, 0, 0)) (hs : SG w.heap.size w' v ps) (hl : ps.map (fun p => (p.1, p.2.2)) = l) (hb : Below w.heap.size w w') : PsPost w s (.returned (.tuple #[.agg #[.int .u32 st, v], .int .i64 0, .int .i64 0])) w' :=
  ⟨v, ps, by rw [h]; rfl, hs, by rw [h]; exact hl, hb⟩
/-- An image that is being read: N: the answer's block; I: the image's; L: the last line's. -/
structure QZ (w wr : World) (N I L : Nat) (rv : Value) (acc : List (List UInt8)) (st al nl : Nat) (sv : Value) (ps : List (Nat × Value × List UInt8)) (s2 : ByteArray) (A2 : Option Addr) (c2 m2 : Nat) : Prop where
  rz : wr.heap[N]? = some (.cells #[.int .u32 0, .slice none 0 0] 25 (0, 0))
  iz : wr.heap[I]? = some (.cells #[.int .u32 st, sv] 25 (0, 0))
  lz : wr.heap[L]? = some (.cells #[.string s2, .int .u32 al, .slice A2 nl c2, .int .u8 m2] 70 (0, 0))
  row : wr.ownsRow N 9 1 rv acc.length (acc.map NM.tv)
  sg : SG N wr sv ps
  old : Below N w wr
  NI : N < I
  NL : N < L
  IL : I ≠ L
section
variable {w wr : World} {N I L : Nat} {rv : Value} {acc : List (List UInt8)} {st al nl : Nat} {sv : Value} {ps : List (Nat × Value × List UInt8)} {s2 : ByteArray} {A2 : Option Addr} {c2 m2 : Nat}
theorem QZ.kept {wr' : World} (h : QZ w wr N I L rv acc st al nl sv ps s2 A2 c2 m2) (hb : Below wr.heap.size wr wr') : QZ w wr' N I L rv acc st al nl sv ps s2 A2 c2 m2 :=
  ⟨(hb.block _ (lt_of_heap h.rz)).trans h.rz, (hb.block _ (lt_of_heap h.iz)).trans h.iz, (hb.block _ (lt_of_heap h.lz)).trans h.lz, own_blk h.row hb, h.sg.below hb, h.old.trans (hb.mono (Nat.le_of_lt (lt_of_heap h.rz))), h.NI, h.NL, h.IL⟩
theorem own_off {B e n size k o : Nat} {e' : TypeId} {v u : Value} {xs : List Value} {c : Array Value} {f : Nat × Nat} (h : wr.ownsRow B e size v n xs) (hk : wr.heap[k]? = some (.cells c e' f)) (he : e ≠ e') : (wr.setCell ⟨k, o, none⟩ u).ownsRow B e size v n xs := own_keep h fun j hj => by
  obtain ⟨_, _, c', hc'⟩ := own_lt h hj
  exact heap_other (kind_ne hc' hk he)
theorem QZ.im {w2 : World} {v' : Value} {ps' : List (Nat × Value × List UInt8)} (h : QZ w wr N I L rv acc st al nl sv ps s2 A2 c2 m2) (hk : Kp N wr w2) (hs : SG N w2 v' ps') (st' : Nat) : QZ w ((w2.setCell ⟨I, 0, none⟩ (.int .u32 st')).setCell ⟨I, 1, none⟩ v') N I L rv acc st' al nl v' ps' s2 A2 c2 m2 := by
  have e1 := hk.heap h.iz (by decide) (by decide)
  have e2 : (w2.setCell ⟨I, 0, none⟩ (.int .u32 st')).heap[I]? = some (.cells #[.int .u32 st', sv] 25 (0, 0)) := heap_set e1
  have n1 : N ≠ I := by have := h.NI; omega
  refine ⟨?_, heap_set e2, ?_, ?_, (hs.off e1 (by decide) _ _).off e2 (by decide) _ _, ?_, h.NI, h.NL, h.IL⟩
  · exact (heap_other n1).trans ((heap_other n1).trans (hk.heap h.rz (by decide) (by decide)))
  · exact (heap_other h.IL.symm).trans ((heap_other h.IL.symm).trans (hk.heap h.lz (by decide) (by decide)))
  · exact own_off (own_off (own_kp h.row hk (by decide) (by decide)) e1 (by decide)) e2 (by decide)
  · exact ((h.old.trans hk.old).setCell (by have := h.NI; show N ≤ I; omega) _).setCell (by have := h.NI; show N ≤ I; omega) _
theorem QZ.ln (h : QZ w wr N I L rv acc st al nl sv ps s2 A2 c2 m2) (s' : ByteArray) (a' n' c' m' : Nat) (A' : Option Addr) : QZ w ((((wr.setCell ⟨L, 0, none⟩ (.string s')).setCell ⟨L, 1, none⟩ (.int .u32 a')).setCell ⟨L, 2, none⟩ (.slice A' n' c')).setCell ⟨L, 3, none⟩ (.int .u8 m')) N I L rv acc st a' n' sv ps s' A' c' m' := by
  have e1 := h.lz
  have e2 : (wr.setCell ⟨L, 0, none⟩ (.string s')).heap[L]? = some (.cells #[.string s', .int .u32 al, .slice A2 nl c2, .int .u8 m2] 70 (0, 0)) := heap_set e1
  have e3 : ((wr.setCell ⟨L, 0, none⟩ (.string s')).setCell ⟨L, 1, none⟩ (.int .u32 a')).heap[L]? = some (.cells #[.string s', .int .u32 a', .slice A2 nl c2, .int .u8 m2] 70 (0, 0)) := heap_set e2
  have e4 : (((wr.setCell ⟨L, 0, none⟩ (.string s')).setCell ⟨L, 1, none⟩ (.int .u32 a')).setCell ⟨L, 2, none⟩ (.slice A' n' c')).heap[L]? = some (.cells #[.string s', .int .u32 a', .slice A' n' c', .int .u8 m2] 70 (0, 0)) := heap_set e3
  have n1 : N ≠ L := by have := h.NL; omega
  have n2 : N ≤ L := by have := h.NL; omega
  exact ⟨(heap_other n1).trans ((heap_other n1).trans ((heap_other n1).trans ((heap_other n1).trans h.rz))), (heap_other h.IL).trans ((heap_other h.IL).trans ((heap_other h.IL).trans ((heap_other h.IL).trans h.iz))), heap_set e4,
    own_off (own_off (own_off (own_off h.row e1 (by decide)) e2 (by decide)) e3 (by decide)) e4 (by decide),
    (((h.sg.off e1 (by decide) _ _).off e2 (by decide) _ _).off e3 (by decide) _ _).off e4 (by decide) _ _,
    (((h.old.setCell n2 _).setCell n2 _).setCell n2 _).setCell n2 _, h.NI, h.NL, h.IL⟩
theorem QZ.done (h : QZ w wr N I L rv acc st al nl sv ps s2 A2 c2 m2) (u u' : Value) : Below N w ((wr.setCell ⟨N, 0, none⟩ u).setCell ⟨N, 1, none⟩ u') ∧ SG N ((wr.setCell ⟨N, 0, none⟩ u).setCell ⟨N, 1, none⟩ u') sv ps :=
  ⟨(h.old.setCell (Nat.le_refl N) _).setCell (Nat.le_refl N) _, (h.sg.off h.rz (by decide) _ _).off (heap_set h.rz) (by decide) _ _⟩
theorem QZ.cells (h : QZ w wr N I L rv acc st al nl sv ps s2 A2 c2 m2) : (wr.cell? ⟨L, 0, none⟩ = some (.string s2) ∧ wr.cell? ⟨L, 1, none⟩ = some (.int .u32 al) ∧ wr.cell? ⟨L, 2, none⟩ = some (.slice A2 nl c2) ∧ wr.cell? ⟨L, 3, none⟩ = some (.int .u8 m2)) ∧ (wr.cell? ⟨I, 0, none⟩ = some (.int .u32 st) ∧ wr.cell? ⟨I, 1, none⟩ = some sv) ∧ (wr.cell? ⟨N, 0, none⟩ = some (.int .u32 0) ∧ wr.cell? ⟨N, 1, none⟩ = some (.slice none 0 0)) ∧ (∀ o, wr.frozen? ⟨L, o, none⟩ = false) ∧ (∀ o, wr.frozen? ⟨I, o, none⟩ = false) ∧ (∀ o, wr.frozen? ⟨N, o, none⟩ = false) :=
  ⟨⟨cell_of h.lz rfl, cell_of h.lz rfl, cell_of h.lz rfl, cell_of h.lz rfl⟩, ⟨cell_of h.iz rfl, cell_of h.iz rfl⟩, ⟨cell_of h.rz rfl, cell_of h.rz rfl⟩, fun _ => unfrozen h.lz, fun _ => unfrozen h.iz, fun _ => unfrozen h.rz⟩
end
end Go.Proofs.YtcilhippjiichaaDoor
