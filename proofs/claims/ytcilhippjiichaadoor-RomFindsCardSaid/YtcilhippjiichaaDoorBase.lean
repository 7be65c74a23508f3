/-
  How bytes and segments lie in memory, whoever owns them; blocks that stay as they were. No condition of its own.
-/
import Derived.Test.YtcilhippjiichaaDoorGc
import Derived.Maps.AppendAt
import Derived.Deep.AppendLies
import Derived.OwnWalk
namespace Go.Proofs.YtcilhippjiichaaDoor
open Go.RowKit Go.Maps S02
theorem cell_of {w : World} {k o : Nat} {c : Array Value} {e : TypeId} {f : Nat × Nat} {v : Value} (h : w.heap[k]? = some (.cells c e f)) (hv : c[o]? = some v) : w.cell? ⟨k, o, none⟩ = some v := by
  simp [World.cell?, h, hv]
theorem unfrozen {w : World} {k o : Nat} {c : Array Value} {e : TypeId} (h : w.heap[k]? = some (.cells c e (0, 0))) : w.frozen? ⟨k, o, none⟩ = false := by
  simp [World.frozen?, h]
theorem heap_set {w : World} {k o : Nat} {c : Array Value} {e : TypeId} {f : Nat × Nat} {v : Value} (h : w.heap[k]? = some (.cells c e f)) : (w.setCell ⟨k, o, none⟩ v).heap[k]? = some (.cells (c.setIfInBounds o v) e f) := by
  simp only [World.setCell, Array.getElem?_modify]
  simp [h]
theorem lt_of_heap {w : World} {k : Nat} {o : Obj} (h : w.heap[k]? = some o) : k < w.heap.size := (Array.getElem?_eq_some_iff.1 h).1
theorem own_keep {w w' : World} {B e size n : Nat} {v : Value} {xs : List Value} (h : w.ownsRow B e size v n xs) (hb : ∀ k, v.ownBlock = some k → w'.heap[k]? = w.heap[k]?) : w'.ownsRow B e size v n xs := by
  refine ⟨h.1, ?_⟩
  rcases h.2 with h' | ⟨g, cap, cur, rfl, h1, h2, h3⟩
  · exact .inl h'
  · exact .inr ⟨g, cap, cur, rfl, h1, (hb g rfl).trans h2, h3⟩
theorem own_lt {w : World} {B e size n : Nat} {v : Value} {xs : List Value} (h : w.ownsRow B e size v n xs) {k : Nat} (hk : v.ownBlock = some k) : B ≤ k ∧ k < w.heap.size ∧ ∃ c, w.heap[k]? = some (.cells c e (0, 0)) := by
  rcases h.2 with ⟨rfl, _⟩ | ⟨g, cap, cur, rfl, h1, h2, h3⟩
  · cases hk
  · simp only [Value.ownBlock, Option.some.injEq] at hk
    subst hk
    exact ⟨h1, lt_of_heap h2, cur, h2⟩
theorem heap_other {w : World} {k j o : Nat} {v : Value} (h : j ≠ k) : (w.setCell ⟨k, o, none⟩ v).heap[j]? = w.heap[j]? := Below.heap_setCell _ _ _ _ h
theorem size_set (w : World) (a : Addr) (v : Value) : (w.setCell a v).heap.size = w.heap.size := by simp [World.setCell]
theorem below_one (w : World) (o : Obj) : Below w.heap.size w (w.alloc o) := (Below.refl _ w).alloc (Nat.le_refl _) o
theorem below_two (w : World) (o o' : Obj) : Below w.heap.size w ((w.alloc o).alloc o') := (below_one w o).alloc (by simp) o'
theorem below_drewN' (w : World) (n : Nat) : Below w.heap.size w (w.drewN n) := below_drewN (Below.refl _ _) n
theorem bt_of (l : List UInt8) : ∃ T : ByteArray, (⟨l.toArray⟩ : ByteArray) = T ∧ T.data.toList = l ∧ T.size = l.length := ⟨_, rfl, rfl, by simp [ByteArray.size]⟩
def byC (bs : List UInt8) : List Value := bs.map fun b => .int .u8 b.toNat
def sgC (ps : List (Nat × Value × List UInt8)) : List Value := ps.flatMap fun p => [.int .u32 p.1, p.2.1]
theorem byC_snoc (bs : List UInt8) (b : UInt8) : byC (bs ++ [b]) = byC bs ++ [.int .u8 b.toNat] := by simp [byC]
theorem sgC_len (ps : List (Nat × Value × List UInt8)) : (sgC ps).length = ps.length * 2 := by
  induction ps with
  | nil => rfl
  | cons p r ih => rw [sgC, List.flatMap_cons, List.length_append, ← sgC, ih]; simp; omega
theorem sgC_snoc (ps : List (Nat × Value × List UInt8)) (a : Nat) (d : Value) (bs : List UInt8) : sgC (ps ++ [(a, d, bs)]) = sgC ps ++ [.int .u32 a, d] := by simp [sgC]
theorem sgC_at : ∀ (ps : List (Nat × Value × List UInt8)) (j : Nat) (p : Nat × Value × List UInt8), ps[j]? = some p → (sgC ps)[2 * j]? = some (.int .u32 p.1) ∧ (sgC ps)[2 * j + 1]? = some p.2.1
  | [], _, _, h => by simp at h
  | x :: r, 0, p, h => by simp at h; subst h; exact ⟨rfl, rfl⟩
  | x :: r, j + 1, p, h => by
    rw [List.getElem?_cons_succ] at h
    obtain ⟨h1, h2⟩ := sgC_at r j p h
    rw [show sgC (x :: r) = .int .u32 x.1 :: x.2.1 :: sgC r from rfl]
    rw [show 2 * (j + 1) = 2 * j + 1 + 1 by omega]
    simp only [List.getElem?_cons_succ]
    exact ⟨h1, h2⟩
theorem sgC_set (ps : List (Nat × Value × List UInt8)) (a : Nat) (d d' : Value) (bs bs' : List UInt8) : (sgC (ps ++ [(a, d, bs)])).set (2 * ps.length + 1) d' = sgC (ps ++ [(a, d', bs')]) := by
  rw [sgC_snoc, sgC_snoc, List.set_append_right _ _ (by rw [sgC_len]; omega), sgC_len, show 2 * ps.length + 1 - ps.length * 2 = 1 by omega]
  rfl
structure SG (N : Nat) (w : World) (v : Value) (ps : List (Nat × Value × List UInt8)) : Prop where
  own : w.ownsRow N 51 2 v ps.length (sgC ps)
  dat : ∀ p ∈ ps, w.ownsRow N 5 1 p.2.1 p.2.2.length (byC p.2.2)
  sep : ps.Pairwise fun a b => ∀ k, a.2.1.ownBlock = some k → b.2.1.ownBlock ≠ some k
theorem SG.nil (N : Nat) (w : World) : SG N w (.slice none 0 0) [] := ⟨World.ownsRow_nil _ _ _ _, fun p hp => by simp at hp, List.Pairwise.nil⟩
theorem SG.keep {N : Nat} {w w' : World} {v : Value} {ps : List (Nat × Value × List UInt8)} (h : SG N w v ps) (hb : ∀ (k : Nat) (c : Array Value) (e : TypeId) (f : Nat × Nat), w.heap[k]? = some (Obj.cells c e f) → e = 51 ∨ e = 5 → w'.heap[k]? = w.heap[k]?) : SG N w' v ps :=
  ⟨own_keep h.own fun k hk => by obtain ⟨_, _, c, hc⟩ := own_lt h.own hk; exact hb k c _ _ hc (.inl rfl),
   fun p hp => own_keep (h.dat p hp) fun k hk => by obtain ⟨_, _, c, hc⟩ := own_lt (h.dat p hp) hk; exact hb k c _ _ hc (.inr rfl), h.sep⟩
theorem SG.below {N : Nat} {w w' : World} {v : Value} {ps : List (Nat × Value × List UInt8)} (h : SG N w v ps) (hb : Below w.heap.size w w') : SG N w' v ps := h.keep fun k _c _e _f hk _ => hb.block k (lt_of_heap hk)
theorem kind_ne {w : World} {j k : Nat} {c c' : Array Value} {e e' : TypeId} {f f' : Nat × Nat} (h : w.heap[j]? = some (.cells c e f)) (h' : w.heap[k]? = some (.cells c' e' f')) (he : e ≠ e') : j ≠ k := by
  rintro rfl
  rw [h] at h'
  injection h' with h'
  injection h' with _ h2
  exact he h2
theorem SG.off {N : Nat} {w : World} {v : Value} {ps : List (Nat × Value × List UInt8)} (h : SG N w v ps) {k : Nat} {c : Array Value} {e : TypeId} {f : Nat × Nat} (hk : w.heap[k]? = some (.cells c e f)) (he : e ≠ 51 ∧ e ≠ 5) (o : Nat) (u : Value) : SG N (w.setCell ⟨k, o, none⟩ u) v ps :=
  h.keep fun j c' e' f' hj he' => heap_other (kind_ne hj hk (by rintro rfl; exact he'.elim he.1 he.2))
theorem SG.lies {N : Nat} {w : World} {v : Value} {ps : List (Nat × Value × List UInt8)} (h : SG N w v ps) (h0 : ps ≠ []) : ∃ G c, v = .slice (some ⟨G, 0, none⟩) ps.length c ∧ N ≤ G ∧ (∃ cs, w.heap[G]? = some (.cells cs 51 (0, 0))) := by
  rcases h.own.2 with ⟨_, h1⟩ | ⟨g, cap, cur, hv, h1, h2, _⟩
  · exact absurd (List.eq_nil_of_length_eq_zero h1) h0
  · exact ⟨g, cap, hv, h1, cur, h2⟩
theorem SG.cell {N : Nat} {w : World} {G n c : Nat} {ps : List (Nat × Value × List UInt8)} (h : SG N w (.slice (some ⟨G, 0, none⟩) n c) ps) (hn : ps.length = n) {j : Nat} {p : Nat × Value × List UInt8} (hj : ps[j]? = some p) :
    w.cell? ⟨G, 2 * j, none⟩ = some (.int .u32 p.1) ∧ w.cell? ⟨G, 2 * j + 1, none⟩ = some p.2.1 ∧ (∀ o, w.frozen? ⟨G, o, none⟩ = false) := by
  subst hn
  have hl : j < ps.length := (List.getElem?_eq_some_iff.1 hj).1
  obtain ⟨h1, h2⟩ := sgC_at ps j p hj
  exact ⟨(h.own.cellAt (2 * j) (by omega)).trans h1, (h.own.cellAt (2 * j + 1) (by omega)).trans h2, fun o => h.own.frozenAt o⟩
def ByR (w : World) (v : Value) (bs : List UInt8) : Prop :=
  (bs = [] ∧ ∃ a c, v = .slice a 0 c) ∨ (bs ≠ [] ∧ ∃ g o c, v = .slice (some ⟨g, o, none⟩) bs.length c ∧ bs.length ≤ c ∧ c ≤ maxLen ∧ ∀ j, j < bs.length → w.cell? ⟨g, o + j, none⟩ = some (.int .u8 (bs.getD j 0).toNat))
def SgR (w : World) (v : Value) (l : List (Nat × List UInt8)) : Prop :=
  (l = [] ∧ ∃ a c, v = .slice a 0 c) ∨ (l ≠ [] ∧ ∃ g o c, v = .slice (some ⟨g, o, none⟩) l.length c ∧ ∀ j p, l[j]? = some p → w.cell? ⟨g, o + j * 2, none⟩ = some (.int .u32 p.1) ∧ ∃ d, w.cell? ⟨g, o + j * 2 + 1, none⟩ = some d ∧ ByR w d p.2)
theorem cell_below {w w' : World} {a : Addr} {v : Value} (hb : Below w.heap.size w w') (h : w.cell? a = some v) : w'.cell? a = some v := (hb.cell (World.block_lt_of_cell? _ _ h)).trans h
theorem ByR.below {w w' : World} {v : Value} {bs : List UInt8} (h : ByR w v bs) (hb : Below w.heap.size w w') : ByR w' v bs := by
  rcases h with h | ⟨h0, g, o, c, hv, h1, h2, h3⟩
  · exact .inl h
  · exact .inr ⟨h0, g, o, c, hv, h1, h2, fun j hj => cell_below hb (h3 j hj)⟩
theorem SgR.below {w w' : World} {v : Value} {l : List (Nat × List UInt8)} (h : SgR w v l) (hb : Below w.heap.size w w') : SgR w' v l := by
  rcases h with h | ⟨h0, g, o, c, hv, h3⟩
  · exact .inl h
  · refine .inr ⟨h0, g, o, c, hv, fun j p hj => ?_⟩
    obtain ⟨h4, d, h5, h6⟩ := h3 j p hj
    exact ⟨cell_below hb h4, d, cell_below hb h5, h6.below hb⟩
theorem ByR.of_own {w : World} {N : Nat} {v : Value} {bs : List UInt8} (h : w.ownsRow N 5 1 v bs.length (byC bs)) : ByR w v bs := by
  by_cases e : bs = []
  · subst e
    rcases h.2 with ⟨h, -⟩ | ⟨g, cap, cur, h, -⟩
    · exact .inl ⟨rfl, _, _, h⟩
    · exact .inl ⟨rfl, _, _, h⟩
  · rcases h.2 with ⟨_, h0⟩ | ⟨g, cap, cur, rfl, h1, h2, h3, h4, -⟩
    · exact absurd (List.eq_nil_of_length_eq_zero h0) e
    · refine .inr ⟨e, g, 0, cap, rfl, h3, h4, fun j hj => ?_⟩
      rw [Nat.zero_add, h.cellAt j (by omega), byC, List.getElem?_map, List.getElem?_eq_getElem hj, List.getD_eq_getElem?_getD, List.getElem?_eq_getElem hj]
      rfl
theorem SgR.of_sg {w : World} {N : Nat} {v : Value} {ps : List (Nat × Value × List UInt8)} {l : List (Nat × List UInt8)} (h : SG N w v ps) (hl : ps.map (fun p => (p.1, p.2.2)) = l) : SgR w v l := by
  subst hl
  by_cases e : ps = []
  · subst e
    rcases h.own.2 with ⟨h, -⟩ | ⟨g, cap, cur, h, -⟩
    · exact .inl ⟨rfl, _, _, h⟩
    · exact .inl ⟨rfl, _, _, h⟩
  · obtain ⟨G, c, rfl, -, -⟩ := h.lies e
    refine .inr ⟨by simpa using e, G, 0, c, by rw [List.length_map], fun j p hj => ?_⟩
    rw [List.getElem?_map, Option.map_eq_some_iff] at hj
    obtain ⟨p', hj, rfl⟩ := hj
    obtain ⟨h1, h2, -⟩ := h.cell rfl hj
    rw [Nat.zero_add, Nat.mul_comm]
    exact ⟨h1, _, h2, ByR.of_own (h.dat p' (List.mem_of_getElem? hj))⟩
theorem sv_form {w : World} {sv : Value} {l : List (Nat × List UInt8)} (hs : SgR w sv l) : ∃ a c, sv = .slice a l.length c := by
  rcases hs with ⟨rfl, a, c, rfl⟩ | ⟨_, g, o, c, rfl, _⟩
  · exact ⟨a, c, rfl⟩
  · exact ⟨_, c, rfl⟩
theorem by_form {w : World} {v : Value} {bs : List UInt8} (hs : ByR w v bs) : ∃ a c, v = .slice a bs.length c := by
  rcases hs with ⟨rfl, a, c, rfl⟩ | ⟨_, g, o, c, rfl, _⟩
  · exact ⟨a, c, rfl⟩
  · exact ⟨_, c, rfl⟩
end Go.Proofs.YtcilhippjiichaaDoor
