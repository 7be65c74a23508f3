/-
  How bytes lie in memory, whoever owns them; blocks that stay as they were. No condition of its own.
-/
import Derived.Test.YtbeenmglgdhbjaaS10Math
import Derived.Test.YtbeenmglgdhbjaaS01WalkI
import Derived.Maps.AppendAt
import Derived.Deep.AppendLies
import Derived.OwnWalk
namespace Go.Proofs.Ytbeenmglgdhbjaa.S10
open Go.RowKit Go.Maps S01
theorem cell_of {w : World} {k o : Nat} {c : Array Value} {e : TypeId} {f : Nat × Nat} {v : Value} (h : w.heap[k]? = some (.cells c e f)) (hv : c[o]? = some v) : w.cell? ⟨k, o, none⟩ = some v := by
  simp [World.cell?, h, hv]
theorem unfrozen {w : World} {k o : Nat} {c : Array Value} {e : TypeId} (h : w.heap[k]? = some (.cells c e (0, 0))) : w.frozen? ⟨k, o, none⟩ = false := by
  simp [World.frozen?, h]
theorem heap_set {w : World} {k o : Nat} {c : Array Value} {e : TypeId} {f : Nat × Nat} {v : Value} (h : w.heap[k]? = some (.cells c e f)) : (w.setCell ⟨k, o, none⟩ v).heap[k]? = some (.cells (c.setIfInBounds o v) e f) := by
  simp only [World.setCell, Array.getElem?_modify]
  simp [h]
theorem lt_of_heap {w : World} {k : Nat} {o : Obj} (h : w.heap[k]? = some o) : k < w.heap.size := (Array.getElem?_eq_some_iff.1 h).1
theorem own_keep {w w' : World} {B e size n : Nat} {v : Value} {xs : List Value} (h : w.ownsRow B e size v n xs) (hb : ∀ k, v.ownBlock = some k → w'.heap[k]? = w.heap[k]?) : w'.ownsRow B e size v n xs := by
  refine ⟨h.1, ?_⟩
  rcases h.2 with h' | ⟨g, cap, cur, rfl, h1, h2, h3⟩
  · exact .inl h'
  · exact .inr ⟨g, cap, cur, rfl, h1, (hb g rfl).trans h2, h3⟩
theorem own_later {w w' : World} {B e size n : Nat} {v : Value} {xs : List Value} (h : w.ownsRow B e size v n xs) (hb : Below w.heap.size w w') : w'.ownsRow B e size v n xs :=
  own_keep h fun k hk => hb.block k (h.lt k hk).2
theorem heap_other {w : World} {k j o : Nat} {v : Value} (h : j ≠ k) : (w.setCell ⟨k, o, none⟩ v).heap[j]? = w.heap[j]? := Below.heap_setCell _ _ _ _ h
theorem size_set (w : World) (a : Addr) (v : Value) : (w.setCell a v).heap.size = w.heap.size := by simp [World.setCell]
theorem below_one (w : World) (o : Obj) : Below w.heap.size w (w.alloc o) := (Below.refl _ w).alloc (Nat.le_refl _) o
theorem below_drewN' (w : World) (n : Nat) : Below w.heap.size w (w.drewN n) := below_drewN (Below.refl _ _) n
theorem below_then {w w' w2 : World} (h : Below w.heap.size w w') (h' : Below w'.heap.size w' w2) : Below w.heap.size w w2 := h.trans (h'.mono h.size)
def byC (bs : List UInt8) : List Value := bs.map fun b => .int .u8 b.toNat
theorem byC_len (bs : List UInt8) : (byC bs).length = bs.length := by simp [byC]
theorem byC_cs (bs : List UInt8) : byC bs = cs (MM.il bs) := by simp [byC, cs, MM.il]
theorem byC_one (bs : List UInt8) : ∀ u ∈ byC bs, u.oneCell' = true := by
  intro u hu
  obtain ⟨b, -, rfl⟩ := List.mem_map.1 hu
  rfl
theorem getD_some {bs : List UInt8} {j : Nat} (h : j < bs.length) : bs[j]? = some (bs.getD j 0) := by
  rw [List.getD_eq_getElem?_getD, List.getElem?_eq_getElem h]
  rfl
theorem byC_get {bs : List UInt8} {j : Nat} {u : Value} (h : (byC bs)[j]? = some u) : j < bs.length ∧ u = .int .u8 (bs.getD j 0).toNat := by
  rw [byC, List.getElem?_map, Option.map_eq_some_iff] at h
  obtain ⟨b, h1, rfl⟩ := h
  have hj : j < bs.length := (List.getElem?_eq_some_iff.1 h1).1
  rw [getD_some hj] at h1
  injection h1 with h1
  exact ⟨hj, by rw [h1]⟩
theorem byC_at {bs : List UInt8} {j : Nat} (h : j < bs.length) : (byC bs)[j]? = some (.int .u8 (bs.getD j 0).toNat) := by
  rw [byC, List.getElem?_map, getD_some h]
  rfl
theorem byC_splice (m : List UInt8) (a : Nat) (ds : List UInt8) : splice (byC m) a (byC ds) = byC (splice m a ds) := by
  unfold splice byC
  simp
/-- A slice that reads as these bytes. -/
def ByR (w : World) (v : Value) (bs : List UInt8) : Prop :=
  (bs = [] ∧ ∃ a c, v = .slice a 0 c) ∨ (bs ≠ [] ∧ ∃ g o c, v = .slice (some ⟨g, o, none⟩) bs.length c ∧ bs.length ≤ c ∧ c ≤ maxLen ∧ ∀ j, j < bs.length → w.cell? ⟨g, o + j, none⟩ = some (.int .u8 (bs.getD j 0).toNat))
theorem cell_below {w w' : World} {a : Addr} {v : Value} (hb : Below w.heap.size w w') (h : w.cell? a = some v) : w'.cell? a = some v := (hb.cell (World.block_lt_of_cell? _ _ h)).trans h
theorem ByR.below {w w' : World} {v : Value} {bs : List UInt8} (h : ByR w v bs) (hb : Below w.heap.size w w') : ByR w' v bs := by
  rcases h with h | ⟨h0, g, o, c, hv, h1, h2, h3⟩
  · exact .inl h
  · exact .inr ⟨h0, g, o, c, hv, h1, h2, fun j hj => cell_below hb (h3 j hj)⟩
theorem ByR.of_own {w : World} {N : Nat} {v : Value} {bs : List UInt8} (h : w.ownsRow N 5 1 v bs.length (byC bs)) : ByR w v bs := by
  by_cases e : bs = []
  · subst e
    rcases h.2 with ⟨h, -⟩ | ⟨g, cap, cur, h, -⟩
    · exact .inl ⟨rfl, _, _, h⟩
    · exact .inl ⟨rfl, _, _, h⟩
  · rcases h.2 with ⟨_, h0⟩ | ⟨g, cap, cur, rfl, h1, h2, h3, h4, -⟩
    · exact absurd (List.eq_nil_of_length_eq_zero h0) e
    · refine .inr ⟨e, g, 0, cap, rfl, h3, h4, fun j hj => ?_⟩
      rw [Nat.zero_add, h.cellAt j (by omega), byC_at hj]
theorem by_form {w : World} {v : Value} {bs : List UInt8} (hs : ByR w v bs) : ∃ a c, v = .slice a bs.length c := by
  rcases hs with ⟨rfl, a, c, rfl⟩ | ⟨_, g, o, c, rfl, _⟩
  · exact ⟨a, c, rfl⟩
  · exact ⟨_, c, rfl⟩
/-- Bytes, one of them at least: where they lie. -/
theorem by_at {w : World} {a : Option Addr} {n c : Nat} {bs : List UInt8} (h : ByR w (.slice a n c) bs) (hn : bs.length = n) (h0 : 0 < n) :
    ∃ g o, a = some ⟨g, o, none⟩ ∧ n ≤ c ∧ c ≤ maxLen ∧ ∀ j, j < n → w.cell? ⟨g, o + j, none⟩ = some (.int .u8 (bs.getD j 0).toNat) := by
  rcases h with ⟨rfl, -⟩ | ⟨-, g, o, c', hv, h1, h2, h3⟩
  · simp at hn; omega
  · injection hv with e1 e2 e3
    subst e1 e3
    subst hn
    exact ⟨g, o, rfl, h1, h2, h3⟩
/-- A row of whole numbers. -/
def inC (l : List Nat) : List Value := l.map fun (k : Nat) => .int .i64 k
theorem inC_len (l : List Nat) : (inC l).length = l.length := by simp [inC]
end Go.Proofs.Ytbeenmglgdhbjaa.S10
