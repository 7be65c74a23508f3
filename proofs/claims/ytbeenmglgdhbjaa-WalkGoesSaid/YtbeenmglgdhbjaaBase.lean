/-
  Rows of words: how they lie in memory, what appending one leaves. No condition of its own.
-/
import Derived.Test.YtbeenmglgdhbjaaWalkA
import Derived.Test.YtbeenmglgdhbjaaS10WalkF
import Derived.Deep.AppendLies
namespace Go.Proofs.Ytbeenmglgdhbjaa
open Go.RowKit Go.Maps S01 S10 S11 S12
theorem info23 : (Try.prog.info? 23).map (fun i => (i.zero, i.size, i.bytes)) = some (some (.int .u32 0), 1, 4) := by kernel_rfl
/-- A row of words. -/
def wC (l : List Int) : List Value := l.map fun x => .int .u32 x
theorem wC_len (l : List Int) : (wC l).length = l.length := by simp [wC]
theorem wC_get {l : List Int} {j : Nat} (h : j < l.length) : (wC l)[j]? = some (.int .u32 (l.getD j 0)) := by
  rw [wC, List.getElem?_map, List.getD_eq_getElem?_getD, List.getElem?_eq_getElem h]
  rfl
theorem own_base {w : World} {B B' e size n : Nat} {v : Value} {xs : List Value} (h : w.ownsRow B e size v n xs) (hb : B' ≤ B) : w.ownsRow B' e size v n xs := by
  refine ⟨h.1, ?_⟩
  rcases h.2 with h' | ⟨g, cap, cur, h1, h2, h3⟩
  · exact .inl h'
  · exact .inr ⟨g, cap, cur, h1, Nat.le_trans hb h2, h3⟩
theorem own_one (w : World) {B : Nat} (x : Int) (hb : B ≤ w.heap.size) : (w.alloc (.cells #[.int .u32 x] 23)).ownsRow B 23 1 (.slice (some ⟨w.heap.size, 0, none⟩) 1 1) 1 [.int .u32 x] :=
  ⟨rfl, .inr ⟨w.heap.size, 1, #[.int .u32 x], rfl, hb, heap_alloc_new w _, Nat.le_refl _, by unfold maxLen; omega, rfl, rfl⟩⟩
/-- A store into another block leaves a row as it was. -/
theorem own_other {w : World} {B e size n s k : Nat} {v x : Value} {xs : List Value} (h : w.ownsRow B e size v n xs) (hs : s < B) : (w.setCell ⟨s, k, none⟩ x).ownsRow B e size v n xs :=
  own_keep h fun j hj => heap_other (by have := h.lt j hj; omega)
/-- An entry beside a row that grew. -/
theorem pk_grown {w w1 : World} {s : Nat} {b g : Int} {v : Value} (h : Pk w s b g) (hg : w.grownBy w1 v.ownBlock) (hne : some s ≠ v.ownBlock) : Pk w1 s b g := (hg.block s h.lt hne).trans h
/-- A store of a whole entry. -/
theorem pk_set {w : World} {s : Nat} {b g : Int} (h : Pk w s b g) (b' g' : Int) : Pk ((w.setCell ⟨s, 0, none⟩ (.int .u32 b')).setCell ⟨s, 1, none⟩ (.int .i64 g')) s b' g' := heap_set (heap_set h)
theorem pk_other {w : World} {s s' : Nat} {b g : Int} (h : Pk w s b g) (hs : s ≠ s') (k : Nat) (v : Value) : Pk (w.setCell ⟨s', k, none⟩ v) s b g := (heap_other hs).trans h
end Go.Proofs.Ytbeenmglgdhbjaa
