/-
  An argument that is a struct whose fields take one cell each, of any number of fields: its values, each with its own reading; no condition besides, nothing of the program.
-/
import Derived.Lib.SmallJoins
namespace Go.Proofs.Ytfdcnbhnegdlfaa.S06
open Go.ChangeShapes Go.WideShapes Go.RowKit Go.Joins Go.Deep
theorem one_taken {l : List Value} {j : Nat} (h : j < l.length) : ∃ c, l[j]? = some c ∧ (l.drop j).take 1 = [c] := by
  refine ⟨l[j], List.getElem?_eq_getElem h, ?_⟩
  rw [List.drop_eq_getElem_cons h]; rfl
theorem open_fields {H : Type} {enc : TypeId × Value → H} {P : Program} {w : World} {base b0 : Nat} {spare : Nat → Bool} {held : Bool} {r : Reach} {t : TypeId} {fs : Array Field} {v : Value} {d : DataW H} {p : List MemPlace}
    (hs : P.underlying t = some (.struct fs)) (hone : oneCellFields P fs = true) (hC : P.cellsOf t = fs.size) (hv : Value.okWide P w r b0 t v) (h : DataW.Trod enc P w base spare held t v d p) :
    ∃ l : List Value, v = .agg l.toArray ∧ l.length = fs.size ∧ ∀ (j : Nat) (f : Field), fs[j]? = some f → ∃ (c : Value) (y : DataW H × List MemPlace) (n : Nat), l[j]? = some c ∧ DataW.trod enc P w base spare held n f.type [c] = some y := by
  obtain ⟨⟨l⟩, rfl, hsz⟩ := okWide_struct hs hv
  have hl : l.length = fs.size := hsz.trans hC
  obtain ⟨fuel, hf⟩ := h
  obtain ⟨xs, n, -, -, -, hlen, hg⟩ := DataW.trod_struct hs hf
  refine ⟨l, rfl, hl, fun j f hj => ?_⟩
  obtain ⟨ho, hk⟩ := hone_of hone j f hj
  have hjs : j < fs.size := (Array.getElem?_eq_some_iff.1 hj).1
  obtain ⟨c, hc, ht⟩ := one_taken (l := l) (j := j) (by omega)
  have h1 := hg j f hj
  rw [ho, hk] at h1
  have h2 : (Value.agg l.toArray).cells.toList = l := rfl
  rw [h2, ht, List.getElem?_eq_getElem (by omega)] at h1
  exact ⟨c, _, n, hc, h1⟩
end Go.Proofs.Ytfdcnbhnegdlfaa.S06
