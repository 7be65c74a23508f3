/-
  Arguments that are cores: how what was handed in lies in memory.
-/
import Derived.Test.YtbeenmglgdhbjaaS11Base
import Derived.ProofKit
import Derived.OpenShut
import Derived.ChangeSlices
import Derived.Lib.SmallJoins
import Derived.Deep.Slices
namespace Go.Proofs.Ytbeenmglgdhbjaa.S11
open Go.ChangeShapes Go.WideShapes Go.RowKit Go.Joins Go.Deep S01 S10
section
variable {H : Type} {enc : TypeId × Value → H} {W : World} {spare : Nat → Bool} {held : Bool} {base : Nat}
theorem taken_one {l : List Value} {j : Nat} (h : j < l.length) : ∃ c, l[j]? = some c ∧ (l.drop j).take 1 = [c] := by
  refine ⟨l[j], List.getElem?_eq_getElem h, ?_⟩
  rw [List.drop_eq_getElem_cons h]; rfl
theorem word_at {l : List Value} {j n : Nat} {y : DataW H × List MemPlace} (hj : j < l.length) (h : DataW.trod enc Try.prog W base spare held n 23 ((l.drop j).take 1) = some y) : ∃ x : Int, l[j]? = some (.int .u32 x) ∧ CM.Wd x := by
  obtain ⟨c, hc, ht⟩ := taken_one hj
  rw [ht] at h
  obtain ⟨a, e, -, hw⟩ := DataW.trod_int Try.underlying23 h
  injection e with e
  subst e
  have hb := bounds_u32 hw
  exact ⟨a, hc, by unfold CM.Wd; omega⟩
theorem bool_at {l : List Value} {j n : Nat} {y : DataW H × List MemPlace} (hj : j < l.length) (h : DataW.trod enc Try.prog W base spare held n 4 ((l.drop j).take 1) = some y) : ∃ b : Bool, l[j]? = some (.bool b) := by
  obtain ⟨c, hc, ht⟩ := taken_one hj
  rw [ht] at h
  obtain ⟨b, e, -⟩ := DataW.trod_bool Try.underlying4 h
  injection e with e
  subst e
  exact ⟨b, hc⟩
theorem sub_one (l : List Value) (o k i : Nat) (hi : i < k) : (((l.drop o).take k).drop (i * 1)).take 1 = (l.drop (o + i)).take 1 := by
  rw [Nat.mul_one, List.drop_take, List.take_take, List.drop_drop, show min 1 (k - i) = 1 by omega]
theorem words_at {l : List Value} {t o k n : Nat} {y : DataW H × List MemPlace} (hu : Try.prog.underlying t = some (.array k 23)) (hl : o + k ≤ l.length) (hc : Try.prog.cellsOf 23 = 1) (h : DataW.trod enc Try.prog W base spare held n t ((l.drop o).take k) = some y) (i : Nat) (hi : i < k) :
    ∃ x : Int, l[o + i]? = some (.int .u32 x) ∧ CM.Wd x := by
  obtain ⟨xs, m, -, -, -, hlen, hg⟩ := DataW.trod_array hu h
  have h1 := hg i hi
  rw [hc, sub_one l o k i hi, List.getElem?_eq_getElem (by omega)] at h1
  exact word_at (by omega) h1
end
set_option maxRecDepth 100000 in
/-- A core that was handed in. -/
theorem arg_core {H : Type} {enc : TypeId × Value → H} {W : World} {b0 : Nat} {r : Reach} {v : Value} {d : DataW H} {p : List MemPlace} (hv : Value.okWide Try.prog W r b0 35 v) (h : DataW.Trod enc Try.prog W 0 (fun _ => true) true 35 v d p) :
    ∃ (f : Nat → Int) (hh : Bool), v = AR f hh ∧ CM.Ok f := by
  obtain ⟨⟨l⟩, rfl, hsz⟩ := okWide_struct Try.underlying35 hv
  have hl : l.length = 30 := hsz.trans (by kernel_rfl)
  obtain ⟨fuel, hf⟩ := h
  obtain ⟨xs, n, -, -, -, hlen, hg⟩ := DataW.trod_struct Try.underlying35 hf
  have hlen' : xs.length = 4 := hlen
  have c22 : Try.prog.cellsOf 23 = 1 := by kernel_rfl
  have c4 : Try.prog.cellsOf 4 = 1 := by kernel_rfl
  have c23 : Try.prog.cellsOf 32 = 16 := by kernel_rfl
  have c24 : Try.prog.cellsOf 33 = 12 := by kernel_rfl
  have hcells : (Value.agg l.toArray).cells.toList = l := rfl
  rw [hcells] at hg
  have g0 : DataW.trod enc Try.prog W 0 (fun _ => true) true n 23 ((l.drop 0).take (Try.prog.cellsOf 23)) = xs[0]? := hg 0 _ rfl
  have g1 : DataW.trod enc Try.prog W 0 (fun _ => true) true n 32 ((l.drop 1).take (Try.prog.cellsOf 32)) = xs[1]? := hg 1 _ rfl
  have g2 : DataW.trod enc Try.prog W 0 (fun _ => true) true n 33 ((l.drop 17).take (Try.prog.cellsOf 33)) = xs[2]? := hg 2 _ rfl
  have g3 : DataW.trod enc Try.prog W 0 (fun _ => true) true n 4 ((l.drop 29).take (Try.prog.cellsOf 4)) = xs[3]? := hg 3 _ rfl
  rw [c22, List.getElem?_eq_getElem (by omega)] at g0
  rw [c23, List.getElem?_eq_getElem (by omega)] at g1
  rw [c24, List.getElem?_eq_getElem (by omega)] at g2
  rw [c4, List.getElem?_eq_getElem (by omega)] at g3
  have w0 := word_at (j := 0) (by omega) g0
  have w1 := words_at (o := 1) (k := 16) Try.underlying32 (by omega) c22 g1
  have w2 := words_at (o := 17) (k := 12) Try.underlying33 (by omega) c22 g2
  obtain ⟨hh, w3⟩ := bool_at (j := 29) (by omega) g3
  have hall : ∀ j, j < 29 → ∃ x : Int, l[j]? = some (.int .u32 x) ∧ CM.Wd x := by
    intro j hj
    by_cases h1 : j = 0
    · rw [h1]; exact w0
    · by_cases h2 : j < 17
      · have := w1 (j - 1) (by omega)
        rwa [show 1 + (j - 1) = j by omega] at this
      · have := w2 (j - 17) (by omega)
        rwa [show 17 + (j - 17) = j by omega] at this
  obtain ⟨f, hF⟩ := choose_lt hall
  refine ⟨f, hh, ?_, fun j hj => (hF j hj).2⟩
  unfold AR
  congr 1
  congr 1
  apply List.ext_getElem?
  intro i
  by_cases h1 : i < 29
  · rw [(hF i h1).1, AC_get f hh h1]
  · by_cases h2 : i = 29
    · rw [h2, w3, AC_halt]
    · rw [List.getElem?_eq_none (by omega), List.getElem?_eq_none (by rw [AC_len]; omega)]
end Go.Proofs.Ytbeenmglgdhbjaa.S11
