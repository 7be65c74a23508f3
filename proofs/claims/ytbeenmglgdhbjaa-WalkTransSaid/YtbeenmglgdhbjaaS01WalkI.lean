/-
  The law on words and bytes: it returns true for every word, size and slice of bytes, and leaves all that was in memory as it was.
-/
import Derived.Test.YtbeenmglgdhbjaaS01WalkH
import Derived.ProofKit
import Derived.OpenShut
namespace Go.Proofs.Ytbeenmglgdhbjaa.S01
open Go.ChangeShapes Go.WideShapes Go.ChangeAt Go.RowKit

/-- A slice of bytes that came in: its elements are the list's. -/
def ArgBytes (w : World) (a : Option Addr) (len : Nat) (l : List Int) : Prop :=
  l.length = len ∧ BM.Bs l ∧ (len = 0 ∨ ∃ g off, a = some ⟨g, off, none⟩ ∧ ∀ i, i < len → w.cell? ⟨g, off + i, none⟩ = some (.int .u8 (l.getD i 0)))
theorem bs_of_wf {l : List Int} (h : ∀ n ∈ l, (Lit.int .u8 n).wf = true) : BM.Bs l := by
  intro i
  by_cases hi : i < l.length
  · have := bounds_u8 (h l[i] (List.getElem_mem hi))
    simp [List.getD_eq_getElem?_getD, hi]; omega
  · rw [List.getD_eq_getElem?_getD, List.getElem?_eq_none (by omega)]; simp
theorem take_getD (l : List Int) (n i : Nat) (h : i < n) : (l.take n).getD i 0 = l.getD i 0 := by
  simp [List.getD_eq_getElem?_getD, h]
theorem arg_bytes {H : Type} {enc : TypeId × Value → H} {W : World} {a : Option Addr} {len cap : Nat} {d : DataW H} {p : List MemPlace}
    (h : DataW.Trod enc Try.prog W 0 (fun _ => true) true 22 (.slice a len cap) d p) : ∃ l, ArgBytes W a len l := by
  obtain ⟨fuel, hf⟩ := h
  rcases open_ints Try.underlying22 Try.underlying5 (by kernel_rfl) hf with ⟨hcs, _⟩ | ⟨x, l, c, zs, hcs, _, hl, hm, hz, _, hcell, hwz⟩
  · simp [Value.cells] at hcs
    obtain ⟨rfl, rfl, rfl⟩ := hcs
    exact ⟨[], rfl, bs_of_wf (by simp), .inl rfl⟩
  · simp [Value.cells] at hcs
    obtain ⟨rfl, rfl, rfl⟩ := hcs
    have hz' : zs.length = cap := by simpa using hz
    refine ⟨zs.take len, by simp; omega, bs_of_wf fun n hn => hwz n (List.mem_of_mem_take hn), ?_⟩
    by_cases h0 : len = 0
    · exact .inl h0
    · obtain ⟨b, off, rfl, hc⟩ := ints_at hcell (by omega)
      exact .inr ⟨b, off, rfl, fun i hi => by rw [take_getD _ _ _ hi]; exact hc i (by omega)⟩
theorem of_arg (w W : World) (a : Option Addr) (len cap : Nat) (l : List Int) (h : ArgBytes w a len l) (hb : Below w.heap.size w W) (hle : len ≤ 100) :
    Calls Try.prog 49 #[.slice a len cap] W fun e w' => e = .returned (.int .u32 (BM.wo l)) ∧ W = w' := by
  obtain ⟨hlen, hl, h⟩ := h
  by_cases h0 : len = 0
  · subst h0
    obtain rfl : l = [] := List.length_eq_zero_iff.mp hlen
    exact of_empty a cap W
  · rcases h with h | ⟨g, off, rfl, hc⟩
    · exact absurd h h0
    · by_cases h4 : len ≤ 4
      · exact of_low g off len cap l W hl hlen h4 fun i _ hi => cell_later hb (hc i hi)
      · exact of_high g off len cap l W hl hlen (by omega) hle fun i _ hi => cell_later hb (hc i hi)
theorem own_below {w w' : World} {B n : Nat} {x : Value} {l : List Value} (h : w.ownsRow B 5 1 x n l) (hb : Below w.heap.size w w') : w'.ownsRow B 5 1 x n l := by
  refine ⟨h.1, ?_⟩
  have hlt := h.lt
  rcases h.2 with h' | ⟨g, cap, cur, rfl, h1, h2, h3⟩
  · exact .inl h'
  · exact .inr ⟨g, cap, cur, rfl, h1, (hb.block g (hlt g rfl).2).trans h2, h3⟩
theorem Dr.below {w w' : World} (h : Dr w w') : Below w.heap.size w w' := by
  obtain ⟨n, rfl⟩ := h
  exact below_drewN (Below.refl _ _) n

/-- N is n, brought to 0 and 4. -/
def Cl4 (n N : Int) : Prop := (N = 0 ∧ n < 0) ∨ (N = n ∧ 0 ≤ n ∧ n ≤ 4) ∨ (N = 4 ∧ 4 < n)
theorem cl4 (n : Int) : Cl4 n (BM.cl n 0 4) := by
  unfold Cl4 BM.cl; split
  · omega
  · split <;> omega
end Go.Proofs.Ytbeenmglgdhbjaa.S01
