/-
  The law on words and bytes: it returns true for every word, size and slice of bytes, and leaves all that was in memory as it was.
-/
import Derived.Test.YthlljmjefejemaaWalkH
import Derived.ProofKit
import Derived.OpenShut
namespace Go.Proofs.Ythlljmjefejemaa
open Go.ChangeShapes Go.WideShapes Go.ChangeAt Go.RowKit

/-- A slice of bytes that came in: its elements are the list's. -/
def ArgBytes (w : World) (a : Option Addr) (len : Nat) (l : List Int) : Prop :=
  l.length = len ∧ BM.Bs l ∧ (len = 0 ∨ ∃ g off, a = some ⟨g, off, none⟩ ∧ ∀ i, i < len → w.cell? ⟨g, off + i, none⟩ = some (.int .u8 (l.getD i 0)))
theorem bs_of_wf {l : List Int} (h : ∀ n ∈ l, (Lit.int .u8 n).wf = true) : BM.Bs l := by
  intro i
  by_cases hi : i < l.length
  · have := bounds_u8 (h l[i] (List.getElem_mem hi))
    simp [List.getD_eq_getElem?_getD, hi]; omega
  · rw [List.getD_eq_getElem?_getD, List.getElem?_eq_none (by omega)]; simp
theorem take_getD (l : List Int) (n i : Nat) (h : i < n) : (l.take n).getD i 0 = l.getD i 0 := by
  simp [List.getD_eq_getElem?_getD, h]
theorem arg_bytes {H : Type} {enc : TypeId × Value → H} {W : World} {a : Option Addr} {len cap : Nat} {d : DataW H} {p : List MemPlace}
    (h : DataW.Trod enc Try.prog W 0 (fun _ => true) true 32 (.slice a len cap) d p) : ∃ l, ArgBytes W a len l := by
  obtain ⟨fuel, hf⟩ := h
  rcases open_ints Try.underlying32 Try.underlying5 (by kernel_rfl) hf with ⟨hcs, _⟩ | ⟨x, l, c, zs, hcs, _, hl, hm, hz, _, hcell, hwz⟩
  · simp [Value.cells] at hcs
    obtain ⟨rfl, rfl, rfl⟩ := hcs
    exact ⟨[], rfl, bs_of_wf (by simp), .inl rfl⟩
  · simp [Value.cells] at hcs
    obtain ⟨rfl, rfl, rfl⟩ := hcs
    have hz' : zs.length = cap := by simpa using hz
    refine ⟨zs.take len, by simp; omega, bs_of_wf fun n hn => hwz n (List.mem_of_mem_take hn), ?_⟩
    by_cases h0 : len = 0
    · exact .inl h0
    · obtain ⟨b, off, rfl, hc⟩ := ints_at hcell (by omega)
      exact .inr ⟨b, off, rfl, fun i hi => by rw [take_getD _ _ _ hi]; exact hc i (by omega)⟩
theorem of_arg (w W : World) (a : Option Addr) (len cap : Nat) (l : List Int) (h : ArgBytes w a len l) (hb : Below w.heap.size w W) (hle : len ≤ 100) :
    Calls Try.prog 26 #[.slice a len cap] W fun e w' => e = .returned (.int .u32 (BM.wo l)) ∧ W = w' := by
  obtain ⟨hlen, hl, h⟩ := h
  by_cases h0 : len = 0
  · subst h0
    obtain rfl : l = [] := List.length_eq_zero_iff.mp hlen
    exact of_empty a cap W
  · rcases h with h | ⟨g, off, rfl, hc⟩
    · exact absurd h h0
    · by_cases h4 : len ≤ 4
      · exact of_low g off len cap l W hl hlen h4 fun i _ hi => cell_later hb (hc i hi)
      · exact of_high g off len cap l W hl hlen (by omega) hle fun i _ hi => cell_later hb (hc i hi)
theorem rof_arg (w W : World) (a : Option Addr) (len cap : Nat) (l : List Int) (h : ArgBytes w a len l) (hb : Below w.heap.size w W) (hle : len ≤ 100) :
    Calls Try.prog 27 #[.slice a len cap] W fun e w' => e = .returned (.int .u32 (BM.wo l)) ∧ Dr W w' := by
  obtain ⟨hlen, hl, h⟩ := h
  by_cases h0 : len = 0
  · subst h0
    obtain rfl : l = [] := List.length_eq_zero_iff.mp hlen
    exact rof_empty a cap W
  · rcases h with h | ⟨g, off, rfl, hc⟩
    · exact absurd h h0
    · exact rof_some g off len cap l W hl hlen hle fun i _ hi => cell_later hb (hc i hi)
theorem own_below {w w' : World} {B n : Nat} {x : Value} {l : List Value} (h : w.ownsRow B 5 1 x n l) (hb : Below w.heap.size w w') : w'.ownsRow B 5 1 x n l := by
  refine ⟨h.1, ?_⟩
  have hlt := h.lt
  rcases h.2 with h' | ⟨g, cap, cur, rfl, h1, h2, h3⟩
  · exact .inl h'
  · exact .inr ⟨g, cap, cur, rfl, h1, (hb.block g (hlt g rfl).2).trans h2, h3⟩
theorem Dr.below {w w' : World} (h : Dr w w') : Below w.heap.size w w' := by
  obtain ⟨n, rfl⟩ := h
  exact below_drewN (Below.refl _ _) n

/-- N is n, brought to 0 and 4. -/
def Cl4 (n N : Int) : Prop := (N = 0 ∧ n < 0) ∨ (N = n ∧ 0 ≤ n ∧ n ≤ 4) ∨ (N = 4 ∧ 4 < n)
theorem cl4 (n : Int) : Cl4 n (BM.cl n 0 4) := by
  unfold Cl4 BM.cl; split
  · omega
  · split <;> omega
set_option maxHeartbeats 1600000 in
theorem bytes_long (v s : Int) (a : Option Addr) (len cap : Nat) (w : World) (hlong : 100 < len) :
    Calls Try.prog 8 #[.int .u32 v, .int .i64 s, .slice a len cap] w fun e w' => e = .returned (.bool true) ∧ Below w.heap.size w w' := by
  go_enter Try.func8, Try.ntmps8
  go_wp2_with (go_at_call 14; refine (awake_any _).mono ?_; rintro e w' ⟨rfl, n1, rfl⟩)
  go_ret
  exact ⟨rfl, below_draws _ _⟩
set_option maxHeartbeats 1600000 in
theorem bytes_short (v s N : Int) (n : Nat) (a : Option Addr) (len cap : Nat) (l : List Int) (w : World) (hv0 : 0 ≤ v) (hv : v < 4294967296) (hlen : len ≤ 100) (hA : Hid (ArgBytes w a len l))
    (hN : Cl4 s N) (hn : Hid (BM.cl s 0 4 = n)) (hn1 : N ≤ n) (hn2 : (n : Int) ≤ N) (hn4 : n ≤ 4) :
    Calls Try.prog 8 #[.int .u32 v, .int .i64 s, .slice a len cap] w fun e w' => e = .returned (.bool true) ∧ Below w.heap.size w w' := by
  have e1 : (BM.wo (BM.bl v n) == BM.zx v (8 * (n : Int))) = true := by rw [BM.wo_bl v n hn4 hv0]; exact beq_self_eq_true _
  rcases hN with ⟨rfl, hh⟩ | ⟨rfl, hh, hh'⟩ | ⟨rfl, hh⟩
  all_goals
    go_enter Try.func8, Try.ntmps8
    go_wp2_with (fail)
    refine (bytes_any v _ n w hn hn4).mono ?_
    rintro e w1 ⟨rfl, hm1⟩
    have M1 := Lib.hid hm1
    clear hm1
    go_wp2_with (fail)
    refine (rbytes_any v _ n w1 hv0 hv hn hn4).mono ?_
    rintro e w2 ⟨x, rfl, hm2⟩
    have M2 := Lib.hid hm2
    clear hm2
    have O1 := Lib.hid (own_below M1.out.1 M2.out.2)
    have B2 := Lib.hid (M1.out.2.trans (M2.out.2.mono M1.out.2.size))
    go_wp2_with (fail)
    refine (same_own _ _ n _ _ _ w2 hn4 O1.out M2.out.1).mono ?_
    rintro e w3 ⟨rfl, hd3⟩
    have O3 := Lib.hid (own_below O1.out hd3.below)
    have B3 := Lib.hid (B2.out.trans (hd3.below.mono B2.out.size))
    clear hd3
    go_wp2_with (fail)
    refine (of_arg w _ _ _ _ l hA.out B3.out hlen).mono ?_
    rintro e w' ⟨rfl, rfl⟩
    go_wp2_with (fail)
    refine (rof_arg w _ _ _ _ l hA.out B3.out hlen).mono ?_
    rintro e w4 ⟨rfl, hd4⟩
    have O4 := Lib.hid (own_below O3.out hd4.below)
    have B4 := Lib.hid (B3.out.trans (hd4.below.mono B3.out.size))
    clear hd4
    go_wp2_with (fail)
    refine (of_own _ n _ _ _ hn4 (BM.bl_Bs v n) O4.out).mono ?_
    rintro e w' ⟨rfl, rfl⟩
    go_wp2_with (fail)
    refine (zext_at _ _ (8 * (n : Int)) _ hv0 hv (by omega) (by omega)).mono ?_
    rintro e w' ⟨rfl, rfl⟩
    go_wp2_with (fail)
    refine (awake_any _).mono ?_
    rintro e w' ⟨rfl, n1, rfl⟩
    go_wp2
    go_ret
    exact ⟨rfl, below_drewN B4.out _⟩
theorem bytes_walk (v s : Int) (a : Option Addr) (len cap : Nat) (l : List Int) (w : World) (hv0 : 0 ≤ v) (hv : v < 4294967296) (hA : ArgBytes w a len l) :
    Calls Try.prog 8 #[.int .u32 v, .int .i64 s, .slice a len cap] w fun e w' => e = .returned (.bool true) ∧ Below w.heap.size w w' := by
  obtain ⟨h0, h1⟩ := BM.cl_bd s 0 4 (by omega)
  by_cases h : 100 < len
  · exact bytes_long v s a len cap w h
  · exact bytes_short v s _ (BM.cl s 0 4).toNat a len cap l w hv0 hv (by omega) hA (cl4 s) (show BM.cl s 0 4 = ((BM.cl s 0 4).toNat : Int) by omega) (by omega) (by omega) (by omega)
end Go.Proofs.Ythlljmjefejemaa
