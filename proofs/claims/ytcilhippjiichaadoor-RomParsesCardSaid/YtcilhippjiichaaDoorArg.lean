/-
  Arguments that are images or lists of instructions: how what was handed in lies in memory.
-/
import Derived.Test.YtcilhippjiichaaDoorBase
import Derived.Test.YtcilhippjiichaaDoorS06Open
import Derived.ProofKit
import Derived.OpenShut
import Derived.ChangeSlices
import Derived.Lib.SmallJoins
import Derived.Lib.ItoaMem
namespace Go.Proofs.YtcilhippjiichaaDoor
open Go.ChangeShapes Go.WideShapes Go.RowKit Go.Joins Go.Deep
theorem two_of : ∀ {l : List Value}, l.length = 2 → ∃ a b, l = [a, b]
  | [a, b], _ => ⟨a, b, rfl⟩
theorem list_of {α : Type} {Q : Nat → α → Prop} : ∀ n : Nat, (∀ i, i < n → ∃ p, Q i p) → ∃ l : List α, l.length = n ∧ ∀ i p, l[i]? = some p → Q i p
  | 0, _ => ⟨[], rfl, fun i p h => by simp at h⟩
  | n + 1, h => by
    obtain ⟨l, hl, hq⟩ := list_of n fun i hi => h i (by omega)
    obtain ⟨p, hp⟩ := h n (by omega)
    refine ⟨l ++ [p], by simp [hl], fun i x hx => ?_⟩
    by_cases e : i < l.length
    · rw [List.getElem?_append_left e] at hx
      exact hq i x hx
    · rw [List.getElem?_append_right (by omega)] at hx
      have e1 : i - l.length = 0 := by
        rcases Nat.eq_zero_or_pos (i - l.length) with h' | h'
        · exact h'
        · rw [List.getElem?_eq_none (by simp; omega)] at hx; cases hx
      rw [e1] at hx
      simp at hx
      subst hx
      rw [show i = n by omega]
      exact hp
section
variable {H : Type} {enc : TypeId × Value → H} {W : World} {fuel : Nat} {v : Value} {x : DataW H × List MemPlace}
theorem read_by (h : DataW.trod enc Tryd.prog W 0 (fun _ => true) true fuel 28 [v] = some x) : ∃ bs, ByR W v bs := by
  rcases open_ints Tryd.underlying28 Tryd.underlying5 (by kernel_rfl) h with ⟨hcs, _⟩ | ⟨a, len, cap, zs, hcs, _, hl, hm, hz, _, hcell, hwz⟩
  · injection hcs with hcs
    exact ⟨[], .inl ⟨rfl, _, _, hcs⟩⟩
  · injection hcs with hcs
    subst hcs
    by_cases h0 : len = 0
    · subst h0; exact ⟨[], .inl ⟨rfl, _, _, rfl⟩⟩
    · have hz' : zs.length = cap := by simpa using hz
      obtain ⟨b, off, spot⟩ := a
      have hs : spot = none := by simpa [Addr.add] using World.cell?_spot (hcell 0 (by omega))
      subst hs
      have hlen : ((zs.take len).map fun z => UInt8.ofNat z.toNat).length = len := by simp; omega
      refine ⟨(zs.take len).map fun z => UInt8.ofNat z.toNat, .inr ⟨fun e => by rw [e] at hlen; simp at hlen; omega, b, off, cap, by rw [hlen], by rw [hlen]; exact hl, hm, fun j hj => ?_⟩⟩
      rw [hlen] at hj
      have h1 := hcell j (by omega)
      rw [Lib.add_plain] at h1
      rw [h1]
      have hj' : j < zs.length := by omega
      have hb := bounds_u8 (hwz zs[j] (List.getElem_mem hj'))
      have e1 : zs.getD j 0 = zs[j] := by rw [List.getD_eq_getElem?_getD, List.getElem?_eq_getElem hj']; rfl
      have e2 : ((zs.take len).map fun z => UInt8.ofNat z.toNat).getD j 0 = UInt8.ofNat zs[j].toNat := by
        rw [List.getD_eq_getElem?_getD, List.getElem?_map, List.getElem?_take, if_pos hj, List.getElem?_eq_getElem hj']
        rfl
      rw [e1, e2]
      have e3 : (UInt8.ofNat zs[j].toNat).toNat = zs[j].toNat := by
        rw [UInt8.toNat_ofNat']
        omega
      rw [e3]
      congr 2
      omega
theorem read_sg (h : DataW.trod enc Tryd.prog W 0 (fun _ => true) true fuel 23 [v] = some x) : ∃ l, SgR W v l ∧ ∀ p ∈ l, p.1 < 4294967296 := by
  rcases DataW.trod_slice Tryd.underlying23 h with ⟨hcs, _⟩ | ⟨a, len, cap, elems, rest, n, _, hcs, _, hb, hl, hm, hlen, hel, _, _⟩
  · injection hcs with hcs
    exact ⟨[], .inl ⟨rfl, _, _, hcs⟩, fun p hp => by simp at hp⟩
  · injection hcs with hcs
    subst hcs
    have hce : Tryd.prog.cellsOf 51 = 2 := by kernel_rfl
    rw [hce] at hel
    have key : ∀ i, i < len → ∃ p : Nat × List UInt8, p.1 < 4294967296 ∧ W.cell? (a.add (i * 2)) = some (.int .u32 p.1) ∧ ∃ d, W.cell? ((a.add (i * 2)).add 1) = some d ∧ ByR W d p.2 := by
      intro i hi
      have h1 := hel i hi
      rw [List.getElem?_eq_getElem (by omega)] at h1
      obtain ⟨cs, h2, h3⟩ := Option.bind_eq_some_iff.1 h1
      obtain ⟨-, h4, h5⟩ := World.cells?_some h2
      obtain ⟨xs, n', -, -, -, hxl, hg⟩ := DataW.trod_struct Tryd.underlying51 h3
      obtain ⟨c0, c1, rfl⟩ := two_of h4
      have g0 : DataW.trod enc Tryd.prog W 0 (fun _ => true) true n' 22 ((([c0, c1] : List Value).drop 0).take (Tryd.prog.cellsOf 22)) = xs[0]? := hg 0 _ rfl
      have g1 : DataW.trod enc Tryd.prog W 0 (fun _ => true) true n' 28 ((([c0, c1] : List Value).drop 1).take (Tryd.prog.cellsOf 28)) = xs[1]? := hg 1 _ rfl
      have hxl' : xs.length = 2 := hxl
      rw [List.getElem?_eq_getElem (by omega), show Tryd.prog.cellsOf 22 = 1 by kernel_rfl] at g0
      rw [List.getElem?_eq_getElem (by omega), show Tryd.prog.cellsOf 28 = 1 by kernel_rfl] at g1
      obtain ⟨z, e0, -, wz⟩ := DataW.trod_int Tryd.underlying22 g0
      simp at e0
      subst e0
      obtain ⟨bs, hbs⟩ := read_by g1
      have hbz := bounds_u32 wz
      have h6 := h5 0 (by omega)
      have h7 := h5 1 (by omega)
      refine ⟨(z.toNat, bs), by show z.toNat < 4294967296; omega, ?_, c1, h7, hbs⟩
      rw [show (a.add (i * 2)).add 0 = a.add (i * 2) by simp [Addr.add]] at h6
      rw [h6, show ((z.toNat, bs).1 : Int) = z by show (z.toNat : Int) = z; omega]
      rfl
    obtain ⟨l, hll, hq⟩ := list_of len key
    refine ⟨l, ?_, fun p hp => ?_⟩
    · by_cases h0 : l = []
      · subst h0
        simp at hll
        subst hll
        exact .inl ⟨rfl, _, _, rfl⟩
      · have h1 : 0 < len := (Nat.eq_zero_or_pos len).elim (fun h => absurd (List.eq_nil_of_length_eq_zero (hll.trans h)) h0) id
        obtain ⟨b, off, spot⟩ := a
        have hs : spot = none := by
          obtain ⟨p, -, hp, -⟩ := key 0 h1
          simpa [Addr.add] using World.cell?_spot hp
        subst hs
        refine .inr ⟨h0, b, off, cap, by rw [hll], fun j p hj => ?_⟩
        obtain ⟨-, q1, d, q2, q3⟩ := hq j p hj
        rw [Lib.add_plain] at q1 q2
        rw [Lib.add_plain] at q2
        exact ⟨q1, d, q2, q3⟩
    · obtain ⟨i, hi⟩ := List.mem_iff_getElem?.1 hp
      exact (hq i p hi).1
end
set_option maxRecDepth 100000 in
/-- An image that was handed in. -/
theorem arg_image {H : Type} {enc : TypeId × Value → H} {W : World} {b0 : Nat} {r : Reach} {v : Value} {d : DataW H} {p : List MemPlace} (hv : Value.okWide Tryd.prog W r b0 25 v) (h : DataW.Trod enc Tryd.prog W 0 (fun _ => true) true 25 v d p) :
    ∃ (st : Nat) (sv : Value) (l : List (Nat × List UInt8)), v = .agg #[.int .u32 st, sv] ∧ st < 4294967296 ∧ SgR W sv l ∧ ∀ p ∈ l, p.1 < 4294967296 := by
  obtain ⟨l, rfl, hl, hg⟩ := S06.open_fields Tryd.underlying25 (by kernel_rfl) (by kernel_rfl) hv h
  obtain ⟨c0, c1, rfl⟩ := two_of hl
  obtain ⟨x0, y0, n0, e0, t0⟩ := hg 0 _ rfl
  obtain ⟨x1, y1, n1, e1, t1⟩ := hg 1 _ rfl
  obtain rfl : c0 = x0 := Option.some.inj e0
  obtain rfl : c1 = x1 := Option.some.inj e1
  obtain ⟨z, ez, -, wz⟩ := DataW.trod_int Tryd.underlying22 t0
  simp at ez
  subst ez
  have hbz := bounds_u32 wz
  obtain ⟨l, h1, h2⟩ := read_sg t1
  exact ⟨z.toNat, c1, l, by rw [show (z.toNat : Int) = z by omega], by omega, h1, h2⟩
set_option maxRecDepth 100000 in
/-- Bytes that were handed in. -/
theorem arg_by {H : Type} {enc : TypeId × Value → H} {W : World} {b0 : Nat} {r : Reach} {v : Value} {d : DataW H} {p : List MemPlace} (hv : Value.okWide Tryd.prog W r b0 28 v) (h : DataW.Trod enc Tryd.prog W 0 (fun _ => true) true 28 v d p) : ∃ bs, ByR W v bs ∧ bs.length ≤ maxLen := by
  obtain ⟨a, len, cap, rfl⟩ := okWide_slice Tryd.underlying28 hv
  obtain ⟨fuel, hf⟩ := h
  obtain ⟨bs, hb⟩ := read_by hf
  refine ⟨bs, hb, ?_⟩
  rcases hb with ⟨rfl, -⟩ | ⟨-, g, o, c, -, h1, h2, -⟩
  · exact Nat.zero_le _
  · exact Nat.le_trans h1 h2
end Go.Proofs.YtcilhippjiichaaDoor
