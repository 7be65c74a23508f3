/-
  What strconv.FormatUint answers at base 16: the number's digits of base 16. The table of math/bits is as its text lays it.
-/
import Derived.Test.YtfeekgepmemanaaDoorWalkL
namespace Go.Proofs.YtfeekgepmemanaaDoor
open Go.RowKit
set_option maxHeartbeats 1600000 in
theorem tz64_16 (w : World) (hc : w.cell? ⟨3, 15, none⟩ = some (.int .u8 4)) : Calls Tryd.prog 72 #[.int .u64 16] w fun e w' => e = .returned (.int .i64 4) ∧ w = w' := by
  have e1 : IntKind.u64.wrap (-16) = 18446744073709551600 := by decide +kernel
  have e2 : bits .and .u64 16 18446744073709551600 = 16 := by decide +kernel
  have e3 : IntKind.u64.wrap (16 * 285870213051353865) = 4573923408821661840 := by decide +kernel
  go_enter Tryd.func72, Tryd.ntmps72
  go_wp2
  go_ret
  exact ⟨rfl, rfl⟩
theorem tz_16 (w : World) (hc : w.cell? ⟨3, 15, none⟩ = some (.int .u8 4)) : Calls Tryd.prog 64 #[.int .u64 16] w fun e w' => e = .returned (.int .i64 4) ∧ w = w' := by
  go_enter Tryd.func64, Tryd.ntmps64
  go_wp2_with (go_at_call 72; refine (tz64_16 _ hc).mono ?_; rintro e w' ⟨rfl, rfl⟩)
  go_ret
  exact ⟨rfl, rfl⟩
/-- The array's cells: noughts, then the digits that are written. -/
def zs (i : Nat) (acc : List UInt8) : Array Value := (List.replicate i (Value.int .u8 0) ++ acc.map fun (b : UInt8) => Value.int .u8 (b.toNat : Int)).toArray
def Arr (w wr : World) (i : Nat) (acc : List UInt8) : Prop := wr = w.alloc (.cells (zs i acc) 90)
theorem zs_size (i : Nat) (acc : List UInt8) : (zs i acc).size = i + acc.length := by simp [zs]
theorem zs_at (k : Nat) (acc : List UInt8) : (zs (k + 1) acc)[k]? = some (Value.int .u8 0) := by
  unfold zs
  rw [List.getElem?_toArray, List.getElem?_append_left (by simp)]
  simp
theorem zs_set (k : Nat) (acc : List UInt8) (c : UInt8) : (zs (k + 1) acc).setIfInBounds k (Value.int .u8 (c.toNat : Int)) = zs k (c :: acc) := by
  unfold zs
  apply Array.toList_inj.mp
  simp [List.replicate_succ']
theorem zs_tail (k : Nat) (acc : List UInt8) (j : Nat) (h : j < acc.length) : (zs k acc)[k + j]? = some (Value.int .u8 (acc[j].toNat : Int)) := by
  unfold zs
  rw [List.getElem?_toArray, List.getElem?_append_right (by simp)]
  simp [h]
theorem Arr.cell {w wr : World} {k : Nat} {acc : List UInt8} (h : Arr w wr (k + 1) acc) : wr.cell? ⟨w.heap.size, k, none⟩ = some (.int .u8 0) ∧ wr.frozen? ⟨w.heap.size, k, none⟩ = false := by
  subst h
  exact ⟨by rw [World.cell?_alloc_new]; exact zs_at k acc, World.frozen?_alloc_new _ _ _ _⟩
theorem Arr.put {w wr : World} {k : Nat} {acc : List UInt8} (h : Arr w wr (k + 1) acc) (c : UInt8) : Arr w (wr.setCell ⟨w.heap.size, k, none⟩ (.int .u8 (c.toNat : Int))) k (c :: acc) := by
  subst h
  unfold Arr
  rw [World.setCell_alloc_at _ _ _ _ _ rfl, zs_set]
theorem Arr.below {w wr : World} {k : Nat} {acc : List UInt8} (h : Arr w wr k acc) : Below w.heap.size w wr := by
  subst h
  exact (Below.refl _ _).alloc (Nat.le_refl _) _
theorem Arr.tail {w wr : World} {k : Nat} {acc : List UInt8} (h : Arr w wr k acc) (j : Nat) (hj : j < acc.length) : wr.cell? ((⟨w.heap.size, k, none⟩ : Addr).add j) = some (.int .u8 (acc[j].toNat : Int)) := by
  subst h
  rw [Lib.add_plain, World.cell?_alloc_new]
  exact zs_tail k acc j hj
theorem lit_fin : ∀ d : Fin 16, (({ data := #[48, 49, 50, 51, 52, 53, 54, 55, 56, 57, 97, 98, 99, 100, 101, 102, 103, 104, 105, 106, 107, 108, 109, 110, 111, 112, 113, 114, 115, 116, 117, 118, 119, 120, 121, 122] } : ByteArray)[d.val]'(by show d.val < 36; omega)).toNat = (NM.hx d.val).toNat := by decide
theorem lit_at (d : Nat) (h : d < 16) : (({ data := #[48, 49, 50, 51, 52, 53, 54, 55, 56, 57, 97, 98, 99, 100, 101, 102, 103, 104, 105, 106, 107, 108, 109, 110, 111, 112, 113, 114, 115, 116, 117, 118, 119, 120, 121, 122] } : ByteArray)[d]'(by show d < 36; omega)).toNat = (NM.hx d).toNat := lit_fin ⟨d, h⟩
theorem slice65 (W : World) (g k : Nat) (h : k < 65) : (Instr.sliceAt 90 (.pointer (some ⟨g, 0, none⟩)) (some (.int .i64 k)) none none).run Tryd.prog W = .ok (.slice (some ⟨g, k, none⟩) (65 - k) (65 - k)) W := by
  have hal : Tryd.prog.arrayLen 90 = 65 := by simp [Program.arrayLen, Tryd.underlying90]
  rw [run_sliceAt_array_l W 90 ⟨g, 0, none⟩ (by simp [Program.arrayLen, Program.elem, Tryd.underlying90]) .i64 (k : Int) (by omega) (by rw [hal]; omega), hal]
  go_simp
  omega
set_option maxHeartbeats 1600000 in
set_option maxRecDepth 100000 in
theorem fbits_16 (u : Nat) (w : World) (hu : u < 18446744073709551616) (hc : Hid (∀ o, (w.alloc o).cell? ⟨3, 15, none⟩ = some (.int .u8 4))) :
    Calls Tryd.prog 52 #[.slice none 0 0, .int .u64 u, .int .i64 16, .bool false, .bool false] w fun e w' => e = .returned (.tuple #[.slice none 0 0, .string ⟨(NM.hd u).toArray⟩]) ∧ Below w.heap.size w w' := by
  have hul := Lib.hid (NM.hd_fill 16 u (by simpa using hu) (by omega)).1
  go_enter Tryd.func52, Tryd.ntmps52
  go_wp2_with (first
    | (go_at_call 63; refine (pow2_16 _).mono ?_; rintro e w' ⟨rfl, rfl⟩)
    | (go_at_call 64; refine (tz_16 _ (hc.out _)).mono ?_; rintro e w' ⟨rfl, rfl⟩))
  go_loopw [1, 13] (fun x i wr => ∃ (k v : Nat) (acc : List UInt8), k + 1 + acc.length = 65 ∧ v < 18446744073709551616 ∧ x = .int .u64 v ∧ i = .int .i64 (k + 1 : Nat) ∧ Hid (NM.Hst u v acc ∧ Arr w wr (k + 1) acc)) (fun x _ _ => (intOf x).toNat)
  case atStart => exact ⟨64, u, [], rfl, hu, rfl, rfl, Lib.hid ⟨by unfold NM.Hst; simp, rfl⟩⟩
  case round =>
    obtain ⟨k, v, acc, hk, hv, rfl, rfl, hst⟩ := hrel
    have hal : acc.length ≤ 15 := by
      have h1 := congrArg List.length hst.out.1
      rw [List.length_append] at h1
      have h2 := NM.hd_len_pos v
      have h3 := hul.out
      omega
    have hce := hst.out.2.cell.1
    have hfr := hst.out.2.cell.2
    by_cases h16 : 16 ≤ v
    · obtain ⟨k, rfl⟩ : ∃ j, k = j + 1 := ⟨k - 1, by omega⟩
      have hand := NM.and15 v hv
      have hdm : v % 16 < 16 := Nat.mod_lt _ (by omega)
      have hlit := lit_at _ hdm
      have HS := Lib.hid (And.intro (hst.out.1.step h16) (hst.out.2.put (NM.hx (v % 16))))
      generalize v % 16 = d at *
      go_wp2
      go_roundw
      case rel => exact ⟨k, v / 16, _, by rw [List.length_cons]; omega, by omega, by go_num, by go_num, HS⟩
      case measure => simp [intOf]; omega
    · have hlit := lit_at v (by omega)
      have HS := Lib.hid (And.intro (hst.out.1.done (by omega)) (hst.out.2.put (NM.hx v)))
      have hv16 : decide (16 ≤ (v : Int)) = false := by simp only [decide_eq_false_iff_not]; omega
      have hv36 : (v : Int) < 36 := by omega
      have hcv : (convert 43 9 (.slice (some ⟨w.heap.size, k, none⟩) (65 - k) (65 - k))).run Tryd.prog (wr.setCell ⟨w.heap.size, k, none⟩ (.int .u8 ((NM.hx v).toNat : Int))) = .ok (.string ⟨(NM.hd u).toArray⟩) (wr.setCell ⟨w.heap.size, k, none⟩ (.int .u8 ((NM.hx v).toNat : Int))) := by
        have h := run_convert_bytes_back (P := Tryd.prog) (wr.setCell ⟨w.heap.size, k, none⟩ (.int .u8 ((NM.hx v).toNat : Int))) 43 9 5 ⟨w.heap.size, k, none⟩ (65 - k) (NM.hx v :: acc) Tryd.underlying43 Tryd.underlying5 Tryd.underlying9 (fun j hj => HS.out.2.tail j hj)
        rw [List.length_cons, show acc.length + 1 = 65 - k by omega, HS.out.1] at h
        exact h
      have hsl := fun W => slice65 W w.heap.size k (by omega)
      go_wp2
      go_ret2
      exact ⟨rfl, HS.out.2.below⟩
end Go.Proofs.YtfeekgepmemanaaDoor
