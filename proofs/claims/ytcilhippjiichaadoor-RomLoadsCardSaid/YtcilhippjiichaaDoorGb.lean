/-
  What the small functions of the package and of the reference answer: a digit's number, whether a rune or a byte is a separator or may stand in a line. No condition.
  What the reference's Dec and Hex answer at every number: its digits.
  What strconv.FormatUint answers at base 16: the number's digits of base 16. The table of math/bits is as its text lays it.
  What the package's reading of digits answers, at every text and base from 2 to 16: the digits' number modulo 2^64, and whether all are digits of the base. No condition on the text.
  What the reference's readings of a hexadecimal and of decimal digits answer at every text.
  What the reference's test of decimal digits answers at every text.
-/
import Derived.Test.YtcilhippjiichaaDoorRows
import Derived.Test.YtcilhippjiichaaDoorGa
import Derived.WalkKit
import Derived.WalkSpells
import Derived.WalkLawsBesides
import Derived.BigQuiet
import Derived.Lib.Hide
import Derived.Laws.IdiomStrings
import Derived.Lib.OthersKept
import Derived.Laws.RangeAny

/-! S02WalkA -/
namespace Go.Proofs.YtcilhippjiichaaDoor.S02
open Go.RowKit
theorem ret_int {k : IntKind} {a b : Int} (h : a = b) : Ending.returned (.int k a) = .returned (.int k b) := by rw [h]
theorem ret_bool {a b : Bool} (h : a = b) : Ending.returned (.bool a) = .returned (.bool b) := by rw [h]
theorem digit_any (r : Int) (w : World) (h0 : -2147483648 ≤ r) (h1 : r ≤ 2147483647) :
    Calls Tryd.prog 97 #[.int .i32 r] w fun e w' => e = .returned (.int .u64 (NM.rd r)) ∧ w = w' := by
  by_cases a : 48 ≤ r ∧ r ≤ 57
  · obtain ⟨a1, a2⟩ := a
    go_enter Tryd.func97, Tryd.ntmps97
    go_wp2
    go_ret
    exact ⟨ret_int (by unfold NM.rd; rw [if_pos ⟨a1, a2⟩]), rfl⟩
  · by_cases b : 97 ≤ r ∧ r ≤ 102
    · obtain ⟨b1, b2⟩ := b
      go_enter Tryd.func97, Tryd.ntmps97
      go_wp2
      go_ret
      exact ⟨ret_int (by unfold NM.rd; rw [if_neg a, if_pos ⟨b1, b2⟩]; omega), rfl⟩
    · go_enter Tryd.func97, Tryd.ntmps97
      go_wp2
      all_goals
        go_ret
        first
          | exact ⟨ret_int (by unfold NM.rd; rw [if_neg a, if_neg b]), rfl⟩
          | (exfalso; omega)
theorem printable_any (r : Int) (w : World) :
    Calls Tryd.prog 45 #[.int .i32 r] w fun e w' => e = .returned (.bool (NM.prR r)) ∧ w = w' := by
  go_enter Tryd.func45, Tryd.ntmps45
  go_wp2
  all_goals
    go_ret
    refine ⟨ret_bool ?_, rfl⟩
    rw [Bool.eq_iff_iff]
    simp [NM.prR, *]
    try omega
theorem rvalue_any (c : UInt8) (w : World) :
    Calls Tryd.prog 59 #[.int .u8 c.toNat] w fun e w' => e = .returned (.int .i64 (NM.rvl c)) ∧ w = w' := by
  have hc : c.toNat < 256 := c.toNat_lt
  by_cases a : 48 ≤ (c.toNat : Int) ∧ (c.toNat : Int) ≤ 57
  · obtain ⟨a1, a2⟩ := a
    go_enter Tryd.func59, Tryd.ntmps59
    go_wp2
    go_ret
    exact ⟨ret_int (NM.rvl_a c ⟨a1, a2⟩).symm, rfl⟩
  · by_cases b : 97 ≤ (c.toNat : Int) ∧ (c.toNat : Int) ≤ 102
    · obtain ⟨b1, b2⟩ := b
      have a3 : 57 < (c.toNat : Int) := by omega
      go_enter Tryd.func59, Tryd.ntmps59
      go_wp2
      go_ret
      exact ⟨ret_int (NM.rvl_b c ⟨b1, b2⟩).symm, rfl⟩
    · go_enter Tryd.func59, Tryd.ntmps59
      go_wp2
      all_goals
        go_ret
        first
          | exact ⟨ret_int (NM.rvl_c c a b).symm, rfl⟩
          | (exfalso; omega)
theorem rdigit_any (d : Int) (w : World) (h0 : 0 ≤ d) (h1 : d < 16) :
    Calls Tryd.prog 43 #[.int .u32 d] w fun e w' => e = .returned (.int .u8 (NM.hx d.toNat).toNat) ∧ w = w' := by
  by_cases a : d < 10
  · go_enter Tryd.func43, Tryd.ntmps43
    go_wp2
    go_ret
    exact ⟨ret_int (by rw [NM.hx_lo _ (by omega)]; omega), rfl⟩
  · go_enter Tryd.func43, Tryd.ntmps43
    go_wp2
    go_ret
    exact ⟨ret_int (by rw [NM.hx_hi _ (by omega) (by omega)]; omega), rfl⟩
theorem pow2_16 (w : World) : Calls Tryd.prog 87 #[.int .i64 16] w fun e w' => e = .returned (.bool true) ∧ w = w' := by
  go_enter Tryd.func87, Tryd.ntmps87
  go_wp2
  go_ret
  exact ⟨rfl, rfl⟩
end Go.Proofs.YtcilhippjiichaaDoor.S02
/-! S02WalkL -/
namespace Go.Proofs.YtcilhippjiichaaDoor.S02
open Go.RowKit
theorem conv1 (w : World) (x : Int) (c : UInt8) (h : (c.toNat : Int) = x) :
    (convert 28 9 (.slice (some ⟨w.heap.size, 0, none⟩) 1 1)).run Tryd.prog (w.alloc (.cells #[.int .u8 x] 5)) = .ok (.string ⟨#[c]⟩) (w.alloc (.cells #[.int .u8 x] 5)) := by
  subst h
  exact run_convert_bytes_back (P := Tryd.prog) (w.alloc (.cells #[.int .u8 (c.toNat : Int)] 5)) 28 9 5 ⟨w.heap.size, 0, none⟩ 1 [c] Tryd.underlying28 Tryd.underlying5 Tryd.underlying9 (fun j hj => by
    match j, hj with
    | 0, _ => simp [Addr.add])
theorem ret_str {a b : ByteArray} (h : a.data.toList = b.data.toList) : Ending.returned (.string a) = .returned (.string b) := by
  have : a = b := by
    cases a; cases b
    simp only [ByteArray.mk.injEq]
    exact Array.toList_inj.mp h
  rw [this]
set_option maxHeartbeats 1600000 in
theorem rhexs_any (u : Nat) (w : World) (h1 : u < 4294967296) :
    Calls Tryd.prog 29 #[.int .u32 u] w fun e w' => e = .returned (.string ⟨(NM.hxs u 8).toArray⟩) ∧ Below w.heap.size w w' := by
  go_enter Tryd.func29, Tryd.ntmps29
  go_wp2
  go_loopw [3, 4, 5] (fun o x i wr => ∃ (k y : Nat) (t : ByteArray), k ≤ 8 ∧ y < 4294967296 ∧ i = .int .i64 k ∧ x = .int .u32 y ∧ o = .string t ∧ Hid (y = u / 16 ^ k ∧ t.data.toList = NM.hxs u k) ∧ Hid (Below w.heap.size w wr)) (fun _ _ i _ => 8 - (intOf i).toNat)
  case atStart => exact ⟨0, u, ⟨#[]⟩, by omega, by omega, rfl, rfl, rfl, Lib.hid ⟨by simp, rfl⟩, Lib.hid (Below.refl _ _)⟩
  case round =>
    obtain ⟨k, y, t, hk, hy, rfl, rfl, rfl, hd, hb⟩ := hrel
    have hts : t.size ≤ 8 := by have := hd.out.2; have := congrArg List.length this; rw [NM.len_eq, NM.hxs_len] at this; omega
    by_cases hlt : k < 8
    · have hlt' : (k : Int) < 8 := by omega
      obtain ⟨d, hdd⟩ : ∃ d : Nat, d = y % 16 := ⟨_, rfl⟩
      have hd16 : d < 16 := by omega
      have hmod : (y : Int) % 16 = d := by omega
      obtain ⟨q, hqq⟩ : ∃ q : Nat, q = y / 16 := ⟨_, rfl⟩
      have hdiv : (y : Int) / 16 = q := by omega
      have hq : q < 4294967296 := by omega
      have HS := Lib.hid (show q = u / 16 ^ (k + 1) ∧ NM.hx d :: t.data.toList = NM.hxs u (k + 1) by
        refine ⟨by rw [hqq, hd.out.1, Nat.pow_succ, Nat.div_div_eq_div_mul], ?_⟩
        rw [NM.hxs, hd.out.2, hdd, hd.out.1])
      have hcv := conv1 wr ((NM.hx d).toNat : Int) (NM.hx d) rfl
      clear hdd hqq
      go_wp2_with (go_at_call 43; refine (rdigit_any d _ (by omega) (by omega)).mono ?_; rw [Int.toNat_natCast]; rintro e w' ⟨rfl, rfl⟩)
      go_roundw
      case rel =>
        refine ⟨k + 1, q, _, by omega, hq, by go_num, rfl, rfl, ?_, Lib.hid (hb.out.alloc hb.out.size _)⟩
        rw [NM.data_app]
        exact HS
      case measure => simp [intOf]; omega
    · obtain rfl : k = 8 := by omega
      go_wp2
      go_ret
      exact ⟨ret_str hd.out.2, hb.out⟩
end Go.Proofs.YtcilhippjiichaaDoor.S02
/-! S02WalkM -/
namespace Go.Proofs.YtcilhippjiichaaDoor.S02
open Go.RowKit
set_option maxHeartbeats 1600000 in
theorem tz64_16 (w : World) (hc : w.cell? ⟨3, 15, none⟩ = some (.int .u8 4)) : Calls Tryd.prog 95 #[.int .u64 16] w fun e w' => e = .returned (.int .i64 4) ∧ w = w' := by
  have e1 : IntKind.u64.wrap (-16) = 18446744073709551600 := by decide +kernel
  have e2 : bits .and .u64 16 18446744073709551600 = 16 := by decide +kernel
  have e3 : IntKind.u64.wrap (16 * 285870213051353865) = 4573923408821661840 := by decide +kernel
  go_enter Tryd.func95, Tryd.ntmps95
  go_wp2
  go_ret
  exact ⟨rfl, rfl⟩
theorem tz_16 (w : World) (hc : w.cell? ⟨3, 15, none⟩ = some (.int .u8 4)) : Calls Tryd.prog 88 #[.int .u64 16] w fun e w' => e = .returned (.int .i64 4) ∧ w = w' := by
  go_enter Tryd.func88, Tryd.ntmps88
  go_wp2_with (go_at_call 95; refine (tz64_16 _ hc).mono ?_; rintro e w' ⟨rfl, rfl⟩)
  go_ret
  exact ⟨rfl, rfl⟩
/-- The array's cells: noughts, then the digits that are written. -/
def zs (i : Nat) (acc : List UInt8) : Array Value := (List.replicate i (Value.int .u8 0) ++ acc.map fun (b : UInt8) => Value.int .u8 (b.toNat : Int)).toArray
def Arr (w wr : World) (i : Nat) (acc : List UInt8) : Prop := wr = w.alloc (.cells (zs i acc) 132)
theorem zs_size (i : Nat) (acc : List UInt8) : (zs i acc).size = i + acc.length := by simp [zs]
theorem zs_at (k : Nat) (acc : List UInt8) : (zs (k + 1) acc)[k]? = some (Value.int .u8 0) := by
  unfold zs
  rw [List.getElem?_toArray, List.getElem?_append_left (by simp)]
  simp
theorem zs_set (k : Nat) (acc : List UInt8) (c : UInt8) : (zs (k + 1) acc).setIfInBounds k (Value.int .u8 (c.toNat : Int)) = zs k (c :: acc) := by
  unfold zs
  apply Array.toList_inj.mp
  simp [List.replicate_succ']
theorem zs_tail (k : Nat) (acc : List UInt8) (j : Nat) (h : j < acc.length) : (zs k acc)[k + j]? = some (Value.int .u8 (acc[j].toNat : Int)) := by
  unfold zs
  rw [List.getElem?_toArray, List.getElem?_append_right (by simp)]
  simp [h]
theorem Arr.cell {w wr : World} {k : Nat} {acc : List UInt8} (h : Arr w wr (k + 1) acc) : wr.cell? ⟨w.heap.size, k, none⟩ = some (.int .u8 0) ∧ wr.frozen? ⟨w.heap.size, k, none⟩ = false := by
  subst h
  exact ⟨by rw [World.cell?_alloc_new]; exact zs_at k acc, World.frozen?_alloc_new _ _ _ _⟩
theorem Arr.put {w wr : World} {k : Nat} {acc : List UInt8} (h : Arr w wr (k + 1) acc) (c : UInt8) : Arr w (wr.setCell ⟨w.heap.size, k, none⟩ (.int .u8 (c.toNat : Int))) k (c :: acc) := by
  subst h
  unfold Arr
  rw [World.setCell_alloc_at _ _ _ _ _ rfl, zs_set]
theorem Arr.below {w wr : World} {k : Nat} {acc : List UInt8} (h : Arr w wr k acc) : Below w.heap.size w wr := by
  subst h
  exact (Below.refl _ _).alloc (Nat.le_refl _) _
theorem Arr.tail {w wr : World} {k : Nat} {acc : List UInt8} (h : Arr w wr k acc) (j : Nat) (hj : j < acc.length) : wr.cell? ((⟨w.heap.size, k, none⟩ : Addr).add j) = some (.int .u8 (acc[j].toNat : Int)) := by
  subst h
  rw [Lib.add_plain, World.cell?_alloc_new]
  exact zs_tail k acc j hj
theorem lit_fin : ∀ d : Fin 16, (({ data := #[48, 49, 50, 51, 52, 53, 54, 55, 56, 57, 97, 98, 99, 100, 101, 102, 103, 104, 105, 106, 107, 108, 109, 110, 111, 112, 113, 114, 115, 116, 117, 118, 119, 120, 121, 122] } : ByteArray)[d.val]'(by show d.val < 36; omega)).toNat = (NM.hx d.val).toNat := by decide
theorem lit_at (d : Nat) (h : d < 16) : (({ data := #[48, 49, 50, 51, 52, 53, 54, 55, 56, 57, 97, 98, 99, 100, 101, 102, 103, 104, 105, 106, 107, 108, 109, 110, 111, 112, 113, 114, 115, 116, 117, 118, 119, 120, 121, 122] } : ByteArray)[d]'(by show d < 36; omega)).toNat = (NM.hx d).toNat := lit_fin ⟨d, h⟩
theorem slice65 (W : World) (g k : Nat) (h : k < 65) : (Instr.sliceAt 132 (.pointer (some ⟨g, 0, none⟩)) (some (.int .i64 k)) none none).run Tryd.prog W = .ok (.slice (some ⟨g, k, none⟩) (65 - k) (65 - k)) W := by
  have hal : Tryd.prog.arrayLen 132 = 65 := by simp [Program.arrayLen, Tryd.underlying132]
  rw [run_sliceAt_array_l W 132 ⟨g, 0, none⟩ (by simp [Program.arrayLen, Program.elem, Tryd.underlying132]) .i64 (k : Int) (by omega) (by rw [hal]; omega), hal]
  go_simp
  omega
set_option maxHeartbeats 1600000 in
set_option maxRecDepth 100000 in
theorem fbits_16 (u : Nat) (w : World) (hu : u < 18446744073709551616) (hc : Hid (∀ o, (w.alloc o).cell? ⟨3, 15, none⟩ = some (.int .u8 4))) :
    Calls Tryd.prog 71 #[.slice none 0 0, .int .u64 u, .int .i64 16, .bool false, .bool false] w fun e w' => e = .returned (.tuple #[.slice none 0 0, .string ⟨(NM.hd u).toArray⟩]) ∧ Below w.heap.size w w' := by
  have hul := Lib.hid (NM.hd_fill 16 u (by simpa using hu) (by omega)).1
  go_enter Tryd.func71, Tryd.ntmps71
  go_wp2_with (first
    | (go_at_call 87; refine (pow2_16 _).mono ?_; rintro e w' ⟨rfl, rfl⟩)
    | (go_at_call 88; refine (tz_16 _ (hc.out _)).mono ?_; rintro e w' ⟨rfl, rfl⟩))
  go_loopw [1, 13] (fun x i wr => ∃ (k v : Nat) (acc : List UInt8), k + 1 + acc.length = 65 ∧ v < 18446744073709551616 ∧ x = .int .u64 v ∧ i = .int .i64 (k + 1 : Nat) ∧ Hid (NM.Hst u v acc ∧ Arr w wr (k + 1) acc)) (fun x _ _ => (intOf x).toNat)
  case atStart => exact ⟨64, u, [], rfl, hu, rfl, rfl, Lib.hid ⟨by unfold NM.Hst; simp, rfl⟩⟩
  case round =>
    obtain ⟨k, v, acc, hk, hv, rfl, rfl, hst⟩ := hrel
    have hal : acc.length ≤ 15 := by
      have h1 := congrArg List.length hst.out.1
      rw [List.length_append] at h1
      have h2 := NM.hd_len_pos v
      have h3 := hul.out
      omega
    have hce := hst.out.2.cell.1
    have hfr := hst.out.2.cell.2
    by_cases h16 : 16 ≤ v
    · obtain ⟨k, rfl⟩ : ∃ j, k = j + 1 := ⟨k - 1, by omega⟩
      have hand := NM.and15 v hv
      have hdm : v % 16 < 16 := Nat.mod_lt _ (by omega)
      have hlit := lit_at _ hdm
      have HS := Lib.hid (And.intro (hst.out.1.step h16) (hst.out.2.put (NM.hx (v % 16))))
      generalize v % 16 = d at *
      go_wp2
      go_roundw
      case rel => exact ⟨k, v / 16, _, by rw [List.length_cons]; omega, by omega, by go_num, by go_num, HS⟩
      case measure => simp [intOf]; omega
    · have hlit := lit_at v (by omega)
      have HS := Lib.hid (And.intro (hst.out.1.done (by omega)) (hst.out.2.put (NM.hx v)))
      have hv16 : decide (16 ≤ (v : Int)) = false := by simp only [decide_eq_false_iff_not]; omega
      have hv36 : (v : Int) < 36 := by omega
      have hcv : (convert 28 9 (.slice (some ⟨w.heap.size, k, none⟩) (65 - k) (65 - k))).run Tryd.prog (wr.setCell ⟨w.heap.size, k, none⟩ (.int .u8 ((NM.hx v).toNat : Int))) = .ok (.string ⟨(NM.hd u).toArray⟩) (wr.setCell ⟨w.heap.size, k, none⟩ (.int .u8 ((NM.hx v).toNat : Int))) := by
        have h := run_convert_bytes_back (P := Tryd.prog) (wr.setCell ⟨w.heap.size, k, none⟩ (.int .u8 ((NM.hx v).toNat : Int))) 28 9 5 ⟨w.heap.size, k, none⟩ (65 - k) (NM.hx v :: acc) Tryd.underlying28 Tryd.underlying5 Tryd.underlying9 (fun j hj => HS.out.2.tail j hj)
        rw [List.length_cons, show acc.length + 1 = 65 - k by omega, HS.out.1] at h
        exact h
      have hsl := fun W => slice65 W w.heap.size k (by omega)
      go_wp2
      go_ret2
      exact ⟨rfl, HS.out.2.below⟩
end Go.Proofs.YtcilhippjiichaaDoor.S02
/-! S02WalkB -/
namespace Go.Proofs.YtcilhippjiichaaDoor.S02
open Go.RowKit
theorem ret_pair {k : IntKind} {a b : Int} {c d : Bool} (h : a = b) (h' : c = d) : Ending.returned (.tuple #[.int k a, .bool c]) = .returned (.tuple #[.int k b, .bool d]) := by rw [h, h']
/-- What is kept of the text's iterator. -/
def It (w wr : World) (s : ByteArray) (pos : Nat) : Prop := wr.heap[w.heap.size]? = some (.stringIter s pos) ∧ Below w.heap.size w wr
theorem It.start (w : World) (s : ByteArray) : It w (w.iter s 0) s 0 := ⟨World.iter_heap w s 0, (Below.refl _ w).alloc (Nat.le_refl _) _⟩
theorem It.on {w wr : World} {s : ByteArray} {pos : Nat} (h : It w wr s pos) (n : Nat) : It w (wr.iterAt w.heap.size s n) s n :=
  ⟨Lib.iterAt_heap wr w.heap.size s pos n h.1, Lib.below_iterAt h.2 (Nat.le_refl _) s n⟩
set_option maxHeartbeats 1600000 in
theorem value_any (s : ByteArray) (b : Nat) (w : World) (hb : 2 ≤ b) (hb16 : b ≤ 16) (hs : s.size ≤ 9223372036854775807) :
    Calls Tryd.prog 93 #[.string s, .int .u64 b] w fun e w' => e = .returned (.tuple #[.int .u64 (NM.vN b s.data.toList), .bool (NM.vB b s.data.toList)]) ∧ Below w.heap.size w w' := by
  go_enter Tryd.func93, Tryd.ntmps93
  go_wp2
  go_loopw [6] (fun n wr => ∃ pos v : Nat, pos ≤ s.size ∧ Hid (NM.al b (s.data.toList.take pos) = true) ∧ Hid (v = NM.val b (s.data.toList.take pos)) ∧ n = .int .u64 (v % 18446744073709551616 : Nat) ∧ Hid (It w wr s pos)) (fun _ wr => s.size - wr.iterPos w.heap.size)
  case atStart =>
    exact ⟨0, 0, by omega, rfl, rfl, rfl, It.start w s⟩
  case round =>
    obtain ⟨pos, v, hp, hal, hv, rfl, hit⟩ := hrel
    by_cases hlt : pos < s.size
    · have hnx : ∀ ty, (Instr.next (.pointer (some ⟨w.heap.size, 0, none⟩)) true ty).run Tryd.prog wr = _ := fun ty => Lib.run_next_any_at wr w.heap.size s pos ty hit.out.1 hlt
      obtain ⟨hd, hw1⟩ := NM.dec_dv s pos hlt
      have hr := decode_le s pos
      have hdl := NM.dv_le s[pos]
      have HD := Lib.hid hd
      have HW := Lib.hid hw1
      clear hd hw1
      by_cases hok : NM.dv s[pos] < b
      · have hok' : decide (b ≤ NM.dv s[pos]) = false := by simp; omega
        go_wp2_with (go_at_call 97; refine (digit_any _ _ (by omega) (by omega)).mono ?_; rw [HD.out]; rintro e w' ⟨rfl, rfl⟩)
        go_roundw
        case rel =>
          have e1 := HW.out (by omega)
          refine ⟨pos + 1, v * b + NM.dv s[pos], by omega, ?_, ?_, ?_, ?_⟩
          · exact Lib.hid (by rw [NM.take_snoc s pos hlt, NM.al_snoc, hal.out]; simpa using hok)
          · exact Lib.hid (by rw [NM.take_snoc s pos hlt, NM.val_snoc, hv.out])
          · rw [NM.step_mod2]
          · rw [e1]; exact Lib.hid (hit.out.on (pos + 1))
        case measure =>
          have e1 := HW.out (by omega)
          rw [e1]
          simp only [World.iterPos, (hit.out.on (pos + 1)).1, hit.out.1]
          omega
      · have hok' : decide (b ≤ NM.dv s[pos]) = true := by simp; omega
        have hbad := NM.al_bad b s pos hlt (by omega)
        have HB := Lib.hid hbad
        clear hbad
        go_wp2_with (go_at_call 97; refine (digit_any _ _ (by omega) (by omega)).mono ?_; rw [HD.out]; rintro e w' ⟨rfl, rfl⟩)
        go_ret2
        refine ⟨ret_pair (by rw [NM.vN_no _ _ HB.out]; rfl) (NM.vB_no _ _ HB.out).symm, (hit.out.on _).2⟩
    · have hnx : ∀ ty, (Instr.next (.pointer (some ⟨w.heap.size, 0, none⟩)) true ty).run Tryd.prog wr = _ := fun ty => Lib.run_next_end_at wr w.heap.size s pos ty hit.out.1 hlt
      have hall := hal.out
      have hv' := hv.out
      rw [NM.take_all s pos (by omega)] at hall hv'
      have HA := Lib.hid hall
      have HV := Lib.hid hv'
      clear hall hv'
      go_wp2
      go_ret2
      refine ⟨ret_pair (by rw [NM.vN_yes _ _ HA.out, HV.out]) ?_, hit.out.2⟩
      rw [ByteArray.toList_eq]
      unfold NM.vB
      rw [HA.out]
      rfl
end Go.Proofs.YtcilhippjiichaaDoor.S02
/-! S02WalkI -/
namespace Go.Proofs.YtcilhippjiichaaDoor.S02
open Go.RowKit
theorem ret_ib {k : IntKind} {a b : Int} {c d : Bool} (h : a = b) (h' : c = d) : Ending.returned (.tuple #[.int k a, .bool c]) = .returned (.tuple #[.int k b, .bool d]) := by rw [h, h']
end Go.Proofs.YtcilhippjiichaaDoor.S02
/-! S02WalkJ -/
namespace Go.Proofs.YtcilhippjiichaaDoor.S02
open Go.RowKit
theorem empty_toList (s : ByteArray) (h : s.size = 0) : s.toList = [] := by
  rw [ByteArray.toList_eq]
  exact List.length_eq_zero_iff.mp (by rw [NM.len_eq]; exact h)
theorem full_toList (s : ByteArray) (h : 0 < s.size) : ¬ s.toList = [] := by
  rw [ByteArray.toList_eq]
  intro e
  have := NM.len_eq s
  rw [e] at this
  simp at this
  omega
theorem full_isEmpty (s : ByteArray) (h : 0 < s.size) : s.toList.isEmpty = false := by
  rw [List.isEmpty_eq_false_iff]
  exact full_toList s h
end Go.Proofs.YtcilhippjiichaaDoor.S02
