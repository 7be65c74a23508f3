/-
  What the reference's Write makes: the same memory. For every slice of bytes of a bounded length.
-/
import Derived.Test.YtbeenmglgdhbjaaS10WalkD
namespace Go.Proofs.Ytbeenmglgdhbjaa.S10
open Go.RowKit Go.Maps S01
theorem wr_zero (bs : List UInt8) (z u : Nat) : splice bs z (MM.vB u 0) = bs := by
  unfold splice
  show bs.take z ++ ([] ++ bs.drop (z + 0)) = bs
  rw [Nat.add_zero, List.nil_append, List.take_append_drop]
theorem wr_step {bs : List UInt8} {z k : Nat} (u : Nat) (h : z + k < bs.length) : (byC (splice bs z (MM.vB u k))).set (z + k) (.int .u8 (((u / 2 ^ (8 * k) : Nat) : Int) % 256)) = byC (splice bs z (MM.vB u (k + 1))) := by
  have e : Value.int .u8 (((u / 2 ^ (8 * k) : Nat) : Int) % 256) = (fun b : UInt8 => Value.int .u8 b.toNat) (UInt8.ofNat (u / 2 ^ (8 * k))) := by
    show _ = Value.int .u8 ((UInt8.ofNat (u / 2 ^ (8 * k))).toNat : Int)
    rw [UInt8.toNat_ofNat']
    congr 1
  rw [e, byC, ← List.map_set]
  show _ = List.map _ _
  congr 1
  unfold splice
  rw [MM.vB_len, MM.vB_len, MM.vB_succ, List.set_append_right _ _ (by rw [List.length_take]; omega), List.length_take, Nat.min_eq_left (by omega), show z + k - z = k by omega, List.set_append_right _ _ (by rw [MM.vB_len]; omega), MM.vB_len, Nat.sub_self, List.drop_eq_getElem_cons h, List.set_cons_zero, List.append_assoc, Nat.add_assoc]
  rfl
end Go.Proofs.Ytbeenmglgdhbjaa.S10
