/-
  What the package's reading of digits answers, at every text and base from 2 to 16: the digits' number modulo 2^64, and whether all are digits of the base. No condition on the text.
-/
import Derived.Test.YtfgkcjalfhbjjaaDoorS02WalkA
import Derived.Test.YtfgkcjalfhbjjaaDoorS02MathB
import Derived.Lib.OthersKept
import Derived.Laws.RangeAny
namespace Go.Proofs.YtfgkcjalfhbjjaaDoor.S02
open Go.RowKit
theorem ret_pair {k : IntKind} {a b : Int} {c d : Bool} (h : a = b) (h' : c = d) : Ending.returned (.tuple #[.int k a, .bool c]) = .returned (.tuple #[.int k b, .bool d]) := by rw [h, h']
/-- What is kept of the text's iterator. -/
def It (w wr : World) (s : ByteArray) (pos : Nat) : Prop := wr.heap[w.heap.size]? = some (.stringIter s pos) ∧ Below w.heap.size w wr
theorem It.start (w : World) (s : ByteArray) : It w (w.iter s 0) s 0 := ⟨World.iter_heap w s 0, (Below.refl _ w).alloc (Nat.le_refl _) _⟩
theorem It.on {w wr : World} {s : ByteArray} {pos : Nat} (h : It w wr s pos) (n : Nat) : It w (wr.iterAt w.heap.size s n) s n :=
  ⟨Lib.iterAt_heap wr w.heap.size s pos n h.1, Lib.below_iterAt h.2 (Nat.le_refl _) s n⟩
set_option maxHeartbeats 1600000 in
theorem value_any (s : ByteArray) (b : Nat) (w : World) (hb : 2 ≤ b) (hb16 : b ≤ 16) (hs : s.size ≤ 9223372036854775807) :
    Calls Tryd.prog 58 #[.string s, .int .u64 b] w fun e w' => e = .returned (.tuple #[.int .u64 (NM.vN b s.data.toList), .bool (NM.vB b s.data.toList)]) ∧ Below w.heap.size w w' := by
  go_enter Tryd.func58, Tryd.ntmps58
  go_wp2
  go_loopw [6] (fun n wr => ∃ pos v : Nat, pos ≤ s.size ∧ Hid (NM.al b (s.data.toList.take pos) = true) ∧ Hid (v = NM.val b (s.data.toList.take pos)) ∧ n = .int .u64 (v % 18446744073709551616 : Nat) ∧ Hid (It w wr s pos)) (fun _ wr => s.size - wr.iterPos w.heap.size)
  case atStart =>
    exact ⟨0, 0, by omega, rfl, rfl, rfl, It.start w s⟩
  case round =>
    obtain ⟨pos, v, hp, hal, hv, rfl, hit⟩ := hrel
    by_cases hlt : pos < s.size
    · have hnx : ∀ ty, (Instr.next (.pointer (some ⟨w.heap.size, 0, none⟩)) true ty).run Tryd.prog wr = _ := fun ty => Lib.run_next_any_at wr w.heap.size s pos ty hit.out.1 hlt
      obtain ⟨hd, hw1⟩ := NM.dec_dv s pos hlt
      have hr := decode_le s pos
      have hdl := NM.dv_le s[pos]
      have HD := Lib.hid hd
      have HW := Lib.hid hw1
      clear hd hw1
      by_cases hok : NM.dv s[pos] < b
      · have hok' : decide (b ≤ NM.dv s[pos]) = false := by simp; omega
        go_wp2_with (go_at_call 66; refine (digit_any _ _ (by omega) (by omega)).mono ?_; rw [HD.out]; rintro e w' ⟨rfl, rfl⟩)
        go_roundw
        case rel =>
          have e1 := HW.out (by omega)
          refine ⟨pos + 1, v * b + NM.dv s[pos], by omega, ?_, ?_, ?_, ?_⟩
          · exact Lib.hid (by rw [NM.take_snoc s pos hlt, NM.al_snoc, hal.out]; simpa using hok)
          · exact Lib.hid (by rw [NM.take_snoc s pos hlt, NM.val_snoc, hv.out])
          · rw [NM.step_mod2]
          · rw [e1]; exact Lib.hid (hit.out.on (pos + 1))
        case measure =>
          have e1 := HW.out (by omega)
          rw [e1]
          simp only [World.iterPos, (hit.out.on (pos + 1)).1, hit.out.1]
          omega
      · have hok' : decide (b ≤ NM.dv s[pos]) = true := by simp; omega
        have hbad := NM.al_bad b s pos hlt (by omega)
        have HB := Lib.hid hbad
        clear hbad
        go_wp2_with (go_at_call 66; refine (digit_any _ _ (by omega) (by omega)).mono ?_; rw [HD.out]; rintro e w' ⟨rfl, rfl⟩)
        go_ret2
        refine ⟨ret_pair (by rw [NM.vN_no _ _ HB.out]; rfl) (NM.vB_no _ _ HB.out).symm, (hit.out.on _).2⟩
    · have hnx : ∀ ty, (Instr.next (.pointer (some ⟨w.heap.size, 0, none⟩)) true ty).run Tryd.prog wr = _ := fun ty => Lib.run_next_end_at wr w.heap.size s pos ty hit.out.1 hlt
      have hall := hal.out
      have hv' := hv.out
      rw [NM.take_all s pos (by omega)] at hall hv'
      have HA := Lib.hid hall
      have HV := Lib.hid hv'
      clear hall hv'
      go_wp2
      go_ret2
      refine ⟨ret_pair (by rw [NM.vN_yes _ _ HA.out, HV.out]) ?_, hit.out.2⟩
      rw [ByteArray.toList_eq]
      unfold NM.vB
      rw [HA.out]
      rfl
end Go.Proofs.YtfgkcjalfhbjjaaDoor.S02
