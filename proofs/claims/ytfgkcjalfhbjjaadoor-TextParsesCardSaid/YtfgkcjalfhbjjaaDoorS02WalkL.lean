/-
  What the reference's Dec and Hex answer at every number: its digits.
-/
import Derived.Test.YtfgkcjalfhbjjaaDoorS02WalkA
import Derived.Test.YtfgkcjalfhbjjaaDoorS02MathF
import Derived.Laws.IdiomStrings
namespace Go.Proofs.YtfgkcjalfhbjjaaDoor.S02
open Go.RowKit
theorem conv1 (w : World) (x : Int) (c : UInt8) (h : (c.toNat : Int) = x) :
    (convert 68 9 (.slice (some ⟨w.heap.size, 0, none⟩) 1 1)).run Tryd.prog (w.alloc (.cells #[.int .u8 x] 5)) = .ok (.string ⟨#[c]⟩) (w.alloc (.cells #[.int .u8 x] 5)) := by
  subst h
  exact run_convert_bytes_back (P := Tryd.prog) (w.alloc (.cells #[.int .u8 (c.toNat : Int)] 5)) 68 9 5 ⟨w.heap.size, 0, none⟩ 1 [c] Tryd.underlying68 Tryd.underlying5 Tryd.underlying9 (fun j hj => by
    match j, hj with
    | 0, _ => simp [Addr.add])
theorem ret_str {a b : ByteArray} (h : a.data.toList = b.data.toList) : Ending.returned (.string a) = .returned (.string b) := by
  have : a = b := by
    cases a; cases b
    simp only [ByteArray.mk.injEq]
    exact Array.toList_inj.mp h
  rw [this]
set_option maxHeartbeats 1600000 in
theorem rdec_any (n : Int) (w : World) (h0 : -9223372036854775808 ≤ n) (h1 : n ≤ 9223372036854775807) :
    Calls Tryd.prog 42 #[.int .i64 n] w fun e w' => e = .returned (.string ⟨(Lib.itoa n).toArray⟩) ∧ Below w.heap.size w w' := by
  by_cases hz : n = 0
  · subst hz
    go_enter Tryd.func42, Tryd.ntmps42
    go_wp2
    go_ret
    exact ⟨ret_str (by rw [NM.itoa_of 0 0 rfl, Lib.decDigits_one (by omega)]; rfl), Below.refl _ _⟩
  · have hz' : (n == 0) = false := by simpa using hz
    obtain ⟨m, hm⟩ : ∃ m : Nat, m = n.natAbs := ⟨_, rfl⟩
    by_cases hneg : n < 0
    · have hgt : decide (0 < n) = false := by simp only [decide_eq_false_iff_not]; omega
      have hmb : m < 18446744073709551616 := by omega
      have hmp : 0 < m := by omega
      have HI := Lib.hid (NM.itoa_of_neg n m (by omega) (by omega))
      have HM := Lib.hid hm
      go_enter Tryd.func42, Tryd.ntmps42
      go_wp2
      go_loopw [3, 4] (fun o x wr => ∃ (y : Int) (t : ByteArray), -9223372036854775808 ≤ y ∧ y ≤ 0 ∧ x = .int .i64 y ∧ o = .string t ∧ Hid (NM.Dst m y.natAbs t.data.toList) ∧ Hid (Below w.heap.size w wr)) (fun _ x _ => (intOf x).natAbs)
      case atStart => exact ⟨_, ⟨#[]⟩, by omega, by omega, rfl, rfl, Lib.hid (by first | (rw [← HM.out]; exact NM.Dst.start m hmp) | (rw [Int.natAbs_neg, ← HM.out]; exact NM.Dst.start m hmp)), Lib.hid (Below.refl _ _)⟩
      case round =>
        obtain ⟨y, t, hy1, hy2, rfl, rfl, hd, hb⟩ := hrel
        have hts : t.size ≤ 20 := by have := hd.out.len (by omega); rwa [NM.len_eq] at this
        by_cases hy0 : y = 0
        · subst hy0
          have HD := Lib.hid hd.out.done
          go_wp2
          go_ret
          exact ⟨ret_str (by rw [NM.data_app, HI.out, HD.out]; rfl), hb.out⟩
        · have hyn : (y == 0) = false := by simpa using hy0
          have hyn' : (y != 0) = true := by simpa using hy0
          obtain ⟨r, q, hmod, hdiv, hr0, hr1, hq0, hq1, hlt, hst⟩ := NM.neg_parts y hy1 hy2 hy0
          have HS := Lib.hid (show NM.Dst m q.natAbs (UInt8.ofNat (48 + r.toNat) :: t.data.toList) by
            have := hd.out.step (by omega)
            rw [hst.1, hst.2]; exact this)
          have hcv := conv1 wr (48 + r) (UInt8.ofNat (48 + r.toNat)) (by rw [NM.dig_toNat _ (by omega)]; omega)
          have HL := Lib.hid hlt
          clear hst hlt
          generalize UInt8.ofNat (48 + r.toNat) = c at *
          go_wp2
          go_roundw
          case rel =>
            refine ⟨q, _, hq0, hq1, rfl, rfl, ?_, Lib.hid (hb.out.alloc hb.out.size _)⟩
            rw [NM.data_app]
            exact HS
          case measure => simp [intOf]; exact HL.out
    · have hmb : m < 18446744073709551616 := by omega
      have hmp : 0 < m := by omega
      have hn0 : 0 < n := by omega
      have HI := Lib.hid (NM.itoa_of n m (by omega))
      have HM := Lib.hid hm
      have hneg' : decide (n < 0) = false := by simp only [decide_eq_false_iff_not]; omega
      go_enter Tryd.func42, Tryd.ntmps42
      go_wp2
      go_loopw [3, 4] (fun o x wr => ∃ (y : Int) (t : ByteArray), -9223372036854775808 ≤ y ∧ y ≤ 0 ∧ x = .int .i64 y ∧ o = .string t ∧ Hid (NM.Dst m y.natAbs t.data.toList) ∧ Hid (Below w.heap.size w wr)) (fun _ x _ => (intOf x).natAbs)
      case atStart => exact ⟨_, ⟨#[]⟩, by omega, by omega, rfl, rfl, Lib.hid (by first | (rw [← HM.out]; exact NM.Dst.start m hmp) | (rw [Int.natAbs_neg, ← HM.out]; exact NM.Dst.start m hmp)), Lib.hid (Below.refl _ _)⟩
      case round =>
        obtain ⟨y, t, hy1, hy2, rfl, rfl, hd, hb⟩ := hrel
        have hts : t.size ≤ 20 := by have := hd.out.len (by omega); rwa [NM.len_eq] at this
        by_cases hy0 : y = 0
        · subst hy0
          have HD := Lib.hid hd.out.done
          go_wp2
          go_ret
          exact ⟨ret_str (by rw [HI.out, HD.out]), hb.out⟩
        · have hyn : (y == 0) = false := by simpa using hy0
          have hyn' : (y != 0) = true := by simpa using hy0
          obtain ⟨r, q, hmod, hdiv, hr0, hr1, hq0, hq1, hlt, hst⟩ := NM.neg_parts y hy1 hy2 hy0
          have HS := Lib.hid (show NM.Dst m q.natAbs (UInt8.ofNat (48 + r.toNat) :: t.data.toList) by
            have := hd.out.step (by omega)
            rw [hst.1, hst.2]; exact this)
          have hcv := conv1 wr (48 + r) (UInt8.ofNat (48 + r.toNat)) (by rw [NM.dig_toNat _ (by omega)]; omega)
          have HL := Lib.hid hlt
          clear hst hlt
          generalize UInt8.ofNat (48 + r.toNat) = c at *
          go_wp2
          go_roundw
          case rel =>
            refine ⟨q, _, hq0, hq1, rfl, rfl, ?_, Lib.hid (hb.out.alloc hb.out.size _)⟩
            rw [NM.data_app]
            exact HS
          case measure => simp [intOf]; exact HL.out
end Go.Proofs.YtfgkcjalfhbjjaaDoor.S02
