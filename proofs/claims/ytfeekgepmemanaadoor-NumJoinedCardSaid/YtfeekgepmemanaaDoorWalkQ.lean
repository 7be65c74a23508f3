/-
  What the law's own test of a text answers at every text: may it be a word, or a part of a line?
-/
import Derived.Test.YtfeekgepmemanaaDoorWalkJ
import Derived.Test.YtfeekgepmemanaaDoorMathH
namespace Go.Proofs.YtfeekgepmemanaaDoor
open Go.RowKit
set_option maxHeartbeats 1600000 in
theorem plain_true (s : ByteArray) (w : World) (hs : s.size ≤ 1000000) :
    Calls Tryd.prog 21 #[.string s, .bool true] w fun e w' => e = .returned (.bool (NM.pl true s.data.toList)) ∧ w = w' := by
  go_enter Tryd.func21, Tryd.ntmps21
  go_wp2
  go_loop [5] (fun i => ∃ k : Nat, k ≤ s.size ∧ i = .int .i64 k ∧ Hid (NM.pl true (s.data.toList.take k) = true)) (fun i => s.size - (intOf i).toNat)
  case atStart => exact ⟨0, by omega, rfl, Lib.hid rfl⟩
  case round =>
    obtain ⟨k, hk, rfl, hal⟩ := hrel
    by_cases hlt : k < s.size
    · have HT := Lib.hid (NM.take_snoc s k hlt)
      by_cases h32 : (s[k].toNat : Int) < 32
      · have HO := Lib.hid (NM.pl_bad true s k hlt (NM.plB_lo _ _ h32))
        go_wp2
        go_ret
        exact ⟨ret_bool HO.out.symm, rfl⟩
      · have h32' : decide ((s[k].toNat : Int) < 32) = false := by simp only [decide_eq_false_iff_not]; omega
        by_cases h126 : 126 < (s[k].toNat : Int)
        · have HO := Lib.hid (NM.pl_bad true s k hlt (NM.plB_hi _ _ h126))
          go_wp2
          go_ret
          exact ⟨ret_bool HO.out.symm, rfl⟩
        · have h126' : decide (126 < (s[k].toNat : Int)) = false := by simp only [decide_eq_false_iff_not]; omega
          have HN := Lib.hid (show NM.pl true (s.data.toList.take (k + 1)) = true by rw [HT.out, NM.pl_snoc, hal.out, NM.plB_in _ h32 h126]; rfl)
          go_wp2
          go_round
          case rel => exact ⟨k + 1, by omega, by go_num, HN⟩
          case measure => simp [intOf]; omega
    · have hal' := hal.out
      rw [NM.take_all s k (by omega)] at hal'
      have HO := Lib.hid hal'
      clear hal'
      go_wp2
      go_ret
      exact ⟨ret_bool HO.out.symm, rfl⟩
set_option maxHeartbeats 1600000 in
theorem plain_false (s : ByteArray) (w : World) (hs : s.size ≤ 1000000) :
    Calls Tryd.prog 21 #[.string s, .bool false] w fun e w' => e = .returned (.bool (NM.pl false s.data.toList)) ∧ w = w' := by
  go_enter Tryd.func21, Tryd.ntmps21
  go_wp2
  go_loop [5] (fun i => ∃ k : Nat, k ≤ s.size ∧ i = .int .i64 k ∧ Hid (NM.pl false (s.data.toList.take k) = true)) (fun i => s.size - (intOf i).toNat)
  case atStart => exact ⟨0, by omega, rfl, Lib.hid rfl⟩
  case round =>
    obtain ⟨k, hk, rfl, hal⟩ := hrel
    by_cases hlt : k < s.size
    · have HT := Lib.hid (NM.take_snoc s k hlt)
      by_cases h32 : (s[k].toNat : Int) < 32
      · have HO := Lib.hid (NM.pl_bad false s k hlt (NM.plB_lo _ _ h32))
        go_wp2
        go_ret
        exact ⟨ret_bool HO.out.symm, rfl⟩
      · have h32' : decide ((s[k].toNat : Int) < 32) = false := by simp only [decide_eq_false_iff_not]; omega
        by_cases h126 : 126 < (s[k].toNat : Int)
        · have HO := Lib.hid (NM.pl_bad false s k hlt (NM.plB_hi _ _ h126))
          go_wp2
          go_ret
          exact ⟨ret_bool HO.out.symm, rfl⟩
        · have h126' : decide (126 < (s[k].toNat : Int)) = false := by simp only [decide_eq_false_iff_not]; omega
          by_cases e32 : (s[k].toNat : Int) = 32
          · have HO := Lib.hid (NM.pl_bad false s k hlt (NM.plB_32 _ e32))
            go_wp2
            go_ret
            exact ⟨ret_bool HO.out.symm, rfl⟩
          · have q32 : ((s[k].toNat : Int) == 32) = false := by simpa using e32
            by_cases e44 : (s[k].toNat : Int) = 44
            · have HO := Lib.hid (NM.pl_bad false s k hlt (NM.plB_44 _ e44))
              go_wp2
              go_ret
              exact ⟨ret_bool HO.out.symm, rfl⟩
            · have q44 : ((s[k].toNat : Int) == 44) = false := by simpa using e44
              have HN := Lib.hid (show NM.pl false (s.data.toList.take (k + 1)) = true by rw [HT.out, NM.pl_snoc, hal.out, NM.plB_word _ h32 h126 e32 e44]; rfl)
              go_wp2
              go_round
              case rel => exact ⟨k + 1, by omega, by go_num, HN⟩
              case measure => simp [intOf]; omega
    · have hal' := hal.out
      rw [NM.take_all s k (by omega)] at hal'
      have HO := Lib.hid hal'
      clear hal'
      go_wp2
      go_ret
      exact ⟨ret_bool HO.out.symm, rfl⟩
theorem plain_any (s : ByteArray) (bl : Bool) (w : World) (hs : s.size ≤ 1000000) :
    Calls Tryd.prog 21 #[.string s, .bool bl] w fun e w' => e = .returned (.bool (NM.pl bl s.data.toList)) ∧ w = w' := by
  cases bl
  · exact plain_false s w hs
  · exact plain_true s w hs
end Go.Proofs.YtfeekgepmemanaaDoor
