/-
  What the reference's test of decimal digits answers at every text.
-/
import Derived.Test.YtfeekgepmemanaaDoorWalkI
namespace Go.Proofs.YtfeekgepmemanaaDoor
open Go.RowKit
theorem empty_toList (s : ByteArray) (h : s.size = 0) : s.toList = [] := by
  rw [ByteArray.toList_eq]
  exact List.length_eq_zero_iff.mp (by rw [NM.len_eq]; exact h)
theorem full_toList (s : ByteArray) (h : 0 < s.size) : ¬ s.toList = [] := by
  rw [ByteArray.toList_eq]
  intro e
  have := NM.len_eq s
  rw [e] at this
  simp at this
  omega
theorem full_isEmpty (s : ByteArray) (h : 0 < s.size) : s.toList.isEmpty = false := by
  rw [List.isEmpty_eq_false_iff]
  exact full_toList s h
set_option maxHeartbeats 1600000 in
theorem rdecimal_any (s : ByteArray) (w : World) (hs : s.size ≤ 1000000) :
    Calls Tryd.prog 30 #[.string s] w fun e w' => e = .returned (.bool (NM.db s.data.toList)) ∧ w = w' := by
  have hlen := Lib.hid (NM.len_eq s)
  by_cases h0 : s.size = 0
  · have HO := Lib.hid (NM.db_no s.data.toList (by
      have hd : s.data.toList = [] := List.length_eq_zero_iff.mp (by rw [hlen.out]; exact h0)
      rw [hd]; rfl))
    have he := empty_toList s h0
    clear h0
    go_enter Tryd.func30, Tryd.ntmps30
    go_wp2
    go_ret
    exact ⟨ret_bool HO.out.symm, rfl⟩
  · have hp : 0 < s.size := by omega
    have he := full_toList s hp
    have he' := full_isEmpty s hp
    have HH := Lib.hid (NM.head_eq s hp)
    by_cases hz : (s[0].toNat : Int) = 48 ∧ 1 < (s.size : Int)
    · obtain ⟨hz1, hz2⟩ := hz
      have HO := Lib.hid (NM.db_zero s.data.toList (HH.out.mpr hz1) (by rw [hlen.out]; omega))
      go_enter Tryd.func30, Tryd.ntmps30
      go_wp2
      go_ret
      exact ⟨ret_bool HO.out.symm, rfl⟩
    · have hz' : (s[0].toNat : Int) = 48 ∧ decide (1 < (s.size : Int)) = false ∨ ¬ (s[0].toNat : Int) = 48 := by
        by_cases h : (s[0].toNat : Int) = 48
        · exact .inl ⟨h, by simp only [decide_eq_false_iff_not]; exact fun h1 => hz ⟨h, h1⟩⟩
        · exact .inr h
      have HZ := Lib.hid (show ¬ (s.data.toList.head? = some 48 ∧ 1 < s.data.toList.length) by rw [HH.out, hlen.out]; omega)
      clear hz
      rcases hz' with ⟨hz1, hz2⟩ | hz1
      all_goals
        go_enter Tryd.func30, Tryd.ntmps30
        go_wp2
        go_loop [3] (fun i => ∃ k : Nat, k ≤ s.size ∧ i = .int .i64 k ∧ Hid (NM.al 10 (s.data.toList.take k) = true)) (fun i => s.size - (intOf i).toNat)
        case atStart => exact ⟨0, by omega, rfl, Lib.hid rfl⟩
        case round =>
          obtain ⟨k, hk, rfl, hal⟩ := hrel
          by_cases hlt : k < s.size
          · have HD := Lib.hid (NM.dv10 s[k])
            have HT := Lib.hid (NM.take_snoc s k hlt)
            by_cases h48 : (s[k].toNat : Int) < 48
            · have HO := Lib.hid (NM.db_no s.data.toList (NM.vB_no _ _ (NM.al_bad 10 s k hlt (by have := HD.out; omega))))
              go_wp2
              go_ret
              exact ⟨ret_bool HO.out.symm, rfl⟩
            · have h48' : decide ((s[k].toNat : Int) < 48) = false := by simp only [decide_eq_false_iff_not]; omega
              by_cases h57 : 57 < (s[k].toNat : Int)
              · have HO := Lib.hid (NM.db_no s.data.toList (NM.vB_no _ _ (NM.al_bad 10 s k hlt (by have := HD.out; omega))))
                go_wp2
                go_ret
                exact ⟨ret_bool HO.out.symm, rfl⟩
              · have h57' : decide (57 < (s[k].toNat : Int)) = false := by simp only [decide_eq_false_iff_not]; omega
                have HN := Lib.hid (show NM.al 10 (s.data.toList.take (k + 1)) = true by
                  rw [HT.out, NM.al_snoc, hal.out]; simpa using HD.out.mpr ⟨by omega, by omega⟩)
                go_wp2
                go_round
                case rel => exact ⟨k + 1, by omega, by go_num, HN⟩
                case measure => simp [intOf]; omega
          · have hal' := hal.out
            rw [NM.take_all s k (by omega)] at hal'
            have HO := Lib.hid (NM.db_yes s.data.toList (NM.vB_of _ _ hal' (by intro e; have := hlen.out; rw [e] at this; simp at this; omega)) HZ.out)
            clear hal'
            go_wp2
            go_ret
            exact ⟨ret_bool HO.out.symm, rfl⟩
end Go.Proofs.YtfeekgepmemanaaDoor
