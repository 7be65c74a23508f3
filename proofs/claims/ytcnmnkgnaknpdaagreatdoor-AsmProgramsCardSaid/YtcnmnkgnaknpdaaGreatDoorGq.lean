/-
  What the reference's readings of a hexadecimal and of decimal digits answer at every text.
  What the reference's test of decimal digits answers at every text.
  What the reference's Parse answers at every text of at most 1,000,000 bytes: the same number and the same error.
  What the reference's small functions answer: letters, names, a name's value, what is ahead of a comment, numbers between bounds, the parts of a value.
  What the reference's Find answers: a name's value in a slice of names.
  How the reference's program lies in memory while it is found: a row of items, a row of names, the next address; what stays as it was.
  What the reference's labels answers: the labels that a line begins with, and the words behind them.
  What the reference's labels answers, walked.
-/
import Derived.Test.YtcnmnkgnaknpdaaGreatDoorGc
import Derived.Test.YtcnmnkgnaknpdaaGreatDoorGb
import Derived.Test.YtcnmnkgnaknpdaaGreatDoorGn
import Derived.Test.YtcnmnkgnaknpdaaGreatDoorGpf
import Derived.Test.YtcnmnkgnaknpdaaGreatDoorGm
import Derived.Deep.QuietTactic
import Derived.BigQuiet

/-! S02WalkI -/
namespace Go.Proofs.YtcnmnkgnaknpdaaGreatDoor.S02
open Go.RowKit
theorem ret_ib {k : IntKind} {a b : Int} {c d : Bool} (h : a = b) (h' : c = d) : Ending.returned (.tuple #[.int k a, .bool c]) = .returned (.tuple #[.int k b, .bool d]) := by rw [h, h']
set_option maxHeartbeats 1600000 in
theorem rhex_any (s : ByteArray) (w : World) (hs : s.size ≤ 1000000) :
    Calls Tryz.prog 166 #[.string s] w fun e w' => e = .returned (.tuple #[.int .i64 (NM.rhN s.data.toList), .bool (NM.rhB s.data.toList)]) ∧ w = w' := by
  have hdl := Lib.hid (NM.dlen s)
  by_cases h3 : (s.size : Int) < 3
  · have HO := Lib.hid (NM.rh_bad s.data.toList (by
      by_cases h2 : s.size ≤ 2
      · left
        apply Classical.byContradiction
        intro hh
        have hh : NM.vB 16 (s.data.toList.drop 2) = true := by simpa using hh
        exact (NM.vB_al hh).2 (List.length_eq_zero_iff.mp (by rw [hdl.out]; omega))
      · omega))
    go_enter Tryz.func166, Tryz.ntmps166
    go_wp2
    go_ret2
    exact ⟨ret_ib HO.out.2.symm HO.out.1.symm, rfl⟩
  · have h3' : decide ((s.size : Int) < 3) = false := by simp only [decide_eq_false_iff_not]; omega
    by_cases hx : 10 < (s.size : Int)
    · have HO := Lib.hid (NM.rh_bad s.data.toList (.inr (by rw [hdl.out]; omega)))
      go_enter Tryz.func166, Tryz.ntmps166
      go_wp2
      go_ret2
      exact ⟨ret_ib HO.out.2.symm HO.out.1.symm, rfl⟩
    · have hx' : decide (10 < (s.size : Int)) = false := by simp only [decide_eq_false_iff_not]; omega
      have hp0 : 0 < s.size := by omega
      have hp1 : 1 < s.size := by omega
      have HP := Lib.hid (NM.pre2 s hp1)
      by_cases a0 : (s[0].toNat : Int) = 48
      · by_cases a1 : (s[1].toNat : Int) = 120
        · have hpre := HP.out.mpr ⟨a0, a1⟩
          have HPR := Lib.hid hpre
          clear hpre
          go_enter Tryz.func166, Tryz.ntmps166
          go_wp2
          go_loop [4, 5] (fun n i => ∃ k : Nat, 2 ≤ k ∧ k ≤ s.size ∧ i = .int .i64 k ∧ Hid (NM.al 16 ((s.data.toList.drop 2).take (k - 2)) = true) ∧ n = .int .i64 (NM.val 16 ((s.data.toList.drop 2).take (k - 2)))) (fun _ i => s.size - (intOf i).toNat)
          case atStart => exact ⟨2, by omega, by omega, rfl, Lib.hid rfl, rfl⟩
          case round =>
            obtain ⟨k, hk2, hk, rfl, hal, rfl⟩ := hrel
            have hvl := NM.val16_lt _ hal.out (Nat.le_trans (List.length_take_le _ _) (by omega))
            by_cases hlt : k < s.size
            · have HT := Lib.hid (NM.dtake s k hk2 hlt)
              by_cases hd : NM.dv s[k] < 16
              · have HV := Lib.hid (NM.rvl_yes _ hd)
                have HN := Lib.hid (show NM.al 16 ((s.data.toList.drop 2).take (k + 1 - 2)) = true ∧ NM.val 16 ((s.data.toList.drop 2).take (k + 1 - 2)) = NM.val 16 ((s.data.toList.drop 2).take (k - 2)) * 16 + NM.dv s[k] by
                  rw [HT.out, NM.al_snoc, NM.val_snoc, hal.out]; exact ⟨by simpa using hd, rfl⟩)
                generalize NM.val 16 ((s.data.toList.drop 2).take (k - 2)) = v at *
                go_wp2_with (go_at_call 177; refine (rvalue_any _ _).mono ?_; rw [HV.out]; rintro e w' ⟨rfl, rfl⟩)
                go_round
                case rel => exact ⟨k + 1, by omega, by omega, by go_num, Lib.hid HN.out.1, by rw [HN.out.2]; go_num⟩
                case measure => simp [intOf]; omega
              · have HV := Lib.hid (NM.rvl_no _ hd)
                have HO := Lib.hid (NM.rh_bad s.data.toList (.inl (NM.al_dbad 16 s k hk2 hlt (by omega))))
                go_wp2_with (go_at_call 177; refine (rvalue_any _ _).mono ?_; rw [HV.out]; rintro e w' ⟨rfl, rfl⟩)
                go_ret2
                exact ⟨ret_ib HO.out.2.symm HO.out.1.symm, rfl⟩
            · obtain rfl : k = s.size := by omega
              have hal' := hal.out
              rw [NM.dtake_all s (by omega)] at hal'
              have HO := Lib.hid (NM.rh_ok s.data.toList HPR.out (NM.vB_of _ _ hal' (by intro e; have := congrArg List.length e; rw [hdl.out] at this; simp at this; omega)) (by rw [hdl.out]; omega))
              clear hal'
              go_wp2
              go_ret2
              exact ⟨ret_ib (by rw [HO.out.2, NM.dtake_all s (by omega)]) HO.out.1.symm, rfl⟩
        · have HO := Lib.hid (NM.rh_pre s.data.toList (by rw [← Bool.not_eq_true]; exact fun h => a1 (HP.out.mp h).2))
          go_enter Tryz.func166, Tryz.ntmps166
          go_wp2
          go_ret2
          exact ⟨ret_ib HO.out.2.symm HO.out.1.symm, rfl⟩
      · have HO := Lib.hid (NM.rh_pre s.data.toList (by rw [← Bool.not_eq_true]; exact fun h => a0 (HP.out.mp h).1))
        go_enter Tryz.func166, Tryz.ntmps166
        go_wp2
        go_ret2
        exact ⟨ret_ib HO.out.2.symm HO.out.1.symm, rfl⟩
end Go.Proofs.YtcnmnkgnaknpdaaGreatDoor.S02
/-! S02WalkJ -/
namespace Go.Proofs.YtcnmnkgnaknpdaaGreatDoor.S02
open Go.RowKit
theorem empty_toList (s : ByteArray) (h : s.size = 0) : s.toList = [] := by
  rw [ByteArray.toList_eq]
  exact List.length_eq_zero_iff.mp (by rw [NM.len_eq]; exact h)
theorem full_toList (s : ByteArray) (h : 0 < s.size) : ¬ s.toList = [] := by
  rw [ByteArray.toList_eq]
  intro e
  have := NM.len_eq s
  rw [e] at this
  simp at this
  omega
theorem full_isEmpty (s : ByteArray) (h : 0 < s.size) : s.toList.isEmpty = false := by
  rw [List.isEmpty_eq_false_iff]
  exact full_toList s h
set_option maxHeartbeats 1600000 in
theorem rdecimal_any (s : ByteArray) (w : World) (hs : s.size ≤ 1000000) :
    Calls Tryz.prog 167 #[.string s] w fun e w' => e = .returned (.bool (NM.db s.data.toList)) ∧ w = w' := by
  have hlen := Lib.hid (NM.len_eq s)
  by_cases h0 : s.size = 0
  · have HO := Lib.hid (NM.db_no s.data.toList (by
      have hd : s.data.toList = [] := List.length_eq_zero_iff.mp (by rw [hlen.out]; exact h0)
      rw [hd]; rfl))
    have he := empty_toList s h0
    clear h0
    go_enter Tryz.func167, Tryz.ntmps167
    go_wp2
    go_ret
    exact ⟨ret_bool HO.out.symm, rfl⟩
  · have hp : 0 < s.size := by omega
    have he := full_toList s hp
    have he' := full_isEmpty s hp
    have HH := Lib.hid (NM.head_eq s hp)
    by_cases hz : (s[0].toNat : Int) = 48 ∧ 1 < (s.size : Int)
    · obtain ⟨hz1, hz2⟩ := hz
      have HO := Lib.hid (NM.db_zero s.data.toList (HH.out.mpr hz1) (by rw [hlen.out]; omega))
      go_enter Tryz.func167, Tryz.ntmps167
      go_wp2
      go_ret
      exact ⟨ret_bool HO.out.symm, rfl⟩
    · have hz' : (s[0].toNat : Int) = 48 ∧ decide (1 < (s.size : Int)) = false ∨ ¬ (s[0].toNat : Int) = 48 := by
        by_cases h : (s[0].toNat : Int) = 48
        · exact .inl ⟨h, by simp only [decide_eq_false_iff_not]; exact fun h1 => hz ⟨h, h1⟩⟩
        · exact .inr h
      have HZ := Lib.hid (show ¬ (s.data.toList.head? = some 48 ∧ 1 < s.data.toList.length) by rw [HH.out, hlen.out]; omega)
      clear hz
      rcases hz' with ⟨hz1, hz2⟩ | hz1
      all_goals
        go_enter Tryz.func167, Tryz.ntmps167
        go_wp2
        go_loop [3] (fun i => ∃ k : Nat, k ≤ s.size ∧ i = .int .i64 k ∧ Hid (NM.al 10 (s.data.toList.take k) = true)) (fun i => s.size - (intOf i).toNat)
        case atStart => exact ⟨0, by omega, rfl, Lib.hid rfl⟩
        case round =>
          obtain ⟨k, hk, rfl, hal⟩ := hrel
          by_cases hlt : k < s.size
          · have HD := Lib.hid (NM.dv10 s[k])
            have HT := Lib.hid (NM.take_snoc s k hlt)
            by_cases h48 : (s[k].toNat : Int) < 48
            · have HO := Lib.hid (NM.db_no s.data.toList (NM.vB_no _ _ (NM.al_bad 10 s k hlt (by have := HD.out; omega))))
              go_wp2
              go_ret
              exact ⟨ret_bool HO.out.symm, rfl⟩
            · have h48' : decide ((s[k].toNat : Int) < 48) = false := by simp only [decide_eq_false_iff_not]; omega
              by_cases h57 : 57 < (s[k].toNat : Int)
              · have HO := Lib.hid (NM.db_no s.data.toList (NM.vB_no _ _ (NM.al_bad 10 s k hlt (by have := HD.out; omega))))
                go_wp2
                go_ret
                exact ⟨ret_bool HO.out.symm, rfl⟩
              · have h57' : decide (57 < (s[k].toNat : Int)) = false := by simp only [decide_eq_false_iff_not]; omega
                have HN := Lib.hid (show NM.al 10 (s.data.toList.take (k + 1)) = true by
                  rw [HT.out, NM.al_snoc, hal.out]; simpa using HD.out.mpr ⟨by omega, by omega⟩)
                go_wp2
                go_round
                case rel => exact ⟨k + 1, by omega, by go_num, HN⟩
                case measure => simp [intOf]; omega
          · have hal' := hal.out
            rw [NM.take_all s k (by omega)] at hal'
            have HO := Lib.hid (NM.db_yes s.data.toList (NM.vB_of _ _ hal' (by intro e; have := hlen.out; rw [e] at this; simp at this; omega)) HZ.out)
            clear hal'
            go_wp2
            go_ret
            exact ⟨ret_bool HO.out.symm, rfl⟩
end Go.Proofs.YtcnmnkgnaknpdaaGreatDoor.S02
/-! S02WalkK -/
namespace Go.Proofs.YtcnmnkgnaknpdaaGreatDoor.S02
open Go.RowKit
theorem quo_no (v d : Nat) (h : v * 10 + d ≤ 9223372036854775808) (hd : d < 10) : ¬ (-(v : Int) < (-9223372036854775808 + (d : Int)).tdiv 10) := by
  have e : (-9223372036854775808 + (d : Int)).tdiv 10 = -(((9223372036854775808 - d) / 10 : Nat) : Int) := by
    rw [show (-9223372036854775808 + (d : Int)) = -((9223372036854775808 - d : Nat) : Int) by omega, Int.neg_tdiv]
    rfl
  rw [e]
  omega
theorem quo_yes (v d : Nat) (h : ¬ v * 10 + d ≤ 9223372036854775808) (hd : d < 10) : -(v : Int) < (-9223372036854775808 + (d : Int)).tdiv 10 := by
  have e : (-9223372036854775808 + (d : Int)).tdiv 10 = -(((9223372036854775808 - d) / 10 : Nat) : Int) := by
    rw [show (-9223372036854775808 + (d : Int)) = -((9223372036854775808 - d : Nat) : Int) by omega, Int.neg_tdiv]
    rfl
  rw [e]
  omega
theorem quo_no' (v d : Nat) (c : Int) (hc : (d : Int) = c - 48) (h : v * 10 + d ≤ 9223372036854775808) (hd : d < 10) : decide (-(v : Int) < (-9223372036854775808 + (c - 48)).tdiv 10) = false := by
  rw [← hc]
  simpa using quo_no v d h hd
theorem quo_yes' (v d : Nat) (c : Int) (hc : (d : Int) = c - 48) (h : ¬ v * 10 + d ≤ 9223372036854775808) (hd : d < 10) : decide (-(v : Int) < (-9223372036854775808 + (c - 48)).tdiv 10) = true := by
  rw [← hc]
  simpa using quo_yes v d h hd
theorem step_neg (v d : Nat) (c : Int) (hc : (d : Int) = c - 48) (h : v * 10 + d ≤ 9223372036854775808) : wrap64 (10 * -(v : Int) - (c - 48)) = -((v * 10 + d : Nat) : Int) := by
  rw [← hc]
  unfold wrap64
  omega
set_option maxHeartbeats 1600000 in
theorem rparse_plus (s : ByteArray) (w : World) (hs : s.size ≤ 1000000) (hr : NM.rhB s.data.toList = false) (hm : Lib.hasPrefix s.data.toList [45] = false) :
    Calls Tryz.prog 138 #[.string s] w fun e w' => e = .returned (.tuple #[.int .i64 (NM.pN s.data.toList), .int .i64 (NM.pE s.data.toList)]) ∧ w = w' := by
  have hlen := Lib.hid (NM.len_eq s)
  have HP := Lib.hid (show NM.pE s.data.toList = NM.pdE s.data.toList false ∧ NM.pN s.data.toList = NM.pdN s.data.toList false by
    have := NM.p_dec s hr
    rw [NM.trim_plus s hm, hm] at this
    exact this)
  have hd0 : s.size = 0 ∨ ∃ h : 0 < s.size, ¬ (s[0].toNat : Int) = 45 := by
    by_cases h0 : s.size = 0
    · exact .inl h0
    · refine .inr ⟨by omega, fun h => ?_⟩
      rw [(NM.pre1 s (by omega)).mpr h] at hm
      cases hm
  by_cases hdb : NM.db s.data.toList = true
  · obtain ⟨hv, hz⟩ := NM.db_open _ hdb
    have hp : 0 < s.size := NM.pos_of s 10 hv
    have h45 : ¬ (s[0].toNat : Int) = 45 := by
      rcases hd0 with h | ⟨_, h⟩
      · omega
      · exact h
    have HZ := Lib.hid (show ¬ (s.data.toList.head? = some 48 ∧ (false = true ∨ 1 < s.data.toList.length)) from fun h => hz ⟨h.1, h.2.elim (fun h => by cases h) id⟩)
    have HV := Lib.hid hv
    have HA := Lib.hid (NM.vB_al hv).1
    clear hz hv hd0 hm
    by_cases h19 : 19 < (s.size : Int)
    · have HO := Lib.hid (NM.pd_long s.data.toList false HV.out HZ.out (.inl (by rw [hlen.out]; omega)))
      go_enter Tryz.func138, Tryz.ntmps138
      go_wp2_with (first
        | (go_at_call 166; refine (rhex_any _ _ hs).mono ?_; rw [hr]; rintro e w' ⟨rfl, rfl⟩)
        | (go_at_call 167; refine (rdecimal_any _ _ hs).mono ?_; rw [hdb]; rintro e w' ⟨rfl, rfl⟩))
      go_ret2
      exact ⟨ret_two (by rw [HP.out.2, HO.out.2]) (by rw [HP.out.1, HO.out.1]), rfl⟩
    · have h19' : decide (19 < (s.size : Int)) = false := by simp only [decide_eq_false_iff_not]; omega
      go_enter Tryz.func138, Tryz.ntmps138
      go_wp2_with (first
        | (go_at_call 166; refine (rhex_any _ _ hs).mono ?_; rw [hr]; rintro e w' ⟨rfl, rfl⟩)
        | (go_at_call 167; refine (rdecimal_any _ _ hs).mono ?_; rw [hdb]; rintro e w' ⟨rfl, rfl⟩))
      go_loop [8, 9] (fun n i => ∃ k v : Nat, k ≤ s.size ∧ i = .int .i64 k ∧ Hid (v = NM.val 10 (s.data.toList.take k)) ∧ v ≤ 9223372036854775808 ∧ n = .int .i64 (-(v : Int))) (fun _ i => s.size - (intOf i).toNat)
      case atStart => exact ⟨0, 0, by omega, rfl, Lib.hid rfl, by omega, rfl⟩
      case round =>
        obtain ⟨k, v, hk, rfl, hv, hvb, rfl⟩ := hrel
        by_cases hlt : k < s.size
        · have hdk := NM.al_at 10 s k hlt HA.out
          obtain ⟨hd1, hd2, hd3⟩ := NM.dv_dec _ hdk
          have HD := Lib.hid hd1
          clear hd1
          by_cases hov : v * 10 + NM.dv s[k] ≤ 9223372036854775808
          · have hq := quo_no' v _ _ HD.out hov hdk
            have HN := Lib.hid (show v * 10 + NM.dv s[k] = NM.val 10 (s.data.toList.take (k + 1)) by rw [NM.take_snoc s k hlt, NM.val_snoc, hv.out])
            go_wp2
            go_round
            case rel => exact ⟨k + 1, v * 10 + NM.dv s[k], by omega, by go_num, HN, hov, by rw [step_neg v _ _ HD.out hov]⟩
            case measure => simp [intOf]; omega
          · have hq := quo_yes' v _ _ HD.out hov hdk
            have HO := Lib.hid (NM.pd_long s.data.toList false HV.out HZ.out (.inr (by
              have h1 := NM.val_take 10 (by omega) s.data.toList (k + 1)
              rw [NM.take_snoc s k hlt, NM.val_snoc, ← hv.out] at h1
              simp only [NM.lim]
              simp
              omega)))
            go_wp2
            go_ret2
            exact ⟨ret_two (by rw [HP.out.2, HO.out.2]) (by rw [HP.out.1, HO.out.1]), rfl⟩
        · have hv' := hv.out
          rw [NM.take_all s k (by omega)] at hv'
          by_cases hmx : v = 9223372036854775808
          · have HO := Lib.hid (NM.pd_long s.data.toList false HV.out HZ.out (.inr (by rw [← hv', hmx]; decide)))
            have hq : (-(v : Int) == -9223372036854775808) = true := by rw [hmx]; decide
            clear hv' hmx
            go_wp2
            go_ret2
            exact ⟨ret_two (by rw [HP.out.2, HO.out.2]) (by rw [HP.out.1, HO.out.1]), rfl⟩
          · have HO := Lib.hid (NM.pd_ok s.data.toList false HV.out HZ.out (by rw [hlen.out]; omega) (by rw [← hv']; simp [NM.lim]; omega))
            have HV' := Lib.hid hv'
            have hq : (-(v : Int) == -9223372036854775808) = false := by simp; omega
            have hvb2 : v ≤ 9223372036854775807 := by omega
            clear hv'
            go_wp2
            go_ret2
            exact ⟨ret_two (by rw [HP.out.2, HO.out.2, ← HV'.out]; simp) (by rw [HP.out.1, HO.out.1]), rfl⟩
  · have hdb : NM.db s.data.toList = false := by simpa using hdb
    have HO := Lib.hid (NM.pd_db s.data.toList false hdb)
    rcases hd0 with h0 | ⟨h0, h45⟩
    · have hz : decide (0 < (s.size : Int)) = false := by simp only [decide_eq_false_iff_not]; omega
      have hz' : decide (0 < s.size) = false := by simp only [decide_eq_false_iff_not]; omega
      clear h0
      go_enter Tryz.func138, Tryz.ntmps138
      go_wp2_with (first
        | (go_at_call 166; refine (rhex_any _ _ hs).mono ?_; rw [hr]; rintro e w' ⟨rfl, rfl⟩)
        | (go_at_call 167; refine (rdecimal_any _ _ hs).mono ?_; rw [hdb]; rintro e w' ⟨rfl, rfl⟩))
      go_ret2
      exact ⟨ret_two (by rw [HP.out.2, HO.out.2]) (by rw [HP.out.1, HO.out.1]), rfl⟩
    · go_enter Tryz.func138, Tryz.ntmps138
      go_wp2_with (first
        | (go_at_call 166; refine (rhex_any _ _ hs).mono ?_; rw [hr]; rintro e w' ⟨rfl, rfl⟩)
        | (go_at_call 167; refine (rdecimal_any _ _ hs).mono ?_; rw [hdb]; rintro e w' ⟨rfl, rfl⟩))
      go_ret2
      exact ⟨ret_two (by rw [HP.out.2, HO.out.2]) (by rw [HP.out.1, HO.out.1]), rfl⟩
set_option maxHeartbeats 1600000 in
theorem rparse_minus (s : ByteArray) (w : World) (hs : s.size ≤ 1000000) (hr : NM.rhB s.data.toList = false) (hm : Lib.hasPrefix s.data.toList [45] = true) :
    Calls Tryz.prog 138 #[.string s] w fun e w' => e = .returned (.tuple #[.int .i64 (NM.pN s.data.toList), .int .i64 (NM.pE s.data.toList)]) ∧ w = w' := by
  have hp : 0 < s.size := by
    apply Classical.byContradiction
    intro h
    rw [NM.pre1_empty s (by omega)] at hm
    cases hm
  have h45 := (NM.pre1 s hp).mp hm
  have hpi : 0 < (s.size : Int) := by omega
  obtain ⟨d, hx⟩ : ∃ d, s.extract 1 s.size = d := ⟨_, rfl⟩
  have hds : d.size ≤ 1000000 := by rw [← hx, ByteArray.size_extract]; omega
  have hlen := Lib.hid (NM.len_eq d)
  have HP := Lib.hid (show NM.pE s.data.toList = NM.pdE d.data.toList true ∧ NM.pN s.data.toList = NM.pdN d.data.toList true by
    have := NM.p_dec s hr
    rw [NM.trim_minus s hm, hm, hx] at this
    exact this)
  have HX := Lib.hid hx
  clear hx hm
  by_cases hdb : NM.db d.data.toList = true
  · obtain ⟨hv, hz⟩ := NM.db_open _ hdb
    have hp : 0 < d.size := NM.pos_of d 10 hv
    by_cases h48 : d.data.toList.head? = some 48
    · have HO := Lib.hid (NM.pd_zero d.data.toList true h48 (.inl rfl))
      have e48 : d.toList = [48] := by
        rw [ByteArray.toList_eq]
        have hl : ¬ 1 < d.data.toList.length := fun h => hz ⟨h48, h⟩
        generalize d.data.toList = l at *
        match l, h48, hl with
        | [a], h48, _ => simpa using h48
        | a :: b :: t, _, hl => simp at hl
      go_enter Tryz.func138, Tryz.ntmps138
      go_wp2_with (first
        | (go_at_call 166; refine (rhex_any _ _ hs).mono ?_; rw [hr]; rintro e w' ⟨rfl, rfl⟩)
        | (go_at_call 167; rw [HX.out]; refine (rdecimal_any d _ (by omega)).mono ?_; rw [hdb]; rintro e w' ⟨rfl, rfl⟩))
      go_ret2
      exact ⟨ret_two (by rw [HP.out.2, HO.out.2]) (by rw [HP.out.1, HO.out.1]), rfl⟩
    · have HZ := Lib.hid (show ¬ (d.data.toList.head? = some 48 ∧ (true = true ∨ 1 < d.data.toList.length)) from fun h => h48 h.1)
      have HV := Lib.hid hv
      have HA := Lib.hid (NM.vB_al hv).1
      have n48 : ¬ d.toList = [48] := by
        rw [ByteArray.toList_eq]
        intro h
        rw [h] at h48
        exact h48 rfl
      have n48' : (d.toList == [48]) = false := by simpa using n48
      clear hz hv h48
      by_cases h19 : 19 < (d.size : Int)
      · have HO := Lib.hid (NM.pd_long d.data.toList true HV.out HZ.out (.inl (by rw [hlen.out]; omega)))
        go_enter Tryz.func138, Tryz.ntmps138
        go_wp2_with (first
          | (go_at_call 166; refine (rhex_any _ _ hs).mono ?_; rw [hr]; rintro e w' ⟨rfl, rfl⟩)
          | (go_at_call 167; rw [HX.out]; refine (rdecimal_any d _ (by omega)).mono ?_; rw [hdb]; rintro e w' ⟨rfl, rfl⟩))
        go_ret2
        exact ⟨ret_two (by rw [HP.out.2, HO.out.2]) (by rw [HP.out.1, HO.out.1]), rfl⟩
      · have h19' : decide (19 < (d.size : Int)) = false := by simp only [decide_eq_false_iff_not]; omega
        go_enter Tryz.func138, Tryz.ntmps138
        go_wp2_with (first
          | (go_at_call 166; refine (rhex_any _ _ hs).mono ?_; rw [hr]; rintro e w' ⟨rfl, rfl⟩)
          | (go_at_call 167; rw [HX.out]; refine (rdecimal_any d _ (by omega)).mono ?_; rw [hdb]; rintro e w' ⟨rfl, rfl⟩))
        go_loop [8, 9] (fun n i => ∃ k v : Nat, k ≤ d.size ∧ i = .int .i64 k ∧ Hid (v = NM.val 10 (d.data.toList.take k)) ∧ v ≤ 9223372036854775808 ∧ n = .int .i64 (-(v : Int))) (fun _ i => d.size - (intOf i).toNat)
        case atStart => exact ⟨0, 0, by omega, rfl, Lib.hid rfl, by omega, rfl⟩
        case round =>
          obtain ⟨k, v, hk, rfl, hv, hvb, rfl⟩ := hrel
          by_cases hlt : k < d.size
          · have hdk := NM.al_at 10 d k hlt HA.out
            obtain ⟨hd1, hd2, hd3⟩ := NM.dv_dec _ hdk
            have HD := Lib.hid hd1
            clear hd1
            by_cases hov : v * 10 + NM.dv d[k] ≤ 9223372036854775808
            · have hq := quo_no' v _ _ HD.out hov hdk
              have HN := Lib.hid (show v * 10 + NM.dv d[k] = NM.val 10 (d.data.toList.take (k + 1)) by rw [NM.take_snoc d k hlt, NM.val_snoc, hv.out])
              go_wp2
              go_round
              case rel => exact ⟨k + 1, v * 10 + NM.dv d[k], by omega, by go_num, HN, hov, by rw [step_neg v _ _ HD.out hov]⟩
              case measure => simp [intOf]; omega
            · have hq := quo_yes' v _ _ HD.out hov hdk
              have HO := Lib.hid (NM.pd_long d.data.toList true HV.out (by simpa using HZ.out) (.inr (by
                have h1 := NM.val_take 10 (by omega) d.data.toList (k + 1)
                rw [NM.take_snoc d k hlt, NM.val_snoc, ← hv.out] at h1
                simp only [NM.lim]
                simp
                omega)))
              go_wp2
              go_ret2
              exact ⟨ret_two (by rw [HP.out.2, HO.out.2]) (by rw [HP.out.1, HO.out.1]), rfl⟩
          · have hv' := hv.out
            rw [NM.take_all d k (by omega)] at hv'
            have HO := Lib.hid (NM.pd_ok d.data.toList true HV.out (by simpa using HZ.out) (by rw [hlen.out]; omega) (by rw [← hv']; simp [NM.lim]; omega))
            have HV' := Lib.hid hv'
            clear hv'
            go_wp2
            go_ret2
            exact ⟨ret_two (by rw [HP.out.2, HO.out.2, ← HV'.out]; simp) (by rw [HP.out.1, HO.out.1]), rfl⟩
  · have hdb : NM.db d.data.toList = false := by simpa using hdb
    have HO := Lib.hid (NM.pd_db d.data.toList true hdb)
    go_enter Tryz.func138, Tryz.ntmps138
    go_wp2_with (first
      | (go_at_call 166; refine (rhex_any _ _ hs).mono ?_; rw [hr]; rintro e w' ⟨rfl, rfl⟩)
      | (go_at_call 167; rw [HX.out]; refine (rdecimal_any d _ (by omega)).mono ?_; rw [hdb]; rintro e w' ⟨rfl, rfl⟩))
    go_ret2
    exact ⟨ret_two (by rw [HP.out.2, HO.out.2]) (by rw [HP.out.1, HO.out.1]), rfl⟩
theorem rparse_any (s : ByteArray) (w : World) (hs : s.size ≤ 1000000) :
    Calls Tryz.prog 138 #[.string s] w fun e w' => e = .returned (.tuple #[.int .i64 (NM.pN s.data.toList), .int .i64 (NM.pE s.data.toList)]) ∧ w = w' := by
  cases hr : NM.rhB s.data.toList
  · cases hm : Lib.hasPrefix s.data.toList [45]
    · exact rparse_plus s w hs hr hm
    · exact rparse_minus s w hs hr hm
  · have HP := Lib.hid (NM.p_hex _ hr)
    go_enter Tryz.func138, Tryz.ntmps138
    go_wp2_with (go_at_call 166; refine (rhex_any _ _ hs).mono ?_; rw [hr]; rintro e w' ⟨rfl, rfl⟩)
    go_ret2
    exact ⟨ret_two (by rw [HP.out.2]) (by rw [HP.out.1]), rfl⟩
end Go.Proofs.YtcnmnkgnaknpdaaGreatDoor.S02
/-! RfA -/
namespace Go.Proofs.YtcnmnkgnaknpdaaGreatDoor
open Go.RowKit Go.Maps S02 S06 S07
theorem rletter_any (c : UInt8) (w : World) : Calls Tryz.prog 137 #[.int .u8 c.toNat] w fun e w' => e = .returned (.bool (AS.letB c)) ∧ w = w' := by
  go_enter Tryz.func137, Tryz.ntmps137
  go_wp2
  all_goals
    go_ret
    refine ⟨S02.ret_bool ?_, rfl⟩
    rw [Bool.eq_iff_iff]
    simp [AS.letB, *]
    try omega
set_option maxHeartbeats 800000 in
theorem risName_any (s : ByteArray) (w : World) (hs : s.size ≤ 1000000) : Calls Tryz.prog 97 #[.string s] w fun e w' => e = .returned (.bool (AS.isNm s.data.toList)) ∧ w = w' := by
  have HL := Lib.hid (NM.len_eq s)
  by_cases h1 : (s.size : Int) < 1
  · have he : s.data.toList = [] := List.eq_nil_of_length_eq_zero (by rw [HL.out]; omega)
    have HN := Lib.hid (show AS.isNm s.data.toList = false by unfold AS.isNm; rw [he]; rfl)
    clear he
    go_enter Tryz.func97, Tryz.ntmps97
    go_wp2
    go_ret
    exact ⟨S02.ret_bool HN.out.symm, rfl⟩
  · by_cases h2 : 16 < (s.size : Int)
    · have HN := Lib.hid (show AS.isNm s.data.toList = false by
        unfold AS.isNm
        rw [HL.out, show decide (s.size ≤ 16) = false by simp; omega, Bool.and_false, Bool.false_and])
      have h1' : decide ((s.size : Int) < 1) = false := by simp; omega
      clear h1
      go_enter Tryz.func97, Tryz.ntmps97
      go_wp2
      go_ret
      exact ⟨S02.ret_bool HN.out.symm, rfl⟩
    · have h1' : decide ((s.size : Int) < 1) = false := by simp; omega
      have h2' : decide (16 < (s.size : Int)) = false := by simp; omega
      have hp : 0 < s.size := by omega
      have HG0 := Lib.hid (NM.getD_eq s 0 hp)
      have HE := Lib.hid (show (!decide (s.data.toList = []) && decide (s.data.toList.length ≤ 16)) = true by
        rw [HL.out]
        have : s.data.toList ≠ [] := fun e => by have := HL.out; rw [e] at this; simp at this; omega
        simp [this]
        omega)
      cases hl : AS.letB s[0]
      · have HN := Lib.hid (show AS.isNm s.data.toList = false by
          unfold AS.isNm
          rw [AS.okTo_no (k := 0) (by rw [HL.out]; exact hp) (by unfold AS.okB; rw [HG0.out, hl]; rfl), Bool.and_false])
        clear h1 h2
        go_enter Tryz.func97, Tryz.ntmps97
        go_wp2_with (go_at_call 137; refine (rletter_any _ _).mono ?_; rw [hl]; rintro e w' ⟨rfl, rfl⟩)
        go_ret
        exact ⟨S02.ret_bool HN.out.symm, rfl⟩
      · have HO := Lib.hid (show AS.okTo s.data.toList 1 = true by rw [AS.okTo, AS.okTo]; unfold AS.okB; rw [HG0.out, hl]; rfl)
        clear h1 h2
        go_enter Tryz.func97, Tryz.ntmps97
        go_wp2_with (go_at_call 137; refine (rletter_any _ _).mono ?_; rw [hl]; rintro e w' ⟨rfl, rfl⟩)
        go_loop [3] (fun i => ∃ k : Nat, k ≤ s.size ∧ 1 ≤ k ∧ i = .int .i64 k ∧ Hid (AS.okTo s.data.toList k = true)) (fun i => s.size - (intOf i).toNat)
        case atStart => exact ⟨1, by omega, by omega, rfl, HO⟩
        case round =>
          obtain ⟨k, hk, hk1, rfl, hok⟩ := hrel
          by_cases hlt : k < s.size
          · have HG := Lib.hid (NM.getD_eq s k hlt)
            have hlt' : decide (k < s.size) = true := by simpa using hlt
            cases hl' : AS.letB s[k]
            · by_cases hd : AS.digB s[k] = true
              · have HB := Lib.hid (show AS.okTo s.data.toList (k + 1) = true by rw [AS.okTo, hok.out]; unfold AS.okB; rw [HG.out, hl', hd]; simp; omega)
                have hd' : 48 ≤ s[k].toNat ∧ s[k].toNat ≤ 57 := by unfold AS.digB at hd; simpa using hd
                obtain ⟨d1, d2⟩ := hd'
                have d1' : decide ((s[k].toNat : Int) < 48) = false := by simp; omega
                have d2' : decide (57 < (s[k].toNat : Int)) = false := by simp; omega
                clear hd
                go_wp2_with (go_at_call 137; refine (rletter_any _ _).mono ?_; rw [hl']; rintro e w' ⟨rfl, rfl⟩)
                go_round
                case rel => exact ⟨k + 1, by omega, by omega, by go_num, HB⟩
                case measure => simp [intOf]; omega
              · have HB := Lib.hid (show AS.isNm s.data.toList = false by
                  unfold AS.isNm
                  rw [AS.okTo_no (k := k) (by rw [HL.out]; exact hlt) (by unfold AS.okB; rw [HG.out, hl', Bool.eq_false_iff.2 hd]; simp), Bool.and_false])
                have hd' : ¬ (48 ≤ s[k].toNat ∧ s[k].toNat ≤ 57) := by unfold AS.digB at hd; simpa using hd
                clear hd
                by_cases d1 : (s[k].toNat : Int) < 48
                · clear hd'
                  go_wp2_with (go_at_call 137; refine (rletter_any _ _).mono ?_; rw [hl']; rintro e w' ⟨rfl, rfl⟩)
                  go_ret
                  exact ⟨S02.ret_bool HB.out.symm, rfl⟩
                · have d1' : decide ((s[k].toNat : Int) < 48) = false := by simp; omega
                  have d2 : 57 < (s[k].toNat : Int) := by omega
                  clear hd'
                  go_wp2_with (go_at_call 137; refine (rletter_any _ _).mono ?_; rw [hl']; rintro e w' ⟨rfl, rfl⟩)
                  go_ret
                  exact ⟨S02.ret_bool HB.out.symm, rfl⟩
            · have HB := Lib.hid (show AS.okTo s.data.toList (k + 1) = true by rw [AS.okTo, hok.out]; unfold AS.okB; rw [HG.out, hl']; rfl)
              go_wp2_with (go_at_call 137; refine (rletter_any _ _).mono ?_; rw [hl']; rintro e w' ⟨rfl, rfl⟩)
              go_round
              case rel => exact ⟨k + 1, by omega, by omega, by go_num, HB⟩
              case measure => simp [intOf]; omega
          · have hlt' : decide (k < s.size) = false := by simpa using hlt
            have HB := Lib.hid (show AS.isNm s.data.toList = true by
              unfold AS.isNm
              rw [HE.out, show s.data.toList.length = k by rw [HL.out]; omega, hok.out, Bool.and_true])
            clear hlt
            go_wp2
            go_ret
            exact ⟨S02.ret_bool HB.out.symm, rfl⟩
theorem rbetween_any (s : ByteArray) (lo hi : Int) (w : World) (hs : s.size ≤ 1000000) :
    Calls Tryz.prog 100 #[.string s, .int .i64 lo, .int .i64 hi] w fun e w' => e = .returned (.tuple #[.int .i64 (if AS.nbE s.data.toList lo hi = 0 then AS.nbN s.data.toList lo hi else 0), .int .i64 (AS.nbE s.data.toList lo hi)]) ∧ w = w' := by
  have HP := Lib.hid (fun W => rparse_any s W (by omega))
  by_cases hc : NM.pE s.data.toList = 0 ∧ (NM.pN s.data.toList < lo ∨ hi < NM.pN s.data.toList)
  · rw [show AS.nbE s.data.toList lo hi = 3 from if_pos hc, if_neg (by decide)]
    generalize NM.pN s.data.toList = n at *
    generalize NM.pE s.data.toList = r at *
    obtain ⟨rfl, h⟩ := hc
    by_cases h1 : n < lo
    · have h1' : decide (n < lo) = true := by simpa using h1
      clear h
      go_enter Tryz.func100, Tryz.ntmps100
      go_wp2_with (go_at_call 138; refine (HP.out _).mono ?_; rintro e w' ⟨rfl, rfl⟩)
      go_ret2
      exact ⟨rfl, rfl⟩
    · have h1' : decide (n < lo) = false := by simpa using h1
      have h2' : decide (hi < n) = true := by simp; omega
      clear h
      go_enter Tryz.func100, Tryz.ntmps100
      go_wp2_with (go_at_call 138; refine (HP.out _).mono ?_; rintro e w' ⟨rfl, rfl⟩)
      go_ret2
      exact ⟨rfl, rfl⟩
  · rw [show AS.nbE s.data.toList lo hi = NM.pE s.data.toList from if_neg hc, show AS.nbN s.data.toList lo hi = NM.pN s.data.toList from if_neg hc]
    generalize NM.pN s.data.toList = n at *
    generalize NM.pE s.data.toList = r at *
    by_cases hr : r = 0
    · subst hr
      have h1' : decide (n < lo) = false := by simp; omega
      have h2' : decide (hi < n) = false := by simp; omega
      rw [if_pos rfl]
      clear hc
      go_enter Tryz.func100, Tryz.ntmps100
      go_wp2_with (go_at_call 138; refine (HP.out _).mono ?_; rintro e w' ⟨rfl, rfl⟩)
      go_ret2
      exact ⟨rfl, rfl⟩
    · have hr' : (r == 0) = false := by simp [hr]
      have hr'' : (r != 0) = true := by simp [hr]
      rw [if_neg hr]
      clear hc
      go_enter Tryz.func100, Tryz.ntmps100
      go_wp2_with (go_at_call 138; refine (HP.out _).mono ?_; rintro e w' ⟨rfl, rfl⟩)
      go_ret2
      exact ⟨rfl, rfl⟩
theorem rcode_any (s : ByteArray) (w : World) (hs : s.size ≤ 1000000) : Calls Tryz.prog 53 #[.string s] w fun e w' => (∃ C : ByteArray, e = .returned (.string C) ∧ C.data.toList = AS.code s.data.toList ∧ C.size ≤ s.size) ∧ w = w' := by
  have HL := Lib.hid (NM.len_eq s)
  go_enter Tryz.func53, Tryz.ntmps53
  go_wp2
  go_loop [3] (fun i => ∃ k : Nat, k ≤ s.size ∧ i = .int .i64 k ∧ Hid (∀ j, j < k → ¬ s.data.toList.getD j 0 = 59)) (fun i => s.size - (intOf i).toNat)
  case atStart => exact ⟨0, by omega, rfl, Lib.hid (fun j hj => absurd hj (by omega))⟩
  case round =>
    obtain ⟨k, hk, rfl, hn⟩ := hrel
    by_cases hlt : k < s.size
    · have HG := Lib.hid (NM.getD_eq s k hlt)
      have hlt' : decide (k < s.size) = true := by simpa using hlt
      by_cases h : s[k] = 59
      · have HC := Lib.hid (AS.code_stop (l := s.data.toList) (by rw [HL.out]; exact hlt) (by rw [HG.out]; exact h) hn.out)
        have h' : ((s[k].toNat : Int) == 59) = true := by rw [h]; rfl
        clear h
        go_wp2
        go_ret
        refine ⟨⟨_, rfl, ?_, ?_⟩, rfl⟩
        · rw [HC.out, ByteArray.data_extract, Array.toList_extract]
          simp [List.extract]
        · simp
          omega
      · have h' : ((s[k].toNat : Int) == 59) = false := by
          rw [beq_eq_false_iff_ne]
          intro e
          exact h (UInt8.toNat_inj.1 (by have : s[k].toNat = 59 := by omega
                                         rw [this]; rfl))
        have HN := Lib.hid (show ∀ j, j < k + 1 → ¬ s.data.toList.getD j 0 = 59 from fun j hj => by
          by_cases e : j = k
          · subst e; rw [HG.out]; exact h
          · exact hn.out j (by omega))
        clear h
        go_wp2
        go_round
        case rel => exact ⟨k + 1, by omega, by go_num, HN⟩
        case measure => simp [intOf]; omega
    · have hlt' : decide (k < s.size) = false := by simpa using hlt
      have HC := Lib.hid (AS.code_all (l := s.data.toList) fun j hj => hn.out j (by rw [HL.out] at hj; omega))
      clear hlt
      go_wp2
      go_ret
      exact ⟨⟨_, rfl, HC.out.symm, Nat.le_refl _⟩, rfl⟩
end Go.Proofs.YtcnmnkgnaknpdaaGreatDoor
/-! RfB -/
namespace Go.Proofs.YtcnmnkgnaknpdaaGreatDoor
open Go.RowKit Go.Maps S02 S06 S07
namespace AS
theorem fnd_hit : ∀ {ns : List (List UInt8 × Nat)} {s : List UInt8} {k : Nat} {p : List UInt8 × Nat}, ns[k]? = some p → p.1 = s → (∀ j, j < k → ∀ q, ns[j]? = some q → ¬ q.1 = s) → fnd ns s = some p.2
  | [], _, _, _, h, _, _ => by simp at h
  | x :: r, s, 0, p, h, hp, _ => by simp at h; subst h; rw [fnd, if_pos hp]
  | x :: r, s, k + 1, p, h, hp, hn => by
    rw [fnd, if_neg (hn 0 (by omega) x rfl)]
    exact fnd_hit (k := k) (by simpa using h) hp fun j hj q hq => hn (j + 1) (by omega) q (by simpa using hq)
theorem fnd_miss : ∀ {ns : List (List UInt8 × Nat)} {s : List UInt8}, (∀ (j : Nat) (q : List UInt8 × Nat), ns[j]? = some q → ¬ q.1 = s) → fnd ns s = none
  | [], _, _ => rfl
  | x :: r, s, hn => by
    rw [fnd, if_neg (hn 0 x rfl)]
    exact fnd_miss fun j q hq => hn (j + 1) q (by simpa using hq)
end AS
theorem bytes_inj {A B : ByteArray} (h : A.data.toList = B.data.toList) : A = B := by
  cases A; cases B
  simp only [ByteArray.mk.injEq]
  exact Array.toList_inj.mp h
theorem str_eq (A B : ByteArray) : (A.toList == B.toList) = decide (A.data.toList = B.data.toList) := by
  rw [ByteArray.toList_eq, ByteArray.toList_eq, Bool.eq_iff_iff]
  simp
set_option maxHeartbeats 800000 in
theorem rfind_any {w : World} {v : Value} {ns : List (List UInt8 × Nat)} (s : ByteArray) (h : NmR w v ns) (hl : ns.length ≤ 1000000) :
    Calls Tryz.prog 28 #[v, .string s] w fun e w' => e = .returned (.tuple #[.int .u32 ((AS.fnd ns s.data.toList).getD 0 : Nat), .bool (AS.fnd ns s.data.toList).isSome]) ∧ w = w' := by
  obtain ⟨n, hn⟩ : ∃ n, ns.length = n := ⟨_, rfl⟩
  obtain ⟨va, vc, rfl⟩ : ∃ a c, v = .slice a n c := by
    rcases h with ⟨rfl, a, c, rfl⟩ | ⟨_, g, o, c, rfl, _⟩
    · exact ⟨a, c, by rw [← hn]; rfl⟩
    · exact ⟨_, c, by rw [hn]⟩
  have HR := Lib.hid h
  have HN := Lib.hid hn
  have hn1 : n ≤ 1000000 := by omega
  clear h hn hl
  go_enter Tryz.func28, Tryz.ntmps28
  go_wp2
  go_loop [6] (fun i => ∃ k : Nat, k ≤ n ∧ i = .int .i64 k ∧ Hid (∀ j, j < k → ∀ q, ns[j]? = some q → ¬ q.1 = s.data.toList)) (fun i => n - (intOf i).toNat)
  case atStart => exact ⟨0, by omega, rfl, Lib.hid fun j hj => absurd hj (by omega)⟩
  case round =>
    obtain ⟨k, hk, rfl, hno⟩ := hrel
    by_cases hlt : k < n
    · have hlt' : decide (k < n) = true := by simpa using hlt
      have hkl : k < ns.length := by rw [HN.out]; exact hlt
      obtain ⟨⟨t, u⟩, hp⟩ : ∃ p, ns[k]? = some p := ⟨_, List.getElem?_eq_getElem hkl⟩
      obtain ⟨g, o, rfl, z1, z2⟩ : ∃ g o, va = some ⟨g, o, none⟩ ∧ w.cell? ⟨g, o + k * 2, none⟩ = some (NM.tv t) ∧ w.cell? ⟨g, o + k * 2 + 1, none⟩ = some (.int .u32 u) := by
        rcases HR.out with ⟨h, -⟩ | ⟨-, g, o, c, h, h3⟩
        · rw [h] at hkl; simp at hkl
        · injection h with h1 h2 h4
          exact ⟨g, o, h1, (h3 k _ hp).1, (h3 k _ hp).2⟩
      obtain ⟨T, hT, hT1, hT2⟩ := bt_of t
      replace z1 : w.cell? ⟨g, o + k * 2, none⟩ = some (.string T) := by rw [z1, ← hT]; rfl
      by_cases he : t = s.data.toList
      · have hb : (T.toList == s.toList) = true := by rw [str_eq]; simp [hT1, he]
        have hb' : T = s := bytes_inj (hT1.trans he)
        have HF := Lib.hid (AS.fnd_hit hp he hno.out)
        clear he hp hkl hT hT1 hT2
        subst hb'
        go_wp2
        go_ret2
        exact ⟨by rw [HF.out]; rfl, rfl⟩
      · have hb : (T.toList == s.toList) = false := by rw [str_eq]; simp [hT1, he]
        have hb' : ¬ T.toList = s.toList := by rw [ByteArray.toList_eq, ByteArray.toList_eq, hT1]; exact he
        have HO := Lib.hid (show ∀ j, j < k + 1 → ∀ q, ns[j]? = some q → ¬ q.1 = s.data.toList from fun j hj q hq => by
          by_cases e : j = k
          · subst e; rw [hp] at hq; injection hq with hq; subst hq; exact he
          · exact hno.out j (by omega) q hq)
        clear he hp hkl hT hT1 hT2
        go_wp2
        go_round
        case rel => exact ⟨k + 1, by omega, by go_num, HO⟩
        case measure => simp [intOf]; omega
    · have hlt' : decide (k < n) = false := by simpa using hlt
      have HF := Lib.hid (show AS.fnd ns s.data.toList = none from AS.fnd_miss fun j q hq => hno.out j (by have := (List.getElem?_eq_some_iff.1 hq).1; rw [HN.out] at this; omega) q hq)
      clear hlt
      go_wp2
      go_ret2
      exact ⟨by rw [HF.out]; rfl, rfl⟩
end Go.Proofs.YtcnmnkgnaknpdaaGreatDoor
/-! RfC -/
namespace Go.Proofs.YtcnmnkgnaknpdaaGreatDoor
open Go.RowKit Go.Maps S02 S06 S07
/-- What moves while the reference finds a program: nothing below N, no block of another kind than its rows of names and of items. -/
structure RM (N : Nat) (w w' : World) : Prop where
  old : Below N w w'
  size : w.heap.size ≤ w'.heap.size
  kind : ∀ (k : Nat) (c : Array Value) (e : TypeId) (f : Nat × Nat), w.heap[k]? = some (Obj.cells c e f) → e ≠ 57 → e ≠ 74 → w'.heap[k]? = w.heap[k]?
theorem RM.refl (N : Nat) (w : World) : RM N w w := ⟨Below.refl _ _, Nat.le_refl _, fun _ _ _ _ _ _ _ => rfl⟩
theorem RM.trans {N : Nat} {a b c : World} (h : RM N a b) (k : RM N b c) : RM N a c :=
  ⟨h.old.trans k.old, Nat.le_trans h.size k.size, fun i c' e f hi h1 h2 => (k.kind i c' e f ((h.kind i c' e f hi h1 h2).trans hi) h1 h2).trans (h.kind i c' e f hi h1 h2)⟩
theorem RM.below {N : Nat} {w w' : World} (h : Below w.heap.size w w') (hN : N ≤ w.heap.size) : RM N w w' := ⟨h.mono hN, h.size, fun k _c _e _f hk _ _ => h.block k (lt_of_heap hk)⟩
theorem RM.grown {N : Nat} {w w1 : World} {row : Option Nat} {e : TypeId} (hg : w.grownBy w1 row) (hN : N ≤ w.heap.size) (hr : ∀ k, row = some k → N ≤ k ∧ ∃ c, w.heap[k]? = some (.cells c e (0, 0))) (he : e = 57 ∨ e = 74) : RM N w w1 :=
  ⟨(Below.refl _ w).grown hg hN fun k hk => (hr k hk).1, hg.size, fun k c e' f hk h1 h2 => hg.block k (lt_of_heap hk) fun e'' => by
    obtain ⟨_, c', hc'⟩ := hr k e''.symm
    rw [hk] at hc'
    injection hc' with hc'
    injection hc' with _ h3
    rcases he with rfl | rfl
    · exact h1 h3
    · exact h2 h3⟩
theorem TxR.rm {N : Nat} {w w' : World} {v : Value} {l : List (List UInt8)} (h : TxR w v l) (hm : RM N w w') : TxR w' v l := by
  rcases h with h | ⟨h0, g, o, c, cs, fr, hv, h1, h2, h3, h4⟩
  · exact .inl h
  · have e := hm.kind g cs 9 fr h3 (by decide) (by decide)
    exact .inr ⟨h0, g, o, c, cs, fr, hv, h1, h2, e.trans h3, fun j hj => (World.cell?_of_block (w := w) (a := ⟨g, o + j, none⟩) e).trans (h4 j hj)⟩
/-- The cells of items in a row. -/
def itC (xs : List (AS.It × Value)) : List Value := xs.flatMap fun p => [.int .i64 p.1.kind, .int .i64 p.1.line, .int .i64 p.1.pos, .int .i64 p.1.size, p.2]
theorem itC_len (xs : List (AS.It × Value)) : (itC xs).length = xs.length * 5 := by
  induction xs with
  | nil => rfl
  | cons p r ih => rw [itC, List.flatMap_cons, List.length_append, ← itC, ih]; simp; omega
theorem itC_snoc (xs : List (AS.It × Value)) (x : AS.It) (v : Value) : itC (xs ++ [(x, v)]) = itC xs ++ [.int .i64 x.kind, .int .i64 x.line, .int .i64 x.pos, .int .i64 x.size, v] := by simp [itC]
theorem itC_at : ∀ (xs : List (AS.It × Value)) (j : Nat) (p : AS.It × Value), xs[j]? = some p → (itC xs)[j * 5]? = some (.int .i64 p.1.kind) ∧ (itC xs)[j * 5 + 1]? = some (.int .i64 p.1.line) ∧ (itC xs)[j * 5 + 2]? = some (.int .i64 p.1.pos) ∧ (itC xs)[j * 5 + 3]? = some (.int .i64 p.1.size) ∧ (itC xs)[j * 5 + 4]? = some p.2
  | [], _, _, h => by simp at h
  | x :: r, 0, p, h => by simp at h; subst h; exact ⟨rfl, rfl, rfl, rfl, rfl⟩
  | x :: r, j + 1, p, h => by
    rw [List.getElem?_cons_succ] at h
    have ih := itC_at r j p h
    rw [show itC (x :: r) = .int .i64 x.1.kind :: .int .i64 x.1.line :: .int .i64 x.1.pos :: .int .i64 x.1.size :: x.2 :: itC r from rfl]
    rw [show (j + 1) * 5 = j * 5 + 1 + 1 + 1 + 1 + 1 by omega]
    simp only [show ∀ i, j * 5 + 1 + 1 + 1 + 1 + 1 + i = (j * 5 + i) + 1 + 1 + 1 + 1 + 1 from fun i => by omega, List.getElem?_cons_succ]
    exact ih
/-- The rows of a program that the reference finds. -/
structure RS (N : Nat) (w : World) (vi vn : Value) (xs : List (AS.It × Value)) (ns : List (List UInt8 × Nat)) : Prop where
  its : w.ownsRow N 74 5 vi xs.length (itC xs)
  wds : ∀ p ∈ xs, TxR w p.2 p.1.words
  nms : w.ownsRow N 57 2 vn ns.length (nmC ns)
theorem RS.nil (N : Nat) (w : World) : RS N w (.slice none 0 0) (.slice none 0 0) [] [] := ⟨World.ownsRow_nil _ _ _ _, fun p hp => by simp at hp, World.ownsRow_nil _ _ _ _⟩
theorem RS.below {N : Nat} {w w' : World} {vi vn : Value} {xs : List (AS.It × Value)} {ns : List (List UInt8 × Nat)} (h : RS N w vi vn xs ns) (hb : Below w.heap.size w w') : RS N w' vi vn xs ns :=
  ⟨own_keep h.its fun k hk => hb.block k (own_lt h.its hk).2.1, fun p hp => (h.wds p hp).rm (RM.below (N := 0) hb (Nat.zero_le _)), own_keep h.nms fun k hk => hb.block k (own_lt h.nms hk).2.1⟩
theorem RS.off {N : Nat} {w : World} {vi vn : Value} {xs : List (AS.It × Value)} {ns : List (List UInt8 × Nat)} (h : RS N w vi vn xs ns) {k : Nat} {c : Array Value} {e : TypeId} {f : Nat × Nat} (hk : w.heap[k]? = some (.cells c e f)) (he : e ≠ 57 ∧ e ≠ 74 ∧ e ≠ 9) (o : Nat) (u : Value) : RS N (w.setCell ⟨k, o, none⟩ u) vi vn xs ns := by
  have kp : ∀ (j : Nat) (c' : Array Value) (e' : TypeId) (f' : Nat × Nat), w.heap[j]? = some (Obj.cells c' e' f') → e' ≠ e → (w.setCell ⟨k, o, none⟩ u).heap[j]? = w.heap[j]? := fun j c' e' f' hj hne => heap_other (kind_ne hj hk hne)
  refine ⟨own_keep h.its fun j hj => ?_, fun p hp => ?_, own_keep h.nms fun j hj => ?_⟩
  · obtain ⟨_, _, c', hc'⟩ := own_lt h.its hj
    exact kp j _ _ _ hc' (fun e => he.2.1 e.symm)
  · rcases h.wds p hp with h' | ⟨h0, g, o', c', cs, fr, hv, h1, h2, h3, h4⟩
    · exact .inl h'
    · have e' := kp g _ _ _ h3 (fun e => he.2.2 e.symm)
      exact .inr ⟨h0, g, o', c', cs, fr, hv, h1, h2, e'.trans h3, fun j hj => (World.cell?_of_block (w := w) (a := ⟨g, o' + j, none⟩) e').trans (h4 j hj)⟩
  · obtain ⟨_, _, c', hc'⟩ := own_lt h.nms hj
    exact kp j _ _ _ hc' (fun e => he.1 e.symm)
theorem RM.set {N : Nat} {w wr : World} {b o : Nat} {u : Value} (h : RM N w wr) (hN : N ≤ w.heap.size) (hb : w.heap.size ≤ b) : RM N w (wr.setCell ⟨b, o, none⟩ u) :=
  ⟨h.old.setCell (Nat.le_trans hN hb) _, by rw [size_set]; exact h.size, fun k c e f hk h1 h2 => (heap_other (by have := lt_of_heap hk; omega)).trans (h.kind k c e f hk h1 h2)⟩
theorem TxR.set {w : World} {v : Value} {l : List (List UInt8)} {k o : Nat} {c : Array Value} {e : TypeId} {f : Nat × Nat} {u : Value} (h : TxR w v l) (hk : w.heap[k]? = some (.cells c e f)) (he : e ≠ 9) : TxR (w.setCell ⟨k, o, none⟩ u) v l := by
  rcases h with h | ⟨h0, g, o', c', cs, fr, hv, h1, h2, h3, h4⟩
  · exact .inl h
  · have e' : (w.setCell ⟨k, o, none⟩ u).heap[g]? = w.heap[g]? := heap_other (kind_ne h3 hk (fun e' => he e'.symm))
    exact .inr ⟨h0, g, o', c', cs, fr, hv, h1, h2, e'.trans h3, fun j hj => (World.cell?_of_block (w := w) (a := ⟨g, o' + j, none⟩) e').trans (h4 j hj)⟩
/-- A name more. -/
theorem RS.name {N : Nat} {w w1 : World} {vi vn vn' : Value} {xs : List (AS.It × Value)} {ns : List (List UInt8 × Nat)} {s : List UInt8} {u : Nat} (h : RS N w vi vn xs ns) (hN : N ≤ w.heap.size) (hg : w.grownBy w1 vn.ownBlock) (ho : w1.ownsRow N 57 2 vn' (ns.length + 1) (nmC ns ++ [NM.tv s, .int .u32 u])) : RS N w1 vi vn' xs (ns ++ [(s, u)]) ∧ RM N w w1 := by
  have hm : RM N w w1 := RM.grown (e := 57) hg hN (fun k hk => by obtain ⟨a, _, c⟩ := own_lt h.nms hk; exact ⟨a, c⟩) (.inl rfl)
  refine ⟨⟨own_keep h.its fun k hk => ?_, fun p hp => (h.wds p hp).rm hm, by rw [nmC_snoc, List.length_append]; exact ho⟩, hm⟩
  obtain ⟨_, hl, c, hc⟩ := own_lt h.its hk
  refine hg.block k hl fun e => ?_
  obtain ⟨_, _, c', hc'⟩ := own_lt h.nms e.symm
  exact kind_ne hc hc' (by decide) rfl
/-- An item more. -/
theorem RS.item {N : Nat} {w w1 : World} {vi vi' vn wv : Value} {xs : List (AS.It × Value)} {ns : List (List UInt8 × Nat)} {x : AS.It} (h : RS N w vi vn xs ns) (hN : N ≤ w.heap.size) (hw : TxR w wv x.words) (hg : w.grownBy w1 vi.ownBlock) (ho : w1.ownsRow N 74 5 vi' (xs.length + 1) (itC xs ++ [.int .i64 x.kind, .int .i64 x.line, .int .i64 x.pos, .int .i64 x.size, wv])) : RS N w1 vi' vn (xs ++ [(x, wv)]) ns ∧ RM N w w1 := by
  have hm : RM N w w1 := RM.grown (e := 74) hg hN (fun k hk => by obtain ⟨a, _, c⟩ := own_lt h.its hk; exact ⟨a, c⟩) (.inr rfl)
  refine ⟨⟨by rw [itC_snoc, List.length_append]; exact ho, fun p hp => ?_, own_keep h.nms fun k hk => ?_⟩, hm⟩
  · rcases List.mem_append.1 hp with hp | hp
    · exact (h.wds p hp).rm hm
    · rw [List.mem_singleton] at hp; subst hp; exact hw.rm hm
  · obtain ⟨_, hl, c, hc⟩ := own_lt h.nms hk
    refine hg.block k hl fun e => ?_
    obtain ⟨_, _, c', hc'⟩ := own_lt h.its e.symm
    exact kind_ne hc hc' (by decide) rfl
end Go.Proofs.YtcnmnkgnaknpdaaGreatDoor
/-! RfD -/
namespace Go.Proofs.YtcnmnkgnaknpdaaGreatDoor
open Go.RowKit Go.Maps S02 S06 S07
/-- The labels of a line that are being read. -/
structure LB (N : Nat) (w wr : World) (vi vn : Value) (xs : List (AS.It × Value)) (st st' : AS.St) (W0 r : List (List UInt8)) (v : Value) : Prop where
  bx : wr.heap[w.heap.size]? = some (.cells #[vi, vn, .int .i64 st.pos] 70 (0, 0))
  rb : wr.heap[w.heap.size + 1]? = some (.cells #[.slice none 0 0, .slice none 0 0, .int .i64 0] 70 (0, 0))
  rs : RS N wr vi vn xs st'.names
  hN : N ≤ w.heap.size
  rm : RM N w wr
  tx : TxR wr v r
  sp : AS.labs st W0 = AS.labs st' r
  po : st'.pos = st.pos
  it : st'.items = st.items
  nm : st'.names.length + r.length ≤ 900000
  wd : ∀ y ∈ r, y ≠ [] ∧ y.length ≤ 200000
def LabPost (N : Nat) (w : World) (xs : List (AS.It × Value)) (R : Int × AS.St × List (List UInt8)) (e : Ending) (w' : World) : Prop :=
  ∃ vi vn v P, e = .returned (.tuple #[.agg #[vi, vn, .int .i64 P], v, .int .i64 R.1]) ∧ (∃ a n c, vi = .slice a n c) ∧ (∃ a n c, vn = .slice a n c) ∧ RM N w w' ∧ (R.1 = 0 → RS N w' vi vn xs R.2.1.names ∧ P = R.2.1.pos ∧ TxR w' v R.2.2)
theorem own_form {w : World} {B e size n : Nat} {v : Value} {xs : List Value} (h : w.ownsRow B e size v n xs) : ∃ a c, v = .slice a n c := by
  rcases h.2 with ⟨h, h0⟩ | ⟨g, cap, cur, h, -⟩
  · exact ⟨_, _, h0 ▸ h⟩
  · exact ⟨_, _, h⟩
theorem LB.start {N : Nat} {w : World} {vi vn v : Value} {xs : List (AS.It × Value)} {st : AS.St} {W : List (List UInt8)} (hN : N ≤ w.heap.size) (hr : RS N w vi vn xs st.names) (hv : TxR w v W) (hn : st.names.length + W.length ≤ 900000) (hw : ∀ y ∈ W, y ≠ [] ∧ y.length ≤ 200000) :
    LB N w ((w.alloc (.cells #[vi, vn, .int .i64 st.pos] 70)).alloc (.cells #[.slice none 0 0, .slice none 0 0, .int .i64 0] 70)) vi vn xs st st W W v := by
  have hb := below_two w (.cells #[vi, vn, .int .i64 st.pos] 70) (.cells #[.slice none 0 0, .slice none 0 0, .int .i64 0] 70)
  refine ⟨by rw [Below.heap_alloc _ _ _ (by simp)]; exact heap_alloc_new w _, ?_, hr.below hb, hN, RM.below hb hN, hv.rm (RM.below hb hN), rfl, rfl, rfl, hn, hw⟩
  have := heap_alloc_new (w.alloc (.cells #[vi, vn, .int .i64 st.pos] 70)) (.cells #[.slice none 0 0, .slice none 0 0, .int .i64 0] 70)
  simpa using this
theorem LB.below {N : Nat} {w wr w2 : World} {vi vn v : Value} {xs : List (AS.It × Value)} {st st' : AS.St} {W0 r : List (List UInt8)} (h : LB N w wr vi vn xs st st' W0 r v) (hb : Below wr.heap.size wr w2) : LB N w w2 vi vn xs st st' W0 r v := by
  have hm : RM N wr w2 := RM.below hb (Nat.le_trans h.hN h.rm.size)
  exact ⟨(hb.block _ (lt_of_heap h.bx)).trans h.bx, (hb.block _ (lt_of_heap h.rb)).trans h.rb, h.rs.below hb, h.hN, h.rm.trans hm, h.tx.rm hm, h.sp, h.po, h.it, h.nm, h.wd⟩
/-- What stands at the end: the rows, the words, the answer's own block. -/
structure LZ (N : Nat) (w W : World) (vi vn v : Value) (xs : List (AS.It × Value)) (ns : List (List UInt8 × Nat)) (r : List (List UInt8)) (b : Nat) : Prop where
  rs : RS N W vi vn xs ns
  rm : RM N w W
  tx : TxR W v r
  hb : w.heap.size ≤ b ∧ N ≤ w.heap.size
  bk : ∃ c f, W.heap[b]? = some (.cells c 70 f)
theorem LZ.set {N : Nat} {w W : World} {vi vn v : Value} {xs : List (AS.It × Value)} {ns : List (List UInt8 × Nat)} {r : List (List UInt8)} {b o : Nat} {u : Value} (h : LZ N w W vi vn v xs ns r b) : LZ N w (W.setCell ⟨b, o, none⟩ u) vi vn v xs ns r b := by
  obtain ⟨c, f, hk⟩ := h.bk
  exact ⟨h.rs.off hk (by decide) _ _, h.rm.set h.hb.2 h.hb.1, h.tx.set hk (by decide), h.hb, ⟨_, _, heap_set hk⟩⟩
theorem LB.z {N : Nat} {w wr : World} {vi vn v : Value} {xs : List (AS.It × Value)} {st st' : AS.St} {W0 r : List (List UInt8)} (h : LB N w wr vi vn xs st st' W0 r v) : LZ N w wr vi vn v xs st'.names r (w.heap.size + 1) := ⟨h.rs, h.rm, h.tx, ⟨Nat.le_succ _, h.hN⟩, ⟨_, _, h.rb⟩⟩
theorem LB.stop {N : Nat} {w wr W : World} {vi vn v : Value} {xs : List (AS.It × Value)} {st st' : AS.St} {W0 r : List (List UInt8)} (h : LB N w wr vi vn xs st st' W0 r v) (hl : AS.labs st' r = (0, st', r)) (hz : LZ N w W vi vn v xs st'.names r (w.heap.size + 1)) :
    LabPost N w xs (AS.labs st W0) (.returned (.tuple #[.agg #[vi, vn, .int .i64 st.pos], v, .int .i64 0])) W := by
  rw [h.sp, hl]
  exact ⟨vi, vn, v, _, rfl, (by obtain ⟨a, c, e⟩ := own_form hz.rs.its; exact ⟨a, _, c, e⟩), (by obtain ⟨a, c, e⟩ := own_form hz.rs.nms; exact ⟨a, _, c, e⟩), hz.rm, fun _ => ⟨hz.rs, by rw [h.po], hz.tx⟩⟩
theorem LB.bad {N : Nat} {w wr W : World} {vi vn v : Value} {xs : List (AS.It × Value)} {st st' : AS.St} {W0 r : List (List UInt8)} {s : List UInt8} {r' : List (List UInt8)} {E : Int} (h : LB N w wr vi vn xs st st' W0 r v) (hr : r = s :: r') (hs : Lib.hasSuffix s [58] = true) (hE : AS.frE st'.names (Lib.trimSuffix s [58]) = E) (h0 : ¬ E = 0) (hz : LZ N w W vi vn v xs st'.names r (w.heap.size + 1)) :
    LabPost N w xs (AS.labs st W0) (.returned (.tuple #[.agg #[vi, vn, .int .i64 st.pos], v, .int .i64 E])) W := by
  rw [h.sp, hr, AS.labs_bad hs (by rw [hE]; exact h0), hE]
  exact ⟨vi, vn, v, _, rfl, (by obtain ⟨a, c, e⟩ := own_form hz.rs.its; exact ⟨a, _, c, e⟩), (by obtain ⟨a, c, e⟩ := own_form hz.rs.nms; exact ⟨a, _, c, e⟩), hz.rm, fun h => absurd h h0⟩
theorem LB.more {N : Nat} {w wr w1 : World} {vi vn vn' v v' : Value} {xs : List (AS.It × Value)} {st st' : AS.St} {W0 : List (List UInt8)} {s : List UInt8} {r' : List (List UInt8)} {o : Obj} (h : LB N w wr vi vn xs st st' W0 (s :: r') v) (hs : Lib.hasSuffix s [58] = true) (hE : AS.frE st'.names (Lib.trimSuffix s [58]) = 0) (hv' : TxR wr v' r') (hg : (wr.alloc o).grownBy w1 vn.ownBlock) (ho : w1.ownsRow N 57 2 vn' (st'.names.length + 1) (nmC st'.names ++ [NM.tv (Lib.trimSuffix s [58]), .int .u32 st.pos])) :
    w1.cell? ⟨w.heap.size, 1, none⟩ = some vn ∧ w1.frozen? ⟨w.heap.size, 1, none⟩ = false ∧ LB N w (w1.setCell ⟨w.heap.size, 1, none⟩ vn') vi vn' xs st { st' with names := st'.names ++ [(Lib.trimSuffix s [58], st'.pos)] } W0 r' v' := by
  have hal : Below wr.heap.size wr (wr.alloc o) := (Below.refl _ wr).alloc (Nat.le_refl _) o
  have hsz := h.rm.size
  obtain ⟨q1, q2⟩ := (h.rs.below hal).name (by have := h.hN; simp; omega) hg ho
  have hma : RM N wr w1 := (RM.below hal (Nat.le_trans h.hN hsz)).trans q2
  have b0 : w1.heap[w.heap.size]? = some (.cells #[vi, vn, .int .i64 st.pos] 70 (0, 0)) := (hma.kind _ _ _ _ h.bx (by decide) (by decide)).trans h.bx
  have b1 : w1.heap[w.heap.size + 1]? = some (.cells #[.slice none 0 0, .slice none 0 0, .int .i64 0] 70 (0, 0)) := (hma.kind _ _ _ _ h.rb (by decide) (by decide)).trans h.rb
  refine ⟨cell_of b0 (by simp), unfrozen b0, heap_set b0, (heap_other (by omega)).trans b1, ?_, h.hN, (h.rm.trans hma).set h.hN (Nat.le_refl _), (hv'.rm hma).set b0 (by decide), ?_, h.po, h.it, ?_, fun y hy => h.wd y (List.mem_cons_of_mem _ hy)⟩
  · have := q1.off b0 (by decide) 1 vn'
    rw [h.po]
    exact this
  · rw [h.sp, AS.labs_ok hs hE]
  · have := h.nm
    simp at this ⊢
    omega
end Go.Proofs.YtcnmnkgnaknpdaaGreatDoor
/-! RfE -/
namespace Go.Proofs.YtcnmnkgnaknpdaaGreatDoor
open Go.RowKit Go.Maps S02 S06 S07
theorem str_of {A : ByteArray} {x : List UInt8} (h : A.data.toList = x) : Value.string A = .string ⟨x.toArray⟩ := by subst h; rfl
set_option maxHeartbeats 4000000 in
theorem rlabels_any {N : Nat} {w : World} {vi vn v : Value} {xs : List (AS.It × Value)} {st : AS.St} {W : List (List UInt8)} (hN : N ≤ w.heap.size) (hr : RS N w vi vn xs st.names) (hv : TxR w v W) (hn : st.names.length + W.length ≤ 900000) (hw : ∀ y ∈ W, y ≠ [] ∧ y.length ≤ 200000) (hp : st.pos ≤ 16384) :
    Calls Tryz.prog 51 #[.agg #[vi, vn, .int .i64 st.pos], v] w (LabPost N w xs (AS.labs st W)) := by
  obtain ⟨i57, HI⟩ := info_parts name_info
  have HI := Lib.hid HI
  have HS := Lib.hid (LB.start hN hr hv hn hw)
  obtain ⟨ia, ic, rfl⟩ := own_form hr.its
  obtain ⟨na, nc, rfl⟩ := own_form hr.nms
  have hp' : (st.pos : Int) ≤ 16384 := by omega
  clear hr hv hn hw hN hp
  go_enter Tryz.func51, Tryz.ntmps51
  go_wp2
  go_loopw [1] (fun v wr => ∃ vn' st' r, Hid (LB N w wr (.slice ia xs.length ic) vn' xs st st' W r v)) (fun v _ => slen v)
  case atStart => exact ⟨_, st, W, HS⟩
  case round =>
    obtain ⟨vn', st', r, hR⟩ := hrel
    clear HS
    obtain ⟨na', nc', rfl⟩ := own_form hR.out.rs.nms
    have b0 := cell_of (o := 0) hR.out.bx rfl
    have b1 := cell_of (o := 1) hR.out.bx rfl
    have b2 := cell_of (o := 2) hR.out.bx rfl
    have bf := fun o => unfrozen (o := o) hR.out.bx
    have r0 := cell_of (o := 0) hR.out.rb rfl
    have r1 := cell_of (o := 1) hR.out.rb rfl
    have r2 := cell_of (o := 2) hR.out.rb rfl
    have rf := fun o => unfrozen (o := o) hR.out.rb
    cases r with
    | nil =>
      obtain ⟨a, c, hv⟩ := txr_len hR.out.tx
      rw [List.length_nil] at hv
      subst hv
      go_upto_region 1 with fail
      go_quiet (fail)
      go_wp2
      refine bodyPost_ret (v := .tuple #[.agg #[.slice ia xs.length ic, .slice na' st'.names.length nc', .int .i64 st.pos], .slice a 0 c, .int .i64 0]) (by simp [results, Tryz.results51, go_sem, r0, r1, r2]) rfl ?_
      exact hR.out.stop rfl (hR.out.below (below_drewN' wr _)).z.set.set.set
    | cons s r =>
      obtain ⟨g, o, c, hv⟩ := txr_form hR.out.tx (by simp)
      obtain ⟨m, hm⟩ : ∃ m, r.length = m := ⟨_, rfl⟩
      obtain ⟨S, hS, hS1, hS2⟩ := bt_of s
      subst hS1
      rw [List.length_cons, hm] at hv
      subst hv
      obtain ⟨hne, hsz⟩ := hR.out.wd _ (List.mem_cons_self)
      have hSz : S.size ≤ 200000 := by rw [hS2]; exact hsz
      have c0 : wr.cell? ⟨g, o, none⟩ = some (.string S) := by
        have := hR.out.tx.cellOf (by simp) 0 (by simp)
        rw [Nat.add_zero] at this
        rw [this]
        show some (Value.string ⟨S.data.toList.toArray⟩) = _
        rw [hS]
      have hq0 : 0 < S.size := by
        rcases Nat.eq_zero_or_pos S.size with h | h
        · exact absurd (List.eq_nil_of_length_eq_zero (hS2.symm.trans h)) hne
        · exact h
      have HSU := Lib.hid (AS.suf_one hne)
      have hmc : m + 1 ≤ c ∧ c ≤ maxLen := by
        rcases hR.out.tx with ⟨h, _⟩ | ⟨_, g', o', c', cs, fr, e, h1, h2, h3, h4⟩
        · cases h
        · injection e with e1 e2 e3
          subst e3
          rw [List.length_cons, hm] at h1
          exact ⟨h1, h2⟩
      unfold maxLen at hmc
      obtain ⟨hmc, hcm⟩ := hmc
      have hml : m ≤ 900000 := by have := hR.out.nm; simp at this; omega
      obtain ⟨q, hq⟩ : ∃ q, S.size = q + 1 := ⟨S.size - 1, by omega⟩
      have hq1 : (S.size : Int) - 1 = (q : Int) := by omega
      have hq2 : q < S.size := by omega
      have hq3 : (q : Int) < S.size := by omega
      have HG := Lib.hid (NM.getD_eq S q hq2)
      have HSL := Lib.hid (show S.data.toList.length - 1 = q by rw [← hS2]; omega)
      have HR := hR
      clear hR hne hsz hS hS2 hq0 hq hm
      by_cases hl : S[q] = 58
      · have hl' : ((S[q].toNat : Int) == 58) = true := by rw [hl]; rfl
        have HSF := Lib.hid (show Lib.hasSuffix S.data.toList [58] = true by rw [HSU.out, HSL.out, HG.out]; simpa using hl)
        have HTR := AS.trim_one HSF.out
        obtain ⟨T, hT⟩ : ∃ T, S.extract 0 q = T := ⟨_, rfl⟩
        have hT1 : T.data.toList = Lib.trimSuffix S.data.toList [58] := by
          rw [HTR, HSL.out, ← hT, ByteArray.data_extract, Array.toList_extract]
          simp [List.extract]
        have hT2 : T.size ≤ 1000000 := by rw [← hT]; simp; omega
        have HT1 := Lib.hid hT1
        have HIS := Lib.hid (fun W' => risName_any T W' hT2)
        rw [hT1] at HIS
        clear hl HTR hT1 HSU HSL HG
        go_upto_region 1 with fail
        go_quiet (fail)
        go_upto_region 2 with fail
        go_quiet (fail)
        generalize hW1 : World.drewN (World.drewN wr _) _ = W1
        have HR1 := Lib.hid (show LB N w W1 (.slice ia xs.length ic) (.slice na' st'.names.length nc') xs st st' W (S.data.toList :: r) (.slice (some ⟨g, o, none⟩) (m + 1) c) from hW1 ▸ HR.out.below ((below_drewN' wr _).trans (below_drewN' (wr.drewN _) _)))
        clear hW1 HR b0 b1 b2 bf r0 r1 r2 rf c0
        have b0 := cell_of (o := 0) HR1.out.bx rfl
        have b1 := cell_of (o := 1) HR1.out.bx rfl
        have b2 := cell_of (o := 2) HR1.out.bx rfl
        have bf := fun o => unfrozen (o := o) HR1.out.bx
        have r0 := cell_of (o := 0) HR1.out.rb rfl
        have r1 := cell_of (o := 1) HR1.out.rb rfl
        have r2 := cell_of (o := 2) HR1.out.rb rfl
        have rf := fun o => unfrozen (o := o) HR1.out.rb
        have hnl : st'.names.length ≤ 900000 := by have := HR1.out.nm; omega
        cases hn : AS.isNm (Lib.trimSuffix S.data.toList [58])
        · have HF := Lib.hid (show AS.frE st'.names (Lib.trimSuffix S.data.toList [58]) = 2 by unfold AS.frE; rw [hn]; rfl)
          rw [hn] at HIS
          clear hn
          go_wp2_with (go_at_call 97; refine (HIS.out _).mono ?_; rintro e w1 ⟨rfl, rfl⟩)
          refine bodyPost_ret (v := .tuple #[.agg #[.slice ia xs.length ic, .slice na' st'.names.length nc', .int .i64 st.pos], .slice (some ⟨g, o, none⟩) (m + 1) c, .int .i64 2]) (by simp [results, Tryz.results51, go_sem, r0, r1, r2]) rfl ?_
          exact HR1.out.bad rfl HSF.out HF.out (by decide) HR1.out.z.set.set.set
        · have HFD := Lib.hid (rfind_any T (NmR.of_own HR1.out.rs.nms) (by omega))
          rw [HT1.out] at HFD
          cases hf : AS.fnd st'.names (Lib.trimSuffix S.data.toList [58]) with
          | some u =>
            have HF := Lib.hid (show AS.frE st'.names (Lib.trimSuffix S.data.toList [58]) = 7 by unfold AS.frE; rw [hn, hf]; rfl)
            rw [hn] at HIS
            rw [hf] at HFD
            clear hn hf
            go_wp2_with (first | (go_at_call 97; refine (HIS.out _).mono ?_; rintro e w1 ⟨rfl, rfl⟩) | (go_at_call 28; refine HFD.out.mono ?_; rintro e w2 ⟨rfl, rfl⟩))
            refine bodyPost_ret (v := .tuple #[.agg #[.slice ia xs.length ic, .slice na' st'.names.length nc', .int .i64 st.pos], .slice (some ⟨g, o, none⟩) (m + 1) c, .int .i64 7]) (by simp [results, Tryz.results51, go_sem, r0, r1, r2]) rfl ?_
            exact HR1.out.bad rfl HSF.out HF.out (by decide) HR1.out.z.set.set.set
          | none =>
            have HF := Lib.hid (show AS.frE st'.names (Lib.trimSuffix S.data.toList [58]) = 0 by unfold AS.frE; rw [hn, hf]; rfl)
            rw [hn] at HIS
            rw [hf] at HFD
            clear hn hf
            have HTV := Lib.hid (show NM.tv (Lib.trimSuffix S.data.toList [58]) = .string T from (str_of HT1.out).symm)
            obtain ⟨o', ho', htl⟩ : ∃ o', (c = 1 ∧ m = 0 ∧ o' = o ∨ ¬ c = 1 ∧ o' = o + 1) ∧ TxR W1 (.slice (some ⟨g, o', none⟩) m (c - 1)) r := by
              have hm : r.length = m := by
                obtain ⟨a, c', e⟩ := txr_len HR1.out.tx
                injection e with _ e2 _
                simp at e2
                exact e2.symm
              by_cases hc1 : c = 1
              · have hm0 : m = 0 := by omega
                exact ⟨o, .inl ⟨hc1, hm0, rfl⟩, .inl ⟨List.length_eq_zero_iff.1 (hm.trans hm0), _, _, by rw [hm0]⟩⟩
              · exact ⟨o + 1, .inr ⟨hc1, rfl⟩, by have := HR1.out.tx.tail; rwa [hm] at this⟩
            have HTL := Lib.hid htl
            clear htl
            obtain ⟨n, hn⟩ : ∃ n, st'.names.length = n := ⟨_, rfl⟩
            have HNN := Lib.hid hn
            rw [hn] at hnl b1
            have HOW := Lib.hid (show W1.ownsRow N 57 2 (.slice na' n nc') n (nmC st'.names) from hn ▸ HR1.out.rs.nms)
            have HNB := Lib.hid (show N ≤ W1.heap.size from Nat.le_trans HR1.out.hN HR1.out.rm.size)
            rw [hn] at HFD
            go_upto_region 9 with (first | (go_at_call 97; refine (HIS.out _).mono ?_; rintro e w1 ⟨rfl, rfl⟩) | (go_at_call 28; refine HFD.out.mono ?_; rintro e w2 ⟨rfl, rfl⟩) | (at_builtin; refine wpList_append_lies _ rfl _ _ 27 rfl N 57 i57 (.agg #[.string ⟨#[]⟩, .int .u32 0]) 2 24 Tryz.underlying27 HI.out.1 HI.out.2.1 HI.out.2.2.1 HI.out.2.2.2 rfl (by decide) _ n (nmC st'.names) rfl (HOW.out.alloc _) ⟨_, 0, none⟩ 1 1 [.string T, .int .u32 st.pos] rfl rfl (two_new _ _ _ _) (two_one _ _) (by decide) (by unfold maxLen; omega) (by omega) (by have := HNB.out; simp; omega) _ rfl ?_))
            intro g' cap' w3 ho3 hg3 hv3 hl3
            obtain ⟨y1, y2, y3⟩ := HR1.out.more HSF.out HF.out HTL.out (o := .cells #[.string T, .int .u32 st.pos] 57) (by rw [hn]; exact hg3) (by rw [HNN.out, HTV.out]; exact ho3)
            have HY := Lib.hid y3
            clear y3 ho3 hg3 hv3 hl3 hn
            rw [HNN.out] at y1
            rcases ho' with ⟨rfl, rfl, rfl⟩ | ⟨hc1, rfl⟩
            · go_wp2
              go_roundw
              case rel => exact ⟨_, _, _, HY⟩
              case measure => simp [slen]
            · go_wp2
              go_roundw
              case rel => exact ⟨_, _, _, HY⟩
              case measure => simp [slen]
      · have hl' : ((S[q].toNat : Int) == 58) = false := by
          rw [beq_eq_false_iff_ne]
          intro e
          exact hl (UInt8.toNat_inj.1 (by have : S[q].toNat = 58 := by omega
                                          rw [this]; rfl))
        have HLA := Lib.hid (show AS.labs st' (S.data.toList :: r) = (0, st', S.data.toList :: r) from AS.labs_no (by rw [HSU.out, HSL.out, HG.out]; simpa using hl))
        clear hl
        go_upto_region 1 with fail
        go_quiet (fail)
        go_wp2
        refine bodyPost_ret (v := .tuple #[.agg #[.slice ia xs.length ic, .slice na' st'.names.length nc', .int .i64 st.pos], .slice (some ⟨g, o, none⟩) (m + 1) c, .int .i64 0]) (by simp [results, Tryz.results51, go_sem, r0, r1, r2]) rfl ?_
        exact HR.out.stop HLA.out (HR.out.below (below_drewN' wr _)).z.set.set.set
end Go.Proofs.YtcnmnkgnaknpdaaGreatDoor
