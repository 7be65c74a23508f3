/-
  What the reference's Parse answers at every text of at most 1,000,000 bytes: the same number and the same error.
-/
import Derived.Test.YtfeekgepmemanaaDoorWalkJ
import Derived.Test.YtfeekgepmemanaaDoorWalkC
namespace Go.Proofs.YtfeekgepmemanaaDoor
open Go.RowKit
theorem quo_no (v d : Nat) (h : v * 10 + d ≤ 9223372036854775808) (hd : d < 10) : ¬ (-(v : Int) < (-9223372036854775808 + (d : Int)).tdiv 10) := by
  have e : (-9223372036854775808 + (d : Int)).tdiv 10 = -(((9223372036854775808 - d) / 10 : Nat) : Int) := by
    rw [show (-9223372036854775808 + (d : Int)) = -((9223372036854775808 - d : Nat) : Int) by omega, Int.neg_tdiv]
    rfl
  rw [e]
  omega
theorem quo_yes (v d : Nat) (h : ¬ v * 10 + d ≤ 9223372036854775808) (hd : d < 10) : -(v : Int) < (-9223372036854775808 + (d : Int)).tdiv 10 := by
  have e : (-9223372036854775808 + (d : Int)).tdiv 10 = -(((9223372036854775808 - d) / 10 : Nat) : Int) := by
    rw [show (-9223372036854775808 + (d : Int)) = -((9223372036854775808 - d : Nat) : Int) by omega, Int.neg_tdiv]
    rfl
  rw [e]
  omega
theorem quo_no' (v d : Nat) (c : Int) (hc : (d : Int) = c - 48) (h : v * 10 + d ≤ 9223372036854775808) (hd : d < 10) : decide (-(v : Int) < (-9223372036854775808 + (c - 48)).tdiv 10) = false := by
  rw [← hc]
  simpa using quo_no v d h hd
theorem quo_yes' (v d : Nat) (c : Int) (hc : (d : Int) = c - 48) (h : ¬ v * 10 + d ≤ 9223372036854775808) (hd : d < 10) : decide (-(v : Int) < (-9223372036854775808 + (c - 48)).tdiv 10) = true := by
  rw [← hc]
  simpa using quo_yes v d h hd
theorem step_neg (v d : Nat) (c : Int) (hc : (d : Int) = c - 48) (h : v * 10 + d ≤ 9223372036854775808) : wrap64 (10 * -(v : Int) - (c - 48)) = -((v * 10 + d : Nat) : Int) := by
  rw [← hc]
  unfold wrap64
  omega
set_option maxHeartbeats 1600000 in
theorem rparse_plus (s : ByteArray) (w : World) (hs : s.size ≤ 1000000) (hr : NM.rhB s.data.toList = false) (hm : Lib.hasPrefix s.data.toList [45] = false) :
    Calls Tryd.prog 15 #[.string s] w fun e w' => e = .returned (.tuple #[.int .i64 (NM.pN s.data.toList), .int .i64 (NM.pE s.data.toList)]) ∧ w = w' := by
  have hlen := Lib.hid (NM.len_eq s)
  have HP := Lib.hid (show NM.pE s.data.toList = NM.pdE s.data.toList false ∧ NM.pN s.data.toList = NM.pdN s.data.toList false by
    have := NM.p_dec s hr
    rw [NM.trim_plus s hm, hm] at this
    exact this)
  have hd0 : s.size = 0 ∨ ∃ h : 0 < s.size, ¬ (s[0].toNat : Int) = 45 := by
    by_cases h0 : s.size = 0
    · exact .inl h0
    · refine .inr ⟨by omega, fun h => ?_⟩
      rw [(NM.pre1 s (by omega)).mpr h] at hm
      cases hm
  by_cases hdb : NM.db s.data.toList = true
  · obtain ⟨hv, hz⟩ := NM.db_open _ hdb
    have hp : 0 < s.size := NM.pos_of s 10 hv
    have h45 : ¬ (s[0].toNat : Int) = 45 := by
      rcases hd0 with h | ⟨_, h⟩
      · omega
      · exact h
    have HZ := Lib.hid (show ¬ (s.data.toList.head? = some 48 ∧ (false = true ∨ 1 < s.data.toList.length)) from fun h => hz ⟨h.1, h.2.elim (fun h => by cases h) id⟩)
    have HV := Lib.hid hv
    have HA := Lib.hid (NM.vB_al hv).1
    clear hz hv hd0 hm
    by_cases h19 : 19 < (s.size : Int)
    · have HO := Lib.hid (NM.pd_long s.data.toList false HV.out HZ.out (.inl (by rw [hlen.out]; omega)))
      go_enter Tryd.func15, Tryd.ntmps15
      go_wp2_with (first
        | (go_at_call 29; refine (rhex_any _ _ hs).mono ?_; rw [hr]; rintro e w' ⟨rfl, rfl⟩)
        | (go_at_call 30; refine (rdecimal_any _ _ hs).mono ?_; rw [hdb]; rintro e w' ⟨rfl, rfl⟩))
      go_ret2
      exact ⟨ret_two (by rw [HP.out.2, HO.out.2]) (by rw [HP.out.1, HO.out.1]), rfl⟩
    · have h19' : decide (19 < (s.size : Int)) = false := by simp only [decide_eq_false_iff_not]; omega
      go_enter Tryd.func15, Tryd.ntmps15
      go_wp2_with (first
        | (go_at_call 29; refine (rhex_any _ _ hs).mono ?_; rw [hr]; rintro e w' ⟨rfl, rfl⟩)
        | (go_at_call 30; refine (rdecimal_any _ _ hs).mono ?_; rw [hdb]; rintro e w' ⟨rfl, rfl⟩))
      go_loop [8, 9] (fun n i => ∃ k v : Nat, k ≤ s.size ∧ i = .int .i64 k ∧ Hid (v = NM.val 10 (s.data.toList.take k)) ∧ v ≤ 9223372036854775808 ∧ n = .int .i64 (-(v : Int))) (fun _ i => s.size - (intOf i).toNat)
      case atStart => exact ⟨0, 0, by omega, rfl, Lib.hid rfl, by omega, rfl⟩
      case round =>
        obtain ⟨k, v, hk, rfl, hv, hvb, rfl⟩ := hrel
        by_cases hlt : k < s.size
        · have hdk := NM.al_at 10 s k hlt HA.out
          obtain ⟨hd1, hd2, hd3⟩ := NM.dv_dec _ hdk
          have HD := Lib.hid hd1
          clear hd1
          by_cases hov : v * 10 + NM.dv s[k] ≤ 9223372036854775808
          · have hq := quo_no' v _ _ HD.out hov hdk
            have HN := Lib.hid (show v * 10 + NM.dv s[k] = NM.val 10 (s.data.toList.take (k + 1)) by rw [NM.take_snoc s k hlt, NM.val_snoc, hv.out])
            go_wp2
            go_round
            case rel => exact ⟨k + 1, v * 10 + NM.dv s[k], by omega, by go_num, HN, hov, by rw [step_neg v _ _ HD.out hov]⟩
            case measure => simp [intOf]; omega
          · have hq := quo_yes' v _ _ HD.out hov hdk
            have HO := Lib.hid (NM.pd_long s.data.toList false HV.out HZ.out (.inr (by
              have h1 := NM.val_take 10 (by omega) s.data.toList (k + 1)
              rw [NM.take_snoc s k hlt, NM.val_snoc, ← hv.out] at h1
              simp only [NM.lim]
              simp
              omega)))
            go_wp2
            go_ret2
            exact ⟨ret_two (by rw [HP.out.2, HO.out.2]) (by rw [HP.out.1, HO.out.1]), rfl⟩
        · have hv' := hv.out
          rw [NM.take_all s k (by omega)] at hv'
          by_cases hmx : v = 9223372036854775808
          · have HO := Lib.hid (NM.pd_long s.data.toList false HV.out HZ.out (.inr (by rw [← hv', hmx]; decide)))
            have hq : (-(v : Int) == -9223372036854775808) = true := by rw [hmx]; decide
            clear hv' hmx
            go_wp2
            go_ret2
            exact ⟨ret_two (by rw [HP.out.2, HO.out.2]) (by rw [HP.out.1, HO.out.1]), rfl⟩
          · have HO := Lib.hid (NM.pd_ok s.data.toList false HV.out HZ.out (by rw [hlen.out]; omega) (by rw [← hv']; simp [NM.lim]; omega))
            have HV' := Lib.hid hv'
            have hq : (-(v : Int) == -9223372036854775808) = false := by simp; omega
            have hvb2 : v ≤ 9223372036854775807 := by omega
            clear hv'
            go_wp2
            go_ret2
            exact ⟨ret_two (by rw [HP.out.2, HO.out.2, ← HV'.out]; simp) (by rw [HP.out.1, HO.out.1]), rfl⟩
  · have hdb : NM.db s.data.toList = false := by simpa using hdb
    have HO := Lib.hid (NM.pd_db s.data.toList false hdb)
    rcases hd0 with h0 | ⟨h0, h45⟩
    · have hz : decide (0 < (s.size : Int)) = false := by simp only [decide_eq_false_iff_not]; omega
      have hz' : decide (0 < s.size) = false := by simp only [decide_eq_false_iff_not]; omega
      clear h0
      go_enter Tryd.func15, Tryd.ntmps15
      go_wp2_with (first
        | (go_at_call 29; refine (rhex_any _ _ hs).mono ?_; rw [hr]; rintro e w' ⟨rfl, rfl⟩)
        | (go_at_call 30; refine (rdecimal_any _ _ hs).mono ?_; rw [hdb]; rintro e w' ⟨rfl, rfl⟩))
      go_ret2
      exact ⟨ret_two (by rw [HP.out.2, HO.out.2]) (by rw [HP.out.1, HO.out.1]), rfl⟩
    · go_enter Tryd.func15, Tryd.ntmps15
      go_wp2_with (first
        | (go_at_call 29; refine (rhex_any _ _ hs).mono ?_; rw [hr]; rintro e w' ⟨rfl, rfl⟩)
        | (go_at_call 30; refine (rdecimal_any _ _ hs).mono ?_; rw [hdb]; rintro e w' ⟨rfl, rfl⟩))
      go_ret2
      exact ⟨ret_two (by rw [HP.out.2, HO.out.2]) (by rw [HP.out.1, HO.out.1]), rfl⟩
set_option maxHeartbeats 1600000 in
theorem rparse_minus (s : ByteArray) (w : World) (hs : s.size ≤ 1000000) (hr : NM.rhB s.data.toList = false) (hm : Lib.hasPrefix s.data.toList [45] = true) :
    Calls Tryd.prog 15 #[.string s] w fun e w' => e = .returned (.tuple #[.int .i64 (NM.pN s.data.toList), .int .i64 (NM.pE s.data.toList)]) ∧ w = w' := by
  have hp : 0 < s.size := by
    apply Classical.byContradiction
    intro h
    rw [NM.pre1_empty s (by omega)] at hm
    cases hm
  have h45 := (NM.pre1 s hp).mp hm
  have hpi : 0 < (s.size : Int) := by omega
  obtain ⟨d, hx⟩ : ∃ d, s.extract 1 s.size = d := ⟨_, rfl⟩
  have hds : d.size ≤ 1000000 := by rw [← hx, ByteArray.size_extract]; omega
  have hlen := Lib.hid (NM.len_eq d)
  have HP := Lib.hid (show NM.pE s.data.toList = NM.pdE d.data.toList true ∧ NM.pN s.data.toList = NM.pdN d.data.toList true by
    have := NM.p_dec s hr
    rw [NM.trim_minus s hm, hm, hx] at this
    exact this)
  have HX := Lib.hid hx
  clear hx hm
  by_cases hdb : NM.db d.data.toList = true
  · obtain ⟨hv, hz⟩ := NM.db_open _ hdb
    have hp : 0 < d.size := NM.pos_of d 10 hv
    by_cases h48 : d.data.toList.head? = some 48
    · have HO := Lib.hid (NM.pd_zero d.data.toList true h48 (.inl rfl))
      have e48 : d.toList = [48] := by
        rw [ByteArray.toList_eq]
        have hl : ¬ 1 < d.data.toList.length := fun h => hz ⟨h48, h⟩
        generalize d.data.toList = l at *
        match l, h48, hl with
        | [a], h48, _ => simpa using h48
        | a :: b :: t, _, hl => simp at hl
      go_enter Tryd.func15, Tryd.ntmps15
      go_wp2_with (first
        | (go_at_call 29; refine (rhex_any _ _ hs).mono ?_; rw [hr]; rintro e w' ⟨rfl, rfl⟩)
        | (go_at_call 30; rw [HX.out]; refine (rdecimal_any d _ (by omega)).mono ?_; rw [hdb]; rintro e w' ⟨rfl, rfl⟩))
      go_ret2
      exact ⟨ret_two (by rw [HP.out.2, HO.out.2]) (by rw [HP.out.1, HO.out.1]), rfl⟩
    · have HZ := Lib.hid (show ¬ (d.data.toList.head? = some 48 ∧ (true = true ∨ 1 < d.data.toList.length)) from fun h => h48 h.1)
      have HV := Lib.hid hv
      have HA := Lib.hid (NM.vB_al hv).1
      have n48 : ¬ d.toList = [48] := by
        rw [ByteArray.toList_eq]
        intro h
        rw [h] at h48
        exact h48 rfl
      have n48' : (d.toList == [48]) = false := by simpa using n48
      clear hz hv h48
      by_cases h19 : 19 < (d.size : Int)
      · have HO := Lib.hid (NM.pd_long d.data.toList true HV.out HZ.out (.inl (by rw [hlen.out]; omega)))
        go_enter Tryd.func15, Tryd.ntmps15
        go_wp2_with (first
          | (go_at_call 29; refine (rhex_any _ _ hs).mono ?_; rw [hr]; rintro e w' ⟨rfl, rfl⟩)
          | (go_at_call 30; rw [HX.out]; refine (rdecimal_any d _ (by omega)).mono ?_; rw [hdb]; rintro e w' ⟨rfl, rfl⟩))
        go_ret2
        exact ⟨ret_two (by rw [HP.out.2, HO.out.2]) (by rw [HP.out.1, HO.out.1]), rfl⟩
      · have h19' : decide (19 < (d.size : Int)) = false := by simp only [decide_eq_false_iff_not]; omega
        go_enter Tryd.func15, Tryd.ntmps15
        go_wp2_with (first
          | (go_at_call 29; refine (rhex_any _ _ hs).mono ?_; rw [hr]; rintro e w' ⟨rfl, rfl⟩)
          | (go_at_call 30; rw [HX.out]; refine (rdecimal_any d _ (by omega)).mono ?_; rw [hdb]; rintro e w' ⟨rfl, rfl⟩))
        go_loop [8, 9] (fun n i => ∃ k v : Nat, k ≤ d.size ∧ i = .int .i64 k ∧ Hid (v = NM.val 10 (d.data.toList.take k)) ∧ v ≤ 9223372036854775808 ∧ n = .int .i64 (-(v : Int))) (fun _ i => d.size - (intOf i).toNat)
        case atStart => exact ⟨0, 0, by omega, rfl, Lib.hid rfl, by omega, rfl⟩
        case round =>
          obtain ⟨k, v, hk, rfl, hv, hvb, rfl⟩ := hrel
          by_cases hlt : k < d.size
          · have hdk := NM.al_at 10 d k hlt HA.out
            obtain ⟨hd1, hd2, hd3⟩ := NM.dv_dec _ hdk
            have HD := Lib.hid hd1
            clear hd1
            by_cases hov : v * 10 + NM.dv d[k] ≤ 9223372036854775808
            · have hq := quo_no' v _ _ HD.out hov hdk
              have HN := Lib.hid (show v * 10 + NM.dv d[k] = NM.val 10 (d.data.toList.take (k + 1)) by rw [NM.take_snoc d k hlt, NM.val_snoc, hv.out])
              go_wp2
              go_round
              case rel => exact ⟨k + 1, v * 10 + NM.dv d[k], by omega, by go_num, HN, hov, by rw [step_neg v _ _ HD.out hov]⟩
              case measure => simp [intOf]; omega
            · have hq := quo_yes' v _ _ HD.out hov hdk
              have HO := Lib.hid (NM.pd_long d.data.toList true HV.out (by simpa using HZ.out) (.inr (by
                have h1 := NM.val_take 10 (by omega) d.data.toList (k + 1)
                rw [NM.take_snoc d k hlt, NM.val_snoc, ← hv.out] at h1
                simp only [NM.lim]
                simp
                omega)))
              go_wp2
              go_ret2
              exact ⟨ret_two (by rw [HP.out.2, HO.out.2]) (by rw [HP.out.1, HO.out.1]), rfl⟩
          · have hv' := hv.out
            rw [NM.take_all d k (by omega)] at hv'
            have HO := Lib.hid (NM.pd_ok d.data.toList true HV.out (by simpa using HZ.out) (by rw [hlen.out]; omega) (by rw [← hv']; simp [NM.lim]; omega))
            have HV' := Lib.hid hv'
            clear hv'
            go_wp2
            go_ret2
            exact ⟨ret_two (by rw [HP.out.2, HO.out.2, ← HV'.out]; simp) (by rw [HP.out.1, HO.out.1]), rfl⟩
  · have hdb : NM.db d.data.toList = false := by simpa using hdb
    have HO := Lib.hid (NM.pd_db d.data.toList true hdb)
    go_enter Tryd.func15, Tryd.ntmps15
    go_wp2_with (first
      | (go_at_call 29; refine (rhex_any _ _ hs).mono ?_; rw [hr]; rintro e w' ⟨rfl, rfl⟩)
      | (go_at_call 30; rw [HX.out]; refine (rdecimal_any d _ (by omega)).mono ?_; rw [hdb]; rintro e w' ⟨rfl, rfl⟩))
    go_ret2
    exact ⟨ret_two (by rw [HP.out.2, HO.out.2]) (by rw [HP.out.1, HO.out.1]), rfl⟩
theorem rparse_any (s : ByteArray) (w : World) (hs : s.size ≤ 1000000) :
    Calls Tryd.prog 15 #[.string s] w fun e w' => e = .returned (.tuple #[.int .i64 (NM.pN s.data.toList), .int .i64 (NM.pE s.data.toList)]) ∧ w = w' := by
  cases hr : NM.rhB s.data.toList
  · cases hm : Lib.hasPrefix s.data.toList [45]
    · exact rparse_plus s w hs hr hm
    · exact rparse_minus s w hs hr hm
  · have HP := Lib.hid (NM.p_hex _ hr)
    go_enter Tryd.func15, Tryd.ntmps15
    go_wp2_with (go_at_call 29; refine (rhex_any _ _ hs).mono ?_; rw [hr]; rintro e w' ⟨rfl, rfl⟩)
    go_ret2
    exact ⟨ret_two (by rw [HP.out.2]) (by rw [HP.out.1]), rfl⟩
end Go.Proofs.YtfeekgepmemanaaDoor
