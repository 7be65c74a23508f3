/-
  What the reference's readings of a hexadecimal and of decimal digits answer at every text.
-/
import Derived.Test.YtfeekgepmemanaaDoorWalkA
import Derived.Test.YtfeekgepmemanaaDoorMathE
namespace Go.Proofs.YtfeekgepmemanaaDoor
open Go.RowKit
theorem ret_ib {k : IntKind} {a b : Int} {c d : Bool} (h : a = b) (h' : c = d) : Ending.returned (.tuple #[.int k a, .bool c]) = .returned (.tuple #[.int k b, .bool d]) := by rw [h, h']
set_option maxHeartbeats 1600000 in
theorem rhex_any (s : ByteArray) (w : World) (hs : s.size ≤ 1000000) :
    Calls Tryd.prog 29 #[.string s] w fun e w' => e = .returned (.tuple #[.int .i64 (NM.rhN s.data.toList), .bool (NM.rhB s.data.toList)]) ∧ w = w' := by
  have hdl := Lib.hid (NM.dlen s)
  by_cases h3 : (s.size : Int) < 3
  · have HO := Lib.hid (NM.rh_bad s.data.toList (by
      by_cases h2 : s.size ≤ 2
      · left
        apply Classical.byContradiction
        intro hh
        have hh : NM.vB 16 (s.data.toList.drop 2) = true := by simpa using hh
        exact (NM.vB_al hh).2 (List.length_eq_zero_iff.mp (by rw [hdl.out]; omega))
      · omega))
    go_enter Tryd.func29, Tryd.ntmps29
    go_wp2
    go_ret2
    exact ⟨ret_ib HO.out.2.symm HO.out.1.symm, rfl⟩
  · have h3' : decide ((s.size : Int) < 3) = false := by simp only [decide_eq_false_iff_not]; omega
    by_cases hx : 10 < (s.size : Int)
    · have HO := Lib.hid (NM.rh_bad s.data.toList (.inr (by rw [hdl.out]; omega)))
      go_enter Tryd.func29, Tryd.ntmps29
      go_wp2
      go_ret2
      exact ⟨ret_ib HO.out.2.symm HO.out.1.symm, rfl⟩
    · have hx' : decide (10 < (s.size : Int)) = false := by simp only [decide_eq_false_iff_not]; omega
      have hp0 : 0 < s.size := by omega
      have hp1 : 1 < s.size := by omega
      have HP := Lib.hid (NM.pre2 s hp1)
      by_cases a0 : (s[0].toNat : Int) = 48
      · by_cases a1 : (s[1].toNat : Int) = 120
        · have hpre := HP.out.mpr ⟨a0, a1⟩
          have HPR := Lib.hid hpre
          clear hpre
          go_enter Tryd.func29, Tryd.ntmps29
          go_wp2
          go_loop [4, 5] (fun n i => ∃ k : Nat, 2 ≤ k ∧ k ≤ s.size ∧ i = .int .i64 k ∧ Hid (NM.al 16 ((s.data.toList.drop 2).take (k - 2)) = true) ∧ n = .int .i64 (NM.val 16 ((s.data.toList.drop 2).take (k - 2)))) (fun _ i => s.size - (intOf i).toNat)
          case atStart => exact ⟨2, by omega, by omega, rfl, Lib.hid rfl, rfl⟩
          case round =>
            obtain ⟨k, hk2, hk, rfl, hal, rfl⟩ := hrel
            have hvl := NM.val16_lt _ hal.out (Nat.le_trans (List.length_take_le _ _) (by omega))
            by_cases hlt : k < s.size
            · have HT := Lib.hid (NM.dtake s k hk2 hlt)
              by_cases hd : NM.dv s[k] < 16
              · have HV := Lib.hid (NM.rvl_yes _ hd)
                have HN := Lib.hid (show NM.al 16 ((s.data.toList.drop 2).take (k + 1 - 2)) = true ∧ NM.val 16 ((s.data.toList.drop 2).take (k + 1 - 2)) = NM.val 16 ((s.data.toList.drop 2).take (k - 2)) * 16 + NM.dv s[k] by
                  rw [HT.out, NM.al_snoc, NM.val_snoc, hal.out]; exact ⟨by simpa using hd, rfl⟩)
                generalize NM.val 16 ((s.data.toList.drop 2).take (k - 2)) = v at *
                go_wp2_with (go_at_call 45; refine (rvalue_any _ _).mono ?_; rw [HV.out]; rintro e w' ⟨rfl, rfl⟩)
                go_round
                case rel => exact ⟨k + 1, by omega, by omega, by go_num, Lib.hid HN.out.1, by rw [HN.out.2]; go_num⟩
                case measure => simp [intOf]; omega
              · have HV := Lib.hid (NM.rvl_no _ hd)
                have HO := Lib.hid (NM.rh_bad s.data.toList (.inl (NM.al_dbad 16 s k hk2 hlt (by omega))))
                go_wp2_with (go_at_call 45; refine (rvalue_any _ _).mono ?_; rw [HV.out]; rintro e w' ⟨rfl, rfl⟩)
                go_ret2
                exact ⟨ret_ib HO.out.2.symm HO.out.1.symm, rfl⟩
            · obtain rfl : k = s.size := by omega
              have hal' := hal.out
              rw [NM.dtake_all s (by omega)] at hal'
              have HO := Lib.hid (NM.rh_ok s.data.toList HPR.out (NM.vB_of _ _ hal' (by intro e; have := congrArg List.length e; rw [hdl.out] at this; simp at this; omega)) (by rw [hdl.out]; omega))
              clear hal'
              go_wp2
              go_ret2
              exact ⟨ret_ib (by rw [HO.out.2, NM.dtake_all s (by omega)]) HO.out.1.symm, rfl⟩
        · have HO := Lib.hid (NM.rh_pre s.data.toList (by rw [← Bool.not_eq_true]; exact fun h => a1 (HP.out.mp h).2))
          go_enter Tryd.func29, Tryd.ntmps29
          go_wp2
          go_ret2
          exact ⟨ret_ib HO.out.2.symm HO.out.1.symm, rfl⟩
      · have HO := Lib.hid (NM.rh_pre s.data.toList (by rw [← Bool.not_eq_true]; exact fun h => a0 (HP.out.mp h).1))
        go_enter Tryd.func29, Tryd.ntmps29
        go_wp2
        go_ret2
        exact ⟨ret_ib HO.out.2.symm HO.out.1.symm, rfl⟩
end Go.Proofs.YtfeekgepmemanaaDoor
