/-
  What the reference's Lines answers at every text: a row of the same lines, and the same error.
-/
import Derived.Test.YtfeekgepmemanaaDoorWalkG
namespace Go.Proofs.YtfeekgepmemanaaDoor
open Go.RowKit
theorem Row.fresh {w wr : World} (h : Below w.heap.size w wr) : Row w (wr.alloc (.cells #[] 9)) (.slice (some ⟨wr.heap.size, 0, none⟩) 0 0) [] :=
  ⟨World.ownsRow_lit wr #[] 0 h.size (by unfold maxLen; omega) rfl, h.alloc h.size _⟩
set_option maxHeartbeats 3200000 in
theorem rlines_any (s : ByteArray) (w : World) (hs : s.size ≤ 1000000) :
    Calls Tryd.prog 20 #[.string s] w (RowE w (NM.lL s.data.toList) (NM.lE s.data.toList)) := by
  obtain ⟨i0, HI⟩ := info_parts str_info
  have HI := Lib.hid HI
  have hlen := Lib.hid (NM.len_eq s)
  go_enter Tryd.func20, Tryd.ntmps20
  go_wp2
  go_loop [4, 5] (fun n i => ∃ k : Nat, k ≤ s.size ∧ i = .int .i64 k ∧ n = .int .i64 (Lib.countByte (s.data.toList.take k) 10)) (fun _ i => s.size - (intOf i).toNat)
  case atStart => exact ⟨0, by omega, rfl, by simp [Lib.countByte]⟩
  case round =>
    obtain ⟨k, hk, rfl, rfl⟩ := hrel
    have hcl := NM.count_le s.data.toList k
    by_cases hlt : k < s.size
    · have HC := Lib.hid (NM.count_snoc s k hlt)
      by_cases h10 : (s[k].toNat : Int) = 10
      · go_wp2
        go_round
        case rel => exact ⟨k + 1, by omega, by go_num, by rw [HC.out, if_pos h10]; go_num⟩
        case measure => simp [intOf]; omega
      · go_wp2
        go_round
        case rel => exact ⟨k + 1, by omega, by go_num, by rw [HC.out, if_neg h10]; go_num⟩
        case measure => simp [intOf]; omega
    · rw [NM.take_all s k (by omega)]
      rw [NM.take_all s k (by omega)] at hcl
      generalize hcn : Lib.countByte s.data.toList 10 = c at *
      have HCN := Lib.hid hcn
      clear hcn
      by_cases hL : 65536 < (s.size : Int)
      · have HO := Lib.hid (NM.l_long s.data.toList (.inl (by rw [hlen.out]; omega)))
        go_wp2
        go_ret2
        exact RowE.mk (Row.start w) HO.out.2 HO.out.1
      · have hL' : decide (65536 < (s.size : Int)) = false := by simp only [decide_eq_false_iff_not]; omega
        by_cases hC : 4096 < (c : Int)
        · have HO := Lib.hid (NM.l_long s.data.toList (.inr (by rw [HCN.out]; omega)))
          go_wp2
          go_ret2
          exact RowE.mk (Row.start w) HO.out.2 HO.out.1
        · have hC' : decide (4096 < (c : Int)) = false := by simp only [decide_eq_false_iff_not]; omega
          have HC := Lib.hid (show ¬ (65536 < s.data.toList.length ∨ 4096 < Lib.countByte s.data.toList 10) by rw [hlen.out, HCN.out]; omega)
          by_cases h0 : s.size = 0
          · have hz : decide (0 < (s.size : Int)) = false := by simp only [decide_eq_false_iff_not]; omega
            have hz' : decide (0 < s.size) = false := by simp only [decide_eq_false_iff_not]; omega
            have hd : s.data.toList = [] := List.length_eq_zero_iff.mp (by rw [hlen.out]; exact h0)
            have HB := Lib.hid (NM.l_ok _ HC.out (by rw [hd]; rfl) (by rw [hd]; decide))
            have HE := Lib.hid (show (NM.ln s.data.toList s.data.toList.length).1 = [] by rw [hd]; rfl)
            have hle : s.size ≤ 0 := by omega
            clear hd h0
            go_wp2
            refine wp_loop_rounds 1 ?_
            rw [rounds_succ]
            go_wp2
            go_ret2
            exact RowE.mk (Row.start w) (by rw [HB.out.2, HE.out]) HB.out.1
          · have hp : 0 < s.size := by omega
            have hp1 : 0 < (s.size : Int) := by omega
            have hb : 1 ≤ (s.size : Int) ∧ (s.size : Int) - 1 < s.size := by omega
            have HLL := Lib.hid (NM.ln_last' s hp)
            by_cases hl10 : (s[s.size - 1].toNat : Int) = 10
            · have hl' : ((s[s.size - 1].toNat : Int) != 10) = false := by rw [hl10]; rfl
              have HLA := Lib.hid (show ¬ (NM.ln s.data.toList s.size).2 < s.size from fun h => HLL.out.mp h hl10)
              clear h0 hl10
              go_wp2
              go_loopw [6, 7, 8] (fun v f i wr => ∃ (k fr : Nat) (acc : List (List UInt8)), k ≤ s.size ∧ fr ≤ k ∧ acc.length ≤ k ∧ Hid (NM.aok (s.data.toList.take k) = true ∧ NM.ln s.data.toList k = (acc, fr)) ∧ f = .int .i64 fr ∧ i = .int .i64 k ∧ Hid (Row w wr v acc)) (fun _ _ i _ => s.size - (intOf i).toNat)
              case atStart =>
                exact ⟨0, 0, [], by omega, by omega, by simp, Lib.hid ⟨rfl, rfl⟩, rfl, rfl, Row.start w⟩
              case round =>
                obtain ⟨k, fr, acc, hk, hfr, hacc, hln, rfl, rfl, hrow⟩ := hrel
                by_cases hlt : k < s.size
                · by_cases h10 : (s[k].toNat : Int) = 10
                  · have HW := Lib.hid (show NM.aok (s.data.toList.take (k + 1)) = true ∧ NM.ln s.data.toList (k + 1) = (acc ++ [NM.sl s.data.toList fr k], k + 1) from
                      ⟨by rw [NM.take_snoc s k hlt, NM.aok_snoc, hln.out.1, (NM.okb_lf _ h10).1]; rfl, by rw [NM.ln_cut _ _ (by rw [NM.getD_eq s k hlt]; exact (NM.okb_lf _ h10).2), hln.out.2]⟩)
                    go_wp2_with (first
                      | (at_builtin; refine wpList_append_own _ rfl _ _ 34 rfl w.heap.size 9 i0 (.string ⟨#[]⟩) 1 16 Tryd.underlying34 HI.out.1 HI.out.2.1 HI.out.2.2.1 HI.out.2.2.2 rfl (by decide) _ _ _ rfl (hrow.out.1.alloc _) ⟨_, 0, none⟩ 1 1 [.string (s.extract fr k)] rfl rfl (new_cell _ _ _) (one_str _) (by unfold maxLen; omega) (by omega) (by have := hrow.out.2.size; simp; omega) ?_))
                    intro v' w1 hown hgrow _
                    have HR := Lib.hid (hrow.out.app (NM.tv_extract s fr k) hown hgrow)
                    clear hown hgrow
                    go_wp2
                    go_roundw
                    case rel => exact ⟨k + 1, k + 1, _, by omega, by omega, by rw [List.length_append, List.length_singleton]; omega, HW, by go_num, by go_num, HR⟩
                    case measure => simp [intOf]; omega
                  · have HW := Lib.hid (show NM.okb s[k] = true → NM.aok (s.data.toList.take (k + 1)) = true ∧ NM.ln s.data.toList (k + 1) = (acc, fr) from
                      fun h => ⟨by rw [NM.take_snoc s k hlt, NM.aok_snoc, hln.out.1, h]; rfl, by rw [NM.ln_no _ _ (by rw [NM.getD_eq s k hlt]; exact (NM.okb_not _ h10).2), hln.out.2]⟩)
                    have HB := Lib.hid (fun h => NM.l_bad _ HC.out (.inl (NM.aok_bad s k hlt h)))
                    have hn10 : ((s[k].toNat : Int) != 10) = true := by simpa using h10
                    have hq10 : ((s[k].toNat : Int) == 10) = false := by simpa using h10
                    by_cases h9 : (s[k].toNat : Int) = 9
                    · have HO := Lib.hid (HW.out (NM.okb_tab _ h9).1)
                      go_wp2
                      go_roundw
                      case rel => exact ⟨k + 1, fr, acc, by omega, by omega, by omega, HO, rfl, by go_num, hrow⟩
                      case measure => simp [intOf]; omega
                    · have hn9 : ((s[k].toNat : Int) != 9) = true := by simpa using h9
                      by_cases h32 : (s[k].toNat : Int) < 32
                      · have HO := Lib.hid (HB.out (NM.okb_out _ h10 h9 (.inl h32)))
                        go_wp2
                        go_ret2
                        exact RowE.mk (Row.fresh hrow.out.2) HO.out.2 HO.out.1
                      · by_cases h126 : 126 < (s[k].toNat : Int)
                        · have HO := Lib.hid (HB.out (NM.okb_out _ h10 h9 (.inr h126)))
                          have h32' : decide ((s[k].toNat : Int) < 32) = false := by simp only [decide_eq_false_iff_not]; omega
                          go_wp2
                          go_ret2
                          exact RowE.mk (Row.fresh hrow.out.2) HO.out.2 HO.out.1
                        · have HO := Lib.hid (HW.out (NM.okb_in _ h10 (by omega) (by omega)).1)
                          have h32' : decide ((s[k].toNat : Int) < 32) = false := by simp only [decide_eq_false_iff_not]; omega
                          have h126' : decide (126 < (s[k].toNat : Int)) = false := by simp only [decide_eq_false_iff_not]; omega
                          go_wp2
                          go_roundw
                          case rel => exact ⟨k + 1, fr, acc, by omega, by omega, by omega, HO, rfl, by go_num, hrow⟩
                          case measure => simp [intOf]; omega
                · obtain rfl : k = s.size := by omega
                  have hok := hln.out.1
                  rw [NM.take_all s _ (Nat.le_refl _)] at hok
                  have HB := Lib.hid (NM.l_ok _ HC.out hok (by rw [hlen.out]; exact HLA.out))
                  have HE := Lib.hid (show (NM.ln s.data.toList s.data.toList.length).1 = acc by rw [hlen.out, hln.out.2])
                  clear hok
                  go_wp2
                  go_ret2
                  exact RowE.mk hrow.out (by rw [HB.out.2, HE.out]) HB.out.1
            · have hl' : ((s[s.size - 1].toNat : Int) != 10) = true := by simpa using hl10
              have HO := Lib.hid (NM.l_bad _ HC.out (.inr (by rw [hlen.out]; exact HLL.out.mpr hl10)))
              go_wp2
              go_ret2
              exact RowE.mk (Row.start w) HO.out.2 HO.out.1
end Go.Proofs.YtfeekgepmemanaaDoor
