/-
  What the reference's Words answers at every text: a row of the same words.
-/
import Derived.Test.YtfeekgepmemanaaDoorWalkD
namespace Go.Proofs.YtfeekgepmemanaaDoor
open Go.RowKit
theorem Row.start (w : World) : Row w (w.alloc (.cells #[] 9)) (.slice (some ⟨w.heap.size, 0, none⟩) 0 0) [] :=
  ⟨World.ownsRow_lit w #[] 0 (Nat.le_refl _) (by unfold maxLen; omega) rfl, (Below.refl _ w).alloc (Nat.le_refl _) _⟩
set_option maxHeartbeats 1600000 in
theorem rwords_any (s : ByteArray) (w : World) (hs : s.size ≤ 100000) :
    Calls Tryd.prog 18 #[.string s] w fun e w' => ∃ v, e = .returned v ∧ Row w w' v (NM.wd s.data.toList) := by
  obtain ⟨i0, HI⟩ := info_parts str_info
  have HI := Lib.hid HI
  go_enter Tryd.func18, Tryd.ntmps18
  go_wp2
  go_loopw [3, 4, 5] (fun v f i wr => ∃ (k fr : Nat) (acc : List (List UInt8)), k ≤ s.size + 1 ∧ fr ≤ k ∧ acc.length ≤ k ∧ Hid (k ≤ s.size ∧ NM.ws s.data.toList k = (acc, fr) ∨ k = s.size + 1 ∧ NM.wd s.data.toList = acc) ∧ f = .int .i64 fr ∧ i = .int .i64 k ∧ Hid (Row w wr v acc)) (fun _ _ i _ => s.size + 1 - (intOf i).toNat)
  case atStart =>
    exact ⟨0, 0, [], by omega, by omega, by simp, Lib.hid (.inl ⟨by omega, rfl⟩), rfl, rfl, Row.start w⟩
  case round =>
    obtain ⟨k, fr, acc, hk, hfr, hacc, hws, rfl, rfl, hrow⟩ := hrel
    have hlen := Lib.hid (NM.len_eq s)
    by_cases hle : k ≤ s.size
    · have hws' : NM.ws s.data.toList k = (acc, fr) := by
        rcases hws.out with h | h
        · exact h.2
        · omega
      have HW := Lib.hid hws'
      clear hws hws'
      by_cases hlt : k < s.size
      · cases hsep : NM.sepB s[k]
        · have HN := Lib.hid (show NM.ws s.data.toList (k + 1) = (acc, fr) by rw [NM.ws_no _ _ (by rw [NM.getD_eq s k hlt]; exact hsep)]; exact HW.out)
          go_wp2_with (go_at_call 32; refine (between_any _ _).mono ?_; rw [hsep]; rintro e w' ⟨rfl, rfl⟩)
          go_roundw
          case rel => exact ⟨k + 1, fr, acc, by omega, by omega, by omega, Lib.hid (.inl ⟨by omega, HN.out⟩), rfl, by go_num, hrow⟩
          case measure => simp [intOf]; omega
        · have HG := Lib.hid (show NM.sepB (s.data.toList.getD k 0) = true by rw [NM.getD_eq s k hlt]; exact hsep)
          by_cases hf : fr < k
          · have hf' : decide (fr < k) = true := by simpa using hf
            go_wp2_with (first
              | (go_at_call 32; refine (between_any _ _).mono ?_; rw [hsep]; rintro e w' ⟨rfl, rfl⟩)
              | (at_builtin; refine wpList_append_own _ rfl _ _ 34 rfl w.heap.size 9 i0 (.string ⟨#[]⟩) 1 16 Tryd.underlying34 HI.out.1 HI.out.2.1 HI.out.2.2.1 HI.out.2.2.2 rfl (by decide) _ _ _ rfl (hrow.out.1.alloc _) ⟨_, 0, none⟩ 1 1 [.string (s.extract fr k)] rfl rfl (new_cell _ _ _) (one_str _) (by unfold maxLen; omega) (by omega) (by have := hrow.out.2.size; simp; omega) ?_))
            intro v' w1 hown hgrow _
            have HR := Lib.hid (hrow.out.app (NM.tv_extract s fr k) hown hgrow)
            have HN := Lib.hid (show NM.ws s.data.toList (k + 1) = (acc ++ [NM.sl s.data.toList fr k], k + 1) by rw [NM.ws_cut _ _ HG.out (by rw [HW.out]; exact hf), HW.out])
            clear hown hgrow
            go_wp2
            go_roundw
            case rel => exact ⟨k + 1, k + 1, _, by omega, by omega, by rw [List.length_append, List.length_singleton]; omega, Lib.hid (.inl ⟨by omega, HN.out⟩), by go_num, by go_num, HR⟩
            case measure => simp [intOf]; omega
          · have hf' : decide (fr < k) = false := by simp; omega
            have HN := Lib.hid (show NM.ws s.data.toList (k + 1) = (acc, k + 1) by rw [NM.ws_gap _ _ HG.out (by rw [HW.out]; exact hf), HW.out])
            go_wp2_with (go_at_call 32; refine (between_any _ _).mono ?_; rw [hsep]; rintro e w' ⟨rfl, rfl⟩)
            go_roundw
            case rel => exact ⟨k + 1, k + 1, acc, by omega, by omega, by omega, Lib.hid (.inl ⟨by omega, HN.out⟩), by go_num, by go_num, hrow⟩
            case measure => simp [intOf]; omega
      · obtain rfl : k = s.size := by omega
        by_cases hf : fr < s.size
        · have hf' : decide (fr < s.size) = true := by simpa using hf
          have HN := Lib.hid (show NM.wd s.data.toList = acc ++ [NM.sl s.data.toList fr s.size] by unfold NM.wd; rw [hlen.out, HW.out, if_pos hf])
          go_wp2_with (first
            | (at_builtin; refine wpList_append_own _ rfl _ _ 34 rfl w.heap.size 9 i0 (.string ⟨#[]⟩) 1 16 Tryd.underlying34 HI.out.1 HI.out.2.1 HI.out.2.2.1 HI.out.2.2.2 rfl (by decide) _ _ _ rfl (hrow.out.1.alloc _) ⟨_, 0, none⟩ 1 1 [.string (s.extract fr s.size)] rfl rfl (new_cell _ _ _) (one_str _) (by unfold maxLen; omega) (by omega) (by have := hrow.out.2.size; simp; omega) ?_))
          intro v' w1 hown hgrow _
          have HR := Lib.hid (hrow.out.app (NM.tv_extract s fr s.size) hown hgrow)
          clear hown hgrow
          go_wp2
          go_roundw
          case rel => exact ⟨s.size + 1, s.size + 1, _, by omega, by omega, by rw [List.length_append, List.length_singleton]; omega, Lib.hid (.inr ⟨rfl, HN.out⟩), by go_num, by go_num, HR⟩
          case measure => simp [intOf]
        · have hf' : decide (fr < s.size) = false := by simp; omega
          have HN := Lib.hid (show NM.wd s.data.toList = acc by unfold NM.wd; rw [hlen.out, HW.out, if_neg hf])
          go_wp2
          go_roundw
          case rel => exact ⟨s.size + 1, s.size + 1, acc, by omega, by omega, by omega, Lib.hid (.inr ⟨rfl, HN.out⟩), by go_num, by go_num, hrow⟩
          case measure => simp [intOf]
    · have HN : NM.wd s.data.toList = acc := by
        rcases hws.out with h | h
        · omega
        · exact h.2
      have HN := Lib.hid HN
      clear hws
      go_wp2
      go_ret
      rw [HN.out]
      exact ⟨_, rfl, hrow.out⟩
end Go.Proofs.YtfeekgepmemanaaDoor
