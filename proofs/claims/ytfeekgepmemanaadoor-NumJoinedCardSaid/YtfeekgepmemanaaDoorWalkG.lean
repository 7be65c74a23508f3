/-
  What the package's Lines answers at every text: a row of the lines, of the call's own memory, and the error.
-/
import Derived.Test.YtfeekgepmemanaaDoorWalkF
import Derived.Test.YtfeekgepmemanaaDoorMathD
import Derived.Test.YtfeekgepmemanaaDoorShelf
namespace Go.Proofs.YtfeekgepmemanaaDoor
open Go.RowKit
/-- A row of texts and an error. -/
def RowE (w : World) (acc : List (List UInt8)) (n : Int) (e : Ending) (w' : World) : Prop := ∃ v, e = .returned (.tuple #[v, .int .i64 n]) ∧ Row w w' v acc
theorem RowE.mk {w w' : World} {acc acc' : List (List UInt8)} {n n' : Int} {v : Value} (h : Row w w' v acc') (ha : acc = acc') (hn : n = n') : RowE w acc n (.returned (.tuple #[v, .int .i64 n'])) w' := by
  subst ha hn
  exact ⟨v, rfl, h⟩
theorem Row.nil {w w' : World} (h : Below w.heap.size w w') : Row w w' (.slice none 0 0) [] := ⟨⟨rfl, .inl ⟨rfl, rfl⟩⟩, h⟩
theorem count_any (s : ByteArray) (c : UInt8) (w : World) : Calls Tryd.prog 33 #[.string s, .string ⟨#[c]⟩] w fun e w' => e = .returned (.int .i64 (Lib.countByte s.data.toList c)) ∧ w = w' :=
  (Tryd.strings_Count_one s c w).mono fun _ _ ⟨h, h'⟩ => ⟨h, h'.symm⟩
theorem lines_long (s : ByteArray) (w : World) (hs : s.size ≤ 9223372036854775807) (h : 65536 < s.size) :
    Calls Tryd.prog 19 #[.string s] w (RowE w (NM.lL s.data.toList) (NM.lE s.data.toList)) := by
  have HO := Lib.hid (NM.l_long s.data.toList (.inl (by rw [NM.len_eq]; exact h)))
  go_enter Tryd.func19, Tryd.ntmps19
  go_wp2
  go_ret2
  exact RowE.mk (Row.nil (Below.refl _ _)) HO.out.2 HO.out.1
theorem lines_many (s : ByteArray) (w : World) (h : s.size ≤ 65536) (hc : 4096 < Lib.countByte s.data.toList 10) :
    Calls Tryd.prog 19 #[.string s] w (RowE w (NM.lL s.data.toList) (NM.lE s.data.toList)) := by
  have HO := Lib.hid (NM.l_long s.data.toList (.inr hc))
  have h' : decide (65536 < (s.size : Int)) = false := by simp only [decide_eq_false_iff_not]; omega
  have hc' : decide (4096 < (Lib.countByte s.data.toList 10 : Int)) = true := by simp only [decide_eq_true_eq]; omega
  go_enter Tryd.func19, Tryd.ntmps19
  go_wp2_with (go_at_call 33; refine (count_any _ _ _).mono ?_; rintro e w' ⟨rfl, rfl⟩)
  go_ret2
  exact RowE.mk (Row.nil (Below.refl _ _)) HO.out.2 HO.out.1
set_option maxHeartbeats 1600000 in
theorem lines_few (s : ByteArray) (w : World) (h : s.size ≤ 65536) (hc : Lib.countByte s.data.toList 10 ≤ 4096) :
    Calls Tryd.prog 19 #[.string s] w (RowE w (NM.lL s.data.toList) (NM.lE s.data.toList)) := by
  obtain ⟨i0, HI⟩ := info_parts str_info
  have HI := Lib.hid HI
  have hlen := Lib.hid (NM.len_eq s)
  have HC := Lib.hid (show ¬ (65536 < s.data.toList.length ∨ 4096 < Lib.countByte s.data.toList 10) by rw [hlen.out]; omega)
  have h' : decide (65536 < (s.size : Int)) = false := by simp only [decide_eq_false_iff_not]; omega
  have hc' : decide (4096 < (Lib.countByte s.data.toList 10 : Int)) = false := by simp only [decide_eq_false_iff_not]; omega
  go_enter Tryd.func19, Tryd.ntmps19
  go_wp2_with (go_at_call 33; refine (count_any _ _ _).mono ?_; rintro e w' ⟨rfl, rfl⟩)
  go_loopw [4, 5] (fun v f wr => ∃ (pos fr : Nat) (acc : List (List UInt8)), pos ≤ s.size ∧ fr ≤ pos ∧ acc.length ≤ pos ∧ Hid (NM.aok (s.data.toList.take pos) = true ∧ NM.ln s.data.toList pos = (acc, fr)) ∧ f = .int .i64 fr ∧ Hid (ItRow w wr s pos v acc)) (fun _ _ wr => s.size - wr.iterPos w.heap.size)
  case atStart =>
    exact ⟨0, 0, [], by omega, by omega, by simp, Lib.hid ⟨rfl, rfl⟩, rfl, ItRow.start w s⟩
  case round =>
    obtain ⟨pos, fr, acc, hp, hfr, hacc, hln, rfl, hit⟩ := hrel
    by_cases hlt : pos < s.size
    · by_cases ha : (s[pos]).toNat < 128
      · have hnx : ∀ ty, (Instr.next (.pointer (some ⟨w.heap.size, 0, none⟩)) true ty).run Tryd.prog wr = _ := fun ty => Lib.run_next_ascii_at wr w.heap.size s pos ty hit.out.1 hlt ha
        have h1 := Lib.hid (hit.out.on (pos + 1))
        have hm : s.size - (wr.iterAt w.heap.size s (pos + 1)).iterPos w.heap.size < s.size - wr.iterPos w.heap.size := by
          simp only [World.iterPos, h1.out.1, hit.out.1]
          omega
        generalize wr.iterAt w.heap.size s (pos + 1) = wn at *
        by_cases h10 : (s[pos].toNat : Int) = 10
        · have HW := Lib.hid (show NM.aok (s.data.toList.take (pos + 1)) = true ∧ NM.ln s.data.toList (pos + 1) = (acc ++ [NM.sl s.data.toList fr pos], pos + 1) from
            ⟨by rw [NM.take_snoc s pos hlt, NM.aok_snoc, hln.out.1, (NM.okb_lf _ h10).1]; rfl, by rw [NM.ln_cut _ _ (by rw [NM.getD_eq s pos hlt]; exact (NM.okb_lf _ h10).2), hln.out.2]⟩)
          go_wp2_with (first
            | (at_builtin; refine wpList_append_own _ rfl _ _ 34 rfl w.heap.size 9 i0 (.string ⟨#[]⟩) 1 16 Tryd.underlying34 HI.out.1 HI.out.2.1 HI.out.2.2.1 HI.out.2.2.2 rfl (by decide) _ _ _ rfl (h1.out.2.1.alloc _) ⟨_, 0, none⟩ 1 1 [.string (s.extract fr pos)] rfl rfl (new_cell _ _ _) (one_str _) (by unfold maxLen; omega) (by omega) (by have := h1.out.2.2.size; simp; omega) ?_))
          intro v' w1 hown hgrow _
          have HR := Lib.hid (h1.out.app (NM.tv_extract s fr pos) hown hgrow)
          clear hown hgrow hnx
          go_wp2
          go_roundw
          case rel => exact ⟨pos + 1, pos + 1, _, by omega, by omega, by rw [List.length_append, List.length_singleton]; omega, HW, by go_num, HR⟩
          case measure =>
            simp only [World.iterPos, HR.out.1, hit.out.1]
            omega
        · have HK := Lib.hid (NM.okb_not _ h10)
          cases hpr : NM.prB s[pos]
          · have HB := Lib.hid (NM.l_bad _ HC.out (.inl (NM.aok_bad s pos hlt (by rw [HK.out.1]; exact hpr))))
            go_wp2_with (go_at_call 34; refine (printable_any _ _).mono ?_; rw [show NM.prR (s[pos].toNat : Int) = false from hpr]; rintro e w' ⟨rfl, rfl⟩)
            go_ret2
            exact RowE.mk (Row.nil h1.out.2.2) HB.out.2 HB.out.1
          · have HW := Lib.hid (show NM.aok (s.data.toList.take (pos + 1)) = true ∧ NM.ln s.data.toList (pos + 1) = (acc, fr) from
              ⟨by rw [NM.take_snoc s pos hlt, NM.aok_snoc, hln.out.1, HK.out.1, hpr]; rfl, by rw [NM.ln_no _ _ (by rw [NM.getD_eq s pos hlt]; exact HK.out.2), hln.out.2]⟩)
            go_wp2_with (go_at_call 34; refine (printable_any _ _).mono ?_; rw [show NM.prR (s[pos].toNat : Int) = true from hpr]; rintro e w' ⟨rfl, rfl⟩)
            clear hnx
            go_roundw
            case rel => exact ⟨pos + 1, fr, acc, by omega, by omega, by omega, HW, rfl, h1⟩
            case measure => exact hm
      · have hnx : ∀ ty, (Instr.next (.pointer (some ⟨w.heap.size, 0, none⟩)) true ty).run Tryd.prog wr = _ := fun ty => Lib.run_next_any_at wr w.heap.size s pos ty hit.out.1 hlt
        have hh := decode_high s pos hlt (by omega)
        have hr := decode_le s pos
        have HB := Lib.hid (NM.l_bad _ HC.out (.inl (NM.aok_bad s pos hlt (NM.okb_high _ (by omega)))))
        have HP := Lib.hid (NM.prR_high ((Utf8.decode s pos).1 : Int) (by omega))
        have hn10 : ¬ ((Utf8.decode s pos).1 : Int) = 10 := by omega
        go_wp2_with (go_at_call 34; refine (printable_any _ _).mono ?_; rw [HP.out]; rintro e w' ⟨rfl, rfl⟩)
        go_ret2
        exact RowE.mk (Row.nil (hit.out.on _).2.2) HB.out.2 HB.out.1
    · have hnx : ∀ ty, (Instr.next (.pointer (some ⟨w.heap.size, 0, none⟩)) true ty).run Tryd.prog wr = _ := fun ty => Lib.run_next_end_at wr w.heap.size s pos ty hit.out.1 hlt
      obtain rfl : pos = s.size := by omega
      have hok := hln.out.1
      rw [NM.take_all s _ (Nat.le_refl _)] at hok
      have HK := Lib.hid hok
      clear hok
      by_cases hf : fr < s.size
      · have hf' : decide (fr < s.size) = true := by simpa using hf
        have HB := Lib.hid (NM.l_bad _ HC.out (.inr (by rw [hlen.out, hln.out.2]; exact hf)))
        go_wp2
        go_ret2
        exact RowE.mk (Row.nil hit.out.2.2) HB.out.2 HB.out.1
      · have hf' : decide (fr < s.size) = false := by simp; omega
        have HB := Lib.hid (NM.l_ok _ HC.out HK.out (by rw [hlen.out, hln.out.2]; exact hf))
        have HE := Lib.hid (show (NM.ln s.data.toList s.data.toList.length).1 = acc by rw [hlen.out, hln.out.2])
        go_wp2
        go_ret2
        exact RowE.mk hit.out.2 (by rw [HB.out.2, HE.out]) HB.out.1
theorem lines_any (s : ByteArray) (w : World) (hs : s.size ≤ 9223372036854775807) :
    Calls Tryd.prog 19 #[.string s] w (RowE w (NM.lL s.data.toList) (NM.lE s.data.toList)) := by
  by_cases h : 65536 < s.size
  · exact lines_long s w hs h
  · by_cases hc : 4096 < Lib.countByte s.data.toList 10
    · exact lines_many s w (by omega) hc
    · exact lines_few s w (by omega) (by omega)
end Go.Proofs.YtfeekgepmemanaaDoor
