/-
  What the package's Parse answers at every text: its number and its error. No condition on the text.
-/
import Derived.Test.YtfgkcjalfhbjjaaDoorS02WalkB
import Derived.Test.YtfgkcjalfhbjjaaDoorShelf
namespace Go.Proofs.YtfgkcjalfhbjjaaDoor.S02
open Go.RowKit
theorem ret_two {k k' : IntKind} {a b c d : Int} (h : a = b) (h' : c = d) : Ending.returned (.tuple #[.int k a, .int k' c]) = .returned (.tuple #[.int k b, .int k' d]) := by rw [h, h']
set_option maxHeartbeats 1600000 in
theorem parseHex_any (s : ByteArray) (w : World) (hs : s.size ≤ 9223372036854775807) :
    Calls Tryd.prog 49 #[.string s] w fun e w' => e = .returned (.tuple #[.int .i64 (NM.phN s.data.toList), .int .i64 (NM.phE s.data.toList)]) ∧ Below w.heap.size w w' := by
  have hl := NM.len_eq s
  have HL := Lib.hid hl
  clear hl
  by_cases hB : NM.vB 16 s.data.toList = true
  · by_cases h8 : s.size ≤ 8
    · have hN := NM.vN16 _ hB (by rw [HL.out]; exact h8)
      have hOk := NM.ph_ok _ hB (by rw [HL.out]; exact h8)
      have HN := Lib.hid hN
      have HO := Lib.hid hOk
      have h8' : decide (8 < s.size) = false := by simp; omega
      clear hN hOk
      go_enter Tryd.func49, Tryd.ntmps49
      go_wp2_with (go_at_call 58; refine (value_any _ 16 _ (by omega) (by omega) hs).mono ?_; rw [hB, HN.out.1]; rintro e w' ⟨rfl, hbel⟩; have hlt := HN.out.2)
      go_ret2
      exact ⟨ret_two (by rw [HO.out.2]) (by rw [HO.out.1]), hbel⟩
    · have hOk := NM.ph_bad s.data.toList (.inr (by rw [HL.out]; omega))
      have HO := Lib.hid hOk
      have h8' : decide (8 < s.size) = true := by simp; omega
      clear hOk
      go_enter Tryd.func49, Tryd.ntmps49
      go_wp2_with (go_at_call 58; refine (value_any _ 16 _ (by omega) (by omega) hs).mono ?_; rw [hB]; rintro e w' ⟨rfl, hbel⟩)
      go_ret2
      exact ⟨ret_two (by rw [HO.out.2]) (by rw [HO.out.1]), hbel⟩
  · have hB : NM.vB 16 s.data.toList = false := by simpa using hB
    have hOk := NM.ph_bad s.data.toList (.inl hB)
    have HO := Lib.hid hOk
    clear hOk
    go_enter Tryd.func49, Tryd.ntmps49
    go_wp2_with (go_at_call 58; refine (value_any _ 16 _ (by omega) (by omega) hs).mono ?_; rw [hB]; rintro e w' ⟨rfl, hbel⟩)
    go_ret2
    exact ⟨ret_two (by rw [HO.out.2]) (by rw [HO.out.1]), hbel⟩
theorem parseDec_bad (s : ByteArray) (neg : Bool) (w : World) (hs : s.size ≤ 9223372036854775807) (hB : NM.vB 10 s.data.toList = false) :
    Calls Tryd.prog 50 #[.string s, .bool neg] w fun e w' => e = .returned (.tuple #[.int .i64 (NM.pdN s.data.toList neg), .int .i64 (NM.pdE s.data.toList neg)]) ∧ Below w.heap.size w w' := by
  have HO := Lib.hid (NM.pd_bad s.data.toList neg hB)
  go_enter Tryd.func50, Tryd.ntmps50
  go_wp2_with (go_at_call 58; refine (value_any _ 10 _ (by omega) (by omega) hs).mono ?_; rw [hB]; rintro e w' ⟨rfl, hbel⟩)
  go_ret2
  exact ⟨ret_two (by rw [HO.out.2]) (by rw [HO.out.1]), hbel⟩
theorem parseDec_zero (s : ByteArray) (neg : Bool) (w : World) (hs : s.size ≤ 9223372036854775807) (hB : NM.vB 10 s.data.toList = true) (h0 : 0 < s.size) (h48 : (s[0].toNat : Int) = 48) (hn : neg = true ∨ 1 < s.size) :
    Calls Tryd.prog 50 #[.string s, .bool neg] w fun e w' => e = .returned (.tuple #[.int .i64 (NM.pdN s.data.toList neg), .int .i64 (NM.pdE s.data.toList neg)]) ∧ Below w.heap.size w w' := by
  have HO := Lib.hid (NM.pd_zero s.data.toList neg ((NM.head_eq s h0).mpr h48) (by rw [NM.len_eq]; exact hn))
  rcases hn with rfl | h1
  · go_enter Tryd.func50, Tryd.ntmps50
    go_wp2_with (go_at_call 58; refine (value_any _ 10 _ (by omega) (by omega) hs).mono ?_; rw [hB]; rintro e w' ⟨rfl, hbel⟩)
    go_ret2
    exact ⟨ret_two (by rw [HO.out.2]) (by rw [HO.out.1]), hbel⟩
  · have h1' : decide (1 < s.size) = true := by simpa using h1
    cases neg <;>
    · go_enter Tryd.func50, Tryd.ntmps50
      go_wp2_with (go_at_call 58; refine (value_any _ 10 _ (by omega) (by omega) hs).mono ?_; rw [hB]; rintro e w' ⟨rfl, hbel⟩)
      go_ret2
      exact ⟨ret_two (by rw [HO.out.2]) (by rw [HO.out.1]), hbel⟩
theorem neg_conv (v : Nat) (h0 : v ≤ 9223372036854775808) : wrap64 (IntKind.u64.wrap (-(v : Int))) = -(v : Int) := by
  unfold wrap64
  simp only [IntKind.wrap_u64]
  omega
set_option maxHeartbeats 1600000 in
theorem parseDec_rest (s : ByteArray) (neg : Bool) (w : World) (hs : s.size ≤ 9223372036854775807) (hB : NM.vB 10 s.data.toList = true) (h0 : 0 < s.size) (hz : ¬ ((s[0].toNat : Int) = 48 ∧ (neg = true ∨ 1 < s.size))) :
    Calls Tryd.prog 50 #[.string s, .bool neg] w fun e w' => e = .returned (.tuple #[.int .i64 (NM.pdN s.data.toList neg), .int .i64 (NM.pdE s.data.toList neg)]) ∧ Below w.heap.size w w' := by
  have HZ := Lib.hid (show ¬ (s.data.toList.head? = some 48 ∧ (neg = true ∨ 1 < s.data.toList.length)) by rw [NM.head_eq s h0, NM.len_eq]; exact hz)
  have HL := Lib.hid (NM.len_eq s)
  by_cases h19 : 19 < s.size
  · have HO := Lib.hid (NM.pd_long s.data.toList neg hB HZ.out (.inl (by rw [HL.out]; exact h19)))
    have h19' : decide (19 < s.size) = true := by simpa using h19
    have h1' : decide (1 < s.size) = true := by simp; omega
    have h48 : ¬ (s[0].toNat : Int) = 48 := fun h => hz ⟨h, .inr (by omega)⟩
    clear hz
    cases neg <;>
    · go_enter Tryd.func50, Tryd.ntmps50
      go_wp2_with (go_at_call 58; refine (value_any _ 10 _ (by omega) (by omega) hs).mono ?_; rw [hB]; rintro e w' ⟨rfl, hbel⟩)
      go_ret2
      exact ⟨ret_two (by rw [HO.out.2]) (by rw [HO.out.1]), hbel⟩
  · have h19' : decide (19 < (s.size : Int)) = false := by simp only [decide_eq_false_iff_not]; omega
    have HN := Lib.hid (NM.vN10 s.data.toList hB (by rw [HL.out]; omega))
    have hlt := NM.val10_lt s.data.toList (NM.vB_al hB).1 (by rw [HL.out]; omega)
    have HP := Lib.hid (fun h => NM.pd_long s.data.toList neg hB HZ.out (.inr h))
    have HQ := Lib.hid (NM.pd_ok s.data.toList neg hB HZ.out (by rw [HL.out]; omega))
    generalize NM.val 10 s.data.toList = m at *
    cases neg
    · have hg : (s[0].toNat : Int) = 48 ∧ decide (1 < (s.size : Int)) = false ∨ ¬ (s[0].toNat : Int) = 48 := by
        by_cases h : (s[0].toNat : Int) = 48
        · exact .inl ⟨h, by simp only [decide_eq_false_iff_not]; exact fun h1 => hz ⟨h, .inr (by omega)⟩⟩
        · exact .inr h
      clear hz
      by_cases hm : 9223372036854775807 < (m : Int)
      · have HO := Lib.hid (HP.out (show NM.lim false < m by simp [NM.lim]; omega))
        rcases hg with ⟨h48, h1⟩ | h48 <;>
        · go_enter Tryd.func50, Tryd.ntmps50
          go_wp2_with (go_at_call 58; refine (value_any _ 10 _ (by omega) (by omega) hs).mono ?_; rw [hB, HN.out]; rintro e w' ⟨rfl, hbel⟩)
          go_ret2
          exact ⟨ret_two (by rw [HO.out.2]) (by rw [HO.out.1]), hbel⟩
      · have HO := Lib.hid (HQ.out (show m ≤ NM.lim false by simp [NM.lim]; omega))
        rcases hg with ⟨h48, h1⟩ | h48 <;>
        · have hm' : decide (9223372036854775807 < (m : Int)) = false := by simp only [decide_eq_false_iff_not]; omega
          go_enter Tryd.func50, Tryd.ntmps50
          go_wp2_with (go_at_call 58; refine (value_any _ 10 _ (by omega) (by omega) hs).mono ?_; rw [hB, HN.out]; rintro e w' ⟨rfl, hbel⟩)
          go_ret2
          exact ⟨ret_two HO.out.2.symm HO.out.1.symm, hbel⟩
    · have h48 : ¬ (s[0].toNat : Int) = 48 := fun h => hz ⟨h, .inl rfl⟩
      clear hz
      by_cases hm : 9223372036854775808 < (m : Int)
      · have HO := Lib.hid (HP.out (show NM.lim true < m by simp [NM.lim]; omega))
        go_enter Tryd.func50, Tryd.ntmps50
        go_wp2_with (go_at_call 58; refine (value_any _ 10 _ (by omega) (by omega) hs).mono ?_; rw [hB, HN.out]; rintro e w' ⟨rfl, hbel⟩)
        go_ret2
        exact ⟨ret_two (by rw [HO.out.2]) (by rw [HO.out.1]), hbel⟩
      · have HO := Lib.hid (HQ.out (show m ≤ NM.lim true by simp [NM.lim]; omega))
        have hm' : decide (9223372036854775808 < (m : Int)) = false := by simp only [decide_eq_false_iff_not]; omega
        go_enter Tryd.func50, Tryd.ntmps50
        go_wp2_with (go_at_call 58; refine (value_any _ 10 _ (by omega) (by omega) hs).mono ?_; rw [hB, HN.out]; rintro e w' ⟨rfl, hbel⟩)
        go_ret2
        exact ⟨ret_two ((neg_conv m (by omega)).trans HO.out.2.symm) HO.out.1.symm, hbel⟩
theorem parseDec_any (s : ByteArray) (neg : Bool) (w : World) (hs : s.size ≤ 9223372036854775807) :
    Calls Tryd.prog 50 #[.string s, .bool neg] w fun e w' => e = .returned (.tuple #[.int .i64 (NM.pdN s.data.toList neg), .int .i64 (NM.pdE s.data.toList neg)]) ∧ Below w.heap.size w w' := by
  cases hB : NM.vB 10 s.data.toList
  · exact parseDec_bad s neg w hs hB
  · have h0 := NM.pos_of s 10 hB
    by_cases hz : (s[0].toNat : Int) = 48 ∧ (neg = true ∨ 1 < s.size)
    · exact parseDec_zero s neg w hs hB h0 hz.1 hz.2
    · exact parseDec_rest s neg w hs hB h0 hz
theorem size_trim (s : ByteArray) (p : List UInt8) : (⟨(Lib.trimPrefix s.data.toList p).toArray⟩ : ByteArray).size ≤ s.size := by
  show (Lib.trimPrefix s.data.toList p).toArray.size ≤ s.size
  have := NM.len_eq s
  unfold Lib.trimPrefix
  split <;> simp
theorem parse_any (s : ByteArray) (w : World) (hs : s.size ≤ 9223372036854775807) :
    Calls Tryd.prog 44 #[.string s] w fun e w' => e = .returned (.tuple #[.int .i64 (NM.pN s.data.toList), .int .i64 (NM.pE s.data.toList)]) ∧ Below w.heap.size w w' := by
  by_cases hp : Lib.hasPrefix s.data.toList [48, 120] = true
  · have HE := Lib.hid (show NM.pE s.data.toList = NM.phE (Lib.trimPrefix s.data.toList [48, 120]) by unfold NM.pE Lib.trimPrefix; rw [if_pos hp, if_pos hp]; rfl)
    have HN := Lib.hid (show NM.pN s.data.toList = NM.phN (Lib.trimPrefix s.data.toList [48, 120]) by unfold NM.pN Lib.trimPrefix; rw [if_pos hp, if_pos hp]; rfl)
    have hz := size_trim s [48, 120]
    go_enter Tryd.func44, Tryd.ntmps44
    go_wp2_with (first
      | (go_at_call 48; refine (Tryd.strings_CutPrefix _ _ _).mono ?_; rintro e w' ⟨rfl, rfl⟩)
      | (go_at_call 49; refine (parseHex_any _ _ (by simpa using Nat.le_trans hz hs)).mono ?_; rintro e w1 ⟨rfl, hbel⟩))
    go_ret2
    exact ⟨ret_two HN.out.symm HE.out.symm, hbel⟩
  · have hp : Lib.hasPrefix s.data.toList [48, 120] = false := by simpa using hp
    have HE := Lib.hid (show NM.pE s.data.toList = NM.pdE (Lib.trimPrefix s.data.toList [45]) (Lib.hasPrefix s.data.toList [45]) by unfold NM.pE; rw [if_neg (by simp [hp])])
    have HN := Lib.hid (show NM.pN s.data.toList = NM.pdN (Lib.trimPrefix s.data.toList [45]) (Lib.hasPrefix s.data.toList [45]) by unfold NM.pN; rw [if_neg (by simp [hp])])
    have hz := size_trim s [45]
    go_enter Tryd.func44, Tryd.ntmps44
    go_wp2_with (first
      | (go_at_call 48; refine (Tryd.strings_CutPrefix _ _ _).mono ?_; rintro e w' ⟨rfl, rfl⟩)
      | (go_at_call 50; refine (parseDec_any _ _ _ (by simpa using Nat.le_trans hz hs)).mono ?_; rintro e w1 ⟨rfl, hbel⟩))
    go_ret2
    exact ⟨ret_two HN.out.symm HE.out.symm, hbel⟩
end Go.Proofs.YtfgkcjalfhbjjaaDoor.S02
