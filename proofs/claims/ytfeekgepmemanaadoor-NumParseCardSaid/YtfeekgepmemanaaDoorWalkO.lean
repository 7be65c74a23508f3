/-
  The laws on digits, on parsing, on words and on lines: each returns true at every input and leaves all that was in memory as it was, where the library's tables are as their texts lay them.
-/
import Derived.Test.YtfeekgepmemanaaDoorWalkN
import Derived.Test.YtfeekgepmemanaaDoorWalkH
import Derived.Test.YtfeekgepmemanaaDoorWalkK
namespace Go.Proofs.YtfeekgepmemanaaDoor
open Go.RowKit
set_option maxHeartbeats 1600000 in
theorem digits_walk (n : Int) (u : Nat) (w : World) (h0 : -9223372036854775808 ≤ n) (h1 : n ≤ 9223372036854775807) (hu : u < 4294967296) (ht : Tabs w) :
    Calls Tryd.prog 3 #[.int .i64 n, .int .u32 u] w fun e w' => e = .returned (.bool true) ∧ Below w.heap.size w w' := by
  have HT := Lib.hid ht
  obtain ⟨D, hD⟩ : ∃ D, (⟨(Lib.itoa n).toArray⟩ : ByteArray) = D := ⟨_, rfl⟩
  obtain ⟨X, hX⟩ : ∃ X, (⟨(NM.hxs u 8).toArray⟩ : ByteArray) = X := ⟨_, rfl⟩
  have HD := Lib.hid hD
  have HX := Lib.hid hX
  clear ht hD hX
  go_enter Tryd.func3, Tryd.ntmps3
  go_wp2_with (fail)
  refine (dec_any n _ h0 h1 HT.out).mono ?_
  rw [HD.out]
  rintro e w1 ⟨rfl, hb⟩
  have B1 := Lib.hid hb
  have T1 := Lib.hid (HT.out.on hb)
  clear hb
  go_wp2_with (fail)
  refine (rdec_any n _ h0 h1).mono ?_
  rw [HD.out]
  rintro e w2 ⟨rfl, hb⟩
  have B2 := Lib.hid (B1.out.trans (hb.mono B1.out.size))
  have T2 := Lib.hid (T1.out.on hb)
  clear hb
  go_wp2_with (fail)
  refine (hex_any u _ hu T2.out).mono ?_
  rw [HX.out]
  rintro e w3 ⟨rfl, hb⟩
  have B3 := Lib.hid (B2.out.trans (hb.mono B2.out.size))
  have T3 := Lib.hid (T2.out.on hb)
  clear hb
  go_wp2_with (fail)
  refine (rhexs_any u _ hu).mono ?_
  rw [HX.out]
  rintro e w4 ⟨rfl, hb⟩
  have B4 := Lib.hid (B3.out.trans (hb.mono B3.out.size))
  have T4 := Lib.hid (T3.out.on hb)
  clear hb
  go_wp2_with (fail)
  refine (awake_any _ T4.out).mono ?_
  rintro e w5 ⟨rfl, hb⟩
  have B5 := Lib.hid (B4.out.trans (hb.mono B4.out.size))
  clear hb
  go_wp2
  go_ret
  exact ⟨rfl, B5.out⟩
theorem digits_law (n u : Int) (w : World) (h0 : -9223372036854775808 ≤ n) (h1 : n ≤ 9223372036854775807) (hu0 : 0 ≤ u) (hu : u < 4294967296) (ht : Tabs w) :
    Calls Tryd.prog 3 #[.int .i64 n, .int .u32 u] w fun e w' => e = .returned (.bool true) ∧ Below w.heap.size w w' := by
  obtain ⟨m, rfl⟩ : ∃ m : Nat, u = m := ⟨u.toNat, by omega⟩
  exact digits_walk n m w h0 h1 (by omega) ht
set_option maxHeartbeats 1600000 in
theorem parse_walk (s : ByteArray) (w : World) (hs : s.size ≤ 9223372036854775807) (ht : Tabs w) :
    Calls Tryd.prog 4 #[.string s] w fun e w' => e = .returned (.bool true) ∧ Below w.heap.size w w' := by
  have HT := Lib.hid ht
  clear ht
  by_cases hl : 100 < (s.size : Int)
  · go_enter Tryd.func4, Tryd.ntmps4
    go_wp2_with (go_at_call 13; refine (awake_any _ HT.out).mono ?_; rintro e w1 ⟨rfl, hb⟩)
    go_ret
    exact ⟨rfl, hb⟩
  · have hl' : decide (100 < (s.size : Int)) = false := by simp only [decide_eq_false_iff_not]; omega
    obtain ⟨a, ha⟩ : ∃ a, NM.pN s.data.toList = a := ⟨_, rfl⟩
    obtain ⟨b, hb'⟩ : ∃ b, NM.pE s.data.toList = b := ⟨_, rfl⟩
    have HA := Lib.hid ha
    have HB := Lib.hid hb'
    clear ha hb'
    go_enter Tryd.func4, Tryd.ntmps4
    go_wp2_with (fail)
    refine (parse_any s _ hs).mono ?_
    rw [HA.out, HB.out]
    rintro e w1 ⟨rfl, hb⟩
    have B1 := Lib.hid hb
    have T1 := Lib.hid (HT.out.on hb)
    clear hb
    go_wp2_with (fail)
    refine (rparse_any s _ (by omega)).mono ?_
    rw [HA.out, HB.out]
    rintro e w' ⟨rfl, rfl⟩
    go_wp2_with (fail)
    refine (awake_any _ T1.out).mono ?_
    rintro e w5 ⟨rfl, hb⟩
    have B5 := Lib.hid (B1.out.trans (hb.mono B1.out.size))
    clear hb
    go_wp2
    go_ret
    exact ⟨rfl, B5.out⟩
theorem wd_len (s : ByteArray) : (NM.wd s.data.toList).length ≤ s.size + 1 := by
  have h := (NM.ws_bd s.data.toList s.data.toList.length).2
  have h2 := NM.len_eq s
  unfold NM.wd
  split
  · rw [List.length_append, List.length_singleton]; omega
  · omega
theorem lL_len (s : ByteArray) : (NM.lL s.data.toList).length ≤ s.size := by
  have h := (NM.ln_bd s.data.toList s.data.toList.length).2
  have h2 := NM.len_eq s
  unfold NM.lL
  split
  · omega
  · simp
set_option maxHeartbeats 1600000 in
theorem words_walk (s : ByteArray) (w : World) (hs : s.size ≤ 9223372036854775807) (ht : Tabs w) :
    Calls Tryd.prog 5 #[.string s] w fun e w' => e = .returned (.bool true) ∧ Below w.heap.size w w' := by
  have HT := Lib.hid ht
  clear ht
  by_cases hl : 400 < (s.size : Int)
  · go_enter Tryd.func5, Tryd.ntmps5
    go_wp2_with (go_at_call 13; refine (awake_any _ HT.out).mono ?_; rintro e w1 ⟨rfl, hb⟩)
    go_ret
    exact ⟨rfl, hb⟩
  · have hl' : decide (400 < (s.size : Int)) = false := by simp only [decide_eq_false_iff_not]; omega
    have HLN := Lib.hid (wd_len s)
    go_enter Tryd.func5, Tryd.ntmps5
    go_wp2_with (fail)
    refine (words_any s _ (by omega)).mono ?_
    rintro e w1 ⟨v, rfl, hr⟩
    have R1 := Lib.hid hr
    clear hr
    go_wp2_with (fail)
    refine (rwords_any s _ (by omega)).mono ?_
    rintro e w2 ⟨v2, rfl, hr⟩
    have R2 := Lib.hid hr
    have O1 := Lib.hid (own_below R1.out.1 hr.2)
    have B2 := Lib.hid (R1.out.2.trans (hr.2.mono R1.out.2.size))
    have T2 := Lib.hid (HT.out.on B2.out)
    clear hr
    go_wp2_with (fail)
    refine (texts_own v v2 _ _ _ w2 (by have := HLN.out; omega) O1.out R2.out.1).mono ?_
    rintro e w3 ⟨rfl, hd⟩
    have B3 := Lib.hid (B2.out.trans (hd.below.mono B2.out.size))
    have T3 := Lib.hid (T2.out.on hd.below)
    clear hd
    go_wp2_with (fail)
    refine (awake_any _ T3.out).mono ?_
    rintro e w5 ⟨rfl, hb⟩
    have B5 := Lib.hid (B3.out.trans (hb.mono B3.out.size))
    clear hb
    go_wp2
    go_ret
    exact ⟨rfl, B5.out⟩
set_option maxHeartbeats 1600000 in
theorem lines_walk (s : ByteArray) (w : World) (hs : s.size ≤ 9223372036854775807) (ht : Tabs w) :
    Calls Tryd.prog 6 #[.string s] w fun e w' => e = .returned (.bool true) ∧ Below w.heap.size w w' := by
  have HT := Lib.hid ht
  clear ht
  by_cases hl : 70000 < (s.size : Int)
  · go_enter Tryd.func6, Tryd.ntmps6
    go_wp2_with (go_at_call 13; refine (awake_any _ HT.out).mono ?_; rintro e w1 ⟨rfl, hb⟩)
    go_ret
    exact ⟨rfl, hb⟩
  · have hl' : decide (70000 < (s.size : Int)) = false := by simp only [decide_eq_false_iff_not]; omega
    have HLN := Lib.hid (lL_len s)
    obtain ⟨b, hb'⟩ : ∃ b, NM.lE s.data.toList = b := ⟨_, rfl⟩
    have HB := Lib.hid hb'
    clear hb'
    go_enter Tryd.func6, Tryd.ntmps6
    go_wp2_with (fail)
    refine (lines_any s _ hs).mono ?_
    rw [HB.out]
    rintro e w1 ⟨v, rfl, hr⟩
    have R1 := Lib.hid hr
    clear hr
    go_wp2_with (fail)
    refine (rlines_any s _ (by omega)).mono ?_
    rw [HB.out]
    rintro e w2 ⟨v2, rfl, hr⟩
    have R2 := Lib.hid hr
    have O1 := Lib.hid (own_below R1.out.1 hr.2)
    have B2 := Lib.hid (R1.out.2.trans (hr.2.mono R1.out.2.size))
    have T2 := Lib.hid (HT.out.on B2.out)
    clear hr
    go_wp2_with (fail)
    refine (texts_own v v2 _ _ _ w2 (by have := HLN.out; omega) O1.out R2.out.1).mono ?_
    rintro e w3 ⟨rfl, hd⟩
    have B3 := Lib.hid (B2.out.trans (hd.below.mono B2.out.size))
    have T3 := Lib.hid (T2.out.on hd.below)
    clear hd
    go_wp2_with (fail)
    refine (awake_any _ T3.out).mono ?_
    rintro e w5 ⟨rfl, hb⟩
    have B5 := Lib.hid (B3.out.trans (hb.mono B3.out.size))
    clear hb
    go_wp2
    go_ret
    exact ⟨rfl, B5.out⟩
end Go.Proofs.YtfeekgepmemanaaDoor
