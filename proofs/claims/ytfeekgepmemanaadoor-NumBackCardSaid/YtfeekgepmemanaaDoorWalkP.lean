/-
  The law on numbers that come back: it returns true for every two numbers and leaves all that was in memory as it was, where the library's tables are as their texts lay them.
-/
import Derived.Test.YtfeekgepmemanaaDoorWalkN
import Derived.Test.YtfeekgepmemanaaDoorMathG
namespace Go.Proofs.YtfeekgepmemanaaDoor
open Go.RowKit
set_option maxHeartbeats 1600000 in
theorem back_walk (n : Int) (u : Nat) (w : World) (h0 : -9223372036854775808 ≤ n) (h1 : n ≤ 9223372036854775807) (hu : u < 4294967296) (ht : Tabs w) :
    Calls Tryd.prog 7 #[.int .i64 n, .int .u32 u] w fun e w' => e = .returned (.bool true) ∧ Below w.heap.size w w' := by
  have HT := Lib.hid ht
  obtain ⟨D, hD⟩ : ∃ D, (⟨(Lib.itoa n).toArray⟩ : ByteArray) = D := ⟨_, rfl⟩
  obtain ⟨X, hX⟩ : ∃ X, (⟨(NM.hxs u 8).toArray⟩ : ByteArray) = X := ⟨_, rfl⟩
  have dD : D.data.toList = Lib.itoa n := by rw [← hD]
  have dX : X.data.toList = NM.hxs u 8 := by rw [← hX]
  have sD : D.size ≤ 21 := by rw [← NM.len_eq, dD]; exact Lib.itoa_length_le n h0 h1
  have sX : X.size = 8 := by rw [← NM.len_eq, dX, NM.hxs_len]
  have PD := Lib.hid (show NM.pN D.data.toList = n ∧ NM.pE D.data.toList = 0 by rw [dD]; exact NM.p_itoa n h0 h1)
  obtain ⟨Y, hY⟩ : ∃ Y, (⟨#[48, 120]⟩ : ByteArray) ++ X = Y := ⟨_, rfl⟩
  have dY : Y.data.toList = 48 :: 120 :: NM.hxs u 8 := by rw [← hY, NM.data_app, dX]; rfl
  have sY : Y.size ≤ 10 := by rw [← NM.len_eq, dY]; simp [NM.hxs_len]
  have PX := Lib.hid (show NM.pN Y.data.toList = u ∧ NM.pE Y.data.toList = 0 by rw [dY]; exact NM.p_hexs u hu)
  have HY := Lib.hid hY
  have HD := Lib.hid hD
  have HX := Lib.hid hX
  have sX' : X.size ≤ 8 := by omega
  have SX := Lib.hid sX
  clear ht hD hX dD dX sX hY dY
  go_enter Tryd.func7, Tryd.ntmps7
  go_wp2_with (fail)
  refine (dec_any n _ h0 h1 HT.out).mono ?_
  rw [HD.out]
  rintro e w1 ⟨rfl, hb⟩
  have B1 := Lib.hid hb
  have T1 := Lib.hid (HT.out.on hb)
  clear hb
  go_wp2_with (fail)
  refine (parse_any D _ (by omega)).mono ?_
  rw [PD.out.1, PD.out.2]
  rintro e w2 ⟨rfl, hb⟩
  have B2 := Lib.hid (B1.out.trans (hb.mono B1.out.size))
  have T2 := Lib.hid (T1.out.on hb)
  clear hb
  go_wp2_with (fail)
  refine (hex_any u _ hu T2.out).mono ?_
  rw [HX.out]
  rintro e w3 ⟨rfl, hb⟩
  have B3 := Lib.hid (B2.out.trans (hb.mono B2.out.size))
  have T3 := Lib.hid (T2.out.on hb)
  clear hb
  go_wp2_with (fail)
  rw [HY.out]
  refine (parse_any Y _ (by omega)).mono ?_
  rw [PX.out.1, PX.out.2]
  rintro e w4 ⟨rfl, hb⟩
  have B4 := Lib.hid (B3.out.trans (hb.mono B3.out.size))
  have T4 := Lib.hid (T3.out.on hb)
  clear hb
  go_wp2_with (fail)
  refine (hex_any u _ hu T4.out).mono ?_
  rw [HX.out]
  rintro e w5 ⟨rfl, hb⟩
  have B5 := Lib.hid (B4.out.trans (hb.mono B4.out.size))
  have T5 := Lib.hid (T4.out.on hb)
  clear hb
  have sX := SX.out
  go_wp2_with (fail)
  refine (awake_any _ T5.out).mono ?_
  rintro e w6 ⟨rfl, hb⟩
  have B6 := Lib.hid (B5.out.trans (hb.mono B5.out.size))
  clear hb
  go_wp2
  go_ret
  exact ⟨rfl, B6.out⟩
theorem back_law (n u : Int) (w : World) (h0 : -9223372036854775808 ≤ n) (h1 : n ≤ 9223372036854775807) (hu0 : 0 ≤ u) (hu : u < 4294967296) (ht : Tabs w) :
    Calls Tryd.prog 7 #[.int .i64 n, .int .u32 u] w fun e w' => e = .returned (.bool true) ∧ Below w.heap.size w w' := by
  obtain ⟨m, rfl⟩ : ∃ m : Nat, u = m := ⟨u.toNat, by omega⟩
  exact back_walk n m w h0 h1 (by omega) ht
end Go.Proofs.YtfeekgepmemanaaDoor
