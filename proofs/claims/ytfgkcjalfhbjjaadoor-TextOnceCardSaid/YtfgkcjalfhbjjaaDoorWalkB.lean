/-
  What the small functions of the package and of the reference answer: an operand's text, the operands of a form, an instruction with one operand set, the number of a text, a cause's name.
-/
import Derived.Test.YtfgkcjalfhbjjaaDoorWalkA
import Derived.Test.YtfgkcjalfhbjjaaDoorS06WalkF
namespace Go.Proofs.YtfgkcjalfhbjjaaDoor
open Go.RowKit S02 S06
theorem ret_str {a b : ByteArray} (h : a.data.toList = b.data.toList) : Ending.returned (.string a) = .returned (.string b) := S02.ret_str h
theorem itoa_fits (r : Int) (h0 : -9223372036854775808 ≤ r) (h1 : r ≤ 9223372036854775807) : ¬ 9223372036854775807 < 1 + (Lib.itoa r).length := by
  have := Lib.itoa_length_le r h0 h1
  omega
theorem reg_any (r : Int) (w : World) (h0 : -9223372036854775808 ≤ r) (h1 : r ≤ 9223372036854775807) (ht : Tb w) :
    Calls Tryd.prog 40 #[.int .i64 r] w fun e w' => e = .returned (.string ⟨(114 :: Lib.itoa r).toArray⟩) ∧ Below w.heap.size w w' := by
  have HT := Lib.hid ht
  clear ht
  have HE := Lib.hid (show ((⟨#[114]⟩ : ByteArray) ++ ⟨(Lib.itoa r).toArray⟩).data.toList = (⟨(114 :: Lib.itoa r).toArray⟩ : ByteArray).data.toList by rw [NM.data_app]; rfl)
  have hl := itoa_fits r h0 h1
  go_enter Tryd.func40, Tryd.ntmps40
  go_wp2_with (go_at_call 41; refine (dec_any r _ h0 h1 HT.out).mono ?_; rintro e w1 ⟨rfl, hb⟩)
  go_ret
  exact ⟨ret_str HE.out, hb⟩
theorem below_new {w w1 : World} {x : Obj} (h : Below (w.alloc x).heap.size (w.alloc x) w1) : Below w.heap.size w w1 :=
  ((Below.refl _ w).alloc (Nat.le_refl _) x).trans (h.mono (by simp))
theorem Tb.new {w : World} (h : Tb w) (x : Obj) : Tb (w.alloc x) := h.on ((Below.refl _ w).alloc (Nat.le_refl _) x)
theorem written_0 (op d a b m : Int) (w : World) (h : 0 ≤ d ∧ d < 16) (ht : Tb w) :
    Calls Tryd.prog 24 #[.agg #[.int .i64 op, .int .i64 d, .int .i64 a, .int .i64 b, .int .i64 m], .int .i64 0] w fun e w' => e = .returned (.string ⟨(114 :: Lib.itoa d).toArray⟩) ∧ Below w.heap.size w w' := by
  have HT := Lib.hid (ht.new (.cells #[.int .i64 op, .int .i64 d, .int .i64 a, .int .i64 b, .int .i64 m] 27))
  clear ht
  have h0 : -9223372036854775808 ≤ d := by omega
  have h1 : d ≤ 9223372036854775807 := by omega
  clear h
  go_enter Tryd.func24, Tryd.ntmps24
  go_wp2_with (go_at_call 40; refine (reg_any d _ h0 h1 HT.out).mono ?_; rintro e w1 ⟨rfl, hb⟩)
  go_ret
  exact ⟨rfl, below_new hb⟩
theorem written_1 (op d a b m : Int) (w : World) (h : 0 ≤ a ∧ a < 16) (ht : Tb w) :
    Calls Tryd.prog 24 #[.agg #[.int .i64 op, .int .i64 d, .int .i64 a, .int .i64 b, .int .i64 m], .int .i64 1] w fun e w' => e = .returned (.string ⟨(114 :: Lib.itoa a).toArray⟩) ∧ Below w.heap.size w w' := by
  have HT := Lib.hid (ht.new (.cells #[.int .i64 op, .int .i64 d, .int .i64 a, .int .i64 b, .int .i64 m] 27))
  clear ht
  have h0 : -9223372036854775808 ≤ a := by omega
  have h1 : a ≤ 9223372036854775807 := by omega
  clear h
  go_enter Tryd.func24, Tryd.ntmps24
  go_wp2_with (go_at_call 40; refine (reg_any a _ h0 h1 HT.out).mono ?_; rintro e w1 ⟨rfl, hb⟩)
  go_ret
  exact ⟨rfl, below_new hb⟩
theorem written_2 (op d a b m : Int) (w : World) (h : 0 ≤ b ∧ b < 16) (ht : Tb w) :
    Calls Tryd.prog 24 #[.agg #[.int .i64 op, .int .i64 d, .int .i64 a, .int .i64 b, .int .i64 m], .int .i64 2] w fun e w' => e = .returned (.string ⟨(114 :: Lib.itoa b).toArray⟩) ∧ Below w.heap.size w w' := by
  have HT := Lib.hid (ht.new (.cells #[.int .i64 op, .int .i64 d, .int .i64 a, .int .i64 b, .int .i64 m] 27))
  clear ht
  have h0 : -9223372036854775808 ≤ b := by omega
  have h1 : b ≤ 9223372036854775807 := by omega
  clear h
  go_enter Tryd.func24, Tryd.ntmps24
  go_wp2_with (go_at_call 40; refine (reg_any b _ h0 h1 HT.out).mono ?_; rintro e w1 ⟨rfl, hb⟩)
  go_ret
  exact ⟨rfl, below_new hb⟩
theorem written_3 (op d a b m : Int) (w : World) (h : -131072 ≤ m ∧ m < 262144) (ht : Tb w) :
    Calls Tryd.prog 24 #[.agg #[.int .i64 op, .int .i64 d, .int .i64 a, .int .i64 b, .int .i64 m], .int .i64 3] w fun e w' => e = .returned (.string ⟨(Lib.itoa m).toArray⟩) ∧ Below w.heap.size w w' := by
  have HT := Lib.hid (ht.new (.cells #[.int .i64 op, .int .i64 d, .int .i64 a, .int .i64 b, .int .i64 m] 27))
  clear ht
  have h0 : -9223372036854775808 ≤ m := by omega
  have h1 : m ≤ 9223372036854775807 := by omega
  clear h
  go_enter Tryd.func24, Tryd.ntmps24
  go_wp2_with (go_at_call 41; refine (dec_any m _ h0 h1 HT.out).mono ?_; rintro e w1 ⟨rfl, hb⟩)
  go_ret
  exact ⟨rfl, below_new hb⟩
theorem written_any (op d a b m : Int) (o : Nat) (w : World) (ho : o ≤ 3) (hd : 0 ≤ d ∧ d < 16) (ha : 0 ≤ a ∧ a < 16) (hb : 0 ≤ b ∧ b < 16) (hm : -131072 ≤ m ∧ m < 262144) (ht : Tb w) :
    Calls Tryd.prog 24 #[.agg #[.int .i64 op, .int .i64 d, .int .i64 a, .int .i64 b, .int .i64 m], .int .i64 o] w fun e w' => e = .returned (.string ⟨(TX.wr d a b m o).toArray⟩) ∧ Below w.heap.size w w' := by
  have : o = 0 ∨ o = 1 ∨ o = 2 ∨ o = 3 := by omega
  rcases this with rfl | rfl | rfl | rfl
  · exact written_0 op d a b m w hd ht
  · exact written_1 op d a b m w ha ht
  · exact written_2 op d a b m w hb ht
  · exact written_3 op d a b m w hm ht
theorem field_0 (op d a b m : Int) (w : World) (h : 0 ≤ d ∧ d < 16) :
    Calls Tryd.prog 27 #[.agg #[.int .i64 op, .int .i64 d, .int .i64 a, .int .i64 b, .int .i64 m], .int .u8 100] w fun e w' => e = .returned (.string ⟨(114 :: Lib.itoa d).toArray⟩) ∧ Below w.heap.size w w' := by
  have h0 : -9223372036854775808 ≤ d := by omega
  have h1 : d ≤ 9223372036854775807 := by omega
  clear h
  have HE := Lib.hid (show ((⟨#[114]⟩ : ByteArray) ++ ⟨(Lib.itoa d).toArray⟩).data.toList = (⟨(114 :: Lib.itoa d).toArray⟩ : ByteArray).data.toList by rw [NM.data_app]; rfl)
  have hl := itoa_fits d h0 h1
  go_enter Tryd.func27, Tryd.ntmps27
  go_wp2_with (go_at_call 42; refine (rdec_any d _ h0 h1).mono ?_; rintro e w1 ⟨rfl, hb⟩)
  go_ret
  exact ⟨ret_str HE.out, below_new hb⟩
theorem field_1 (op d a b m : Int) (w : World) (h : 0 ≤ a ∧ a < 16) :
    Calls Tryd.prog 27 #[.agg #[.int .i64 op, .int .i64 d, .int .i64 a, .int .i64 b, .int .i64 m], .int .u8 97] w fun e w' => e = .returned (.string ⟨(114 :: Lib.itoa a).toArray⟩) ∧ Below w.heap.size w w' := by
  have h0 : -9223372036854775808 ≤ a := by omega
  have h1 : a ≤ 9223372036854775807 := by omega
  clear h
  have HE := Lib.hid (show ((⟨#[114]⟩ : ByteArray) ++ ⟨(Lib.itoa a).toArray⟩).data.toList = (⟨(114 :: Lib.itoa a).toArray⟩ : ByteArray).data.toList by rw [NM.data_app]; rfl)
  have hl := itoa_fits a h0 h1
  go_enter Tryd.func27, Tryd.ntmps27
  go_wp2_with (go_at_call 42; refine (rdec_any a _ h0 h1).mono ?_; rintro e w1 ⟨rfl, hb⟩)
  go_ret
  exact ⟨ret_str HE.out, below_new hb⟩
theorem field_2 (op d a b m : Int) (w : World) (h : 0 ≤ b ∧ b < 16) :
    Calls Tryd.prog 27 #[.agg #[.int .i64 op, .int .i64 d, .int .i64 a, .int .i64 b, .int .i64 m], .int .u8 98] w fun e w' => e = .returned (.string ⟨(114 :: Lib.itoa b).toArray⟩) ∧ Below w.heap.size w w' := by
  have h0 : -9223372036854775808 ≤ b := by omega
  have h1 : b ≤ 9223372036854775807 := by omega
  clear h
  have HE := Lib.hid (show ((⟨#[114]⟩ : ByteArray) ++ ⟨(Lib.itoa b).toArray⟩).data.toList = (⟨(114 :: Lib.itoa b).toArray⟩ : ByteArray).data.toList by rw [NM.data_app]; rfl)
  have hl := itoa_fits b h0 h1
  go_enter Tryd.func27, Tryd.ntmps27
  go_wp2_with (go_at_call 42; refine (rdec_any b _ h0 h1).mono ?_; rintro e w1 ⟨rfl, hb⟩)
  go_ret
  exact ⟨ret_str HE.out, below_new hb⟩
theorem field_3 (op d a b m : Int) (w : World) (h : -131072 ≤ m ∧ m < 262144) :
    Calls Tryd.prog 27 #[.agg #[.int .i64 op, .int .i64 d, .int .i64 a, .int .i64 b, .int .i64 m], .int .u8 105] w fun e w' => e = .returned (.string ⟨(Lib.itoa m).toArray⟩) ∧ Below w.heap.size w w' := by
  have h0 : -9223372036854775808 ≤ m := by omega
  have h1 : m ≤ 9223372036854775807 := by omega
  clear h
  go_enter Tryd.func27, Tryd.ntmps27
  go_wp2_with (go_at_call 42; refine (rdec_any m _ h0 h1).mono ?_; rintro e w1 ⟨rfl, hb⟩)
  go_ret
  exact ⟨rfl, below_new hb⟩
theorem field_any (op d a b m : Int) (o : Nat) (w : World) (ho : o ≤ 3) (hd : 0 ≤ d ∧ d < 16) (ha : 0 ≤ a ∧ a < 16) (hb : 0 ≤ b ∧ b < 16) (hm : -131072 ≤ m ∧ m < 262144) :
    Calls Tryd.prog 27 #[.agg #[.int .i64 op, .int .i64 d, .int .i64 a, .int .i64 b, .int .i64 m], .int .u8 (TX.lt o).toNat] w fun e w' => e = .returned (.string ⟨(TX.wr d a b m o).toArray⟩) ∧ Below w.heap.size w w' := by
  have : o = 0 ∨ o = 1 ∨ o = 2 ∨ o = 3 := by omega
  rcases this with rfl | rfl | rfl | rfl
  · exact field_0 op d a b m w hd
  · exact field_1 op d a b m w ha
  · exact field_2 op d a b m w hb
  · exact field_3 op d a b m w hm
/-- A form's operands as values. -/
def ov (f : Int) : List Value := (TX.os f).map fun (o : Nat) => Value.int .i64 (o : Int)
theorem operands_1 (w : World) : Calls Tryd.prog 22 #[.int .i64 1] w fun e w' => e = .returned (.slice (some ⟨w.heap.size, 0, none⟩) (TX.os 1).length (TX.os 1).length) ∧ w' = w.alloc (.cells (ov 1).toArray 46) := by
  go_enter Tryd.func22, Tryd.ntmps22
  go_wp2
  go_ret
  exact ⟨rfl, rfl⟩
theorem operands_2 (w : World) : Calls Tryd.prog 22 #[.int .i64 2] w fun e w' => e = .returned (.slice (some ⟨w.heap.size, 0, none⟩) (TX.os 2).length (TX.os 2).length) ∧ w' = w.alloc (.cells (ov 2).toArray 46) := by
  go_enter Tryd.func22, Tryd.ntmps22
  go_wp2
  go_ret
  exact ⟨rfl, rfl⟩
theorem operands_3 (w : World) : Calls Tryd.prog 22 #[.int .i64 3] w fun e w' => e = .returned (.slice (some ⟨w.heap.size, 0, none⟩) (TX.os 3).length (TX.os 3).length) ∧ w' = w.alloc (.cells (ov 3).toArray 46) := by
  go_enter Tryd.func22, Tryd.ntmps22
  go_wp2
  go_ret
  exact ⟨rfl, rfl⟩
theorem operands_4 (w : World) : Calls Tryd.prog 22 #[.int .i64 4] w fun e w' => e = .returned (.slice (some ⟨w.heap.size, 0, none⟩) (TX.os 4).length (TX.os 4).length) ∧ w' = w.alloc (.cells (ov 4).toArray 46) := by
  go_enter Tryd.func22, Tryd.ntmps22
  go_wp2
  go_ret
  exact ⟨rfl, rfl⟩
theorem operands_5 (w : World) : Calls Tryd.prog 22 #[.int .i64 5] w fun e w' => e = .returned (.slice (some ⟨w.heap.size, 0, none⟩) (TX.os 5).length (TX.os 5).length) ∧ w' = w.alloc (.cells (ov 5).toArray 46) := by
  go_enter Tryd.func22, Tryd.ntmps22
  go_wp2
  go_ret
  exact ⟨rfl, rfl⟩
theorem operands_6 (w : World) : Calls Tryd.prog 22 #[.int .i64 6] w fun e w' => e = .returned (.slice (some ⟨w.heap.size, 0, none⟩) (TX.os 6).length (TX.os 6).length) ∧ w' = w.alloc (.cells (ov 6).toArray 46) := by
  go_enter Tryd.func22, Tryd.ntmps22
  go_wp2
  go_ret
  exact ⟨rfl, rfl⟩
theorem operands_7 (w : World) : Calls Tryd.prog 22 #[.int .i64 7] w fun e w' => e = .returned (.slice (some ⟨w.heap.size, 0, none⟩) (TX.os 7).length (TX.os 7).length) ∧ w' = w.alloc (.cells (ov 7).toArray 46) := by
  go_enter Tryd.func22, Tryd.ntmps22
  go_wp2
  go_ret
  exact ⟨rfl, rfl⟩
theorem operands_8 (w : World) : Calls Tryd.prog 22 #[.int .i64 8] w fun e w' => e = .returned (.slice (some ⟨w.heap.size, 0, none⟩) (TX.os 8).length (TX.os 8).length) ∧ w' = w.alloc (.cells (ov 8).toArray 46) := by
  go_enter Tryd.func22, Tryd.ntmps22
  go_wp2
  go_ret
  exact ⟨rfl, rfl⟩
theorem operands_9 (w : World) : Calls Tryd.prog 22 #[.int .i64 9] w fun e w' => e = .returned (.slice (some ⟨w.heap.size, 0, none⟩) (TX.os 9).length (TX.os 9).length) ∧ w' = w.alloc (.cells (ov 9).toArray 46) := by
  go_enter Tryd.func22, Tryd.ntmps22
  go_wp2
  go_ret
  exact ⟨rfl, rfl⟩
theorem operands_11 (w : World) : Calls Tryd.prog 22 #[.int .i64 11] w fun e w' => e = .returned (.slice (some ⟨w.heap.size, 0, none⟩) (TX.os 11).length (TX.os 11).length) ∧ w' = w.alloc (.cells (ov 11).toArray 46) := by
  go_enter Tryd.func22, Tryd.ntmps22
  go_wp2
  go_ret
  exact ⟨rfl, rfl⟩
theorem operands_none (w : World) : Calls Tryd.prog 22 #[.int .i64 10] w fun e w' => e = .returned (.slice none 0 0) ∧ w = w' := by
  go_enter Tryd.func22, Tryd.ntmps22
  go_wp2
  go_ret
  exact ⟨rfl, rfl⟩
theorem operands_some (f : Int) (w : World) (hf : 1 ≤ f ∧ f ≤ 11) (h : ¬ f = 10) : Calls Tryd.prog 22 #[.int .i64 f] w fun e w' => e = .returned (.slice (some ⟨w.heap.size, 0, none⟩) (TX.os f).length (TX.os f).length) ∧ w' = w.alloc (.cells (ov f).toArray 46) := by
  have : f = 1 ∨ f = 2 ∨ f = 3 ∨ f = 4 ∨ f = 5 ∨ f = 6 ∨ f = 7 ∨ f = 8 ∨ f = 9 ∨ f = 11 := by omega
  rcases this with rfl | rfl | rfl | rfl | rfl | rfl | rfl | rfl | rfl | rfl
  · exact operands_1 w
  · exact operands_2 w
  · exact operands_3 w
  · exact operands_4 w
  · exact operands_5 w
  · exact operands_6 w
  · exact operands_7 w
  · exact operands_8 w
  · exact operands_9 w
  · exact operands_11 w
theorem fields_1 (w : World) : Calls Tryd.prog 25 #[.int .i64 1] w fun e w' => e = .returned (.string ⟨((TX.os 1).map TX.lt).toArray⟩) ∧ w = w' := by
  go_enter Tryd.func25, Tryd.ntmps25
  go_wp2
  go_ret
  exact ⟨rfl, rfl⟩
theorem fields_2 (w : World) : Calls Tryd.prog 25 #[.int .i64 2] w fun e w' => e = .returned (.string ⟨((TX.os 2).map TX.lt).toArray⟩) ∧ w = w' := by
  go_enter Tryd.func25, Tryd.ntmps25
  go_wp2
  go_ret
  exact ⟨rfl, rfl⟩
theorem fields_3 (w : World) : Calls Tryd.prog 25 #[.int .i64 3] w fun e w' => e = .returned (.string ⟨((TX.os 3).map TX.lt).toArray⟩) ∧ w = w' := by
  go_enter Tryd.func25, Tryd.ntmps25
  go_wp2
  go_ret
  exact ⟨rfl, rfl⟩
theorem fields_4 (w : World) : Calls Tryd.prog 25 #[.int .i64 4] w fun e w' => e = .returned (.string ⟨((TX.os 4).map TX.lt).toArray⟩) ∧ w = w' := by
  go_enter Tryd.func25, Tryd.ntmps25
  go_wp2
  go_ret
  exact ⟨rfl, rfl⟩
theorem fields_5 (w : World) : Calls Tryd.prog 25 #[.int .i64 5] w fun e w' => e = .returned (.string ⟨((TX.os 5).map TX.lt).toArray⟩) ∧ w = w' := by
  go_enter Tryd.func25, Tryd.ntmps25
  go_wp2
  go_ret
  exact ⟨rfl, rfl⟩
theorem fields_6 (w : World) : Calls Tryd.prog 25 #[.int .i64 6] w fun e w' => e = .returned (.string ⟨((TX.os 6).map TX.lt).toArray⟩) ∧ w = w' := by
  go_enter Tryd.func25, Tryd.ntmps25
  go_wp2
  go_ret
  exact ⟨rfl, rfl⟩
theorem fields_7 (w : World) : Calls Tryd.prog 25 #[.int .i64 7] w fun e w' => e = .returned (.string ⟨((TX.os 7).map TX.lt).toArray⟩) ∧ w = w' := by
  go_enter Tryd.func25, Tryd.ntmps25
  go_wp2
  go_ret
  exact ⟨rfl, rfl⟩
theorem fields_8 (w : World) : Calls Tryd.prog 25 #[.int .i64 8] w fun e w' => e = .returned (.string ⟨((TX.os 8).map TX.lt).toArray⟩) ∧ w = w' := by
  go_enter Tryd.func25, Tryd.ntmps25
  go_wp2
  go_ret
  exact ⟨rfl, rfl⟩
theorem fields_9 (w : World) : Calls Tryd.prog 25 #[.int .i64 9] w fun e w' => e = .returned (.string ⟨((TX.os 9).map TX.lt).toArray⟩) ∧ w = w' := by
  go_enter Tryd.func25, Tryd.ntmps25
  go_wp2
  go_ret
  exact ⟨rfl, rfl⟩
theorem fields_11 (w : World) : Calls Tryd.prog 25 #[.int .i64 11] w fun e w' => e = .returned (.string ⟨((TX.os 11).map TX.lt).toArray⟩) ∧ w = w' := by
  go_enter Tryd.func25, Tryd.ntmps25
  go_wp2
  go_ret
  exact ⟨rfl, rfl⟩
theorem fields_10 (w : World) : Calls Tryd.prog 25 #[.int .i64 10] w fun e w' => e = .returned (.string ⟨((TX.os 10).map TX.lt).toArray⟩) ∧ w = w' := by
  go_enter Tryd.func25, Tryd.ntmps25
  go_wp2
  go_ret
  exact ⟨rfl, rfl⟩
theorem fields_any (f : Int) (w : World) (hf : 1 ≤ f ∧ f ≤ 11) : Calls Tryd.prog 25 #[.int .i64 f] w fun e w' => e = .returned (.string ⟨((TX.os f).map TX.lt).toArray⟩) ∧ w = w' := by
  have : f = 1 ∨ f = 2 ∨ f = 3 ∨ f = 4 ∨ f = 5 ∨ f = 6 ∨ f = 7 ∨ f = 8 ∨ f = 9 ∨ f = 11 ∨ f = 10 := by omega
  rcases this with rfl | rfl | rfl | rfl | rfl | rfl | rfl | rfl | rfl | rfl | rfl
  · exact fields_1 w
  · exact fields_2 w
  · exact fields_3 w
  · exact fields_4 w
  · exact fields_5 w
  · exact fields_6 w
  · exact fields_7 w
  · exact fields_8 w
  · exact fields_9 w
  · exact fields_11 w
  · exact fields_10 w
theorem with_0 (op d a b m n : Int) (w : World) :
    Calls Tryd.prog 32 #[.agg #[.int .i64 op, .int .i64 d, .int .i64 a, .int .i64 b, .int .i64 m], .int .i64 0, .int .i64 n] w fun e w' => e = .returned (.agg #[.int .i64 op, .int .i64 n, .int .i64 a, .int .i64 b, .int .i64 m]) ∧ Below w.heap.size w w' := by
  go_enter Tryd.func32, Tryd.ntmps32
  go_wp2
  refine bodyPost_ret (v := .agg #[.int .i64 op, .int .i64 n, .int .i64 a, .int .i64 b, .int .i64 m]) (by simp [results, Tryd.results32, go_sem]) rfl ⟨rfl, ?_⟩
  repeat first | exact Below.refl _ _ | refine Below.setCell ?_ (by simp) _ | refine Below.alloc ?_ (by simp) _
theorem with_1 (op d a b m n : Int) (w : World) :
    Calls Tryd.prog 32 #[.agg #[.int .i64 op, .int .i64 d, .int .i64 a, .int .i64 b, .int .i64 m], .int .i64 1, .int .i64 n] w fun e w' => e = .returned (.agg #[.int .i64 op, .int .i64 d, .int .i64 n, .int .i64 b, .int .i64 m]) ∧ Below w.heap.size w w' := by
  go_enter Tryd.func32, Tryd.ntmps32
  go_wp2
  refine bodyPost_ret (v := .agg #[.int .i64 op, .int .i64 d, .int .i64 n, .int .i64 b, .int .i64 m]) (by simp [results, Tryd.results32, go_sem]) rfl ⟨rfl, ?_⟩
  repeat first | exact Below.refl _ _ | refine Below.setCell ?_ (by simp) _ | refine Below.alloc ?_ (by simp) _
theorem with_2 (op d a b m n : Int) (w : World) :
    Calls Tryd.prog 32 #[.agg #[.int .i64 op, .int .i64 d, .int .i64 a, .int .i64 b, .int .i64 m], .int .i64 2, .int .i64 n] w fun e w' => e = .returned (.agg #[.int .i64 op, .int .i64 d, .int .i64 a, .int .i64 n, .int .i64 m]) ∧ Below w.heap.size w w' := by
  go_enter Tryd.func32, Tryd.ntmps32
  go_wp2
  refine bodyPost_ret (v := .agg #[.int .i64 op, .int .i64 d, .int .i64 a, .int .i64 n, .int .i64 m]) (by simp [results, Tryd.results32, go_sem]) rfl ⟨rfl, ?_⟩
  repeat first | exact Below.refl _ _ | refine Below.setCell ?_ (by simp) _ | refine Below.alloc ?_ (by simp) _
theorem with_3 (op d a b m n : Int) (w : World) :
    Calls Tryd.prog 32 #[.agg #[.int .i64 op, .int .i64 d, .int .i64 a, .int .i64 b, .int .i64 m], .int .i64 3, .int .i64 n] w fun e w' => e = .returned (.agg #[.int .i64 op, .int .i64 d, .int .i64 a, .int .i64 b, .int .i64 n]) ∧ Below w.heap.size w w' := by
  go_enter Tryd.func32, Tryd.ntmps32
  go_wp2
  refine bodyPost_ret (v := .agg #[.int .i64 op, .int .i64 d, .int .i64 a, .int .i64 b, .int .i64 n]) (by simp [results, Tryd.results32, go_sem]) rfl ⟨rfl, ?_⟩
  repeat first | exact Below.refl _ _ | refine Below.setCell ?_ (by simp) _ | refine Below.alloc ?_ (by simp) _
theorem with_any (op n : Int) (q : Int × Int × Int × Int) (o : Nat) (w : World) (ho : o ≤ 3) :
    Calls Tryd.prog 32 #[.agg #[.int .i64 op, .int .i64 q.1, .int .i64 q.2.1, .int .i64 q.2.2.1, .int .i64 q.2.2.2], .int .i64 o, .int .i64 n] w fun e w' => e = .returned (.agg #[.int .i64 op, .int .i64 (TX.wth o n q).1, .int .i64 (TX.wth o n q).2.1, .int .i64 (TX.wth o n q).2.2.1, .int .i64 (TX.wth o n q).2.2.2]) ∧ Below w.heap.size w w' := by
  obtain ⟨d, a, b, m⟩ := q
  have : o = 0 ∨ o = 1 ∨ o = 2 ∨ o = 3 := by omega
  rcases this with rfl | rfl | rfl | rfl
  · exact with_0 op d a b m n w
  · exact with_1 op d a b m n w
  · exact with_2 op d a b m n w
  · exact with_3 op d a b m n w
theorem number_any (s : ByteArray) (w : World) (hs : s.size ≤ 9223372036854775807) : Calls Tryd.prog 33 #[.string s] w fun e w' => e = .returned (.int .i64 (TX.nb s.data.toList)) ∧ Below w.heap.size w w' := by
  have hz := S02.size_trim s [114]
  go_enter Tryd.func33, Tryd.ntmps33
  go_wp2_with (first
    | (go_at_call 45; refine (Tryd.strings_TrimPrefix _ _ _).mono ?_; rintro e w' ⟨rfl, rfl⟩)
    | (go_at_call 44; refine (S02.parse_any _ _ (by simpa using Nat.le_trans hz hs)).mono ?_; rintro e w1 ⟨rfl, hbel⟩))
  go_ret
  exact ⟨rfl, hbel⟩
theorem cause_0 (w : World) : Calls Tryd.prog 18 #[.int .i64 0] w fun e w' => e = .returned (.string ⟨(TX.cs 0).toArray⟩) ∧ w = w' := by
  go_enter Tryd.func18, Tryd.ntmps18
  go_wp2
  go_ret
  exact ⟨rfl, rfl⟩
theorem cause_1 (w : World) : Calls Tryd.prog 18 #[.int .i64 1] w fun e w' => e = .returned (.string ⟨(TX.cs 1).toArray⟩) ∧ w = w' := by
  go_enter Tryd.func18, Tryd.ntmps18
  go_wp2
  go_ret
  exact ⟨rfl, rfl⟩
theorem cause_2 (w : World) : Calls Tryd.prog 18 #[.int .i64 2] w fun e w' => e = .returned (.string ⟨(TX.cs 2).toArray⟩) ∧ w = w' := by
  go_enter Tryd.func18, Tryd.ntmps18
  go_wp2
  go_ret
  exact ⟨rfl, rfl⟩
theorem cause_3 (w : World) : Calls Tryd.prog 18 #[.int .i64 3] w fun e w' => e = .returned (.string ⟨(TX.cs 3).toArray⟩) ∧ w = w' := by
  go_enter Tryd.func18, Tryd.ntmps18
  go_wp2
  go_ret
  exact ⟨rfl, rfl⟩
theorem cause_4 (w : World) : Calls Tryd.prog 18 #[.int .i64 4] w fun e w' => e = .returned (.string ⟨(TX.cs 4).toArray⟩) ∧ w = w' := by
  go_enter Tryd.func18, Tryd.ntmps18
  go_wp2
  go_ret
  exact ⟨rfl, rfl⟩
theorem cause_5 (w : World) : Calls Tryd.prog 18 #[.int .i64 5] w fun e w' => e = .returned (.string ⟨(TX.cs 5).toArray⟩) ∧ w = w' := by
  go_enter Tryd.func18, Tryd.ntmps18
  go_wp2
  go_ret
  exact ⟨rfl, rfl⟩
theorem cause_6 (w : World) : Calls Tryd.prog 18 #[.int .i64 6] w fun e w' => e = .returned (.string ⟨(TX.cs 6).toArray⟩) ∧ w = w' := by
  go_enter Tryd.func18, Tryd.ntmps18
  go_wp2
  go_ret
  exact ⟨rfl, rfl⟩
theorem cause_7 (w : World) : Calls Tryd.prog 18 #[.int .i64 7] w fun e w' => e = .returned (.string ⟨(TX.cs 7).toArray⟩) ∧ w = w' := by
  go_enter Tryd.func18, Tryd.ntmps18
  go_wp2
  go_ret
  exact ⟨rfl, rfl⟩
theorem cause_8 (w : World) : Calls Tryd.prog 18 #[.int .i64 8] w fun e w' => e = .returned (.string ⟨(TX.cs 8).toArray⟩) ∧ w = w' := by
  go_enter Tryd.func18, Tryd.ntmps18
  go_wp2
  go_ret
  exact ⟨rfl, rfl⟩
theorem cause_9 (w : World) : Calls Tryd.prog 18 #[.int .i64 9] w fun e w' => e = .returned (.string ⟨(TX.cs 9).toArray⟩) ∧ w = w' := by
  go_enter Tryd.func18, Tryd.ntmps18
  go_wp2
  go_ret
  exact ⟨rfl, rfl⟩
theorem cause_10 (w : World) : Calls Tryd.prog 18 #[.int .i64 10] w fun e w' => e = .returned (.string ⟨(TX.cs 10).toArray⟩) ∧ w = w' := by
  go_enter Tryd.func18, Tryd.ntmps18
  go_wp2
  go_ret
  exact ⟨rfl, rfl⟩
theorem cause_16 (w : World) : Calls Tryd.prog 18 #[.int .i64 16] w fun e w' => e = .returned (.string ⟨(TX.cs 16).toArray⟩) ∧ w = w' := by
  go_enter Tryd.func18, Tryd.ntmps18
  go_wp2
  go_ret
  exact ⟨rfl, rfl⟩
theorem cause_17 (w : World) : Calls Tryd.prog 18 #[.int .i64 17] w fun e w' => e = .returned (.string ⟨(TX.cs 17).toArray⟩) ∧ w = w' := by
  go_enter Tryd.func18, Tryd.ntmps18
  go_wp2
  go_ret
  exact ⟨rfl, rfl⟩
theorem cause_18 (w : World) : Calls Tryd.prog 18 #[.int .i64 18] w fun e w' => e = .returned (.string ⟨(TX.cs 18).toArray⟩) ∧ w = w' := by
  go_enter Tryd.func18, Tryd.ntmps18
  go_wp2
  go_ret
  exact ⟨rfl, rfl⟩
theorem rcause_0 (w : World) : Calls Tryd.prog 19 #[.int .i64 0] w fun e w' => e = .returned (.string ⟨(TX.cs 0).toArray⟩) ∧ Below w.heap.size w w' := by
  go_enter Tryd.func19, Tryd.ntmps19
  go_wp2
  go_ret
  exact ⟨rfl, (Below.refl _ w).alloc (Nat.le_refl _) _⟩
theorem rcause_1 (w : World) : Calls Tryd.prog 19 #[.int .i64 1] w fun e w' => e = .returned (.string ⟨(TX.cs 1).toArray⟩) ∧ Below w.heap.size w w' := by
  go_enter Tryd.func19, Tryd.ntmps19
  go_wp2
  go_ret
  exact ⟨rfl, (Below.refl _ w).alloc (Nat.le_refl _) _⟩
theorem rcause_2 (w : World) : Calls Tryd.prog 19 #[.int .i64 2] w fun e w' => e = .returned (.string ⟨(TX.cs 2).toArray⟩) ∧ Below w.heap.size w w' := by
  go_enter Tryd.func19, Tryd.ntmps19
  go_wp2
  go_ret
  exact ⟨rfl, (Below.refl _ w).alloc (Nat.le_refl _) _⟩
theorem rcause_3 (w : World) : Calls Tryd.prog 19 #[.int .i64 3] w fun e w' => e = .returned (.string ⟨(TX.cs 3).toArray⟩) ∧ Below w.heap.size w w' := by
  go_enter Tryd.func19, Tryd.ntmps19
  go_wp2
  go_ret
  exact ⟨rfl, (Below.refl _ w).alloc (Nat.le_refl _) _⟩
theorem rcause_4 (w : World) : Calls Tryd.prog 19 #[.int .i64 4] w fun e w' => e = .returned (.string ⟨(TX.cs 4).toArray⟩) ∧ Below w.heap.size w w' := by
  go_enter Tryd.func19, Tryd.ntmps19
  go_wp2
  go_ret
  exact ⟨rfl, (Below.refl _ w).alloc (Nat.le_refl _) _⟩
theorem rcause_5 (w : World) : Calls Tryd.prog 19 #[.int .i64 5] w fun e w' => e = .returned (.string ⟨(TX.cs 5).toArray⟩) ∧ Below w.heap.size w w' := by
  go_enter Tryd.func19, Tryd.ntmps19
  go_wp2
  go_ret
  exact ⟨rfl, (Below.refl _ w).alloc (Nat.le_refl _) _⟩
theorem rcause_6 (w : World) : Calls Tryd.prog 19 #[.int .i64 6] w fun e w' => e = .returned (.string ⟨(TX.cs 6).toArray⟩) ∧ Below w.heap.size w w' := by
  go_enter Tryd.func19, Tryd.ntmps19
  go_wp2
  go_ret
  exact ⟨rfl, (Below.refl _ w).alloc (Nat.le_refl _) _⟩
theorem rcause_7 (w : World) : Calls Tryd.prog 19 #[.int .i64 7] w fun e w' => e = .returned (.string ⟨(TX.cs 7).toArray⟩) ∧ Below w.heap.size w w' := by
  go_enter Tryd.func19, Tryd.ntmps19
  go_wp2
  go_ret
  exact ⟨rfl, (Below.refl _ w).alloc (Nat.le_refl _) _⟩
theorem rcause_8 (w : World) : Calls Tryd.prog 19 #[.int .i64 8] w fun e w' => e = .returned (.string ⟨(TX.cs 8).toArray⟩) ∧ Below w.heap.size w w' := by
  go_enter Tryd.func19, Tryd.ntmps19
  go_wp2
  go_ret
  exact ⟨rfl, (Below.refl _ w).alloc (Nat.le_refl _) _⟩
theorem rcause_9 (w : World) : Calls Tryd.prog 19 #[.int .i64 9] w fun e w' => e = .returned (.string ⟨(TX.cs 9).toArray⟩) ∧ Below w.heap.size w w' := by
  go_enter Tryd.func19, Tryd.ntmps19
  go_wp2
  go_ret
  exact ⟨rfl, (Below.refl _ w).alloc (Nat.le_refl _) _⟩
theorem rcause_10 (w : World) : Calls Tryd.prog 19 #[.int .i64 10] w fun e w' => e = .returned (.string ⟨(TX.cs 10).toArray⟩) ∧ Below w.heap.size w w' := by
  go_enter Tryd.func19, Tryd.ntmps19
  go_wp2
  go_ret
  exact ⟨rfl, (Below.refl _ w).alloc (Nat.le_refl _) _⟩
theorem rcause_16 (w : World) : Calls Tryd.prog 19 #[.int .i64 16] w fun e w' => e = .returned (.string ⟨(TX.cs 16).toArray⟩) ∧ Below w.heap.size w w' := by
  go_enter Tryd.func19, Tryd.ntmps19
  go_wp2
  go_ret
  exact ⟨rfl, (Below.refl _ w).alloc (Nat.le_refl _) _⟩
theorem rcause_17 (w : World) : Calls Tryd.prog 19 #[.int .i64 17] w fun e w' => e = .returned (.string ⟨(TX.cs 17).toArray⟩) ∧ Below w.heap.size w w' := by
  go_enter Tryd.func19, Tryd.ntmps19
  go_wp2
  go_ret
  exact ⟨rfl, (Below.refl _ w).alloc (Nat.le_refl _) _⟩
theorem rcause_18 (w : World) : Calls Tryd.prog 19 #[.int .i64 18] w fun e w' => e = .returned (.string ⟨(TX.cs 18).toArray⟩) ∧ Below w.heap.size w w' := by
  go_enter Tryd.func19, Tryd.ntmps19
  go_wp2
  go_ret
  exact ⟨rfl, (Below.refl _ w).alloc (Nat.le_refl _) _⟩
theorem cs_none {n : Int} (h : ¬ (0 ≤ n ∧ n ≤ 10) ∧ ¬ (16 ≤ n ∧ n ≤ 18)) : TX.cs n = [] := by
  unfold TX.cs
  repeat rw [if_neg (by omega)]
theorem cause_none (n : Int) (w : World) (h : ¬ (0 ≤ n ∧ n ≤ 10) ∧ ¬ (16 ≤ n ∧ n ≤ 18)) : Calls Tryd.prog 18 #[.int .i64 n] w fun e w' => e = .returned (.string ⟨(TX.cs n).toArray⟩) ∧ w = w' := by
  rw [cs_none h]
  have e0 : (n == 0) = false := by simp; omega
  have e1 : (n == 1) = false := by simp; omega
  have e2 : (n == 2) = false := by simp; omega
  have e3 : (n == 3) = false := by simp; omega
  have e4 : (n == 4) = false := by simp; omega
  have e5 : (n == 5) = false := by simp; omega
  have e6 : (n == 6) = false := by simp; omega
  have e7 : (n == 7) = false := by simp; omega
  have e8 : (n == 8) = false := by simp; omega
  have e9 : (n == 9) = false := by simp; omega
  have e10 : (n == 10) = false := by simp; omega
  have e16 : (n == 16) = false := by simp; omega
  have e17 : (n == 17) = false := by simp; omega
  have e18 : (n == 18) = false := by simp; omega
  clear h
  go_enter Tryd.func18, Tryd.ntmps18
  go_wp2
  go_ret
  exact ⟨rfl, rfl⟩
theorem rcause_none (n : Int) (w : World) (h : ¬ (0 ≤ n ∧ n ≤ 10) ∧ ¬ (16 ≤ n ∧ n ≤ 18)) : Calls Tryd.prog 19 #[.int .i64 n] w fun e w' => e = .returned (.string ⟨(TX.cs n).toArray⟩) ∧ Below w.heap.size w w' := by
  rw [cs_none h]
  have e16 : (n == 16) = false := by simp; omega
  have e17 : (n == 17) = false := by simp; omega
  have e18 : (n == 18) = false := by simp; omega
  by_cases h0 : 0 ≤ n
  · have h1 : decide (0 ≤ n) = true := by simpa using h0
    have h2 : decide (n < 11) = false := by simp only [decide_eq_false_iff_not]; omega
    clear h
    go_enter Tryd.func19, Tryd.ntmps19
    go_wp2
    go_ret
    exact ⟨rfl, (Below.refl _ w).alloc (Nat.le_refl _) _⟩
  · have h1 : decide (0 ≤ n) = false := by simpa using h0
    clear h
    go_enter Tryd.func19, Tryd.ntmps19
    go_wp2
    go_ret
    exact ⟨rfl, (Below.refl _ w).alloc (Nat.le_refl _) _⟩
theorem cause_any (n : Int) (w : World) : Calls Tryd.prog 18 #[.int .i64 n] w fun e w' => e = .returned (.string ⟨(TX.cs n).toArray⟩) ∧ w = w' := by
  by_cases h : ¬ (0 ≤ n ∧ n ≤ 10) ∧ ¬ (16 ≤ n ∧ n ≤ 18)
  · exact cause_none n w h
  · have : n = 0 ∨ n = 1 ∨ n = 2 ∨ n = 3 ∨ n = 4 ∨ n = 5 ∨ n = 6 ∨ n = 7 ∨ n = 8 ∨ n = 9 ∨ n = 10 ∨ n = 16 ∨ n = 17 ∨ n = 18 := by omega
    rcases this with rfl | rfl | rfl | rfl | rfl | rfl | rfl | rfl | rfl | rfl | rfl | rfl | rfl | rfl
    · exact cause_0 w
    · exact cause_1 w
    · exact cause_2 w
    · exact cause_3 w
    · exact cause_4 w
    · exact cause_5 w
    · exact cause_6 w
    · exact cause_7 w
    · exact cause_8 w
    · exact cause_9 w
    · exact cause_10 w
    · exact cause_16 w
    · exact cause_17 w
    · exact cause_18 w
theorem rcause_any (n : Int) (w : World) : Calls Tryd.prog 19 #[.int .i64 n] w fun e w' => e = .returned (.string ⟨(TX.cs n).toArray⟩) ∧ Below w.heap.size w w' := by
  by_cases h : ¬ (0 ≤ n ∧ n ≤ 10) ∧ ¬ (16 ≤ n ∧ n ≤ 18)
  · exact rcause_none n w h
  · have : n = 0 ∨ n = 1 ∨ n = 2 ∨ n = 3 ∨ n = 4 ∨ n = 5 ∨ n = 6 ∨ n = 7 ∨ n = 8 ∨ n = 9 ∨ n = 10 ∨ n = 16 ∨ n = 17 ∨ n = 18 := by omega
    rcases this with rfl | rfl | rfl | rfl | rfl | rfl | rfl | rfl | rfl | rfl | rfl | rfl | rfl | rfl
    · exact rcause_0 w
    · exact rcause_1 w
    · exact rcause_2 w
    · exact rcause_3 w
    · exact rcause_4 w
    · exact rcause_5 w
    · exact rcause_6 w
    · exact rcause_7 w
    · exact rcause_8 w
    · exact rcause_9 w
    · exact rcause_10 w
    · exact rcause_16 w
    · exact rcause_17 w
    · exact rcause_18 w
end Go.Proofs.YtfgkcjalfhbjjaaDoor
