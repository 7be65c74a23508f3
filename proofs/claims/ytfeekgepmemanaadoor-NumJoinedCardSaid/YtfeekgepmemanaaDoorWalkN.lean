/-
  What the package's Dec and Hex answer at every number, where the library's tables are as their texts lay them; and the examples of the chapter ('awake').
-/
import Derived.Test.YtfeekgepmemanaaDoorWalkM
import Derived.Test.YtfeekgepmemanaaDoorWalkC
import Derived.Test.YtfeekgepmemanaaDoorWalkF
import Derived.Lib.AppendIntMem
import Derived.Lib.SmallJoins
namespace Go.Proofs.YtfeekgepmemanaaDoor
open Go.RowKit
/-- The library's tables read as their texts lay them. -/
def Tabs (w : World) : Prop := Lib.TabIs Tryd.prog w "internal/strconv.uint64pow10" .u64 Lib.pow10Tab ∧ w.cell? ⟨3, 15, none⟩ = some (.int .u8 4)
theorem lt_of_cell {w : World} {p : Addr} {v : Value} (h : w.cell? p = some v) : p.block < w.heap.size := by
  rcases Nat.lt_or_ge p.block w.heap.size with h1 | h1
  · exact h1
  · simp [World.cell?, Array.getElem?_eq_none h1] at h
theorem Tabs.on {w w' : World} (h : Tabs w) (hb : Below w.heap.size w w') : Tabs w' :=
  ⟨Joins.tab_stays (g := 1) (by kernel_rfl) h.1 hb (Nat.le_refl _), (hb.cell (lt_of_cell h.2)).trans h.2⟩
theorem Tabs.new {w : World} (h : Tabs w) : ∀ o, (w.alloc o).cell? ⟨3, 15, none⟩ = some (.int .u8 4) := fun o =>
  (World.cell?_alloc_lt w o _ (lt_of_cell h.2)).trans h.2
theorem dec_any (n : Int) (w : World) (h0 : -9223372036854775808 ≤ n) (h1 : n ≤ 9223372036854775807) (ht : Tabs w) :
    Calls Tryd.prog 9 #[.int .i64 n] w fun e w' => e = .returned (.string ⟨(Lib.itoa n).toArray⟩) ∧ Below w.heap.size w w' := by
  have HT := Lib.hid ht.1
  clear ht
  go_enter Tryd.func9, Tryd.ntmps9
  go_wp2_with (go_at_call 22; refine (Tryd.strconv_FormatInt_10 n h0 h1 _ HT.out).mono ?_; rintro e w' ⟨rfl, k, os, rfl⟩)
  go_ret
  exact ⟨rfl, Lib.below_grow _ _ (Nat.le_refl _) _ _⟩
theorem fuint_16 (u : Nat) (w : World) (hu : u < 18446744073709551616) (ht : Tabs w) :
    Calls Tryd.prog 36 #[.int .u64 u, .int .i64 16] w fun e w' => e = .returned (.string ⟨(NM.hd u).toArray⟩) ∧ Below w.heap.size w w' := by
  have HT := Lib.hid ht.new
  clear ht
  go_enter Tryd.func36, Tryd.ntmps36
  go_wp2_with (go_at_call 52; refine (fbits_16 u _ hu HT).mono ?_; rintro e w' ⟨rfl, hb⟩)
  go_ret
  exact ⟨rfl, hb⟩
theorem sfuint_16 (u : Nat) (w : World) (hu : u < 18446744073709551616) (ht : Tabs w) :
    Calls Tryd.prog 23 #[.int .u64 u, .int .i64 16] w fun e w' => e = .returned (.string ⟨(NM.hd u).toArray⟩) ∧ Below w.heap.size w w' := by
  have HT := Lib.hid ht
  clear ht
  go_enter Tryd.func23, Tryd.ntmps23
  go_wp2_with (go_at_call 36; refine (fuint_16 u _ hu HT.out).mono ?_; rintro e w' ⟨rfl, hb⟩)
  go_ret
  exact ⟨rfl, hb⟩
set_option maxHeartbeats 800000 in
theorem hex_any (u : Nat) (w : World) (hu : u < 4294967296) (ht : Tabs w) :
    Calls Tryd.prog 11 #[.int .u32 u] w fun e w' => e = .returned (.string ⟨(NM.hxs u 8).toArray⟩) ∧ Below w.heap.size w w' := by
  have HT := Lib.hid ht
  clear ht
  obtain ⟨hl, hf⟩ := NM.hd_fill 8 u (by simpa using hu) (by omega)
  obtain ⟨t, htt⟩ : ∃ t : ByteArray, (⟨(NM.hd u).toArray⟩ : ByteArray) = t := ⟨_, rfl⟩
  have htl : t.data.toList = NM.hd u := by rw [← htt]
  have hts : t.size ≤ 8 := by rw [← NM.len_eq, htl]; exact hl
  have HF := Lib.hid (show NM.hxs u 8 = Lib.repeatL [48] (8 - t.size) ++ t.data.toList by rw [hf, NM.rep_eq, htl, ← NM.len_eq t, htl])
  have hrl : (⟨(Lib.repeatL [48] (8 - t.size)).toArray⟩ : ByteArray).size ≤ 8 := by
    show (Lib.repeatL [48] (8 - t.size)).toArray.size ≤ 8
    rw [NM.rep_eq]; simp
  have HTT := Lib.hid htt
  clear htt htl hf hl
  go_enter Tryd.func11, Tryd.ntmps11
  go_wp2_with (go_at_call 23; refine (sfuint_16 u _ (by omega) HT.out).mono ?_; rw [HTT.out]; rintro e w1 ⟨rfl, hb1⟩; refine Hid.out ?_)
  refine Lib.hid ?_
  have HB1 := Lib.hid hb1
  clear hb1
  go_wp2_with (go_at_call 24; rw [show (8 : Int) - (t.size : Int) = ((8 - t.size : Nat) : Int) by omega]; refine (Tryd.strings_Repeat ⟨#[48]⟩ (8 - t.size) _ (by omega) (by show 1 * _ ≤ _; omega)).mono ?_; rintro e w2 ⟨rfl, hb2⟩)
  go_ret
  exact ⟨ret_str (by rw [NM.data_app]; exact HF.out.symm), HB1.out.trans (hb2.mono HB1.out.size)⟩
theorem ex_hex : NM.pN [48, 120, 49, 102] = 31 ∧ NM.pE [48, 120, 49, 102] = 0 := by decide +kernel
theorem ex_007 : NM.pE [48, 48, 55] = 2 := by decide +kernel
theorem ex_dec : (⟨(Lib.itoa (-40)).toArray⟩ : ByteArray) = ⟨#[45, 52, 48]⟩ := by
  rw [NM.itoa_of_neg (-40) 40 rfl (by omega), Lib.decDigits_two (by omega) (by omega)]
  rfl
theorem ex_beef : (⟨(NM.hxs 48879 8).toArray⟩ : ByteArray) = ⟨#[48, 48, 48, 48, 98, 101, 101, 102]⟩ := by
  rw [show NM.hxs 48879 8 = [48, 48, 48, 48, 98, 101, 101, 102] by decide +kernel]
theorem ex_words : (NM.wd [97, 100, 100, 32, 114, 49, 44, 32, 114, 50]).length = 3 := by decide +kernel
theorem Row.three {w w' : World} {v : Value} {acc : List (List UInt8)} (h : Row w w' v acc) (h3 : acc.length = 3) : ∃ a c, v = .slice a 3 c := by
  have h1 := h.1
  rw [h3] at h1
  rcases own_open h1 with ⟨h0, _⟩ | ⟨g, c, rfl, _⟩
  · omega
  · exact ⟨_, _, rfl⟩
set_option maxHeartbeats 1600000 in
theorem awake_any (w : World) (ht : Tabs w) : Calls Tryd.prog 13 #[] w fun e w' => e = .returned (.bool true) ∧ Below w.heap.size w w' := by
  have HT := Lib.hid ht
  clear ht
  go_enter Tryd.func13, Tryd.ntmps13
  go_wp2_with (fail)
  refine (parse_any ⟨#[48, 120, 49, 102]⟩ _ (by decide)).mono ?_
  rw [show NM.pN (⟨#[48, 120, 49, 102]⟩ : ByteArray).data.toList = 31 from ex_hex.1, show NM.pE (⟨#[48, 120, 49, 102]⟩ : ByteArray).data.toList = 0 from ex_hex.2]
  rintro e w1 ⟨rfl, hb⟩
  have B1 := Lib.hid hb
  have T1 := Lib.hid (HT.out.on hb)
  clear hb
  go_wp2_with (fail)
  refine (parse_any ⟨#[48, 48, 55]⟩ _ (by decide)).mono ?_
  rw [show NM.pE (⟨#[48, 48, 55]⟩ : ByteArray).data.toList = 2 from ex_007]
  rintro e w2 ⟨rfl, hb⟩
  have B2 := Lib.hid (B1.out.trans (hb.mono B1.out.size))
  have T2 := Lib.hid (T1.out.on hb)
  clear hb
  go_wp2_with (fail)
  refine (dec_any (-40) _ (by omega) (by omega) T2.out).mono ?_
  rw [ex_dec]
  rintro e w3 ⟨rfl, hb⟩
  have B3 := Lib.hid (B2.out.trans (hb.mono B2.out.size))
  have T3 := Lib.hid (T2.out.on hb)
  clear hb
  go_wp2_with (fail)
  refine (hex_any 48879 _ (by omega) T3.out).mono ?_
  rw [ex_beef]
  rintro e w4 ⟨rfl, hb⟩
  have B4 := Lib.hid (B3.out.trans (hb.mono B3.out.size))
  clear hb
  go_wp2_with (fail)
  refine (words_any ⟨#[97, 100, 100, 32, 114, 49, 44, 32, 114, 50]⟩ _ (by decide)).mono ?_
  rintro e w5 ⟨v, rfl, hrow⟩
  obtain ⟨a, c, rfl⟩ := hrow.three ex_words
  have B5 := Lib.hid (B4.out.trans (hrow.2.mono B4.out.size))
  clear hrow
  go_wp2
  go_ret
  exact ⟨rfl, B5.out⟩
end Go.Proofs.YtfeekgepmemanaaDoor
