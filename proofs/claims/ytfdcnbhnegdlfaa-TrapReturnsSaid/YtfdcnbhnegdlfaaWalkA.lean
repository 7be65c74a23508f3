/-
  A bit of a word, a word with it set or cleared, and the bits of a core's status, of package trap and of the reference.
-/
import Derived.Test.YtfdcnbhnegdlfaaMathB
namespace Go.Proofs.Ytfdcnbhnegdlfaa
open Go.RowKit S01 S10 S11
theorem bt_wd {b : Int} (h : TR.Bt b) : CM.Wd b := by
  unfold CM.Wd; rcases h with rfl | rfl | rfl | rfl | rfl | rfl <;> omega
theorem and_hs (s b : Int) (hs : CM.Wd s) (hb : TR.Bt b) : (bits .and .u32 s b != 0) = TR.hs s b := by
  rw [and_an s b hs (bt_wd hb)]; exact TR.hs_ne s b hs hb
theorem or_pu (s b : Int) (hs : CM.Wd s) (hb : TR.Bt b) : bits .or .u32 s b = TR.pu s b true := by
  rw [or_oq s b hs (bt_wd hb)]; exact TR.oq_bit s b hs hb
theorem not_pu (s b : Int) (hs : CM.Wd s) (hb : TR.Bt b) : bits .andNot .u32 s b = TR.pu s b false := by
  rw [u32_andNot s b hs.1 hs.2 (bt_wd hb).1 (bt_wd hb).2]; exact TR.nt_bit s b hs hb
set_option maxHeartbeats 400000 in
theorem has_any (s b : Int) (w : World) (h : CM.Wd s) (hb : TR.Bt b) :
    Calls Try.prog 24 #[.int .u32 s, .int .u32 b] w fun e w' => e = .returned (.bool (TR.hs s b)) ∧ w = w' := by
  have HE := Lib.hid (and_hs s b h hb)
  obtain ⟨s0, s1⟩ := h
  obtain ⟨b0, b1⟩ := bt_wd hb
  clear hb
  go_enter Try.func24, Try.ntmps24
  go_wp2
  go_ret
  exact ⟨ret_bool HE.out, rfl⟩
set_option maxHeartbeats 400000 in
theorem put_any (s b : Int) (on : Bool) (w : World) (h : CM.Wd s) (hb : TR.Bt b) :
    Calls Try.prog 19 #[.int .u32 s, .int .u32 b, .bool on] w fun e w' => e = .returned (.int .u32 (TR.pu s b on)) ∧ w = w' := by
  have HE := Lib.hid (or_pu s b h hb)
  have HN := Lib.hid (not_pu s b h hb)
  obtain ⟨s0, s1⟩ := h
  obtain ⟨b0, b1⟩ := bt_wd hb
  clear hb
  cases on
  · go_enter Try.func19, Try.ntmps19
    go_wp2
    go_ret
    exact ⟨ret_int HN.out, rfl⟩
  · go_enter Try.func19, Try.ntmps19
    go_wp2
    go_ret
    exact ⟨ret_int HE.out, rfl⟩
set_option maxHeartbeats 400000 in
theorem rput_any (s b : Int) (on : Bool) (w : World) (h : CM.Wd s) (hb : TR.Bt b) :
    Calls Try.prog 22 #[.int .u32 s, .int .u32 b, .bool on] w fun e w' => e = .returned (.int .u32 (TR.pu s b on)) ∧ w = w' := by
  have HE := Lib.hid (or_pu s b h hb)
  have HN := Lib.hid (not_pu s b h hb)
  obtain ⟨s0, s1⟩ := h
  obtain ⟨b0, b1⟩ := bt_wd hb
  clear hb
  cases on
  · go_enter Try.func22, Try.ntmps22
    go_wp2
    go_ret
    exact ⟨ret_int HN.out, rfl⟩
  · go_enter Try.func22, Try.ntmps22
    go_wp2
    go_ret
    exact ⟨ret_int HE.out, rfl⟩
set_option maxHeartbeats 400000 in
theorem enabled_any (f : Nat → Int) (h : Bool) (w : World) (hf : CM.Ok f) :
    Calls Try.prog 20 #[AR f h] w fun e w' => e = .returned (.bool (TR.hs (f 17) 2)) ∧ Below w.heap.size w w' := by
  have c0 := (Bk.new w f h).cell (k := 17) (by decide)
  have HH := Lib.hid (fun W => has_any (f 17) 2 W (hf 17 (by decide)) (.inr (.inl rfl)))
  have HB := Lib.hid (below_one w (.cells (AC f h).toArray 26))
  generalize TR.hs (f 17) 2 = y at HH ⊢
  generalize f 17 = x at *
  unfold AR
  go_enter Try.func20, Try.ntmps20
  go_wp2_with (go_at_call 24; (with_reducible refine (HH.out _).mono ?_); rintro e w2 ⟨rfl, rfl⟩)
  go_ret
  exact ⟨rfl, HB.out⟩
set_option maxHeartbeats 400000 in
theorem rhas_any (f : Nat → Int) (h : Bool) (b : Int) (w : World) (hf : CM.Ok f) (hb : TR.Bt b) :
    Calls Try.prog 26 #[AR f h, .int .u32 b] w fun e w' => e = .returned (.bool (TR.hs (f 17) b)) ∧ Below w.heap.size w w' := by
  have c0 := (Bk.new w f h).cell (k := 17) (by decide)
  have HE := Lib.hid (and_hs (f 17) b (hf 17 (by decide)) hb)
  obtain ⟨x0, x1⟩ := hf 17 (by decide)
  obtain ⟨b0, b1⟩ := bt_wd hb
  have HB := Lib.hid (below_one w (.cells (AC f h).toArray 26))
  generalize TR.hs (f 17) b = y at HE ⊢
  generalize f 17 = x at *
  clear hb
  unfold AR
  go_enter Try.func26, Try.ntmps26
  go_wp2
  go_ret
  exact ⟨ret_bool HE.out, HB.out⟩
end Go.Proofs.Ytfdcnbhnegdlfaa
