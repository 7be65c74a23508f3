/-
  What follows of a trap and of the return from it (numbers only).
-/
import Derived.Test.YtfdcnbhnegdlfaaMath
namespace Go.Proofs.Ytfdcnbhnegdlfaa
open S11
namespace TR
/-- A word by its lowest six bits. -/
def wd (q : Int) (b0 b1 b2 b3 b4 b5 : Bool) : Int := 64 * q + 32 * b5.toNat + 16 * b4.toNat + 8 * b3.toNat + 4 * b2.toNat + 2 * b1.toNat + b0.toNat
theorem wd_of (s : Int) : ∃ q b0 b1 b2 b3 b4 b5, s = wd q b0 b1 b2 b3 b4 b5 := by
  have key : ∀ x : Int, ∃ b : Bool, x = 2 * (x / 2) + b.toNat := by
    intro x
    by_cases h : x % 2 = 0
    · exact ⟨false, by simp only [Bool.toNat_false]; omega⟩
    · exact ⟨true, by simp only [Bool.toNat_true]; omega⟩
  obtain ⟨b0, h0⟩ := key s
  obtain ⟨b1, h1⟩ := key (s / 2)
  obtain ⟨b2, h2⟩ := key (s / 2 / 2)
  obtain ⟨b3, h3⟩ := key (s / 2 / 2 / 2)
  obtain ⟨b4, h4⟩ := key (s / 2 / 2 / 2 / 2)
  obtain ⟨b5, h5⟩ := key (s / 2 / 2 / 2 / 2 / 2)
  refine ⟨s / 2 / 2 / 2 / 2 / 2 / 2, b0, b1, b2, b3, b4, b5, ?_⟩
  unfold wd
  generalize s / 2 / 2 / 2 / 2 / 2 / 2 = x6 at *
  generalize s / 2 / 2 / 2 / 2 / 2 = x5 at *
  generalize s / 2 / 2 / 2 / 2 = x4 at *
  generalize s / 2 / 2 / 2 = x3 at *
  generalize s / 2 / 2 = x2 at *
  generalize s / 2 = x1 at *
  omega
section
variable (q : Int) (b0 b1 b2 b3 b4 b5 : Bool)
theorem wd_1 : wd q b0 b1 b2 b3 b4 b5 / 1 % 2 = b0.toNat := by
  unfold wd; cases b0 <;> simp only [Bool.toNat_true, Bool.toNat_false] <;> omega
theorem wd_2 : wd q b0 b1 b2 b3 b4 b5 / 2 % 2 = b1.toNat := by
  unfold wd; cases b0 <;> cases b1 <;> simp only [Bool.toNat_true, Bool.toNat_false] <;> omega
theorem wd_4 : wd q b0 b1 b2 b3 b4 b5 / 4 % 2 = b2.toNat := by
  unfold wd; cases b0 <;> cases b1 <;> cases b2 <;> simp only [Bool.toNat_true, Bool.toNat_false] <;> omega
theorem wd_8 : wd q b0 b1 b2 b3 b4 b5 / 8 % 2 = b3.toNat := by
  unfold wd; cases b0 <;> cases b1 <;> cases b2 <;> cases b3 <;> simp only [Bool.toNat_true, Bool.toNat_false] <;> omega
theorem wd_16 : wd q b0 b1 b2 b3 b4 b5 / 16 % 2 = b4.toNat := by
  unfold wd; cases b0 <;> cases b1 <;> cases b2 <;> cases b3 <;> cases b4 <;> simp only [Bool.toNat_true, Bool.toNat_false] <;> omega
theorem wd_32 : wd q b0 b1 b2 b3 b4 b5 / 32 % 2 = b5.toNat := by
  unfold wd; cases b0 <;> cases b1 <;> cases b2 <;> cases b3 <;> cases b4 <;> cases b5 <;> simp only [Bool.toNat_true, Bool.toNat_false] <;> omega
theorem bool_hs (b : Bool) : decide ((b.toNat : Int) = 1) = b := by cases b <;> rfl
theorem wd_hs1 : hs (wd q b0 b1 b2 b3 b4 b5) 1 = b0 := by unfold hs; rw [wd_1]; exact bool_hs _
theorem wd_hs2 : hs (wd q b0 b1 b2 b3 b4 b5) 2 = b1 := by unfold hs; rw [wd_2]; exact bool_hs _
theorem wd_hs4 : hs (wd q b0 b1 b2 b3 b4 b5) 4 = b2 := by unfold hs; rw [wd_4]; exact bool_hs _
theorem wd_hs8 : hs (wd q b0 b1 b2 b3 b4 b5) 8 = b3 := by unfold hs; rw [wd_8]; exact bool_hs _
theorem wd_hs32 : hs (wd q b0 b1 b2 b3 b4 b5) 32 = b5 := by unfold hs; rw [wd_32]; exact bool_hs _
theorem wd_pu1 (on : Bool) : pu (wd q b0 b1 b2 b3 b4 b5) 1 on = wd q on b1 b2 b3 b4 b5 := by
  unfold pu; rw [wd_1]; unfold wd; cases on <;> simp only [Bool.toNat_true, Bool.toNat_false, if_true, if_false, Bool.false_eq_true] <;> omega
theorem wd_pu2 (on : Bool) : pu (wd q b0 b1 b2 b3 b4 b5) 2 on = wd q b0 on b2 b3 b4 b5 := by
  unfold pu; rw [wd_2]; unfold wd; cases on <;> simp only [Bool.toNat_true, Bool.toNat_false, if_true, if_false, Bool.false_eq_true] <;> omega
theorem wd_pu4 (on : Bool) : pu (wd q b0 b1 b2 b3 b4 b5) 4 on = wd q b0 b1 on b3 b4 b5 := by
  unfold pu; rw [wd_4]; unfold wd; cases on <;> simp only [Bool.toNat_true, Bool.toNat_false, if_true, if_false, Bool.false_eq_true] <;> omega
theorem wd_pu8 (on : Bool) : pu (wd q b0 b1 b2 b3 b4 b5) 8 on = wd q b0 b1 b2 on b4 b5 := by
  unfold pu; rw [wd_8]; unfold wd; cases on <;> simp only [Bool.toNat_true, Bool.toNat_false, if_true, if_false, Bool.false_eq_true] <;> omega
theorem wd_ts : ts (wd q b0 b1 b2 b3 b4 b5) = wd q true false b0 b1 b4 b5 := by
  unfold ts; rw [wd_hs1, wd_hs2, wd_pu4, wd_pu8, wd_pu1, wd_pu2]
theorem wd_us : us (wd q b0 b1 b2 b3 b4 b5) = wd q b2 b3 b2 b3 b4 b5 := by
  unfold us; rw [wd_hs4, wd_hs8, wd_pu1, wd_pu2]
end
theorem ts_1 (s : Int) : hs (ts s) 1 = true := by
  obtain ⟨q, b0, b1, b2, b3, b4, b5, rfl⟩ := wd_of s; rw [wd_ts, wd_hs1]
theorem ts_2 (s : Int) : hs (ts s) 2 = false := by
  obtain ⟨q, b0, b1, b2, b3, b4, b5, rfl⟩ := wd_of s; rw [wd_ts, wd_hs2]
/-- A bit stays where another is set or cleared. -/
theorem pu_1_8 (s : Int) (on : Bool) : hs (pu s 1 on) 8 = hs s 8 := by
  obtain ⟨q, b0, b1, b2, b3, b4, b5, rfl⟩ := wd_of s; rw [wd_pu1, wd_hs8, wd_hs8]
theorem back_1 (s : Int) : hs (us (ts s)) 1 = hs s 1 := by
  obtain ⟨q, b0, b1, b2, b3, b4, b5, rfl⟩ := wd_of s; rw [wd_ts, wd_us, wd_hs1, wd_hs1]
theorem back_2 (s : Int) : hs (us (ts s)) 2 = hs s 2 := by
  obtain ⟨q, b0, b1, b2, b3, b4, b5, rfl⟩ := wd_of s; rw [wd_ts, wd_us, wd_hs2, wd_hs2]
theorem back_32 (s : Int) : hs (us (ts s)) 32 = hs s 32 := by
  obtain ⟨q, b0, b1, b2, b3, b4, b5, rfl⟩ := wd_of s; rw [wd_ts, wd_us, wd_hs32, wd_hs32]
theorem back_51 (s : Int) : us (ts s) / 1 % 2 = s / 1 % 2 ∧ us (ts s) / 2 % 2 = s / 2 % 2 ∧ us (ts s) / 16 % 2 = s / 16 % 2 ∧ us (ts s) / 32 % 2 = s / 32 % 2 := by
  obtain ⟨q, b0, b1, b2, b3, b4, b5, rfl⟩ := wd_of s; rw [wd_ts, wd_us, wd_1, wd_1, wd_2, wd_2, wd_16, wd_16, wd_32, wd_32]; exact ⟨rfl, rfl, rfl, rfl⟩
theorem ts_bd (s : Int) (h : CM.Wd s) : CM.Wd (ts s) := pu_bd _ _ _ (pu_bd _ _ _ (pu_bd _ _ _ (pu_bd _ _ _ h (.inr (.inr (.inl rfl)))) (.inr (.inr (.inr (.inl rfl))))) (.inl rfl)) (.inr (.inl rfl))
theorem us_bd (s : Int) (h : CM.Wd s) : CM.Wd (us s) := pu_bd _ _ _ (pu_bd _ _ _ h (.inl rfl)) (.inr (.inl rfl))
theorem tk_ok {f : Nat → Int} (hf : CM.Ok f) (c : Int) {v e : Int} (hv : CM.Wd v) (he : CM.Wd e) : CM.Ok (tk f c v e) :=
  CM.up_ok (CM.up_ok (CM.up_ok (CM.up_ok (CM.up_ok hf _ (ts_bd _ (hf 17 (by decide)))) _ (by unfold CM.Wd; omega)) _ hv) _ he) _ (hf 21 (by decide))
theorem rg_ok {f : Nat → Int} (hf : CM.Ok f) : CM.Ok (rg f) := CM.up_ok (CM.up_ok hf _ (us_bd _ (hf 17 (by decide)))) _ (hf 20 (by decide))
theorem rt_ok {f : Nat → Int} (hf : CM.Ok f) : CM.Ok (rt f) := by
  unfold rt
  split
  · exact rg_ok hf
  · exact CM.zero_ok
theorem tk_17 (f : Nat → Int) (c v e : Int) : tk f c v e 17 = ts (f 17) := rfl
theorem tk_0 (f : Nat → Int) (c v e : Int) : tk f c v e 0 = f 21 := rfl
theorem tk_20 (f : Nat → Int) (c v e : Int) : tk f c v e 20 = e := rfl
theorem tk_km (f : Nat → Int) (c v e : Int) : CM.km (tk f c v e) = true := by
  rw [← hs_km, tk_17]
  exact ts_1 _
theorem tk_en (f : Nat → Int) (c v e : Int) : hs (tk f c v e 17) 2 = false := by
  rw [tk_17]
  exact ts_2 _
theorem tk_pd (f : Nat → Int) (c v e : Int) : pd (tk f c v e) = 0 := by
  unfold pd
  rw [tk_km, tk_en]
  rfl
theorem tk_st (f : Nat → Int) (c v e p : Int) : st (tk f c v e) p = false := by
  unfold st
  rw [tk_km]
  rfl
theorem tk_sg (f : Nat → Int) (c v e : Int) : sg (tk f c v e) = false := by
  unfold sg
  rw [tk_km]
  rfl
/-- The core behind a trap and the return from it. -/
def bk (f : Nat → Int) (c v e : Int) : Nat → Int := rg (tk f c v e)
theorem tk_rt (f : Nat → Int) (c v e : Int) : rt (tk f c v e) = bk f c v e := if_pos (tk_km f c v e)
theorem tk_rh (f : Nat → Int) (h : Bool) (c v e : Int) : rh (tk f c v e) h = h := if_pos (tk_km f c v e)
theorem tk_rc (f : Nat → Int) (c v e : Int) : rc (tk f c v e) = 0 := if_pos (tk_km f c v e)
theorem bk_0 (f : Nat → Int) (c v e : Int) : bk f c v e 0 = e := rfl
theorem bk_17 (f : Nat → Int) (c v e : Int) : bk f c v e 17 = us (ts (f 17)) := rfl
theorem bk_other (f : Nat → Int) (c v e : Int) {j : Nat} (h0 : j ≠ 0) (h1 : j ≠ 17) (h2 : j ≠ 18) (h3 : j ≠ 19) (h4 : j ≠ 20) : bk f c v e j = f j := by
  unfold bk rg tk
  rw [CM.up_off _ _ h0, CM.up_off _ _ h1, CM.up_off _ _ h0, CM.up_off _ _ h4, CM.up_off _ _ h3, CM.up_off _ _ h2, CM.up_off _ _ h1]
theorem bk_ok {f : Nat → Int} (hf : CM.Ok f) (c : Int) {v e : Int} (hv : CM.Wd v) (he : CM.Wd e) : CM.Ok (bk f c v e) := rg_ok (tk_ok hf c hv he)
theorem bk_51 {f : Nat → Int} (hf : CM.Ok f) (c : Int) {v e : Int} (hv : CM.Wd v) (he : CM.Wd e) : CM.an (bk f c v e 17) 51 = CM.an (f 17) 51 := by
  rw [an_51 _ (bk_ok hf c hv he 17 (by decide)), an_51 _ (hf 17 (by decide)), bk_17]
  obtain ⟨h1, h2, h3, h4⟩ := back_51 (f 17)
  rw [Int.ediv_one, Int.ediv_one] at h1
  rw [h1, h2, h3, h4]
theorem bk_km (f : Nat → Int) (c v e : Int) : CM.km (bk f c v e) = CM.km f := by
  rw [← hs_km, ← hs_km, bk_17]
  exact back_1 _
theorem bk_bit (f : Nat → Int) (c v e : Int) {b : Int} (h : b = 2 ∨ b = 32) : hs (bk f c v e 17) b = hs (f 17) b := by
  rw [bk_17]
  rcases h with rfl | rfl
  · exact back_2 _
  · exact back_32 _
theorem bk_pd (f : Nat → Int) (c v e : Int) : pd (bk f c v e) = pd f := by
  unfold pd
  rw [bk_km, bk_bit f c v e (.inl rfl), bk_other f c v e (j := 27) (by decide) (by decide) (by decide) (by decide) (by decide), bk_other f c v e (j := 26) (by decide) (by decide) (by decide) (by decide) (by decide)]
theorem bk_sg (f : Nat → Int) (c v e : Int) : sg (bk f c v e) = sg f := by
  unfold sg
  rw [bk_km, bk_bit f c v e (.inr rfl)]
theorem bk_st (f : Nat → Int) (c v e p : Int) : st (bk f c v e) p = st f p := by
  unfold st
  rw [bk_km, bk_other f c v e (j := 28) (by decide) (by decide) (by decide) (by decide) (by decide)]
theorem bk_back (f : Nat → Int) (c v e : Int) : CM.up (CM.up (CM.up (CM.up (CM.up (bk f c v e) 0 (f 0)) 17 (f 17)) 18 (f 18)) 19 (f 19)) 20 (f 20) = f := by
  funext j
  by_cases h4 : j = 20
  · rw [h4, CM.up_at]
  rw [CM.up_off _ _ h4]
  by_cases h3 : j = 19
  · rw [h3, CM.up_at]
  rw [CM.up_off _ _ h3]
  by_cases h2 : j = 18
  · rw [h2, CM.up_at]
  rw [CM.up_off _ _ h2]
  by_cases h1 : j = 17
  · rw [h1, CM.up_at]
  rw [CM.up_off _ _ h1]
  by_cases h0 : j = 0
  · rw [h0, CM.up_at]
  rw [CM.up_off _ _ h0, bk_other f c v e h0 h1 h2 h3 h4]
/-- The chapter's examples. -/
def e0 : Nat → Int := CM.up (CM.up (CM.up (CM.up (fun _ => 0) 17 2) 21 64) 27 6) 26 4
theorem e0_ok : CM.Ok e0 := CM.up_ok (CM.up_ok (CM.up_ok (CM.up_ok CM.zero_ok _ ⟨by decide, by decide⟩) _ ⟨by decide, by decide⟩) _ ⟨by decide, by decide⟩) _ ⟨by decide, by decide⟩
theorem e0_facts : tk e0 7 0 12 0 = 64 ∧ tk e0 7 0 12 17 = 9 ∧ pd e0 = 18 ∧ pd (tk e0 7 0 12) = 0 := ⟨rfl, by decide, by decide, tk_pd _ _ _ _⟩
end TR
end Go.Proofs.Ytfdcnbhnegdlfaa
