/-
  The law on differences: it returns true for any two memories, and leaves all that was in memory as it was.
-/
import Derived.Test.YtdkpigfhdiopmaaLsB
namespace Go.Proofs.Ytdkpigfhdiopmaa
open Go.RowKit Go.Maps S01
theorem own_slice {w : World} {N e size n : Nat} {x : Value} {xs : List Value} (h : w.ownsRow N e size x n xs) : ∃ A c, x = .slice A n c := by
  rcases h.2 with ⟨rfl, rfl⟩ | ⟨g, cap, cur, rfl, _⟩
  · exact ⟨_, _, rfl⟩
  · exact ⟨_, _, rfl⟩
set_option maxHeartbeats 3200000 in
theorem diffs_walk {W : World} {v1 v2 : Value} {a b : List UInt8} (h1 : ByR W v1 a) (hn1 : a.length ≤ maxLen) (h2 : ByR W v2 b) (hn2 : b.length ≤ maxLen) :
    Calls Try.prog 7 #[v1, v2] W fun e w' => e = .returned (.bool true) ∧ Below W.heap.size W w' := by
  obtain ⟨A, ca, rfl⟩ := by_form h1
  obtain ⟨B, cb, rfl⟩ := by_form h2
  obtain ⟨la, hla⟩ : ∃ n, a.length = n := ⟨_, rfl⟩
  obtain ⟨lb, hlb⟩ : ∃ n, b.length = n := ⟨_, rfl⟩
  have HV1 := Lib.hid h1
  have HV2 := Lib.hid h2
  rw [hla] at HV1 hn1
  rw [hlb] at HV2 hn2
  rw [hla, hlb]
  have hm1 : la ≤ 9223372036854775807 := hn1
  have hm2 : lb ≤ 9223372036854775807 := hn2
  have HLA := Lib.hid hla
  have HLB := Lib.hid hlb
  clear h1 h2 hla hlb hn1 hn2
  have big : Calls Try.prog 8 #[] W fun e w' => e = .returned (.bool true) ∧ Below W.heap.size W w' := awake_any W
  by_cases hb1 : (3000 : Int) < la
  · go_enter Try.func7, Try.ntmps7
    go_wp2_with (go_at_call 8; refine (awake_any _).mono ?_; rintro e w1 ⟨rfl, hb1⟩; have HB1 := Lib.hid hb1; clear hb1)
    go_ret
    exact ⟨rfl, HB1.out⟩
  · by_cases hb2 : (3000 : Int) < lb
    · go_enter Try.func7, Try.ntmps7
      go_wp2_with (go_at_call 8; refine (awake_any _).mono ?_; rintro e w1 ⟨rfl, hb1⟩; have HB1 := Lib.hid hb1; clear hb1)
      go_ret
      exact ⟨rfl, HB1.out⟩
    · have H1 := Lib.hid (diff_any HV1.out HV2.out (by have := HLA.out; omega) (by have := HLB.out; omega))
      have H2 := Lib.hid (fun (w : World) (h : Below W.heap.size W w) => rdiff_any (HV1.out.below h) (HV2.out.below h) (by have := HLA.out; omega) (by have := HLB.out; omega))
      have HAL := Lib.hid (show a.length ≤ 1000000 by have := HLA.out; omega)
      obtain ⟨N, hN⟩ : ∃ N, max a.length b.length = N := ⟨_, rfl⟩
      have hN2 : N ≤ 3000 := by have := HLA.out; have := HLB.out; omega
      have HNIL := Lib.hid (MM.df_nil (a := a) (b := b))
      rw [hN] at H1 H2 HNIL
      obtain ⟨D, hD⟩ : ∃ D, (MM.df a b N).length = D := ⟨_, rfl⟩
      have hD2 : D ≤ 3000 := by have := MM.df_len a b N; omega
      have HDL := Lib.hid hD
      obtain ⟨t, ht⟩ : ∃ t, decide (a = b) = t := ⟨_, rfl⟩
      have hDt : ((D : Int) == 0) = t := by
        rw [← ht]
        by_cases e : a = b
        · have h := HNIL.out.2 e
          rw [h] at hD
          subst hD
          simp [e]
        · have h : D ≠ 0 := by
            intro h0
            subst h0
            exact e (HNIL.out.1 (List.eq_nil_of_length_eq_zero hD))
          simp [e]
          omega
      have HT := Lib.hid ht
      clear hN hD ht
      go_enter Try.func7, Try.ntmps7
      go_upto_region 4 with (go_at_call 19; refine H1.out.mono ?_; rintro e w1 ⟨v3, rfl, ho1, hbl1⟩; have HO1 := Lib.hid ho1; have HB1 := Lib.hid hbl1; clear ho1 hbl1)
      obtain ⟨A3, c3, rfl⟩ := own_slice HO1.out
      rw [HDL.out] at HO1 ⊢
      go_wp2_with (first
        | (go_at_call 22; refine (H2.out _ HB1.out).mono ?_; rintro e w2 ⟨v4, rfl, ho2, hbl2⟩; rw [HDL.out] at ho2; have HO2 := Lib.hid ho2; have HB2 := Lib.hid (below_then HB1.out hbl2); have HO3 := Lib.hid (own_later HO1.out hbl2); clear ho2 hbl2)
        | (go_at_call 21; refine (ints_same HO3.out HO2.out (by omega)).mono ?_; rintro e w3 ⟨rfl, hdr⟩; have HB3 := Lib.hid (below_then HB2.out hdr.below); clear hdr)
        | (go_at_call 18; refine (same_by (HV1.out.below HB3.out) (HV2.out.below HB3.out) HAL.out).mono ?_; rintro e w4 ⟨rfl, hdr⟩; rw [HT.out]; have HB4 := Lib.hid (below_then HB3.out hdr.below); clear hdr)
        | (go_at_call 8; refine (awake_any _).mono ?_; rintro e w5 ⟨rfl, hb5⟩; have HB5 := Lib.hid (below_then HB4.out hb5); clear hb5))
      go_ret
      exact ⟨rfl, HB5.out⟩
end Go.Proofs.Ytdkpigfhdiopmaa
