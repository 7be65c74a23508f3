/-
  What Pending answers, of package trap and of the reference.
-/
import Derived.Test.YtfdcnbhnegdlfaaWalkE
namespace Go.Proofs.Ytfdcnbhnegdlfaa
open Go.RowKit S01 S10 S11
theorem op_eq (o : Int) : TR.op o = if TR.hs o 1 = true then 16 else if TR.hs o 2 = true then 17 else if TR.hs o 4 = true then 18 else 0 := rfl
set_option maxHeartbeats 800000 in
theorem pend_off (f : Nat → Int) (h : Bool) (w : World) (hf : CM.Ok f) (hk : CM.km f = true) (he : TR.hs (f 17) 2 = false) :
    Calls Try.prog 12 #[AR f h] w fun e w' => e = .returned (.int .i64 0) ∧ Below w.heap.size w w' := by
  have HK := Lib.hid (fun W => kernel_any f h W hf)
  have HE := Lib.hid (fun W => enabled_any f h W hf)
  rw [hk] at HK
  rw [he] at HE
  clear hk he
  unfold AR at HK HE ⊢
  go_enter Try.func12, Try.ntmps12
  go_upto_region 1 with fail
  have L1 := Lib.hid (Bk.new w f h)
  have B1 := Lib.hid (below_one w (.cells (AC f h).toArray 26))
  generalize World.alloc w _ = W1 at L1 B1 ⊢
  have R1 := Lib.hid L1.out.range
  go_wp2_with (first | (refine wpList_load_wanted rfl 26 _ rfl w.heap.size 0 rfl (AC f h) _ R2.out Try.underlying26 rfl (by kernel_rfl) ?_) | (refine wpList_load_mid rfl 26 _ rfl w.heap.size 0 rfl (AC f h) _ R1.out Try.underlying26 rfl (by kernel_rfl) ?_) | (go_at_call 18; (with_reducible refine (HK.out _).mono ?_); rintro e w2 ⟨rfl, hb⟩; have B2 := Lib.hid (below_then B1.out hb); have R2 := Lib.hid (L1.out.below hb).range; clear hb) | (go_at_call 20; (with_reducible refine (HE.out _).mono ?_); rintro e w3 ⟨rfl, hb⟩; have B3 := Lib.hid (below_then B2.out hb); clear hb))
  go_ret
  exact ⟨rfl, B3.out⟩
set_option maxHeartbeats 1600000 in
theorem pend_on (f : Nat → Int) (h : Bool) (w : World) (hf : CM.Ok f) (hk : CM.km f = true → TR.hs (f 17) 2 = true) :
    Calls Try.prog 12 #[AR f h] w fun e w' => e = .returned (.int .i64 (TR.op (CM.an (f 27) (f 26)))) ∧ Below w.heap.size w w' := by
  have HK := Lib.hid (fun W => kernel_any f h W hf)
  have HE := Lib.hid (fun W => enabled_any f h W hf)
  have o0 := CM.an_bd (f 27) (f 26) (hf 27 (by decide)) (hf 26 (by decide))
  have e0 := and_an (f 27) (f 26) (hf 27 (by decide)) (hf 26 (by decide))
  obtain ⟨y0, y1⟩ := hf 27 (by decide)
  obtain ⟨z0, z1⟩ := hf 26 (by decide)
  have H1 := Lib.hid (fun W => has_any (CM.an (f 27) (f 26)) 1 W o0 (.inl rfl))
  have H2 := Lib.hid (fun W => has_any (CM.an (f 27) (f 26)) 2 W o0 (.inr (.inl rfl)))
  have H3 := Lib.hid (fun W => has_any (CM.an (f 27) (f 26)) 4 W o0 (.inr (.inr (.inl rfl))))
  have HO := Lib.hid (op_eq (CM.an (f 27) (f 26)))
  obtain ⟨o1, o2⟩ := o0
  generalize CM.an (f 27) (f 26) = o at *
  generalize TR.op o = r at HO ⊢
  generalize TR.hs o 1 = q1 at H1 HO
  generalize TR.hs o 2 = q2 at H2 HO
  generalize TR.hs o 4 = q3 at H3 HO
  generalize TR.hs (f 17) 2 = en at HE hk
  generalize CM.km f = k at HK hk
  unfold AR at HK HE ⊢
  go_enter Try.func12, Try.ntmps12
  go_upto_region 1 with fail
  have L1 := Lib.hid (Bk.new w f h)
  have B1 := Lib.hid (below_one w (.cells (AC f h).toArray 26))
  generalize World.alloc w _ = W1 at L1 B1 ⊢
  have R1 := Lib.hid L1.out.range
  cases k
  · clear hk
    go_upto_region 3 with (first | (refine wpList_load_mid rfl 26 _ rfl w.heap.size 0 rfl (AC f h) _ R1.out Try.underlying26 rfl (by kernel_rfl) ?_) | (go_at_call 18; (with_reducible refine (HK.out _).mono ?_); rintro e w2 ⟨rfl, hb⟩; have B3 := Lib.hid (below_then B1.out hb); have L3 := Lib.hid (L1.out.below hb); clear hb))
    have c1 := L3.out.cell (k := 27) (by decide)
    have c2 := L3.out.cell (k := 26) (by decide)
    cases q1
    · cases q2
      · cases q3
        · go_wp2_with (first | (go_at_call 24; (with_reducible refine (H1.out _).mono ?_); rintro e w3 ⟨rfl, rfl⟩) | (go_at_call 24; (with_reducible refine (H2.out _).mono ?_); rintro e w3 ⟨rfl, rfl⟩) | (go_at_call 24; (with_reducible refine (H3.out _).mono ?_); rintro e w3 ⟨rfl, rfl⟩))
          go_ret
          exact ⟨ret_int HO.out.symm, B3.out⟩
        · go_wp2_with (first | (go_at_call 24; (with_reducible refine (H1.out _).mono ?_); rintro e w3 ⟨rfl, rfl⟩) | (go_at_call 24; (with_reducible refine (H2.out _).mono ?_); rintro e w3 ⟨rfl, rfl⟩) | (go_at_call 24; (with_reducible refine (H3.out _).mono ?_); rintro e w3 ⟨rfl, rfl⟩))
          go_ret
          exact ⟨ret_int HO.out.symm, B3.out⟩
      · go_wp2_with (first | (go_at_call 24; (with_reducible refine (H1.out _).mono ?_); rintro e w3 ⟨rfl, rfl⟩) | (go_at_call 24; (with_reducible refine (H2.out _).mono ?_); rintro e w3 ⟨rfl, rfl⟩) | (go_at_call 24; (with_reducible refine (H3.out _).mono ?_); rintro e w3 ⟨rfl, rfl⟩))
        go_ret
        exact ⟨ret_int HO.out.symm, B3.out⟩
    · go_wp2_with (first | (go_at_call 24; (with_reducible refine (H1.out _).mono ?_); rintro e w3 ⟨rfl, rfl⟩) | (go_at_call 24; (with_reducible refine (H2.out _).mono ?_); rintro e w3 ⟨rfl, rfl⟩) | (go_at_call 24; (with_reducible refine (H3.out _).mono ?_); rintro e w3 ⟨rfl, rfl⟩))
      go_ret
      exact ⟨ret_int HO.out.symm, B3.out⟩
  · obtain rfl := hk rfl
    clear hk
    go_upto_region 3 with (first | (refine wpList_load_wanted rfl 26 _ rfl w.heap.size 0 rfl (AC f h) _ R2.out Try.underlying26 rfl (by kernel_rfl) ?_) | (refine wpList_load_mid rfl 26 _ rfl w.heap.size 0 rfl (AC f h) _ R1.out Try.underlying26 rfl (by kernel_rfl) ?_) | (go_at_call 18; (with_reducible refine (HK.out _).mono ?_); rintro e w2 ⟨rfl, hb⟩; have B2 := Lib.hid (below_then B1.out hb); have L2 := Lib.hid (L1.out.below hb); have R2 := Lib.hid (L1.out.below hb).range; clear hb) | (go_at_call 20; (with_reducible refine (HE.out _).mono ?_); rintro e w3 ⟨rfl, hb⟩; have B3 := Lib.hid (below_then B2.out hb); have L3 := Lib.hid (L2.out.below hb); clear hb))
    have c1 := L3.out.cell (k := 27) (by decide)
    have c2 := L3.out.cell (k := 26) (by decide)
    cases q1
    · cases q2
      · cases q3
        · go_wp2_with (first | (go_at_call 24; (with_reducible refine (H1.out _).mono ?_); rintro e w3 ⟨rfl, rfl⟩) | (go_at_call 24; (with_reducible refine (H2.out _).mono ?_); rintro e w3 ⟨rfl, rfl⟩) | (go_at_call 24; (with_reducible refine (H3.out _).mono ?_); rintro e w3 ⟨rfl, rfl⟩))
          go_ret
          exact ⟨ret_int HO.out.symm, B3.out⟩
        · go_wp2_with (first | (go_at_call 24; (with_reducible refine (H1.out _).mono ?_); rintro e w3 ⟨rfl, rfl⟩) | (go_at_call 24; (with_reducible refine (H2.out _).mono ?_); rintro e w3 ⟨rfl, rfl⟩) | (go_at_call 24; (with_reducible refine (H3.out _).mono ?_); rintro e w3 ⟨rfl, rfl⟩))
          go_ret
          exact ⟨ret_int HO.out.symm, B3.out⟩
      · go_wp2_with (first | (go_at_call 24; (with_reducible refine (H1.out _).mono ?_); rintro e w3 ⟨rfl, rfl⟩) | (go_at_call 24; (with_reducible refine (H2.out _).mono ?_); rintro e w3 ⟨rfl, rfl⟩) | (go_at_call 24; (with_reducible refine (H3.out _).mono ?_); rintro e w3 ⟨rfl, rfl⟩))
        go_ret
        exact ⟨ret_int HO.out.symm, B3.out⟩
    · go_wp2_with (first | (go_at_call 24; (with_reducible refine (H1.out _).mono ?_); rintro e w3 ⟨rfl, rfl⟩) | (go_at_call 24; (with_reducible refine (H2.out _).mono ?_); rintro e w3 ⟨rfl, rfl⟩) | (go_at_call 24; (with_reducible refine (H3.out _).mono ?_); rintro e w3 ⟨rfl, rfl⟩))
      go_ret
      exact ⟨ret_int HO.out.symm, B3.out⟩
theorem pend_any (f : Nat → Int) (h : Bool) (w : World) (hf : CM.Ok f) :
    Calls Try.prog 12 #[AR f h] w fun e w' => e = .returned (.int .i64 (TR.pd f)) ∧ Below w.heap.size w w' := by
  unfold TR.pd
  by_cases hk : CM.km f = true
  · by_cases he : TR.hs (f 17) 2 = true
    · rw [hk, he, if_neg (by decide)]; exact pend_on f h w hf (fun _ => he)
    · rw [hk, show TR.hs (f 17) 2 = false by simpa using he, if_pos (by decide)]; exact pend_off f h w hf hk (by simpa using he)
  · rw [show CM.km f = false by simpa using hk, if_neg (by simp)]; exact pend_on f h w hf (fun e => absurd e hk)
set_option maxHeartbeats 800000 in
theorem rpend_off (f : Nat → Int) (h : Bool) (w : World) (hf : CM.Ok f) (hk : CM.km f = true) (he : TR.hs (f 17) 2 = false) :
    Calls Try.prog 13 #[AR f h] w fun e w' => e = .returned (.int .i64 0) ∧ Below w.heap.size w w' := by
  have HK := Lib.hid (fun W => rkernel_any f h W hf)
  have HE := Lib.hid (fun W => rhas_any f h 2 W hf (.inr (.inl rfl)))
  rw [hk] at HK
  rw [he] at HE
  clear hk he
  unfold AR at HK HE ⊢
  go_enter Try.func13, Try.ntmps13
  go_upto_region 1 with fail
  have L1 := Lib.hid (Bk.new w f h)
  have B1 := Lib.hid (below_one w (.cells (AC f h).toArray 26))
  generalize World.alloc w _ = W1 at L1 B1 ⊢
  have R1 := Lib.hid L1.out.range
  go_wp2_with (first | (refine wpList_load_wanted rfl 26 _ rfl w.heap.size 0 rfl (AC f h) _ R2.out Try.underlying26 rfl (by kernel_rfl) ?_) | (refine wpList_load_mid rfl 26 _ rfl w.heap.size 0 rfl (AC f h) _ R1.out Try.underlying26 rfl (by kernel_rfl) ?_) | (go_at_call 25; (with_reducible refine (HK.out _).mono ?_); rintro e w2 ⟨rfl, hb⟩; have B2 := Lib.hid (below_then B1.out hb); have R2 := Lib.hid (L1.out.below hb).range; clear hb) | (go_at_call 26; (with_reducible refine (HE.out _).mono ?_); rintro e w3 ⟨rfl, hb⟩; have B3 := Lib.hid (below_then B2.out hb); clear hb))
  go_ret
  exact ⟨rfl, B3.out⟩
set_option maxHeartbeats 1600000 in
theorem rpend_on (f : Nat → Int) (h : Bool) (w : World) (hf : CM.Ok f) (hk : CM.km f = true → TR.hs (f 17) 2 = true) :
    Calls Try.prog 13 #[AR f h] w fun e w' => e = .returned (.int .i64 (TR.op (CM.an (f 27) (f 26)))) ∧ Below w.heap.size w w' := by
  have HK := Lib.hid (fun W => rkernel_any f h W hf)
  have HE := Lib.hid (fun W => rhas_any f h 2 W hf (.inr (.inl rfl)))
  have o0 := CM.an_bd (f 27) (f 26) (hf 27 (by decide)) (hf 26 (by decide))
  have e0 := and_an (f 27) (f 26) (hf 27 (by decide)) (hf 26 (by decide))
  obtain ⟨y0, y1⟩ := hf 27 (by decide)
  obtain ⟨z0, z1⟩ := hf 26 (by decide)
  have a1 := and_hs (CM.an (f 27) (f 26)) 1 o0 (.inl rfl)
  have a2 := and_hs (CM.an (f 27) (f 26)) 2 o0 (.inr (.inl rfl))
  have a3 := and_hs (CM.an (f 27) (f 26)) 4 o0 (.inr (.inr (.inl rfl)))
  have HO := Lib.hid (op_eq (CM.an (f 27) (f 26)))
  obtain ⟨o1, o2⟩ := o0
  generalize CM.an (f 27) (f 26) = o at *
  generalize TR.op o = r at HO ⊢
  generalize TR.hs o 1 = q1 at a1 HO
  generalize TR.hs o 2 = q2 at a2 HO
  generalize TR.hs o 4 = q3 at a3 HO
  generalize TR.hs (f 17) 2 = en at HE hk
  generalize CM.km f = k at HK hk
  unfold AR at HK HE ⊢
  go_enter Try.func13, Try.ntmps13
  go_upto_region 1 with fail
  have L1 := Lib.hid (Bk.new w f h)
  have B1 := Lib.hid (below_one w (.cells (AC f h).toArray 26))
  generalize World.alloc w _ = W1 at L1 B1 ⊢
  have R1 := Lib.hid L1.out.range
  cases k
  · clear hk
    go_upto_region 3 with (first | (refine wpList_load_mid rfl 26 _ rfl w.heap.size 0 rfl (AC f h) _ R1.out Try.underlying26 rfl (by kernel_rfl) ?_) | (go_at_call 25; (with_reducible refine (HK.out _).mono ?_); rintro e w2 ⟨rfl, hb⟩; have B3 := Lib.hid (below_then B1.out hb); have L3 := Lib.hid (L1.out.below hb); clear hb))
    have c1 := L3.out.cell (k := 27) (by decide)
    have c2 := L3.out.cell (k := 26) (by decide)
    cases q1
    · cases q2
      · cases q3
        · go_wp2
          go_ret
          exact ⟨ret_int HO.out.symm, B3.out⟩
        · go_wp2
          go_ret
          exact ⟨ret_int HO.out.symm, B3.out⟩
      · go_wp2
        go_ret
        exact ⟨ret_int HO.out.symm, B3.out⟩
    · go_wp2
      go_ret
      exact ⟨ret_int HO.out.symm, B3.out⟩
  · obtain rfl := hk rfl
    clear hk
    go_upto_region 3 with (first | (refine wpList_load_wanted rfl 26 _ rfl w.heap.size 0 rfl (AC f h) _ R2.out Try.underlying26 rfl (by kernel_rfl) ?_) | (refine wpList_load_mid rfl 26 _ rfl w.heap.size 0 rfl (AC f h) _ R1.out Try.underlying26 rfl (by kernel_rfl) ?_) | (go_at_call 25; (with_reducible refine (HK.out _).mono ?_); rintro e w2 ⟨rfl, hb⟩; have B2 := Lib.hid (below_then B1.out hb); have L2 := Lib.hid (L1.out.below hb); have R2 := Lib.hid (L1.out.below hb).range; clear hb) | (go_at_call 26; (with_reducible refine (HE.out _).mono ?_); rintro e w3 ⟨rfl, hb⟩; have B3 := Lib.hid (below_then B2.out hb); have L3 := Lib.hid (L2.out.below hb); clear hb))
    have c1 := L3.out.cell (k := 27) (by decide)
    have c2 := L3.out.cell (k := 26) (by decide)
    cases q1
    · cases q2
      · cases q3
        · go_wp2
          go_ret
          exact ⟨ret_int HO.out.symm, B3.out⟩
        · go_wp2
          go_ret
          exact ⟨ret_int HO.out.symm, B3.out⟩
      · go_wp2
        go_ret
        exact ⟨ret_int HO.out.symm, B3.out⟩
    · go_wp2
      go_ret
      exact ⟨ret_int HO.out.symm, B3.out⟩
theorem rpend_any (f : Nat → Int) (h : Bool) (w : World) (hf : CM.Ok f) :
    Calls Try.prog 13 #[AR f h] w fun e w' => e = .returned (.int .i64 (TR.pd f)) ∧ Below w.heap.size w w' := by
  unfold TR.pd
  by_cases hk : CM.km f = true
  · by_cases he : TR.hs (f 17) 2 = true
    · rw [hk, he, if_neg (by decide)]; exact rpend_on f h w hf (fun _ => he)
    · rw [hk, show TR.hs (f 17) 2 = false by simpa using he, if_pos (by decide)]; exact rpend_off f h w hf hk (by simpa using he)
  · rw [show CM.km f = false by simpa using hk, if_neg (by simp)]; exact rpend_on f h w hf (fun e => absurd e hk)
end Go.Proofs.Ytfdcnbhnegdlfaa
