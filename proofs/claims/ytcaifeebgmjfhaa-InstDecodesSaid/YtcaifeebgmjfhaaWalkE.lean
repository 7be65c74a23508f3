/-
  What Enc answers, of package inst and of the reference, for every instruction; neither changes memory that was there.
-/
import Derived.Test.YtcaifeebgmjfhaaWalkD
import Derived.Test.YtcaifeebgmjfhaaMathB
namespace Go.Proofs.Ytcaifeebgmjfhaa
open Go.RowKit S01
theorem bcell {W w1 : World} (hb : Below W.heap.size W w1) : (∀ b o, b < W.heap.size → w1.cell? ⟨b, o, none⟩ = W.cell? ⟨b, o, none⟩) ∧ (∀ b o, b < W.heap.size → w1.frozen? ⟨b, o, none⟩ = W.frozen? ⟨b, o, none⟩) :=
  ⟨fun b o h => hb.cell (p := ⟨b, o, none⟩) h, fun b o h => hb.frozen (p := ⟨b, o, none⟩) h⟩
theorem then_new {w b : World} {o : Obj} (k : Below (w.alloc o).heap.size (w.alloc o) b) : Below w.heap.size w b :=
  ((Below.refl _ _).alloc (Nat.le_refl _) o).trans (k.mono (by simp))
theorem ret_word {a b c d : Int} (h : a = b) (h' : c = d) : Ending.returned (.tuple #[.int .u32 a, .int .i64 c]) = .returned (.tuple #[.int .u32 b, .int .i64 d]) := by rw [h, h']
set_option maxHeartbeats 400000 in
theorem enc_bad (op d a b m : Int) (w : World) (h : ¬ IM.rc op d a b m = 0) :
    Calls Try.prog 8 #[.agg #[.int .i64 op, .int .i64 d, .int .i64 a, .int .i64 b, .int .i64 m]] w fun e w' => e = .returned (.tuple #[.int .u32 0, .int .i64 (IM.rc op d a b m)]) ∧ Below w.heap.size w w' := by
  have HR := Lib.hid (fun W => right_any op d a b m W)
  obtain ⟨c, hc⟩ : ∃ c, IM.rc op d a b m = c := ⟨_, rfl⟩
  rw [hc] at HR h ⊢
  have z : (c == 0) = false := by simpa using h
  clear hc
  go_enter Try.func8, Try.ntmps8
  go_wp2_with (first | (go_at_call 10; (with_reducible refine (HR.out _).mono ?_); rintro e w1 ⟨rfl, hb⟩; have HB := Lib.hid hb; clear hb))
  go_ret2
  exact ⟨rfl, then_new HB.out⟩
set_option maxHeartbeats 800000 in
theorem enc_five (op d a b m : Int) (w : World) (h : IM.rc op d a b m = 0) (h5 : IM.fm op = 5) :
    Calls Try.prog 8 #[.agg #[.int .i64 op, .int .i64 d, .int .i64 a, .int .i64 b, .int .i64 m]] w fun e w' => e = .returned (.tuple #[.int .u32 (IM.ew op d a b m), .int .i64 0]) ∧ Below w.heap.size w w' := by
  obtain ⟨⟨o0, o1⟩, ⟨d0, d1⟩, ⟨a0, a1⟩, ⟨b0, b1⟩, hz, -⟩ := IM.rc_ok h
  obtain ⟨-, rfl⟩ := hz ((IM.fm_five op).1 h5)
  have HR := Lib.hid (fun W => right_any op d a 0 m W)
  have HF := Lib.hid (fun W => form_any op W)
  rw [h] at HR
  rw [h5] at HF
  have HV : Hid (BM.pt (BM.pt (BM.pt (BM.pt (BM.pt 0 31 26 op) 25 22 d) 21 18 a) 17 14 0) 17 0 (m % 4294967296) = IM.ew op d a 0 m) := by
    show _ = _
    rw [IM.put_four op d a 0 (by omega) (by omega) (by omega) (by omega), IM.put_wide op d a _ (by omega) (by omega) (by omega) (by omega)]
    unfold IM.ew; rw [IM.iw_five ((IM.fm_five op).1 h5)]; omega
  obtain ⟨p1, q1⟩ := BM.pt_bd 0 31 26 op
  have H1 := Lib.hid (fun W => put_any 0 31 26 op W (by decide) (by decide) (by omega))
  generalize BM.pt 0 31 26 op = P1 at HV p1 q1 H1
  obtain ⟨p2, q2⟩ := BM.pt_bd P1 25 22 d
  have H2 := Lib.hid (fun W => put_any P1 25 22 d W p1 q1 (by omega))
  generalize BM.pt P1 25 22 d = P2 at HV p2 q2 H2
  obtain ⟨p3, q3⟩ := BM.pt_bd P2 21 18 a
  have H3 := Lib.hid (fun W => put_any P2 21 18 a W p2 q2 (by omega))
  generalize BM.pt P2 21 18 a = P3 at HV p3 q3 H3
  obtain ⟨p4, q4⟩ := BM.pt_bd P3 17 14 0
  have H4 := Lib.hid (fun W => put_any P3 17 14 0 W p3 q3 (by omega))
  generalize BM.pt P3 17 14 0 = P4 at HV p4 q4 H4
  have H5 := Lib.hid (fun W => put_any P4 17 0 (m % 4294967296) W p4 q4 (by omega))
  generalize BM.pt P4 17 0 (m % 4294967296) = P5 at HV H5
  rw [← HV.out]
  clear h h5 hz HV
  go_enter Try.func8, Try.ntmps8
  go_wp2_with (first | (go_at_call 10; (with_reducible refine (HR.out _).mono ?_); rintro e w1 ⟨rfl, hb⟩; have HB := Lib.hid hb; obtain ⟨hc, hf⟩ := bcell hb; clear hb) | (go_at_call 15; (with_reducible refine (HF.out _).mono ?_); rintro e w2 ⟨rfl, rfl⟩) | (go_at_call 19; (with_reducible refine (H1.out _).mono ?_); rintro e w2 ⟨rfl, rfl⟩) | (go_at_call 19; (with_reducible refine (H2.out _).mono ?_); rintro e w2 ⟨rfl, rfl⟩) | (go_at_call 19; (with_reducible refine (H3.out _).mono ?_); rintro e w2 ⟨rfl, rfl⟩) | (go_at_call 19; (with_reducible refine (H4.out _).mono ?_); rintro e w2 ⟨rfl, rfl⟩) | (go_at_call 19; (with_reducible refine (H5.out _).mono ?_); rintro e w2 ⟨rfl, rfl⟩))
  go_ret2
  exact ⟨rfl, then_new HB.out⟩
set_option maxHeartbeats 800000 in
theorem enc_other (op d a b m : Int) (w : World) (h : IM.rc op d a b m = 0) (h5 : ¬ IM.fm op = 5) :
    Calls Try.prog 8 #[.agg #[.int .i64 op, .int .i64 d, .int .i64 a, .int .i64 b, .int .i64 m]] w fun e w' => e = .returned (.tuple #[.int .u32 (IM.ew op d a b m), .int .i64 0]) ∧ Below w.heap.size w w' := by
  obtain ⟨⟨o0, o1⟩, ⟨d0, d1⟩, ⟨a0, a1⟩, ⟨b0, b1⟩, -⟩ := IM.rc_ok h
  have HR := Lib.hid (fun W => right_any op d a b m W)
  have HF := Lib.hid (fun W => form_any op W)
  rw [h] at HR
  have z : (IM.fm op == 5) = false := by simpa using h5
  have HV : Hid (BM.pt (BM.pt (BM.pt (BM.pt (BM.pt 0 31 26 op) 25 22 d) 21 18 a) 17 14 b) 13 0 (m % 4294967296) = IM.ew op d a b m) := by
    show _ = _
    rw [IM.put_four op d a b (by omega) (by omega) (by omega) (by omega), IM.put_last op d a b _ (by omega) (by omega) (by omega) (by omega) (by omega)]
    unfold IM.ew; rw [IM.iw_other (fun h => h5 ((IM.fm_five op).2 h))]; omega
  generalize IM.fm op = f at HF z
  obtain ⟨p1, q1⟩ := BM.pt_bd 0 31 26 op
  have H1 := Lib.hid (fun W => put_any 0 31 26 op W (by decide) (by decide) (by omega))
  generalize BM.pt 0 31 26 op = P1 at HV p1 q1 H1
  obtain ⟨p2, q2⟩ := BM.pt_bd P1 25 22 d
  have H2 := Lib.hid (fun W => put_any P1 25 22 d W p1 q1 (by omega))
  generalize BM.pt P1 25 22 d = P2 at HV p2 q2 H2
  obtain ⟨p3, q3⟩ := BM.pt_bd P2 21 18 a
  have H3 := Lib.hid (fun W => put_any P2 21 18 a W p2 q2 (by omega))
  generalize BM.pt P2 21 18 a = P3 at HV p3 q3 H3
  obtain ⟨p4, q4⟩ := BM.pt_bd P3 17 14 b
  have H4 := Lib.hid (fun W => put_any P3 17 14 b W p3 q3 (by omega))
  generalize BM.pt P3 17 14 b = P4 at HV p4 q4 H4
  have H5 := Lib.hid (fun W => put_any P4 13 0 (m % 4294967296) W p4 q4 (by omega))
  generalize BM.pt P4 13 0 (m % 4294967296) = P5 at HV H5
  rw [← HV.out]
  clear h h5 HV
  go_enter Try.func8, Try.ntmps8
  go_wp2_with (first | (go_at_call 10; (with_reducible refine (HR.out _).mono ?_); rintro e w1 ⟨rfl, hb⟩; have HB := Lib.hid hb; obtain ⟨hc, hf⟩ := bcell hb; clear hb) | (go_at_call 15; (with_reducible refine (HF.out _).mono ?_); rintro e w2 ⟨rfl, rfl⟩) | (go_at_call 19; (with_reducible refine (H1.out _).mono ?_); rintro e w2 ⟨rfl, rfl⟩) | (go_at_call 19; (with_reducible refine (H2.out _).mono ?_); rintro e w2 ⟨rfl, rfl⟩) | (go_at_call 19; (with_reducible refine (H3.out _).mono ?_); rintro e w2 ⟨rfl, rfl⟩) | (go_at_call 19; (with_reducible refine (H4.out _).mono ?_); rintro e w2 ⟨rfl, rfl⟩) | (go_at_call 19; (with_reducible refine (H5.out _).mono ?_); rintro e w2 ⟨rfl, rfl⟩))
  go_ret2
  exact ⟨rfl, then_new HB.out⟩
theorem enc_any (op d a b m : Int) (w : World) :
    Calls Try.prog 8 #[.agg #[.int .i64 op, .int .i64 d, .int .i64 a, .int .i64 b, .int .i64 m]] w fun e w' => e = .returned (.tuple #[.int .u32 (IM.ec op d a b m), .int .i64 (IM.rc op d a b m)]) ∧ Below w.heap.size w w' := by
  unfold IM.ec
  by_cases h : IM.rc op d a b m = 0
  · rw [if_pos h, h]
    by_cases h5 : IM.fm op = 5
    · exact enc_five op d a b m w h h5
    · exact enc_other op d a b m w h h5
  · rw [if_neg h]; exact enc_bad op d a b m w h
set_option maxHeartbeats 400000 in
theorem renc_bad (op d a b m : Int) (w : World) (h : ¬ IM.rc op d a b m = 0) :
    Calls Try.prog 9 #[.agg #[.int .i64 op, .int .i64 d, .int .i64 a, .int .i64 b, .int .i64 m]] w fun e w' => e = .returned (.tuple #[.int .u32 0, .int .i64 (IM.rc op d a b m)]) ∧ Below w.heap.size w w' := by
  have HR := Lib.hid (fun W => rright_any op d a b m W)
  obtain ⟨c, hc⟩ : ∃ c, IM.rc op d a b m = c := ⟨_, rfl⟩
  rw [hc] at HR h ⊢
  have z : (c == 0) = false := by simpa using h
  clear hc
  go_enter Try.func9, Try.ntmps9
  go_wp2_with (first | (go_at_call 11; (with_reducible refine (HR.out _).mono ?_); rintro e w1 ⟨rfl, hb⟩; have HB := Lib.hid hb; clear hb))
  go_ret2
  exact ⟨rfl, then_new HB.out⟩
set_option maxHeartbeats 800000 in
theorem renc_five (op d a b m : Int) (w : World) (h : IM.rc op d a b m = 0) (h5 : IM.fm op = 5) :
    Calls Try.prog 9 #[.agg #[.int .i64 op, .int .i64 d, .int .i64 a, .int .i64 b, .int .i64 m]] w fun e w' => e = .returned (.tuple #[.int .u32 (IM.ew op d a b m), .int .i64 0]) ∧ Below w.heap.size w w' := by
  obtain ⟨⟨o0, o1⟩, ⟨d0, d1⟩, ⟨a0, a1⟩, ⟨b0, b1⟩, hz, h3, h4, -⟩ := IM.rc_ok h
  have hop := (IM.fm_five op).1 h5
  obtain ⟨rfl, rfl⟩ := hz hop
  have hm : -131072 ≤ m ∧ m < 262144 := by omega
  have HR := Lib.hid (fun W => rright_any op d 0 0 m W)
  have HF := Lib.hid (fun W => rform_any op W)
  rw [h] at HR
  rw [h5] at HF
  have HV := Lib.hid (show IM.ew op d 0 0 m = op * 67108864 + d * 4194304 + m % 262144 by unfold IM.ew; rw [IM.iw_five hop]; omega)
  obtain ⟨m0, m1⟩ := hm
  rw [HV.out]
  clear h h5 hz h3 h4 hop HV
  by_cases hm : m < 0
  · go_enter Try.func9, Try.ntmps9
    go_wp2_with (first | (go_at_call 11; (with_reducible refine (HR.out _).mono ?_); rintro e w1 ⟨rfl, hb⟩; have HB := Lib.hid hb; obtain ⟨hc, hf⟩ := bcell hb; clear hb) | (go_at_call 16; (with_reducible refine (HF.out _).mono ?_); rintro e w2 ⟨rfl, rfl⟩))
    all_goals go_ret2
    all_goals exact ⟨ret_word (by omega) rfl, then_new HB.out⟩
  · go_enter Try.func9, Try.ntmps9
    go_wp2_with (first | (go_at_call 11; (with_reducible refine (HR.out _).mono ?_); rintro e w1 ⟨rfl, hb⟩; have HB := Lib.hid hb; obtain ⟨hc, hf⟩ := bcell hb; clear hb) | (go_at_call 16; (with_reducible refine (HF.out _).mono ?_); rintro e w2 ⟨rfl, rfl⟩))
    all_goals go_ret2
    all_goals exact ⟨ret_word (by omega) rfl, then_new HB.out⟩
set_option maxHeartbeats 800000 in
theorem renc_other (op d a b m : Int) (w : World) (h : IM.rc op d a b m = 0) (h5 : ¬ IM.fm op = 5) :
    Calls Try.prog 9 #[.agg #[.int .i64 op, .int .i64 d, .int .i64 a, .int .i64 b, .int .i64 m]] w fun e w' => e = .returned (.tuple #[.int .u32 (IM.ew op d a b m), .int .i64 0]) ∧ Below w.heap.size w w' := by
  obtain ⟨⟨o0, o1⟩, ⟨d0, d1⟩, ⟨a0, a1⟩, ⟨b0, b1⟩, -, -, -, hm⟩ := IM.rc_ok h
  have hop : ¬ (op = 33 ∨ op = 49) := fun h => h5 ((IM.fm_five op).2 h)
  obtain ⟨m0, m1⟩ := hm (by omega) (by omega)
  have HR := Lib.hid (fun W => rright_any op d a b m W)
  have HF := Lib.hid (fun W => rform_any op W)
  rw [h] at HR
  have z : (IM.fm op == 5) = false := by simpa using h5
  have HV := Lib.hid (show IM.ew op d a b m = op * 67108864 + d * 4194304 + a * 262144 + b * 16384 + m % 16384 by unfold IM.ew; rw [IM.iw_other hop])
  rw [HV.out]
  generalize IM.fm op = f at HF z
  clear h h5 hop HV hm
  by_cases hm : m < 0
  · go_enter Try.func9, Try.ntmps9
    go_wp2_with (first | (go_at_call 11; (with_reducible refine (HR.out _).mono ?_); rintro e w1 ⟨rfl, hb⟩; have HB := Lib.hid hb; obtain ⟨hc, hf⟩ := bcell hb; clear hb) | (go_at_call 16; (with_reducible refine (HF.out _).mono ?_); rintro e w2 ⟨rfl, rfl⟩))
    all_goals go_ret2
    all_goals exact ⟨ret_word (by omega) rfl, then_new HB.out⟩
  · go_enter Try.func9, Try.ntmps9
    go_wp2_with (first | (go_at_call 11; (with_reducible refine (HR.out _).mono ?_); rintro e w1 ⟨rfl, hb⟩; have HB := Lib.hid hb; obtain ⟨hc, hf⟩ := bcell hb; clear hb) | (go_at_call 16; (with_reducible refine (HF.out _).mono ?_); rintro e w2 ⟨rfl, rfl⟩))
    all_goals go_ret2
    all_goals exact ⟨ret_word (by omega) rfl, then_new HB.out⟩
theorem renc_any (op d a b m : Int) (w : World) :
    Calls Try.prog 9 #[.agg #[.int .i64 op, .int .i64 d, .int .i64 a, .int .i64 b, .int .i64 m]] w fun e w' => e = .returned (.tuple #[.int .u32 (IM.ec op d a b m), .int .i64 (IM.rc op d a b m)]) ∧ Below w.heap.size w w' := by
  unfold IM.ec
  by_cases h : IM.rc op d a b m = 0
  · rw [if_pos h, h]
    by_cases h5 : IM.fm op = 5
    · exact renc_five op d a b m w h h5
    · exact renc_other op d a b m w h h5
  · rw [if_neg h]; exact renc_bad op d a b m w h
end Go.Proofs.Ytcaifeebgmjfhaa
