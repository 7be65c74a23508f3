/-
  What Enc answers, of package inst and of the reference, for every instruction; neither changes memory that was there.
  What is read from a word, and what Dec answers, for every word, of package inst and of the reference; none changes memory that was there.
  What Dec answers, for every word, of package inst and of the reference; neither changes memory that was there.
-/
import Derived.Test.YtcnmnkgnaknpdaaGreatDoorGe
import Derived.Test.YtcnmnkgnaknpdaaGreatDoorGd

/-! S06WalkE -/
namespace Go.Proofs.YtcnmnkgnaknpdaaGreatDoor.S06
open Go.RowKit S01
theorem bcell {W w1 : World} (hb : Below W.heap.size W w1) : (∀ b o, b < W.heap.size → w1.cell? ⟨b, o, none⟩ = W.cell? ⟨b, o, none⟩) ∧ (∀ b o, b < W.heap.size → w1.frozen? ⟨b, o, none⟩ = W.frozen? ⟨b, o, none⟩) :=
  ⟨fun b o h => hb.cell (p := ⟨b, o, none⟩) h, fun b o h => hb.frozen (p := ⟨b, o, none⟩) h⟩
theorem then_new {w b : World} {o : Obj} (k : Below (w.alloc o).heap.size (w.alloc o) b) : Below w.heap.size w b :=
  ((Below.refl _ _).alloc (Nat.le_refl _) o).trans (k.mono (by simp))
theorem ret_word {a b c d : Int} (h : a = b) (h' : c = d) : Ending.returned (.tuple #[.int .u32 a, .int .i64 c]) = .returned (.tuple #[.int .u32 b, .int .i64 d]) := by rw [h, h']
set_option maxHeartbeats 400000 in
theorem enc_bad (op d a b m : Int) (w : World) (h : ¬ IM.rc op d a b m = 0) :
    Calls Tryz.prog 17 #[.agg #[.int .i64 op, .int .i64 d, .int .i64 a, .int .i64 b, .int .i64 m]] w fun e w' => e = .returned (.tuple #[.int .u32 0, .int .i64 (IM.rc op d a b m)]) ∧ Below w.heap.size w w' := by
  have HR := Lib.hid (fun W => right_any op d a b m W)
  obtain ⟨c, hc⟩ : ∃ c, IM.rc op d a b m = c := ⟨_, rfl⟩
  rw [hc] at HR h ⊢
  have z : (c == 0) = false := by simpa using h
  clear hc
  go_enter Tryz.func17, Tryz.ntmps17
  go_wp2_with (first | (go_at_call 36; (with_reducible refine (HR.out _).mono ?_); rintro e w1 ⟨rfl, hb⟩; have HB := Lib.hid hb; clear hb))
  go_ret2
  exact ⟨rfl, then_new HB.out⟩
set_option maxHeartbeats 800000 in
theorem enc_five (op d a b m : Int) (w : World) (h : IM.rc op d a b m = 0) (h5 : IM.fm op = 5) :
    Calls Tryz.prog 17 #[.agg #[.int .i64 op, .int .i64 d, .int .i64 a, .int .i64 b, .int .i64 m]] w fun e w' => e = .returned (.tuple #[.int .u32 (IM.ew op d a b m), .int .i64 0]) ∧ Below w.heap.size w w' := by
  obtain ⟨⟨o0, o1⟩, ⟨d0, d1⟩, ⟨a0, a1⟩, ⟨b0, b1⟩, hz, -⟩ := IM.rc_ok h
  obtain ⟨-, rfl⟩ := hz ((IM.fm_five op).1 h5)
  have HR := Lib.hid (fun W => right_any op d a 0 m W)
  have HF := Lib.hid (fun W => form_any op W)
  rw [h] at HR
  rw [h5] at HF
  have HV : Hid (BM.pt (BM.pt (BM.pt (BM.pt (BM.pt 0 31 26 op) 25 22 d) 21 18 a) 17 14 0) 17 0 (m % 4294967296) = IM.ew op d a 0 m) := by
    show _ = _
    rw [IM.put_four op d a 0 (by omega) (by omega) (by omega) (by omega), IM.put_wide op d a _ (by omega) (by omega) (by omega) (by omega)]
    unfold IM.ew; rw [IM.iw_five ((IM.fm_five op).1 h5)]; omega
  obtain ⟨p1, q1⟩ := BM.pt_bd 0 31 26 op
  have H1 := Lib.hid (fun W => put_any 0 31 26 op W (by decide) (by decide) (by omega))
  generalize BM.pt 0 31 26 op = P1 at HV p1 q1 H1
  obtain ⟨p2, q2⟩ := BM.pt_bd P1 25 22 d
  have H2 := Lib.hid (fun W => put_any P1 25 22 d W p1 q1 (by omega))
  generalize BM.pt P1 25 22 d = P2 at HV p2 q2 H2
  obtain ⟨p3, q3⟩ := BM.pt_bd P2 21 18 a
  have H3 := Lib.hid (fun W => put_any P2 21 18 a W p2 q2 (by omega))
  generalize BM.pt P2 21 18 a = P3 at HV p3 q3 H3
  obtain ⟨p4, q4⟩ := BM.pt_bd P3 17 14 0
  have H4 := Lib.hid (fun W => put_any P3 17 14 0 W p3 q3 (by omega))
  generalize BM.pt P3 17 14 0 = P4 at HV p4 q4 H4
  have H5 := Lib.hid (fun W => put_any P4 17 0 (m % 4294967296) W p4 q4 (by omega))
  generalize BM.pt P4 17 0 (m % 4294967296) = P5 at HV H5
  rw [← HV.out]
  clear h h5 hz HV
  go_enter Tryz.func17, Tryz.ntmps17
  go_wp2_with (first | (go_at_call 36; (with_reducible refine (HR.out _).mono ?_); rintro e w1 ⟨rfl, hb⟩; have HB := Lib.hid hb; obtain ⟨hc, hf⟩ := bcell hb; clear hb) | (go_at_call 38; (with_reducible refine (HF.out _).mono ?_); rintro e w2 ⟨rfl, rfl⟩) | (go_at_call 37; (with_reducible refine (H1.out _).mono ?_); rintro e w2 ⟨rfl, rfl⟩) | (go_at_call 37; (with_reducible refine (H2.out _).mono ?_); rintro e w2 ⟨rfl, rfl⟩) | (go_at_call 37; (with_reducible refine (H3.out _).mono ?_); rintro e w2 ⟨rfl, rfl⟩) | (go_at_call 37; (with_reducible refine (H4.out _).mono ?_); rintro e w2 ⟨rfl, rfl⟩) | (go_at_call 37; (with_reducible refine (H5.out _).mono ?_); rintro e w2 ⟨rfl, rfl⟩))
  go_ret2
  exact ⟨rfl, then_new HB.out⟩
set_option maxHeartbeats 800000 in
theorem enc_other (op d a b m : Int) (w : World) (h : IM.rc op d a b m = 0) (h5 : ¬ IM.fm op = 5) :
    Calls Tryz.prog 17 #[.agg #[.int .i64 op, .int .i64 d, .int .i64 a, .int .i64 b, .int .i64 m]] w fun e w' => e = .returned (.tuple #[.int .u32 (IM.ew op d a b m), .int .i64 0]) ∧ Below w.heap.size w w' := by
  obtain ⟨⟨o0, o1⟩, ⟨d0, d1⟩, ⟨a0, a1⟩, ⟨b0, b1⟩, -⟩ := IM.rc_ok h
  have HR := Lib.hid (fun W => right_any op d a b m W)
  have HF := Lib.hid (fun W => form_any op W)
  rw [h] at HR
  have z : (IM.fm op == 5) = false := by simpa using h5
  have HV : Hid (BM.pt (BM.pt (BM.pt (BM.pt (BM.pt 0 31 26 op) 25 22 d) 21 18 a) 17 14 b) 13 0 (m % 4294967296) = IM.ew op d a b m) := by
    show _ = _
    rw [IM.put_four op d a b (by omega) (by omega) (by omega) (by omega), IM.put_last op d a b _ (by omega) (by omega) (by omega) (by omega) (by omega)]
    unfold IM.ew; rw [IM.iw_other (fun h => h5 ((IM.fm_five op).2 h))]; omega
  generalize IM.fm op = f at HF z
  obtain ⟨p1, q1⟩ := BM.pt_bd 0 31 26 op
  have H1 := Lib.hid (fun W => put_any 0 31 26 op W (by decide) (by decide) (by omega))
  generalize BM.pt 0 31 26 op = P1 at HV p1 q1 H1
  obtain ⟨p2, q2⟩ := BM.pt_bd P1 25 22 d
  have H2 := Lib.hid (fun W => put_any P1 25 22 d W p1 q1 (by omega))
  generalize BM.pt P1 25 22 d = P2 at HV p2 q2 H2
  obtain ⟨p3, q3⟩ := BM.pt_bd P2 21 18 a
  have H3 := Lib.hid (fun W => put_any P2 21 18 a W p2 q2 (by omega))
  generalize BM.pt P2 21 18 a = P3 at HV p3 q3 H3
  obtain ⟨p4, q4⟩ := BM.pt_bd P3 17 14 b
  have H4 := Lib.hid (fun W => put_any P3 17 14 b W p3 q3 (by omega))
  generalize BM.pt P3 17 14 b = P4 at HV p4 q4 H4
  have H5 := Lib.hid (fun W => put_any P4 13 0 (m % 4294967296) W p4 q4 (by omega))
  generalize BM.pt P4 13 0 (m % 4294967296) = P5 at HV H5
  rw [← HV.out]
  clear h h5 HV
  go_enter Tryz.func17, Tryz.ntmps17
  go_wp2_with (first | (go_at_call 36; (with_reducible refine (HR.out _).mono ?_); rintro e w1 ⟨rfl, hb⟩; have HB := Lib.hid hb; obtain ⟨hc, hf⟩ := bcell hb; clear hb) | (go_at_call 38; (with_reducible refine (HF.out _).mono ?_); rintro e w2 ⟨rfl, rfl⟩) | (go_at_call 37; (with_reducible refine (H1.out _).mono ?_); rintro e w2 ⟨rfl, rfl⟩) | (go_at_call 37; (with_reducible refine (H2.out _).mono ?_); rintro e w2 ⟨rfl, rfl⟩) | (go_at_call 37; (with_reducible refine (H3.out _).mono ?_); rintro e w2 ⟨rfl, rfl⟩) | (go_at_call 37; (with_reducible refine (H4.out _).mono ?_); rintro e w2 ⟨rfl, rfl⟩) | (go_at_call 37; (with_reducible refine (H5.out _).mono ?_); rintro e w2 ⟨rfl, rfl⟩))
  go_ret2
  exact ⟨rfl, then_new HB.out⟩
theorem enc_any (op d a b m : Int) (w : World) :
    Calls Tryz.prog 17 #[.agg #[.int .i64 op, .int .i64 d, .int .i64 a, .int .i64 b, .int .i64 m]] w fun e w' => e = .returned (.tuple #[.int .u32 (IM.ec op d a b m), .int .i64 (IM.rc op d a b m)]) ∧ Below w.heap.size w w' := by
  unfold IM.ec
  by_cases h : IM.rc op d a b m = 0
  · rw [if_pos h, h]
    by_cases h5 : IM.fm op = 5
    · exact enc_five op d a b m w h h5
    · exact enc_other op d a b m w h h5
  · rw [if_neg h]; exact enc_bad op d a b m w h
set_option maxHeartbeats 400000 in
theorem renc_bad (op d a b m : Int) (w : World) (h : ¬ IM.rc op d a b m = 0) :
    Calls Tryz.prog 57 #[.agg #[.int .i64 op, .int .i64 d, .int .i64 a, .int .i64 b, .int .i64 m]] w fun e w' => e = .returned (.tuple #[.int .u32 0, .int .i64 (IM.rc op d a b m)]) ∧ Below w.heap.size w w' := by
  have HR := Lib.hid (fun W => rright_any op d a b m W)
  obtain ⟨c, hc⟩ : ∃ c, IM.rc op d a b m = c := ⟨_, rfl⟩
  rw [hc] at HR h ⊢
  have z : (c == 0) = false := by simpa using h
  clear hc
  go_enter Tryz.func57, Tryz.ntmps57
  go_wp2_with (first | (go_at_call 62; (with_reducible refine (HR.out _).mono ?_); rintro e w1 ⟨rfl, hb⟩; have HB := Lib.hid hb; clear hb))
  go_ret2
  exact ⟨rfl, then_new HB.out⟩
set_option maxHeartbeats 800000 in
theorem renc_five (op d a b m : Int) (w : World) (h : IM.rc op d a b m = 0) (h5 : IM.fm op = 5) :
    Calls Tryz.prog 57 #[.agg #[.int .i64 op, .int .i64 d, .int .i64 a, .int .i64 b, .int .i64 m]] w fun e w' => e = .returned (.tuple #[.int .u32 (IM.ew op d a b m), .int .i64 0]) ∧ Below w.heap.size w w' := by
  obtain ⟨⟨o0, o1⟩, ⟨d0, d1⟩, ⟨a0, a1⟩, ⟨b0, b1⟩, hz, h3, h4, -⟩ := IM.rc_ok h
  have hop := (IM.fm_five op).1 h5
  obtain ⟨rfl, rfl⟩ := hz hop
  have hm : -131072 ≤ m ∧ m < 262144 := by omega
  have HR := Lib.hid (fun W => rright_any op d 0 0 m W)
  have HF := Lib.hid (fun W => rform_any op W)
  rw [h] at HR
  rw [h5] at HF
  have HV := Lib.hid (show IM.ew op d 0 0 m = op * 67108864 + d * 4194304 + m % 262144 by unfold IM.ew; rw [IM.iw_five hop]; omega)
  obtain ⟨m0, m1⟩ := hm
  rw [HV.out]
  clear h h5 hz h3 h4 hop HV
  by_cases hm : m < 0
  · go_enter Tryz.func57, Tryz.ntmps57
    go_wp2_with (first | (go_at_call 62; (with_reducible refine (HR.out _).mono ?_); rintro e w1 ⟨rfl, hb⟩; have HB := Lib.hid hb; obtain ⟨hc, hf⟩ := bcell hb; clear hb) | (go_at_call 61; (with_reducible refine (HF.out _).mono ?_); rintro e w2 ⟨rfl, rfl⟩))
    all_goals go_ret2
    all_goals exact ⟨ret_word (by omega) rfl, then_new HB.out⟩
  · go_enter Tryz.func57, Tryz.ntmps57
    go_wp2_with (first | (go_at_call 62; (with_reducible refine (HR.out _).mono ?_); rintro e w1 ⟨rfl, hb⟩; have HB := Lib.hid hb; obtain ⟨hc, hf⟩ := bcell hb; clear hb) | (go_at_call 61; (with_reducible refine (HF.out _).mono ?_); rintro e w2 ⟨rfl, rfl⟩))
    all_goals go_ret2
    all_goals exact ⟨ret_word (by omega) rfl, then_new HB.out⟩
set_option maxHeartbeats 800000 in
theorem renc_other (op d a b m : Int) (w : World) (h : IM.rc op d a b m = 0) (h5 : ¬ IM.fm op = 5) :
    Calls Tryz.prog 57 #[.agg #[.int .i64 op, .int .i64 d, .int .i64 a, .int .i64 b, .int .i64 m]] w fun e w' => e = .returned (.tuple #[.int .u32 (IM.ew op d a b m), .int .i64 0]) ∧ Below w.heap.size w w' := by
  obtain ⟨⟨o0, o1⟩, ⟨d0, d1⟩, ⟨a0, a1⟩, ⟨b0, b1⟩, -, -, -, hm⟩ := IM.rc_ok h
  have hop : ¬ (op = 33 ∨ op = 49) := fun h => h5 ((IM.fm_five op).2 h)
  obtain ⟨m0, m1⟩ := hm (by omega) (by omega)
  have HR := Lib.hid (fun W => rright_any op d a b m W)
  have HF := Lib.hid (fun W => rform_any op W)
  rw [h] at HR
  have z : (IM.fm op == 5) = false := by simpa using h5
  have HV := Lib.hid (show IM.ew op d a b m = op * 67108864 + d * 4194304 + a * 262144 + b * 16384 + m % 16384 by unfold IM.ew; rw [IM.iw_other hop])
  rw [HV.out]
  generalize IM.fm op = f at HF z
  clear h h5 hop HV hm
  by_cases hm : m < 0
  · go_enter Tryz.func57, Tryz.ntmps57
    go_wp2_with (first | (go_at_call 62; (with_reducible refine (HR.out _).mono ?_); rintro e w1 ⟨rfl, hb⟩; have HB := Lib.hid hb; obtain ⟨hc, hf⟩ := bcell hb; clear hb) | (go_at_call 61; (with_reducible refine (HF.out _).mono ?_); rintro e w2 ⟨rfl, rfl⟩))
    all_goals go_ret2
    all_goals exact ⟨ret_word (by omega) rfl, then_new HB.out⟩
  · go_enter Tryz.func57, Tryz.ntmps57
    go_wp2_with (first | (go_at_call 62; (with_reducible refine (HR.out _).mono ?_); rintro e w1 ⟨rfl, hb⟩; have HB := Lib.hid hb; obtain ⟨hc, hf⟩ := bcell hb; clear hb) | (go_at_call 61; (with_reducible refine (HF.out _).mono ?_); rintro e w2 ⟨rfl, rfl⟩))
    all_goals go_ret2
    all_goals exact ⟨ret_word (by omega) rfl, then_new HB.out⟩
theorem renc_any (op d a b m : Int) (w : World) :
    Calls Tryz.prog 57 #[.agg #[.int .i64 op, .int .i64 d, .int .i64 a, .int .i64 b, .int .i64 m]] w fun e w' => e = .returned (.tuple #[.int .u32 (IM.ec op d a b m), .int .i64 (IM.rc op d a b m)]) ∧ Below w.heap.size w w' := by
  unfold IM.ec
  by_cases h : IM.rc op d a b m = 0
  · rw [if_pos h, h]
    by_cases h5 : IM.fm op = 5
    · exact renc_five op d a b m w h h5
    · exact renc_other op d a b m w h h5
  · rw [if_neg h]; exact renc_bad op d a b m w h
end Go.Proofs.YtcnmnkgnaknpdaaGreatDoor.S06
/-! S06WalkF -/
namespace Go.Proofs.YtcnmnkgnaknpdaaGreatDoor.S06
open Go.RowKit S01
theorem sv_wrap (x : Int) (h0 : 0 ≤ x) (h1 : x < 4294967296) : wrap32 x = IM.sv x := by
  unfold IM.sv wrap32
  split <;> omega
theorem sv_bd (x : Int) (h0 : 0 ≤ x) (h1 : x < 4294967296) : -2147483648 ≤ IM.sv x ∧ IM.sv x < 2147483648 := by
  unfold IM.sv
  split <;> omega
set_option maxHeartbeats 400000 in
theorem signed_any (x : Int) (w : World) (h0 : 0 ≤ x) (h1 : x < 4294967296) : Calls Tryz.prog 123 #[.int .u32 x] w fun e w' => e = .returned (.int .i64 (IM.sv x)) ∧ w = w' := by
  have wa := sv_wrap x h0 h1
  obtain ⟨s0, s1⟩ := sv_bd x h0 h1
  go_enter Tryz.func123, Tryz.ntmps123
  go_wp2
  go_ret
  exact ⟨rfl, rfl⟩
set_option maxHeartbeats 400000 in
theorem field_at (x h l : Int) (w : World) (h0 : 0 ≤ x) (h1 : x < 4294967296) : Calls Tryz.prog 121 #[.int .u32 x, .int .i64 h, .int .i64 l] w fun e w' => e = .returned (.int .i64 (BM.fd x h l)) ∧ ∃ n, w' = w.drewN n := by
  obtain ⟨s0, s1⟩ := BM.fd_bd x h l
  have HF := Lib.hid (fun W => field_any x h l W h0 h1)
  generalize BM.fd x h l = F at HF s0 s1
  go_enter Tryz.func121, Tryz.ntmps121
  go_wp2_with (first | (go_at_call 149; (with_reducible refine (HF.out _).mono ?_); rintro e w1 ⟨rfl, n, hw⟩; have HW := Lib.hid hw; clear hw))
  go_ret
  exact ⟨rfl, n, HW.out⟩
/-- An instruction lies in the block s. -/
def At (w : World) (s : Nat) (o d a b m : Int) : Prop :=
  (w.cell? ⟨s, 0, none⟩ = some (.int .i64 o) ∧ w.cell? ⟨s, 1, none⟩ = some (.int .i64 d) ∧ w.cell? ⟨s, 2, none⟩ = some (.int .i64 a) ∧ w.cell? ⟨s, 3, none⟩ = some (.int .i64 b) ∧ w.cell? ⟨s, 4, none⟩ = some (.int .i64 m)) ∧
  (w.frozen? ⟨s, 0, none⟩ = false ∧ w.frozen? ⟨s, 1, none⟩ = false ∧ w.frozen? ⟨s, 2, none⟩ = false ∧ w.frozen? ⟨s, 3, none⟩ = false ∧ w.frozen? ⟨s, 4, none⟩ = false)
theorem At.below {w w1 : World} {s : Nat} {o d a b m : Int} (hA : At w s o d a b m) (hs : s < w.heap.size) (hb : Below w.heap.size w w1) : At w1 s o d a b m := by
  obtain ⟨⟨c0, c1, c2, c3, c4⟩, f0, f1, f2, f3, f4⟩ := hA
  exact ⟨⟨(hb.cell hs).trans c0, (hb.cell hs).trans c1, (hb.cell hs).trans c2, (hb.cell hs).trans c3, (hb.cell hs).trans c4⟩, (hb.frozen hs).trans f0, (hb.frozen hs).trans f1, (hb.frozen hs).trans f2, (hb.frozen hs).trans f3, (hb.frozen hs).trans f4⟩
theorem At.new (w : World) (t : TypeId) (o d a b m : Int) : At (w.alloc (.cells #[.int .i64 o, .int .i64 d, .int .i64 a, .int .i64 b, .int .i64 m] t)) w.heap.size o d a b m := by
  refine ⟨⟨?_, ?_, ?_, ?_, ?_⟩, ?_, ?_, ?_, ?_, ?_⟩ <;> simp [go_sem]
theorem At.more {w : World} {s : Nat} {o d a b m : Int} (hA : At w s o d a b m) (hs : s < w.heap.size) (x : Obj) : At (w.alloc x) s o d a b m := hA.below hs ((Below.refl _ _).alloc (Nat.le_refl _) _)
theorem drew_below {w w1 : World} (h : ∃ n, w1 = w.drewN n) : Below w.heap.size w w1 ∧ w1.heap.size = w.heap.size := by
  obtain ⟨n, rfl⟩ := h
  exact ⟨below_drewN (Below.refl _ _) n, by simp⟩

set_option maxHeartbeats 800000 in
theorem read_lui (x : Int) (w : World) (x0 : 0 ≤ x) (x1 : x < 4294967296) (h : IM.dO x = 33) :
    Calls Tryz.prog 80 #[.int .u32 x] w fun e w' => e = .returned (.agg #[.int .i64 (IM.dO x), .int .i64 (IM.dD x), .int .i64 (IM.dA x), .int .i64 (IM.dB x), .int .i64 (IM.dI x)]) ∧ Below w.heap.size w w' := by
  have H1 := Lib.hid (fun W => field_at x 31 26 W x0 x1)
  have H2 := Lib.hid (fun W => field_at x 25 22 W x0 x1)
  have H3 := Lib.hid (fun W => field_at x 21 18 W x0 x1)
  rw [IM.fO x x0 x1] at H1
  rw [IM.fD x x0] at H2
  rw [IM.fA x x0] at H3
  have e1 : IM.dB x = 0 := by unfold IM.dB; rw [if_pos (Or.inl h)]
  have HZ := Lib.hid (fun W => zext_any x 18 W x0 x1)
  rw [IM.zx18 x x0] at HZ
  have e2 : IM.dI x = x % 262144 := by unfold IM.dI; rw [if_pos h]
  rw [← e2] at HZ
  have i0 : 0 ≤ IM.dI x := by omega
  have i1 : IM.dI x < 262144 := by omega
  clear e2
  rw [h] at H1
  rw [e1, h]
  clear e1 h
  generalize IM.dD x = D at *
  generalize IM.dA x = A at *
  generalize IM.dI x = I at *
  go_enter Tryz.func80, Tryz.ntmps80
  go_wp2_with fail
  (with_reducible refine (H1.out _).mono ?_); rintro e W1 ⟨rfl, hW1⟩
  obtain ⟨b1, s1⟩ := drew_below hW1
  clear hW1
  have A1 := Lib.hid ((At.new w 45 0 0 0 0 0).below (by simp) b1)
  have B1 := Lib.hid (then_new b1)
  have S1 := Lib.hid (show w.heap.size < W1.heap.size by rw [s1]; simp)
  clear b1 s1
  go_wp2_with fail
  (with_reducible refine (H2.out _).mono ?_); rintro e W2 ⟨rfl, hW2⟩
  obtain ⟨b2, s2⟩ := drew_below hW2
  clear hW2
  have A2 := Lib.hid (A1.out.below S1.out b2)
  have B2 := Lib.hid (B1.out.trans (b2.mono B1.out.size))
  have S2 := Lib.hid (show w.heap.size < W2.heap.size by rw [s2]; exact S1.out)
  clear b2 s2 A1 B1 S1
  go_wp2_with fail
  (with_reducible refine (H3.out _).mono ?_); rintro e W3 ⟨rfl, hW3⟩
  obtain ⟨b3, s3⟩ := drew_below hW3
  clear hW3
  have A3 := Lib.hid (A2.out.below S2.out b3)
  have B3 := Lib.hid (B2.out.trans (b3.mono B2.out.size))
  have S3 := Lib.hid (show w.heap.size < W3.heap.size by rw [s3]; exact S2.out)
  clear b3 s3 A2 B2 S2
  go_wp2_with fail
  (with_reducible refine (HZ.out _).mono ?_); rintro e W4 ⟨rfl, hW4⟩
  have A4 := Lib.hid (hW4 ▸ At.new W3 45 33 D A 0 0 : At W4 W3.heap.size 33 D A 0 0)
  have A5 := Lib.hid (hW4 ▸ A3.out.more S3.out _ : At W4 w.heap.size 0 0 0 0 0)
  have B4 := Lib.hid (hW4 ▸ B3.out.alloc (Nat.le_of_lt S3.out) _ : Below w.heap.size w W4)
  have S4 : ¬ W3.heap.size = w.heap.size := by have := S3.out; omega
  have S5 : ¬ w.heap.size = W3.heap.size := by have := S3.out; omega
  have S6 := Lib.hid (Nat.le_of_lt S3.out)
  have S7 := Lib.hid (show W3.heap.size < W4.heap.size by rw [← hW4]; simp)
  clear hW4 A3 B3
  generalize W3.heap.size = s at *
  obtain ⟨⟨c0, c1, c2, c3, c4⟩, f0, f1, f2, f3, f4⟩ := A4.out
  obtain ⟨⟨k0, k1, k2, k3, k4⟩, g0, g1, g2, g3, g4⟩ := A5.out
  clear A4 A5
  go_wp2
  refine bodyPost_ret (v := .agg #[.int .i64 33, .int .i64 D, .int .i64 A, .int .i64 0, .int .i64 I]) (by simp [results, Tryz.results80, go_sem, k0, k1, k2, k3, k4]) rfl ⟨rfl, ?_⟩
  exact (((((B4.out.setCell S6.out _).setCell (Nat.le_refl _) _).setCell (Nat.le_refl _) _).setCell (Nat.le_refl _) _).setCell (Nat.le_refl _) _).setCell (Nat.le_refl _) _

set_option maxHeartbeats 800000 in
theorem read_jal (x : Int) (w : World) (x0 : 0 ≤ x) (x1 : x < 4294967296) (h : IM.dO x = 49) :
    Calls Tryz.prog 80 #[.int .u32 x] w fun e w' => e = .returned (.agg #[.int .i64 (IM.dO x), .int .i64 (IM.dD x), .int .i64 (IM.dA x), .int .i64 (IM.dB x), .int .i64 (IM.dI x)]) ∧ Below w.heap.size w w' := by
  have H1 := Lib.hid (fun W => field_at x 31 26 W x0 x1)
  have H2 := Lib.hid (fun W => field_at x 25 22 W x0 x1)
  have H3 := Lib.hid (fun W => field_at x 21 18 W x0 x1)
  rw [IM.fO x x0 x1] at H1
  rw [IM.fD x x0] at H2
  rw [IM.fA x x0] at H3
  have e1 : IM.dB x = 0 := by unfold IM.dB; rw [if_pos (Or.inr h)]
  have HZ := Lib.hid (fun W => sext_any x 18 W x0)
  obtain ⟨z0, z1⟩ := BM.sx_bd x 18
  have HS := Lib.hid (fun W => signed_any (BM.sx x 18) W z0 z1)
  rw [IM.sv18 x x0] at HS
  have e2 : IM.dI x = if x % 262144 < 131072 then x % 262144 else x % 262144 - 262144 := by unfold IM.dI; rw [if_neg (by omega), if_pos h]
  rw [← e2] at HS
  clear e2
  generalize BM.sx x 18 = Z at HZ HS z0 z1
  rw [h] at H1
  rw [e1, h]
  clear e1 h
  generalize IM.dD x = D at *
  generalize IM.dA x = A at *
  generalize IM.dI x = I at *
  go_enter Tryz.func80, Tryz.ntmps80
  go_wp2_with fail
  (with_reducible refine (H1.out _).mono ?_); rintro e W1 ⟨rfl, hW1⟩
  obtain ⟨b1, s1⟩ := drew_below hW1
  clear hW1
  have A1 := Lib.hid ((At.new w 45 0 0 0 0 0).below (by simp) b1)
  have B1 := Lib.hid (then_new b1)
  have S1 := Lib.hid (show w.heap.size < W1.heap.size by rw [s1]; simp)
  clear b1 s1
  go_wp2_with fail
  (with_reducible refine (H2.out _).mono ?_); rintro e W2 ⟨rfl, hW2⟩
  obtain ⟨b2, s2⟩ := drew_below hW2
  clear hW2
  have A2 := Lib.hid (A1.out.below S1.out b2)
  have B2 := Lib.hid (B1.out.trans (b2.mono B1.out.size))
  have S2 := Lib.hid (show w.heap.size < W2.heap.size by rw [s2]; exact S1.out)
  clear b2 s2 A1 B1 S1
  go_wp2_with fail
  (with_reducible refine (H3.out _).mono ?_); rintro e W3 ⟨rfl, hW3⟩
  obtain ⟨b3, s3⟩ := drew_below hW3
  clear hW3
  have A3 := Lib.hid (A2.out.below S2.out b3)
  have B3 := Lib.hid (B2.out.trans (b3.mono B2.out.size))
  have S3 := Lib.hid (show w.heap.size < W3.heap.size by rw [s3]; exact S2.out)
  clear b3 s3 A2 B2 S2
  go_wp2_with fail
  (with_reducible refine (HZ.out _).mono ?_); rintro e W4 ⟨rfl, hW4⟩
  have A4 := Lib.hid (hW4 ▸ At.new W3 45 49 D A 0 0 : At W4 W3.heap.size 49 D A 0 0)
  have A5 := Lib.hid (hW4 ▸ A3.out.more S3.out _ : At W4 w.heap.size 0 0 0 0 0)
  have B4 := Lib.hid (hW4 ▸ B3.out.alloc (Nat.le_of_lt S3.out) _ : Below w.heap.size w W4)
  have S4 : ¬ W3.heap.size = w.heap.size := by have := S3.out; omega
  have S5 : ¬ w.heap.size = W3.heap.size := by have := S3.out; omega
  have S6 := Lib.hid (Nat.le_of_lt S3.out)
  have S7 := Lib.hid (show W3.heap.size < W4.heap.size by rw [← hW4]; simp)
  clear hW4 A3 B3
  generalize W3.heap.size = s at *
  obtain ⟨⟨c0, c1, c2, c3, c4⟩, f0, f1, f2, f3, f4⟩ := A4.out
  obtain ⟨⟨k0, k1, k2, k3, k4⟩, g0, g1, g2, g3, g4⟩ := A5.out
  clear A4 A5
  go_wp2_with (first | (go_at_call 123; (with_reducible refine (HS.out _).mono ?_); rintro e w5 ⟨rfl, rfl⟩))
  refine bodyPost_ret (v := .agg #[.int .i64 49, .int .i64 D, .int .i64 A, .int .i64 0, .int .i64 I]) (by simp [results, Tryz.results80, go_sem, k0, k1, k2, k3, k4]) rfl ⟨rfl, ?_⟩
  exact (((((B4.out.setCell S6.out _).setCell (Nat.le_refl _) _).setCell (Nat.le_refl _) _).setCell (Nat.le_refl _) _).setCell (Nat.le_refl _) _).setCell (Nat.le_refl _) _

set_option maxHeartbeats 800000 in
theorem read_other (x : Int) (w : World) (x0 : 0 ≤ x) (x1 : x < 4294967296) (h3 : ¬ IM.dO x = 33) (h4 : ¬ IM.dO x = 49) :
    Calls Tryz.prog 80 #[.int .u32 x] w fun e w' => e = .returned (.agg #[.int .i64 (IM.dO x), .int .i64 (IM.dD x), .int .i64 (IM.dA x), .int .i64 (IM.dB x), .int .i64 (IM.dI x)]) ∧ Below w.heap.size w w' := by
  have H1 := Lib.hid (fun W => field_at x 31 26 W x0 x1)
  have H2 := Lib.hid (fun W => field_at x 25 22 W x0 x1)
  have H3 := Lib.hid (fun W => field_at x 21 18 W x0 x1)
  rw [IM.fO x x0 x1] at H1
  rw [IM.fD x x0] at H2
  rw [IM.fA x x0] at H3
  have e1 : IM.dB x = x / 16384 % 16 := by unfold IM.dB; rw [if_neg (by omega)]
  have H4 := Lib.hid (fun W => field_at x 17 14 W x0 x1)
  rw [IM.fB x x0, ← e1] at H4
  have HZ := Lib.hid (fun W => sext_any x 14 W x0)
  obtain ⟨z0, z1⟩ := BM.sx_bd x 14
  have HS := Lib.hid (fun W => signed_any (BM.sx x 14) W z0 z1)
  rw [IM.sv14 x x0] at HS
  have e2 : IM.dI x = if x % 16384 < 8192 then x % 16384 else x % 16384 - 16384 := by unfold IM.dI; rw [if_neg h3, if_neg h4]
  rw [← e2] at HS
  have y3 : (IM.dO x == 33) = false := by simpa using h3
  have y4 : (IM.dO x == 49) = false := by simpa using h4
  clear e1 e2 h3 h4
  generalize BM.sx x 14 = Z at HZ HS z0 z1
  generalize IM.dO x = O at *
  generalize IM.dD x = D at *
  generalize IM.dA x = A at *
  generalize IM.dB x = B at *
  generalize IM.dI x = I at *
  go_enter Tryz.func80, Tryz.ntmps80
  go_wp2_with fail
  (with_reducible refine (H1.out _).mono ?_); rintro e W1 ⟨rfl, hW1⟩
  obtain ⟨b1, s1⟩ := drew_below hW1
  clear hW1
  have A1 := Lib.hid ((At.new w 45 0 0 0 0 0).below (by simp) b1)
  have B1 := Lib.hid (then_new b1)
  have S1 := Lib.hid (show w.heap.size < W1.heap.size by rw [s1]; simp)
  clear b1 s1
  go_wp2_with fail
  (with_reducible refine (H2.out _).mono ?_); rintro e W2 ⟨rfl, hW2⟩
  obtain ⟨b2, s2⟩ := drew_below hW2
  clear hW2
  have A2 := Lib.hid (A1.out.below S1.out b2)
  have B2 := Lib.hid (B1.out.trans (b2.mono B1.out.size))
  have S2 := Lib.hid (show w.heap.size < W2.heap.size by rw [s2]; exact S1.out)
  clear b2 s2 A1 B1 S1
  go_wp2_with fail
  (with_reducible refine (H3.out _).mono ?_); rintro e W3 ⟨rfl, hW3⟩
  obtain ⟨b3, s3⟩ := drew_below hW3
  clear hW3
  have A3 := Lib.hid (A2.out.below S2.out b3)
  have B3 := Lib.hid (B2.out.trans (b3.mono B2.out.size))
  have S3 := Lib.hid (show w.heap.size < W3.heap.size by rw [s3]; exact S2.out)
  clear b3 s3 A2 B2 S2
  go_wp2_with fail
  (with_reducible refine (H4.out _).mono ?_); rintro e W4 ⟨rfl, hW4⟩
  obtain ⟨b4, s4⟩ := drew_below hW4
  clear hW4
  have A4 := Lib.hid ((At.new W3 45 O D A 0 0).below (by simp) b4)
  have A5 := Lib.hid ((A3.out.more S3.out _).below (by have := S3.out; simp; omega) b4)
  have B4 := Lib.hid (B3.out.trans ((then_new b4).mono (Nat.le_of_lt S3.out)))
  have S4 : ¬ W3.heap.size = w.heap.size := by have := S3.out; omega
  have S5 : ¬ w.heap.size = W3.heap.size := by have := S3.out; omega
  have S6 := Lib.hid (Nat.le_of_lt S3.out)
  clear b4 s4 A3 B3
  generalize W3.heap.size = s at *
  obtain ⟨⟨c0, c1, c2, c3, c4⟩, f0, f1, f2, f3, f4⟩ := A4.out
  obtain ⟨⟨k0, k1, k2, k3, k4⟩, g0, g1, g2, g3, g4⟩ := A5.out
  clear A4 A5
  go_wp2_with (first | (go_at_call 124; (with_reducible refine (HZ.out _).mono ?_); rintro e w5 ⟨rfl, rfl⟩) | (go_at_call 123; (with_reducible refine (HS.out _).mono ?_); rintro e w5 ⟨rfl, rfl⟩))
  refine bodyPost_ret (v := .agg #[.int .i64 O, .int .i64 D, .int .i64 A, .int .i64 B, .int .i64 I]) (by simp [results, Tryz.results80, go_sem, k0, k1, k2, k3, k4]) rfl ⟨rfl, ?_⟩
  exact ((((((B4.out.setCell S6.out _).setCell S6.out _).setCell (Nat.le_refl _) _).setCell (Nat.le_refl _) _).setCell (Nat.le_refl _) _).setCell (Nat.le_refl _) _).setCell (Nat.le_refl _) _

theorem read_any (x : Int) (w : World) (x0 : 0 ≤ x) (x1 : x < 4294967296) :
    Calls Tryz.prog 80 #[.int .u32 x] w fun e w' => e = .returned (.agg #[.int .i64 (IM.dO x), .int .i64 (IM.dD x), .int .i64 (IM.dA x), .int .i64 (IM.dB x), .int .i64 (IM.dI x)]) ∧ Below w.heap.size w w' := by
  by_cases h3 : IM.dO x = 33
  · exact read_lui x w x0 x1 h3
  · by_cases h4 : IM.dO x = 49
    · exact read_jal x w x0 x1 h4
    · exact read_other x w x0 x1 h3 h4
end Go.Proofs.YtcnmnkgnaknpdaaGreatDoor.S06
/-! S06WalkG -/
namespace Go.Proofs.YtcnmnkgnaknpdaaGreatDoor.S06
open Go.RowKit S01
set_option maxHeartbeats 800000 in
theorem dec_ok (x : Int) (w : World) (x0 : 0 ≤ x) (x1 : x < 4294967296) (h : IM.dr x = 0) :
    Calls Tryz.prog 45 #[.int .u32 x] w fun e w' => e = .returned (.tuple #[.agg #[.int .i64 (IM.dO x), .int .i64 (IM.dD x), .int .i64 (IM.dA x), .int .i64 (IM.dB x), .int .i64 (IM.dI x)], .int .i64 0]) ∧ Below w.heap.size w w' := by
  have H1 := Lib.hid (fun W => read_any x W x0 x1)
  have H2 := Lib.hid (fun W => right_any (IM.dO x) (IM.dD x) (IM.dA x) (IM.dB x) (IM.dI x) W)
  unfold IM.dr at h
  rw [h] at H2
  clear h
  generalize IM.dO x = O at *
  generalize IM.dD x = D at *
  generalize IM.dA x = A at *
  generalize IM.dB x = B at *
  generalize IM.dI x = I at *
  go_enter Tryz.func45, Tryz.ntmps45
  go_wp2_with fail
  (with_reducible refine (H1.out _).mono ?_); rintro e W1 ⟨rfl, b1⟩
  have A1 := Lib.hid ((At.new w 45 0 0 0 0 0).below (by simp) b1)
  have B1 := Lib.hid (then_new b1)
  have S1 := Lib.hid (show w.heap.size < W1.heap.size from Nat.lt_of_lt_of_le (by simp) b1.size)
  clear b1
  go_wp2_with fail
  (with_reducible refine (H2.out _).mono ?_); rintro e W2 ⟨rfl, b2⟩
  have A4 := Lib.hid ((At.new W1 45 O D A B I).below (by simp) b2)
  have A5 := Lib.hid ((A1.out.more S1.out _).below (by have := S1.out; simp; omega) b2)
  have B4 := Lib.hid (B1.out.trans ((then_new b2).mono (Nat.le_of_lt S1.out)))
  have S4 : ¬ W1.heap.size = w.heap.size := by have := S1.out; omega
  have S5 : ¬ w.heap.size = W1.heap.size := by have := S1.out; omega
  clear b2 A1 B1 S1
  generalize W1.heap.size = s at *
  obtain ⟨⟨c0, c1, c2, c3, c4⟩, f0, f1, f2, f3, f4⟩ := A4.out
  obtain ⟨⟨k0, k1, k2, k3, k4⟩, g0, g1, g2, g3, g4⟩ := A5.out
  clear A4 A5
  go_wp2
  refine bodyPost_ret (v := .tuple #[.agg #[.int .i64 O, .int .i64 D, .int .i64 A, .int .i64 B, .int .i64 I], .int .i64 0]) (by simp [results, Tryz.results45, go_sem, k0, k1, k2, k3, k4]) rfl ⟨rfl, ?_⟩
  exact ((((B4.out.setCell (Nat.le_refl _) _).setCell (Nat.le_refl _) _).setCell (Nat.le_refl _) _).setCell (Nat.le_refl _) _).setCell (Nat.le_refl _) _
set_option maxHeartbeats 800000 in
theorem dec_op (x : Int) (w : World) (x0 : 0 ≤ x) (x1 : x < 4294967296) (h : IM.dr x = 9) :
    Calls Tryz.prog 45 #[.int .u32 x] w fun e w' => e = .returned (.tuple #[.agg #[.int .i64 0, .int .i64 0, .int .i64 0, .int .i64 0, .int .i64 0], .int .i64 9]) ∧ Below w.heap.size w w' := by
  have H1 := Lib.hid (fun W => read_any x W x0 x1)
  have H2 := Lib.hid (fun W => right_any (IM.dO x) (IM.dD x) (IM.dA x) (IM.dB x) (IM.dI x) W)
  unfold IM.dr at h
  rw [h] at H2
  clear h
  generalize IM.dO x = O at *
  generalize IM.dD x = D at *
  generalize IM.dA x = A at *
  generalize IM.dB x = B at *
  generalize IM.dI x = I at *
  go_enter Tryz.func45, Tryz.ntmps45
  go_wp2_with fail
  (with_reducible refine (H1.out _).mono ?_); rintro e W1 ⟨rfl, b1⟩
  have A1 := Lib.hid ((At.new w 45 0 0 0 0 0).below (by simp) b1)
  have B1 := Lib.hid (then_new b1)
  have S1 := Lib.hid (show w.heap.size < W1.heap.size from Nat.lt_of_lt_of_le (by simp) b1.size)
  clear b1
  go_wp2_with fail
  (with_reducible refine (H2.out _).mono ?_); rintro e W2 ⟨rfl, b2⟩
  have A4 := Lib.hid ((At.new W1 45 O D A B I).below (by simp) b2)
  have A5 := Lib.hid ((A1.out.more S1.out _).below (by have := S1.out; simp; omega) b2)
  have B4 := Lib.hid (B1.out.trans ((then_new b2).mono (Nat.le_of_lt S1.out)))
  have S4 : ¬ W1.heap.size = w.heap.size := by have := S1.out; omega
  have S5 : ¬ w.heap.size = W1.heap.size := by have := S1.out; omega
  clear b2 A1 B1 S1
  generalize W1.heap.size = s at *
  obtain ⟨⟨c0, c1, c2, c3, c4⟩, f0, f1, f2, f3, f4⟩ := A4.out
  obtain ⟨⟨k0, k1, k2, k3, k4⟩, g0, g1, g2, g3, g4⟩ := A5.out
  clear A4 A5
  go_wp2
  refine bodyPost_ret (v := .tuple #[.agg #[.int .i64 0, .int .i64 0, .int .i64 0, .int .i64 0, .int .i64 0], .int .i64 9]) (by simp [results, Tryz.results45, go_sem, k0, k1, k2, k3, k4]) rfl ⟨rfl, ?_⟩
  exact ((((B4.out.setCell (Nat.le_refl _) _).setCell (Nat.le_refl _) _).setCell (Nat.le_refl _) _).setCell (Nat.le_refl _) _).setCell (Nat.le_refl _) _
set_option maxHeartbeats 800000 in
theorem dec_form (x : Int) (w : World) (x0 : 0 ≤ x) (x1 : x < 4294967296) (h : ¬ IM.dr x = 0) (h9 : ¬ IM.dr x = 9) :
    Calls Tryz.prog 45 #[.int .u32 x] w fun e w' => e = .returned (.tuple #[.agg #[.int .i64 0, .int .i64 0, .int .i64 0, .int .i64 0, .int .i64 0], .int .i64 2]) ∧ Below w.heap.size w w' := by
  have H1 := Lib.hid (fun W => read_any x W x0 x1)
  have H2 := Lib.hid (fun W => right_any (IM.dO x) (IM.dD x) (IM.dA x) (IM.dB x) (IM.dI x) W)
  unfold IM.dr at h h9
  generalize IM.rc (IM.dO x) (IM.dD x) (IM.dA x) (IM.dB x) (IM.dI x) = c at *
  have y0 : (c == 0) = false := by simpa using h
  have y9 : (c == 9) = false := by simpa using h9
  clear h h9
  generalize IM.dO x = O at *
  generalize IM.dD x = D at *
  generalize IM.dA x = A at *
  generalize IM.dB x = B at *
  generalize IM.dI x = I at *
  go_enter Tryz.func45, Tryz.ntmps45
  go_wp2_with fail
  (with_reducible refine (H1.out _).mono ?_); rintro e W1 ⟨rfl, b1⟩
  have A1 := Lib.hid ((At.new w 45 0 0 0 0 0).below (by simp) b1)
  have B1 := Lib.hid (then_new b1)
  have S1 := Lib.hid (show w.heap.size < W1.heap.size from Nat.lt_of_lt_of_le (by simp) b1.size)
  clear b1
  go_wp2_with fail
  (with_reducible refine (H2.out _).mono ?_); rintro e W2 ⟨rfl, b2⟩
  have A4 := Lib.hid ((At.new W1 45 O D A B I).below (by simp) b2)
  have A5 := Lib.hid ((A1.out.more S1.out _).below (by have := S1.out; simp; omega) b2)
  have B4 := Lib.hid (B1.out.trans ((then_new b2).mono (Nat.le_of_lt S1.out)))
  have S4 : ¬ W1.heap.size = w.heap.size := by have := S1.out; omega
  have S5 : ¬ w.heap.size = W1.heap.size := by have := S1.out; omega
  clear b2 A1 B1 S1
  generalize W1.heap.size = s at *
  obtain ⟨⟨c0, c1, c2, c3, c4⟩, f0, f1, f2, f3, f4⟩ := A4.out
  obtain ⟨⟨k0, k1, k2, k3, k4⟩, g0, g1, g2, g3, g4⟩ := A5.out
  clear A4 A5
  go_wp2
  refine bodyPost_ret (v := .tuple #[.agg #[.int .i64 0, .int .i64 0, .int .i64 0, .int .i64 0, .int .i64 0], .int .i64 2]) (by simp [results, Tryz.results45, go_sem, k0, k1, k2, k3, k4]) rfl ⟨rfl, ?_⟩
  exact ((((B4.out.setCell (Nat.le_refl _) _).setCell (Nat.le_refl _) _).setCell (Nat.le_refl _) _).setCell (Nat.le_refl _) _).setCell (Nat.le_refl _) _
theorem dec_any (x : Int) (w : World) (x0 : 0 ≤ x) (x1 : x < 4294967296) :
    Calls Tryz.prog 45 #[.int .u32 x] w fun e w' => e = .returned (.tuple #[.agg #[.int .i64 (IM.ko x (IM.dO x)), .int .i64 (IM.ko x (IM.dD x)), .int .i64 (IM.ko x (IM.dA x)), .int .i64 (IM.ko x (IM.dB x)), .int .i64 (IM.ko x (IM.dI x))], .int .i64 (IM.dc x)]) ∧ Below w.heap.size w w' := by
  unfold IM.ko IM.dc
  by_cases h : IM.dr x = 0
  · simp only [if_pos h]; exact dec_ok x w x0 x1 h
  · simp only [if_neg h]
    by_cases h9 : IM.dr x = 9
    · rw [if_pos ((IM.rc_nine _ _ _ _ _).1 h9)]; exact dec_op x w x0 x1 h9
    · rw [if_neg (fun h' => h9 ((IM.rc_nine _ _ _ _ _).2 h'))]; exact dec_form x w x0 x1 h h9
set_option maxHeartbeats 800000 in
theorem rdec_none (x : Int) (w : World) (x0 : 0 ≤ x) (x1 : x < 4294967296) (h : IM.fm (IM.dO x) = 0) :
    Calls Tryz.prog 34 #[.int .u32 x] w fun e w' => e = .returned (.tuple #[.agg #[.int .i64 0, .int .i64 0, .int .i64 0, .int .i64 0, .int .i64 0], .int .i64 9]) ∧ Below w.heap.size w w' := by
  have HF := Lib.hid (fun W => rform_any (IM.dO x) W)
  rw [h] at HF
  unfold IM.dO at HF
  clear h
  go_enter Tryz.func34, Tryz.ntmps34
  go_wp2_with (first | (go_at_call 61; (with_reducible refine (HF.out _).mono ?_); rintro e w1 ⟨rfl, rfl⟩))
  refine bodyPost_ret (v := .tuple #[.agg #[.int .i64 0, .int .i64 0, .int .i64 0, .int .i64 0, .int .i64 0], .int .i64 9]) (by simp [results, Tryz.results34, go_sem]) rfl ⟨rfl, ?_⟩
  exact ((Below.refl _ _).alloc (Nat.le_refl _) _).alloc (by simp) _
set_option maxHeartbeats 1600000 in
theorem rdec_lui_ok (x : Int) (w : World) (x0 : 0 ≤ x) (x1 : x < 4294967296) (hO : IM.dO x = 33) (h : IM.dr x = 0) :
    Calls Tryz.prog 34 #[.int .u32 x] w fun e w' => e = .returned (.tuple #[.agg #[.int .i64 (IM.dO x), .int .i64 (IM.dD x), .int .i64 (IM.dA x), .int .i64 (IM.dB x), .int .i64 (IM.dI x)], .int .i64 0]) ∧ Below w.heap.size w w' := by
  have e1 : IM.dB x = 0 := by unfold IM.dB; rw [if_pos (Or.inl hO)]
  have e2 : IM.dI x = (x % 262144) := by unfold IM.dI; rw [if_pos hO]
  have HF := Lib.hid (fun W => rform_any (x / 67108864) W)
  have HR := Lib.hid (fun W => rright_any (x / 67108864) (x / 4194304 % 16) (x / 262144 % 16) 0 (x % 262144) W)
  have e3 : IM.rc (x / 67108864) (x / 4194304 % 16) (x / 262144 % 16) 0 (x % 262144) = IM.dr x := by unfold IM.dr; rw [e1, e2]; rfl
  rw [e3] at HR
  clear e3
  rw [e1, e2]
  unfold IM.dO IM.dD IM.dA
  rw [h] at HR
  rw [(IM.fm_five (x / 67108864)).2 (Or.inl hO)] at HF
  have y : (x / 67108864 == 49) = false := by unfold IM.dO at hO; simp; omega
  clear hO
  clear e1 e2 h
  go_enter Tryz.func34, Tryz.ntmps34
  go_wp2_with (first | (go_at_call 61; (with_reducible refine (HF.out _).mono ?_); rintro e w1 ⟨rfl, rfl⟩))
  (with_reducible refine (HR.out _).mono ?_); rintro e W2 ⟨rfl, b2⟩
  have A4 := Lib.hid ((At.new (w.alloc (.cells #[.int .i64 0, .int .i64 0, .int .i64 0, .int .i64 0, .int .i64 0] 45)) 45 (x / 67108864) (x / 4194304 % 16) (x / 262144 % 16) 0 (x % 262144)).below (by simp) b2)
  have A5 := Lib.hid (((At.new w 45 0 0 0 0 0).more (by simp) _).below (by simp; omega) b2)
  have B4 := Lib.hid (then_new (then_new b2))
  rw [show (w.alloc (.cells #[.int .i64 0, .int .i64 0, .int .i64 0, .int .i64 0, .int .i64 0] 45)).heap.size = w.heap.size + 1 by simp] at A4
  clear b2
  obtain ⟨⟨c0, c1, c2, c3, c4⟩, f0, f1, f2, f3, f4⟩ := A4.out
  obtain ⟨⟨k0, k1, k2, k3, k4⟩, g0, g1, g2, g3, g4⟩ := A5.out
  clear A4 A5
  go_wp2
  refine bodyPost_ret (v := .tuple #[.agg #[.int .i64 (x / 67108864), .int .i64 (x / 4194304 % 16), .int .i64 (x / 262144 % 16), .int .i64 0, .int .i64 (x % 262144)], .int .i64 0]) (by simp [results, Tryz.results34, go_sem, k0, k1, k2, k3, k4]) rfl ⟨rfl, ?_⟩
  exact ((((B4.out.setCell (Nat.le_refl _) _).setCell (Nat.le_refl _) _).setCell (Nat.le_refl _) _).setCell (Nat.le_refl _) _).setCell (Nat.le_refl _) _
set_option maxHeartbeats 1600000 in
theorem rdec_jal_hi_ok (x : Int) (w : World) (x0 : 0 ≤ x) (x1 : x < 4294967296) (hO : IM.dO x = 49) (hx : ¬ x % 262144 < 131072) (h : IM.dr x = 0) :
    Calls Tryz.prog 34 #[.int .u32 x] w fun e w' => e = .returned (.tuple #[.agg #[.int .i64 (IM.dO x), .int .i64 (IM.dD x), .int .i64 (IM.dA x), .int .i64 (IM.dB x), .int .i64 (IM.dI x)], .int .i64 0]) ∧ Below w.heap.size w w' := by
  have e1 : IM.dB x = 0 := by unfold IM.dB; rw [if_pos (Or.inr hO)]
  have e2 : IM.dI x = (x % 262144 - 262144) := by unfold IM.dI; rw [if_neg (by omega), if_pos hO, if_neg hx]
  have HF := Lib.hid (fun W => rform_any (x / 67108864) W)
  have HR := Lib.hid (fun W => rright_any (x / 67108864) (x / 4194304 % 16) (x / 262144 % 16) 0 (x % 262144 - 262144) W)
  have e3 : IM.rc (x / 67108864) (x / 4194304 % 16) (x / 262144 % 16) 0 (x % 262144 - 262144) = IM.dr x := by unfold IM.dr; rw [e1, e2]; rfl
  rw [e3] at HR
  clear e3
  rw [e1, e2]
  unfold IM.dO IM.dD IM.dA
  rw [h] at HR
  rw [(IM.fm_five (x / 67108864)).2 (Or.inr hO)] at HF
  have y : (x / 67108864 == 49) = true := by unfold IM.dO at hO; simpa using hO
  have y1 : decide (131072 ≤ x % 262144) = true := by simp; omega
  clear hO
  clear e1 e2 h
  go_enter Tryz.func34, Tryz.ntmps34
  go_wp2_with (first | (go_at_call 61; (with_reducible refine (HF.out _).mono ?_); rintro e w1 ⟨rfl, rfl⟩))
  (with_reducible refine (HR.out _).mono ?_); rintro e W2 ⟨rfl, b2⟩
  have A4 := Lib.hid ((At.new (w.alloc (.cells #[.int .i64 0, .int .i64 0, .int .i64 0, .int .i64 0, .int .i64 0] 45)) 45 (x / 67108864) (x / 4194304 % 16) (x / 262144 % 16) 0 (x % 262144 - 262144)).below (by simp) b2)
  have A5 := Lib.hid (((At.new w 45 0 0 0 0 0).more (by simp) _).below (by simp; omega) b2)
  have B4 := Lib.hid (then_new (then_new b2))
  rw [show (w.alloc (.cells #[.int .i64 0, .int .i64 0, .int .i64 0, .int .i64 0, .int .i64 0] 45)).heap.size = w.heap.size + 1 by simp] at A4
  clear b2
  obtain ⟨⟨c0, c1, c2, c3, c4⟩, f0, f1, f2, f3, f4⟩ := A4.out
  obtain ⟨⟨k0, k1, k2, k3, k4⟩, g0, g1, g2, g3, g4⟩ := A5.out
  clear A4 A5
  go_wp2
  refine bodyPost_ret (v := .tuple #[.agg #[.int .i64 (x / 67108864), .int .i64 (x / 4194304 % 16), .int .i64 (x / 262144 % 16), .int .i64 0, .int .i64 (x % 262144 - 262144)], .int .i64 0]) (by simp [results, Tryz.results34, go_sem, k0, k1, k2, k3, k4]) rfl ⟨rfl, ?_⟩
  exact ((((B4.out.setCell (Nat.le_refl _) _).setCell (Nat.le_refl _) _).setCell (Nat.le_refl _) _).setCell (Nat.le_refl _) _).setCell (Nat.le_refl _) _
set_option maxHeartbeats 1600000 in
theorem rdec_jal_lo_ok (x : Int) (w : World) (x0 : 0 ≤ x) (x1 : x < 4294967296) (hO : IM.dO x = 49) (hx : x % 262144 < 131072) (h : IM.dr x = 0) :
    Calls Tryz.prog 34 #[.int .u32 x] w fun e w' => e = .returned (.tuple #[.agg #[.int .i64 (IM.dO x), .int .i64 (IM.dD x), .int .i64 (IM.dA x), .int .i64 (IM.dB x), .int .i64 (IM.dI x)], .int .i64 0]) ∧ Below w.heap.size w w' := by
  have e1 : IM.dB x = 0 := by unfold IM.dB; rw [if_pos (Or.inr hO)]
  have e2 : IM.dI x = (x % 262144) := by unfold IM.dI; rw [if_neg (by omega), if_pos hO, if_pos hx]
  have HF := Lib.hid (fun W => rform_any (x / 67108864) W)
  have HR := Lib.hid (fun W => rright_any (x / 67108864) (x / 4194304 % 16) (x / 262144 % 16) 0 (x % 262144) W)
  have e3 : IM.rc (x / 67108864) (x / 4194304 % 16) (x / 262144 % 16) 0 (x % 262144) = IM.dr x := by unfold IM.dr; rw [e1, e2]; rfl
  rw [e3] at HR
  clear e3
  rw [e1, e2]
  unfold IM.dO IM.dD IM.dA
  rw [h] at HR
  rw [(IM.fm_five (x / 67108864)).2 (Or.inr hO)] at HF
  have y : (x / 67108864 == 49) = true := by unfold IM.dO at hO; simpa using hO
  have y1 : decide (131072 ≤ x % 262144) = false := by simp; omega
  clear hO
  clear e1 e2 h
  go_enter Tryz.func34, Tryz.ntmps34
  go_wp2_with (first | (go_at_call 61; (with_reducible refine (HF.out _).mono ?_); rintro e w1 ⟨rfl, rfl⟩))
  (with_reducible refine (HR.out _).mono ?_); rintro e W2 ⟨rfl, b2⟩
  have A4 := Lib.hid ((At.new (w.alloc (.cells #[.int .i64 0, .int .i64 0, .int .i64 0, .int .i64 0, .int .i64 0] 45)) 45 (x / 67108864) (x / 4194304 % 16) (x / 262144 % 16) 0 (x % 262144)).below (by simp) b2)
  have A5 := Lib.hid (((At.new w 45 0 0 0 0 0).more (by simp) _).below (by simp; omega) b2)
  have B4 := Lib.hid (then_new (then_new b2))
  rw [show (w.alloc (.cells #[.int .i64 0, .int .i64 0, .int .i64 0, .int .i64 0, .int .i64 0] 45)).heap.size = w.heap.size + 1 by simp] at A4
  clear b2
  obtain ⟨⟨c0, c1, c2, c3, c4⟩, f0, f1, f2, f3, f4⟩ := A4.out
  obtain ⟨⟨k0, k1, k2, k3, k4⟩, g0, g1, g2, g3, g4⟩ := A5.out
  clear A4 A5
  go_wp2
  refine bodyPost_ret (v := .tuple #[.agg #[.int .i64 (x / 67108864), .int .i64 (x / 4194304 % 16), .int .i64 (x / 262144 % 16), .int .i64 0, .int .i64 (x % 262144)], .int .i64 0]) (by simp [results, Tryz.results34, go_sem, k0, k1, k2, k3, k4]) rfl ⟨rfl, ?_⟩
  exact ((((B4.out.setCell (Nat.le_refl _) _).setCell (Nat.le_refl _) _).setCell (Nat.le_refl _) _).setCell (Nat.le_refl _) _).setCell (Nat.le_refl _) _
set_option maxHeartbeats 1600000 in
theorem rdec_oth_hi_ok (x : Int) (w : World) (x0 : 0 ≤ x) (x1 : x < 4294967296) (hf : ¬ IM.fm (IM.dO x) = 0) (h3 : ¬ IM.dO x = 33) (h4 : ¬ IM.dO x = 49) (hx : ¬ x % 16384 < 8192) (h : IM.dr x = 0) :
    Calls Tryz.prog 34 #[.int .u32 x] w fun e w' => e = .returned (.tuple #[.agg #[.int .i64 (IM.dO x), .int .i64 (IM.dD x), .int .i64 (IM.dA x), .int .i64 (IM.dB x), .int .i64 (IM.dI x)], .int .i64 0]) ∧ Below w.heap.size w w' := by
  have e1 : IM.dB x = (x / 16384 % 16) := by unfold IM.dB; rw [if_neg (by omega)]
  have e2 : IM.dI x = (x % 16384 - 16384) := by unfold IM.dI; rw [if_neg h3, if_neg h4, if_neg hx]
  have HF := Lib.hid (fun W => rform_any (x / 67108864) W)
  have HR := Lib.hid (fun W => rright_any (x / 67108864) (x / 4194304 % 16) (x / 262144 % 16) (x / 16384 % 16) (x % 16384 - 16384) W)
  have e3 : IM.rc (x / 67108864) (x / 4194304 % 16) (x / 262144 % 16) (x / 16384 % 16) (x % 16384 - 16384) = IM.dr x := by unfold IM.dr; rw [e1, e2]; rfl
  rw [e3] at HR
  clear e3
  rw [e1, e2]
  unfold IM.dO IM.dD IM.dA
  rw [h] at HR
  have y : (IM.fm (x / 67108864) == 0) = false := by unfold IM.dO at hf; simpa using hf
  have y5 : (IM.fm (x / 67108864) == 5) = false := by
    have : ¬ IM.fm (x / 67108864) = 5 := fun h => by have h' := (IM.fm_five _).1 h; unfold IM.dO at h3 h4; omega
    simpa using this
  generalize IM.fm (x / 67108864) = f at HF y y5
  have y1 : decide (8192 ≤ x % 16384) = true := by simp; omega
  clear hf h3 h4
  clear e1 e2 h
  go_enter Tryz.func34, Tryz.ntmps34
  go_wp2_with (first | (go_at_call 61; (with_reducible refine (HF.out _).mono ?_); rintro e w1 ⟨rfl, rfl⟩))
  (with_reducible refine (HR.out _).mono ?_); rintro e W2 ⟨rfl, b2⟩
  have A4 := Lib.hid ((At.new (w.alloc (.cells #[.int .i64 0, .int .i64 0, .int .i64 0, .int .i64 0, .int .i64 0] 45)) 45 (x / 67108864) (x / 4194304 % 16) (x / 262144 % 16) (x / 16384 % 16) (x % 16384 - 16384)).below (by simp) b2)
  have A5 := Lib.hid (((At.new w 45 0 0 0 0 0).more (by simp) _).below (by simp; omega) b2)
  have B4 := Lib.hid (then_new (then_new b2))
  rw [show (w.alloc (.cells #[.int .i64 0, .int .i64 0, .int .i64 0, .int .i64 0, .int .i64 0] 45)).heap.size = w.heap.size + 1 by simp] at A4
  clear b2
  obtain ⟨⟨c0, c1, c2, c3, c4⟩, f0, f1, f2, f3, f4⟩ := A4.out
  obtain ⟨⟨k0, k1, k2, k3, k4⟩, g0, g1, g2, g3, g4⟩ := A5.out
  clear A4 A5
  go_wp2
  refine bodyPost_ret (v := .tuple #[.agg #[.int .i64 (x / 67108864), .int .i64 (x / 4194304 % 16), .int .i64 (x / 262144 % 16), .int .i64 (x / 16384 % 16), .int .i64 (x % 16384 - 16384)], .int .i64 0]) (by simp [results, Tryz.results34, go_sem, k0, k1, k2, k3, k4]) rfl ⟨rfl, ?_⟩
  exact ((((B4.out.setCell (Nat.le_refl _) _).setCell (Nat.le_refl _) _).setCell (Nat.le_refl _) _).setCell (Nat.le_refl _) _).setCell (Nat.le_refl _) _
set_option maxHeartbeats 1600000 in
theorem rdec_oth_lo_ok (x : Int) (w : World) (x0 : 0 ≤ x) (x1 : x < 4294967296) (hf : ¬ IM.fm (IM.dO x) = 0) (h3 : ¬ IM.dO x = 33) (h4 : ¬ IM.dO x = 49) (hx : x % 16384 < 8192) (h : IM.dr x = 0) :
    Calls Tryz.prog 34 #[.int .u32 x] w fun e w' => e = .returned (.tuple #[.agg #[.int .i64 (IM.dO x), .int .i64 (IM.dD x), .int .i64 (IM.dA x), .int .i64 (IM.dB x), .int .i64 (IM.dI x)], .int .i64 0]) ∧ Below w.heap.size w w' := by
  have e1 : IM.dB x = (x / 16384 % 16) := by unfold IM.dB; rw [if_neg (by omega)]
  have e2 : IM.dI x = (x % 16384) := by unfold IM.dI; rw [if_neg h3, if_neg h4, if_pos hx]
  have HF := Lib.hid (fun W => rform_any (x / 67108864) W)
  have HR := Lib.hid (fun W => rright_any (x / 67108864) (x / 4194304 % 16) (x / 262144 % 16) (x / 16384 % 16) (x % 16384) W)
  have e3 : IM.rc (x / 67108864) (x / 4194304 % 16) (x / 262144 % 16) (x / 16384 % 16) (x % 16384) = IM.dr x := by unfold IM.dr; rw [e1, e2]; rfl
  rw [e3] at HR
  clear e3
  rw [e1, e2]
  unfold IM.dO IM.dD IM.dA
  rw [h] at HR
  have y : (IM.fm (x / 67108864) == 0) = false := by unfold IM.dO at hf; simpa using hf
  have y5 : (IM.fm (x / 67108864) == 5) = false := by
    have : ¬ IM.fm (x / 67108864) = 5 := fun h => by have h' := (IM.fm_five _).1 h; unfold IM.dO at h3 h4; omega
    simpa using this
  generalize IM.fm (x / 67108864) = f at HF y y5
  have y1 : decide (8192 ≤ x % 16384) = false := by simp; omega
  clear hf h3 h4
  clear e1 e2 h
  go_enter Tryz.func34, Tryz.ntmps34
  go_wp2_with (first | (go_at_call 61; (with_reducible refine (HF.out _).mono ?_); rintro e w1 ⟨rfl, rfl⟩))
  (with_reducible refine (HR.out _).mono ?_); rintro e W2 ⟨rfl, b2⟩
  have A4 := Lib.hid ((At.new (w.alloc (.cells #[.int .i64 0, .int .i64 0, .int .i64 0, .int .i64 0, .int .i64 0] 45)) 45 (x / 67108864) (x / 4194304 % 16) (x / 262144 % 16) (x / 16384 % 16) (x % 16384)).below (by simp) b2)
  have A5 := Lib.hid (((At.new w 45 0 0 0 0 0).more (by simp) _).below (by simp; omega) b2)
  have B4 := Lib.hid (then_new (then_new b2))
  rw [show (w.alloc (.cells #[.int .i64 0, .int .i64 0, .int .i64 0, .int .i64 0, .int .i64 0] 45)).heap.size = w.heap.size + 1 by simp] at A4
  clear b2
  obtain ⟨⟨c0, c1, c2, c3, c4⟩, f0, f1, f2, f3, f4⟩ := A4.out
  obtain ⟨⟨k0, k1, k2, k3, k4⟩, g0, g1, g2, g3, g4⟩ := A5.out
  clear A4 A5
  go_wp2
  refine bodyPost_ret (v := .tuple #[.agg #[.int .i64 (x / 67108864), .int .i64 (x / 4194304 % 16), .int .i64 (x / 262144 % 16), .int .i64 (x / 16384 % 16), .int .i64 (x % 16384)], .int .i64 0]) (by simp [results, Tryz.results34, go_sem, k0, k1, k2, k3, k4]) rfl ⟨rfl, ?_⟩
  exact ((((B4.out.setCell (Nat.le_refl _) _).setCell (Nat.le_refl _) _).setCell (Nat.le_refl _) _).setCell (Nat.le_refl _) _).setCell (Nat.le_refl _) _
set_option maxHeartbeats 1600000 in
theorem rdec_lui_bad (x : Int) (w : World) (x0 : 0 ≤ x) (x1 : x < 4294967296) (hO : IM.dO x = 33) (h : ¬ IM.dr x = 0) :
    Calls Tryz.prog 34 #[.int .u32 x] w fun e w' => e = .returned (.tuple #[.agg #[.int .i64 0, .int .i64 0, .int .i64 0, .int .i64 0, .int .i64 0], .int .i64 2]) ∧ Below w.heap.size w w' := by
  have e1 : IM.dB x = 0 := by unfold IM.dB; rw [if_pos (Or.inl hO)]
  have e2 : IM.dI x = (x % 262144) := by unfold IM.dI; rw [if_pos hO]
  have HF := Lib.hid (fun W => rform_any (x / 67108864) W)
  have HR := Lib.hid (fun W => rright_any (x / 67108864) (x / 4194304 % 16) (x / 262144 % 16) 0 (x % 262144) W)
  have e3 : IM.rc (x / 67108864) (x / 4194304 % 16) (x / 262144 % 16) 0 (x % 262144) = IM.dr x := by unfold IM.dr; rw [e1, e2]; rfl
  rw [e3] at HR
  clear e3
  generalize IM.dr x = c at *
  have y0 : (c == 0) = false := by simpa using h
  rw [(IM.fm_five (x / 67108864)).2 (Or.inl hO)] at HF
  have y : (x / 67108864 == 49) = false := by unfold IM.dO at hO; simp; omega
  clear hO
  clear e1 e2 h
  go_enter Tryz.func34, Tryz.ntmps34
  go_wp2_with (first | (go_at_call 61; (with_reducible refine (HF.out _).mono ?_); rintro e w1 ⟨rfl, rfl⟩))
  (with_reducible refine (HR.out _).mono ?_); rintro e W2 ⟨rfl, b2⟩
  have A4 := Lib.hid ((At.new (w.alloc (.cells #[.int .i64 0, .int .i64 0, .int .i64 0, .int .i64 0, .int .i64 0] 45)) 45 (x / 67108864) (x / 4194304 % 16) (x / 262144 % 16) 0 (x % 262144)).below (by simp) b2)
  have A5 := Lib.hid (((At.new w 45 0 0 0 0 0).more (by simp) _).below (by simp; omega) b2)
  have B4 := Lib.hid (then_new (then_new b2))
  rw [show (w.alloc (.cells #[.int .i64 0, .int .i64 0, .int .i64 0, .int .i64 0, .int .i64 0] 45)).heap.size = w.heap.size + 1 by simp] at A4
  clear b2
  obtain ⟨⟨c0, c1, c2, c3, c4⟩, f0, f1, f2, f3, f4⟩ := A4.out
  obtain ⟨⟨k0, k1, k2, k3, k4⟩, g0, g1, g2, g3, g4⟩ := A5.out
  clear A4 A5
  go_wp2
  refine bodyPost_ret (v := .tuple #[.agg #[.int .i64 0, .int .i64 0, .int .i64 0, .int .i64 0, .int .i64 0], .int .i64 2]) (by simp [results, Tryz.results34, go_sem, k0, k1, k2, k3, k4]) rfl ⟨rfl, ?_⟩
  exact ((((B4.out.setCell (Nat.le_refl _) _).setCell (Nat.le_refl _) _).setCell (Nat.le_refl _) _).setCell (Nat.le_refl _) _).setCell (Nat.le_refl _) _
set_option maxHeartbeats 1600000 in
theorem rdec_jal_hi_bad (x : Int) (w : World) (x0 : 0 ≤ x) (x1 : x < 4294967296) (hO : IM.dO x = 49) (hx : ¬ x % 262144 < 131072) (h : ¬ IM.dr x = 0) :
    Calls Tryz.prog 34 #[.int .u32 x] w fun e w' => e = .returned (.tuple #[.agg #[.int .i64 0, .int .i64 0, .int .i64 0, .int .i64 0, .int .i64 0], .int .i64 2]) ∧ Below w.heap.size w w' := by
  have e1 : IM.dB x = 0 := by unfold IM.dB; rw [if_pos (Or.inr hO)]
  have e2 : IM.dI x = (x % 262144 - 262144) := by unfold IM.dI; rw [if_neg (by omega), if_pos hO, if_neg hx]
  have HF := Lib.hid (fun W => rform_any (x / 67108864) W)
  have HR := Lib.hid (fun W => rright_any (x / 67108864) (x / 4194304 % 16) (x / 262144 % 16) 0 (x % 262144 - 262144) W)
  have e3 : IM.rc (x / 67108864) (x / 4194304 % 16) (x / 262144 % 16) 0 (x % 262144 - 262144) = IM.dr x := by unfold IM.dr; rw [e1, e2]; rfl
  rw [e3] at HR
  clear e3
  generalize IM.dr x = c at *
  have y0 : (c == 0) = false := by simpa using h
  rw [(IM.fm_five (x / 67108864)).2 (Or.inr hO)] at HF
  have y : (x / 67108864 == 49) = true := by unfold IM.dO at hO; simpa using hO
  have y1 : decide (131072 ≤ x % 262144) = true := by simp; omega
  clear hO
  clear e1 e2 h
  go_enter Tryz.func34, Tryz.ntmps34
  go_wp2_with (first | (go_at_call 61; (with_reducible refine (HF.out _).mono ?_); rintro e w1 ⟨rfl, rfl⟩))
  (with_reducible refine (HR.out _).mono ?_); rintro e W2 ⟨rfl, b2⟩
  have A4 := Lib.hid ((At.new (w.alloc (.cells #[.int .i64 0, .int .i64 0, .int .i64 0, .int .i64 0, .int .i64 0] 45)) 45 (x / 67108864) (x / 4194304 % 16) (x / 262144 % 16) 0 (x % 262144 - 262144)).below (by simp) b2)
  have A5 := Lib.hid (((At.new w 45 0 0 0 0 0).more (by simp) _).below (by simp; omega) b2)
  have B4 := Lib.hid (then_new (then_new b2))
  rw [show (w.alloc (.cells #[.int .i64 0, .int .i64 0, .int .i64 0, .int .i64 0, .int .i64 0] 45)).heap.size = w.heap.size + 1 by simp] at A4
  clear b2
  obtain ⟨⟨c0, c1, c2, c3, c4⟩, f0, f1, f2, f3, f4⟩ := A4.out
  obtain ⟨⟨k0, k1, k2, k3, k4⟩, g0, g1, g2, g3, g4⟩ := A5.out
  clear A4 A5
  go_wp2
  refine bodyPost_ret (v := .tuple #[.agg #[.int .i64 0, .int .i64 0, .int .i64 0, .int .i64 0, .int .i64 0], .int .i64 2]) (by simp [results, Tryz.results34, go_sem, k0, k1, k2, k3, k4]) rfl ⟨rfl, ?_⟩
  exact ((((B4.out.setCell (Nat.le_refl _) _).setCell (Nat.le_refl _) _).setCell (Nat.le_refl _) _).setCell (Nat.le_refl _) _).setCell (Nat.le_refl _) _
set_option maxHeartbeats 1600000 in
theorem rdec_jal_lo_bad (x : Int) (w : World) (x0 : 0 ≤ x) (x1 : x < 4294967296) (hO : IM.dO x = 49) (hx : x % 262144 < 131072) (h : ¬ IM.dr x = 0) :
    Calls Tryz.prog 34 #[.int .u32 x] w fun e w' => e = .returned (.tuple #[.agg #[.int .i64 0, .int .i64 0, .int .i64 0, .int .i64 0, .int .i64 0], .int .i64 2]) ∧ Below w.heap.size w w' := by
  have e1 : IM.dB x = 0 := by unfold IM.dB; rw [if_pos (Or.inr hO)]
  have e2 : IM.dI x = (x % 262144) := by unfold IM.dI; rw [if_neg (by omega), if_pos hO, if_pos hx]
  have HF := Lib.hid (fun W => rform_any (x / 67108864) W)
  have HR := Lib.hid (fun W => rright_any (x / 67108864) (x / 4194304 % 16) (x / 262144 % 16) 0 (x % 262144) W)
  have e3 : IM.rc (x / 67108864) (x / 4194304 % 16) (x / 262144 % 16) 0 (x % 262144) = IM.dr x := by unfold IM.dr; rw [e1, e2]; rfl
  rw [e3] at HR
  clear e3
  generalize IM.dr x = c at *
  have y0 : (c == 0) = false := by simpa using h
  rw [(IM.fm_five (x / 67108864)).2 (Or.inr hO)] at HF
  have y : (x / 67108864 == 49) = true := by unfold IM.dO at hO; simpa using hO
  have y1 : decide (131072 ≤ x % 262144) = false := by simp; omega
  clear hO
  clear e1 e2 h
  go_enter Tryz.func34, Tryz.ntmps34
  go_wp2_with (first | (go_at_call 61; (with_reducible refine (HF.out _).mono ?_); rintro e w1 ⟨rfl, rfl⟩))
  (with_reducible refine (HR.out _).mono ?_); rintro e W2 ⟨rfl, b2⟩
  have A4 := Lib.hid ((At.new (w.alloc (.cells #[.int .i64 0, .int .i64 0, .int .i64 0, .int .i64 0, .int .i64 0] 45)) 45 (x / 67108864) (x / 4194304 % 16) (x / 262144 % 16) 0 (x % 262144)).below (by simp) b2)
  have A5 := Lib.hid (((At.new w 45 0 0 0 0 0).more (by simp) _).below (by simp; omega) b2)
  have B4 := Lib.hid (then_new (then_new b2))
  rw [show (w.alloc (.cells #[.int .i64 0, .int .i64 0, .int .i64 0, .int .i64 0, .int .i64 0] 45)).heap.size = w.heap.size + 1 by simp] at A4
  clear b2
  obtain ⟨⟨c0, c1, c2, c3, c4⟩, f0, f1, f2, f3, f4⟩ := A4.out
  obtain ⟨⟨k0, k1, k2, k3, k4⟩, g0, g1, g2, g3, g4⟩ := A5.out
  clear A4 A5
  go_wp2
  refine bodyPost_ret (v := .tuple #[.agg #[.int .i64 0, .int .i64 0, .int .i64 0, .int .i64 0, .int .i64 0], .int .i64 2]) (by simp [results, Tryz.results34, go_sem, k0, k1, k2, k3, k4]) rfl ⟨rfl, ?_⟩
  exact ((((B4.out.setCell (Nat.le_refl _) _).setCell (Nat.le_refl _) _).setCell (Nat.le_refl _) _).setCell (Nat.le_refl _) _).setCell (Nat.le_refl _) _
set_option maxHeartbeats 1600000 in
theorem rdec_oth_hi_bad (x : Int) (w : World) (x0 : 0 ≤ x) (x1 : x < 4294967296) (hf : ¬ IM.fm (IM.dO x) = 0) (h3 : ¬ IM.dO x = 33) (h4 : ¬ IM.dO x = 49) (hx : ¬ x % 16384 < 8192) (h : ¬ IM.dr x = 0) :
    Calls Tryz.prog 34 #[.int .u32 x] w fun e w' => e = .returned (.tuple #[.agg #[.int .i64 0, .int .i64 0, .int .i64 0, .int .i64 0, .int .i64 0], .int .i64 2]) ∧ Below w.heap.size w w' := by
  have e1 : IM.dB x = (x / 16384 % 16) := by unfold IM.dB; rw [if_neg (by omega)]
  have e2 : IM.dI x = (x % 16384 - 16384) := by unfold IM.dI; rw [if_neg h3, if_neg h4, if_neg hx]
  have HF := Lib.hid (fun W => rform_any (x / 67108864) W)
  have HR := Lib.hid (fun W => rright_any (x / 67108864) (x / 4194304 % 16) (x / 262144 % 16) (x / 16384 % 16) (x % 16384 - 16384) W)
  have e3 : IM.rc (x / 67108864) (x / 4194304 % 16) (x / 262144 % 16) (x / 16384 % 16) (x % 16384 - 16384) = IM.dr x := by unfold IM.dr; rw [e1, e2]; rfl
  rw [e3] at HR
  clear e3
  generalize IM.dr x = c at *
  have y0 : (c == 0) = false := by simpa using h
  have y : (IM.fm (x / 67108864) == 0) = false := by unfold IM.dO at hf; simpa using hf
  have y5 : (IM.fm (x / 67108864) == 5) = false := by
    have : ¬ IM.fm (x / 67108864) = 5 := fun h => by have h' := (IM.fm_five _).1 h; unfold IM.dO at h3 h4; omega
    simpa using this
  generalize IM.fm (x / 67108864) = f at HF y y5
  have y1 : decide (8192 ≤ x % 16384) = true := by simp; omega
  clear hf h3 h4
  clear e1 e2 h
  go_enter Tryz.func34, Tryz.ntmps34
  go_wp2_with (first | (go_at_call 61; (with_reducible refine (HF.out _).mono ?_); rintro e w1 ⟨rfl, rfl⟩))
  (with_reducible refine (HR.out _).mono ?_); rintro e W2 ⟨rfl, b2⟩
  have A4 := Lib.hid ((At.new (w.alloc (.cells #[.int .i64 0, .int .i64 0, .int .i64 0, .int .i64 0, .int .i64 0] 45)) 45 (x / 67108864) (x / 4194304 % 16) (x / 262144 % 16) (x / 16384 % 16) (x % 16384 - 16384)).below (by simp) b2)
  have A5 := Lib.hid (((At.new w 45 0 0 0 0 0).more (by simp) _).below (by simp; omega) b2)
  have B4 := Lib.hid (then_new (then_new b2))
  rw [show (w.alloc (.cells #[.int .i64 0, .int .i64 0, .int .i64 0, .int .i64 0, .int .i64 0] 45)).heap.size = w.heap.size + 1 by simp] at A4
  clear b2
  obtain ⟨⟨c0, c1, c2, c3, c4⟩, f0, f1, f2, f3, f4⟩ := A4.out
  obtain ⟨⟨k0, k1, k2, k3, k4⟩, g0, g1, g2, g3, g4⟩ := A5.out
  clear A4 A5
  go_wp2
  refine bodyPost_ret (v := .tuple #[.agg #[.int .i64 0, .int .i64 0, .int .i64 0, .int .i64 0, .int .i64 0], .int .i64 2]) (by simp [results, Tryz.results34, go_sem, k0, k1, k2, k3, k4]) rfl ⟨rfl, ?_⟩
  exact ((((B4.out.setCell (Nat.le_refl _) _).setCell (Nat.le_refl _) _).setCell (Nat.le_refl _) _).setCell (Nat.le_refl _) _).setCell (Nat.le_refl _) _
set_option maxHeartbeats 1600000 in
theorem rdec_oth_lo_bad (x : Int) (w : World) (x0 : 0 ≤ x) (x1 : x < 4294967296) (hf : ¬ IM.fm (IM.dO x) = 0) (h3 : ¬ IM.dO x = 33) (h4 : ¬ IM.dO x = 49) (hx : x % 16384 < 8192) (h : ¬ IM.dr x = 0) :
    Calls Tryz.prog 34 #[.int .u32 x] w fun e w' => e = .returned (.tuple #[.agg #[.int .i64 0, .int .i64 0, .int .i64 0, .int .i64 0, .int .i64 0], .int .i64 2]) ∧ Below w.heap.size w w' := by
  have e1 : IM.dB x = (x / 16384 % 16) := by unfold IM.dB; rw [if_neg (by omega)]
  have e2 : IM.dI x = (x % 16384) := by unfold IM.dI; rw [if_neg h3, if_neg h4, if_pos hx]
  have HF := Lib.hid (fun W => rform_any (x / 67108864) W)
  have HR := Lib.hid (fun W => rright_any (x / 67108864) (x / 4194304 % 16) (x / 262144 % 16) (x / 16384 % 16) (x % 16384) W)
  have e3 : IM.rc (x / 67108864) (x / 4194304 % 16) (x / 262144 % 16) (x / 16384 % 16) (x % 16384) = IM.dr x := by unfold IM.dr; rw [e1, e2]; rfl
  rw [e3] at HR
  clear e3
  generalize IM.dr x = c at *
  have y0 : (c == 0) = false := by simpa using h
  have y : (IM.fm (x / 67108864) == 0) = false := by unfold IM.dO at hf; simpa using hf
  have y5 : (IM.fm (x / 67108864) == 5) = false := by
    have : ¬ IM.fm (x / 67108864) = 5 := fun h => by have h' := (IM.fm_five _).1 h; unfold IM.dO at h3 h4; omega
    simpa using this
  generalize IM.fm (x / 67108864) = f at HF y y5
  have y1 : decide (8192 ≤ x % 16384) = false := by simp; omega
  clear hf h3 h4
  clear e1 e2 h
  go_enter Tryz.func34, Tryz.ntmps34
  go_wp2_with (first | (go_at_call 61; (with_reducible refine (HF.out _).mono ?_); rintro e w1 ⟨rfl, rfl⟩))
  (with_reducible refine (HR.out _).mono ?_); rintro e W2 ⟨rfl, b2⟩
  have A4 := Lib.hid ((At.new (w.alloc (.cells #[.int .i64 0, .int .i64 0, .int .i64 0, .int .i64 0, .int .i64 0] 45)) 45 (x / 67108864) (x / 4194304 % 16) (x / 262144 % 16) (x / 16384 % 16) (x % 16384)).below (by simp) b2)
  have A5 := Lib.hid (((At.new w 45 0 0 0 0 0).more (by simp) _).below (by simp; omega) b2)
  have B4 := Lib.hid (then_new (then_new b2))
  rw [show (w.alloc (.cells #[.int .i64 0, .int .i64 0, .int .i64 0, .int .i64 0, .int .i64 0] 45)).heap.size = w.heap.size + 1 by simp] at A4
  clear b2
  obtain ⟨⟨c0, c1, c2, c3, c4⟩, f0, f1, f2, f3, f4⟩ := A4.out
  obtain ⟨⟨k0, k1, k2, k3, k4⟩, g0, g1, g2, g3, g4⟩ := A5.out
  clear A4 A5
  go_wp2
  refine bodyPost_ret (v := .tuple #[.agg #[.int .i64 0, .int .i64 0, .int .i64 0, .int .i64 0, .int .i64 0], .int .i64 2]) (by simp [results, Tryz.results34, go_sem, k0, k1, k2, k3, k4]) rfl ⟨rfl, ?_⟩
  exact ((((B4.out.setCell (Nat.le_refl _) _).setCell (Nat.le_refl _) _).setCell (Nat.le_refl _) _).setCell (Nat.le_refl _) _).setCell (Nat.le_refl _) _
theorem rdec_any (x : Int) (w : World) (x0 : 0 ≤ x) (x1 : x < 4294967296) :
    Calls Tryz.prog 34 #[.int .u32 x] w fun e w' => e = .returned (.tuple #[.agg #[.int .i64 (IM.ko x (IM.dO x)), .int .i64 (IM.ko x (IM.dD x)), .int .i64 (IM.ko x (IM.dA x)), .int .i64 (IM.ko x (IM.dB x)), .int .i64 (IM.ko x (IM.dI x))], .int .i64 (IM.dc x)]) ∧ Below w.heap.size w w' := by
  unfold IM.ko IM.dc
  by_cases h : IM.dr x = 0
  · simp only [if_pos h]
    have hf : ¬ IM.fm (IM.dO x) = 0 := fun h' => by have := (IM.rc_nine (IM.dO x) (IM.dD x) (IM.dA x) (IM.dB x) (IM.dI x)).2 h'; unfold IM.dr at h; omega
    by_cases h3 : IM.dO x = 33
    · exact rdec_lui_ok x w x0 x1 h3 h
    · by_cases h4 : IM.dO x = 49
      · by_cases hx : x % 262144 < 131072
        · exact rdec_jal_lo_ok x w x0 x1 h4 hx h
        · exact rdec_jal_hi_ok x w x0 x1 h4 hx h
      · by_cases hx : x % 16384 < 8192
        · exact rdec_oth_lo_ok x w x0 x1 hf h3 h4 hx h
        · exact rdec_oth_hi_ok x w x0 x1 hf h3 h4 hx h
  · simp only [if_neg h]
    by_cases hf : IM.fm (IM.dO x) = 0
    · rw [if_pos hf]; exact rdec_none x w x0 x1 hf
    rw [if_neg hf]
    by_cases h3 : IM.dO x = 33
    · exact rdec_lui_bad x w x0 x1 h3 h
    · by_cases h4 : IM.dO x = 49
      · by_cases hx : x % 262144 < 131072
        · exact rdec_jal_lo_bad x w x0 x1 h4 hx h
        · exact rdec_jal_hi_bad x w x0 x1 h4 hx h
      · by_cases hx : x % 16384 < 8192
        · exact rdec_oth_lo_bad x w x0 x1 hf h3 h4 hx h
        · exact rdec_oth_hi_bad x w x0 x1 hf h3 h4 hx h
end Go.Proofs.YtcnmnkgnaknpdaaGreatDoor.S06
