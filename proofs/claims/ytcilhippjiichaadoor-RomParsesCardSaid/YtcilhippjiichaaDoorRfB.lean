/-
  What the reference's read answers, at any line. No condition but the line's length.
-/
import Derived.Test.YtcilhippjiichaaDoorRfA
namespace Go.Proofs.YtcilhippjiichaaDoor
open Go.RowKit Go.Maps S02
set_option maxHeartbeats 16000000 in
set_option maxRecDepth 100000 in
theorem rand_loop (s : ByteArray) (w : World) (h15 : 15 ≤ s.size) (hsz : s.size ≤ 100000) (e1 : s.data.toList.take 4 = [97, 110, 100, 32]) (hb : (s[12].toNat : Int) = 32) (ha : NM.al 16 ((s.data.toList.drop 4).take 8) = true) (hz : 18 ≤ s.size) (hy : s.size ≤ 48) (ho : s.size % 2 = 0) (hg : (s.data.toList.drop 13).getD (s.size - 16) 0 = 32) (hs : NM.al 16 ((s.data.toList.drop 13).drop (s.size - 15)) = true) (HNf : NM.al 16 ((s.data.toList.drop 13).take (s.size - 16)) = false → RM.rrd s.data.toList = none) (HNt : NM.al 16 ((s.data.toList.drop 13).take (s.size - 16)) = true → RM.rrd s.data.toList = some ⟨2, NM.val 16 ((s.data.toList.drop 4).take 8), RM.unh ((s.data.toList.drop 13).take (s.size - 16)), NM.val 16 ((s.data.toList.drop 13).drop (s.size - 15))⟩) : Calls Tryd.prog 36 #[.string s] w (RrPost w s.data.toList) := by
  have HB := Lib.hid (below_one w (.cells #[.int .i64 0, .int .u32 0, .slice none 0 0, .int .u8 0] 77))
  have HI := Lib.hid (heap_alloc_new w (.cells #[.int .i64 0, .int .u32 0, .slice none 0 0, .int .u8 0] 77))
  have p4 : (s.extract 0 4).toList = [97, 110, 100, 32] := by rw [head_of]; exact e1
  obtain ⟨p6, p7⟩ := head_not (s := s) (n := 6) (ne6 e1 (by decide))
  have h4 : (4 : Int) < s.size := by omega
  have h6 : (6 : Int) < s.size := by omega
  have h15' : ¬ (s.size : Int) < 15 := by omega
  obtain ⟨A, hA⟩ : ∃ A, s.extract 4 12 = A := ⟨_, rfl⟩
  have hAd : A.data.toList = (s.data.toList.drop 4).take 8 := by rw [← hA, cut_of]
  have HA := Lib.hid (fun W => hexes_any A W (by rw [← NM.len_eq, hAd, List.length_take]; omega))
  rw [hAd] at HA
  obtain ⟨D, hD⟩ : ∃ D, s.extract 13 s.size = D := ⟨_, rfl⟩
  have hDs : D.size = s.size - 13 := by rw [← NM.len_eq, ← hD, tail_of, List.length_drop, NM.len_eq]
  have hDd : D.data.toList = s.data.toList.drop 13 := by rw [← hD, tail_of]
  rw [RM.hxv_yes ha] at HA
  have hv : NM.val 16 ((s.data.toList.drop 4).take 8) < 4294967296 := RM.val_top ha (by rw [List.length_take]; omega)
  generalize NM.val 16 ((s.data.toList.drop 4).take 8) = V at *
  obtain ⟨m, hm⟩ : ∃ m, s.size = m + 16 := ⟨s.size - 16, by omega⟩
  have hDm : D.size = m + 3 := by omega
  have hd2 : ¬ (m : Int) < 2 := by omega
  have hd3 : ¬ (32 : Int) < m := by omega
  have hd4 : (m : Int) % 2 = 0 := by omega
  have hmD : m < D.size := by omega
  have hd5 : (D[m].toNat : Int) = 32 := by
    have := byte_of D m hmD
    rw [show s.size - 16 = m by omega] at hg
    rw [hDd, hg] at this
    rw [← this]
    rfl
  obtain ⟨S, hS⟩ : ∃ S, D.extract (m + 1) D.size = S := ⟨_, rfl⟩
  have hSd : S.data.toList = (s.data.toList.drop 13).drop (s.size - 15) := by rw [← hS, tail_of, hDd, show m + 1 = s.size - 15 by omega]
  have hS2 : S.size = 2 := by rw [← NM.len_eq, hSd, List.length_drop, List.length_drop, NM.len_eq]; omega
  rw [hDm] at hS
  have HS := Lib.hid (fun W => hexes_any S W (by omega))
  rw [hSd] at HS
  rw [RM.hxv_yes hs] at HS
  have hu : NM.val 16 ((s.data.toList.drop 13).drop (s.size - 15)) < 16 ^ 2 := RM.val_lt' hs (by rw [← hSd, NM.len_eq, hS2]) (by decide)
  have hu' : NM.val 16 ((s.data.toList.drop 13).drop (s.size - 15)) < 256 := hu
  generalize NM.val 16 ((s.data.toList.drop 13).drop (s.size - 15)) = U at *
  rw [← hDd, show s.size - 16 = m by omega] at HNf HNt
  have HNF := Lib.hid HNf
  have HNT := Lib.hid HNt
  have HDL := Lib.hid (NM.len_eq D)
  have hm32 : m ≤ 32 := by omega
  have HM2 := Lib.hid (show m % 2 = 0 by omega)
  obtain ⟨i5, HI5⟩ := info_parts u8_info
  have HI5 := Lib.hid HI5
  have HWS := Lib.hid (show (w.alloc (.cells #[.int .i64 0, .int .u32 0, .slice none 0 0, .int .u8 0] 77)).heap.size = w.heap.size + 1 by simp)
  clear e1 hDs hDd hAd ha hz hm hy ho hg hSd hS2 hs hu HNf HNt
  go_enter Tryd.func36, Tryd.ntmps36
  go_upto_region 9 with fail
  obtain ⟨W0, hW0⟩ : ∃ W0, w.alloc (.cells #[.int .i64 0, .int .u32 0, .slice none 0 0, .int .u8 0] 77) = W0 := ⟨_, rfl⟩
  rw [hW0] at HB HI HWS ⊢
  clear hW0
  have r0 := cell_of (o := 0) HI.out rfl
  have r1 := cell_of (o := 1) HI.out rfl
  have r2 := cell_of (o := 2) HI.out rfl
  have r3 := cell_of (o := 3) HI.out rfl
  have rf : ∀ o, W0.frozen? ⟨w.heap.size, o, none⟩ = false := fun o => unfrozen HI.out
  go_upto_region 12 with (go_at_call 48; refine (HA.out _).mono ?_; rintro e w2 ⟨rfl, rfl⟩)
  go_upto_region 20 with (go_at_call 48; refine (HS.out _).mono ?_; rintro e w2 ⟨rfl, rfl⟩)
  clear h15 h15' hsz hb hd4 hd5 p4 p6 p7 h4 h6 hA hD hd2 hd3
  go_upto_region 21 with (go_at_call 48; refine (HS.out _).mono ?_; rintro e w2 ⟨rfl, rfl⟩)
  have HY0 := Lib.hid (YZ.start (k := 2) (V := V) (U := U) HI.out HB.out HWS.out)
  obtain ⟨W1, hW1⟩ : ∃ W1, W0.alloc (.cells #[.int .i64 2, .int .u32 V, .slice none 0 0, .int .u8 U] 77) = W1 := ⟨_, rfl⟩
  rw [show (Value.int .i64 ((2 : Nat) : Int)) = .int .i64 2 from rfl] at HY0
  rw [hW1] at HY0 ⊢
  rw [HWS.out]
  clear hW1 r0 r1 r2 r3 rf HB HI HA HS
  go_wp2
  go_loopw [9] (fun i wr => ∃ (j f : Nat) (bs : List UInt8) (v : Value), Hid (f = 2 * j) ∧ f ≤ m ∧ i = .int .i64 f ∧ Hid (bs.length = j) ∧ Hid (RM.dg bs = D.data.toList.take f) ∧ Hid (YZ w wr 2 V U v j bs)) (fun i _ => m - (intOf i).toNat)
  case atStart => exact ⟨0, 0, [], _, Lib.hid rfl, by omega, rfl, Lib.hid rfl, Lib.hid rfl, HY0⟩
  case round =>
    obtain ⟨j, f, bs, v, hj, hf, rfl, hbl, hdg, hY⟩ := hrel
    by_cases hlt : f < m
    · have hf2 : f + 2 ≤ m := by have := hj.out; have := HM2.out; omega
      obtain ⟨X, hX⟩ : ∃ X, D.extract f (f + 2) = X := ⟨_, rfl⟩
      have hX1 : X.data.toList = (D.data.toList.drop f).take 2 := by rw [← hX, cut_of, show f + 2 - f = 2 by omega]
      have hX2 : X.data.toList.length = 2 := by rw [hX1, List.length_take, List.length_drop, HDL.out]; omega
      have HT := Lib.hid (show D.data.toList.take (f + 2) = D.data.toList.take f ++ X.data.toList by rw [hX1]; exact wp_tail (by rw [HDL.out]; omega))
      have hXs : X.size = 2 := by rw [← NM.len_eq]; exact hX2
      have HP := Lib.hid (fun W => hexes_any X W (by omega))
      obtain ⟨⟨r0, r1, r2, r3⟩, rf, -, -, x2, -⟩ := hY.out.cells
      have htn : ((f : Int) + 2).toNat = f + 2 := by omega
      cases ha : NM.al 16 X.data.toList
      · rw [RM.hxv_no ha] at HP
        have HNO := Lib.hid (HNF.out (by
          cases h5 : NM.al 16 (D.data.toList.take m) with
          | false => rfl
          | true =>
            have h6 := NM.al_take (f + 2) h5
            rw [List.take_take, Nat.min_eq_left hf2, HT.out, RM.al_app, ha, Bool.and_false] at h6
            cases h6))
        have HXS := Lib.hid hX
        clear ha hX hX1 hX2 hXs x2
        go_wp2_with (go_at_call 48; rw [HXS.out]; refine (HP.out _).mono ?_; rintro e w4 ⟨rfl, rfl⟩)
        refine bodyPost_ret (v := .agg #[.int .i64 0, .int .u32 0, .slice none 0 0, .int .u8 0]) (by simp [results, Tryd.results36, go_sem, r0, r1, r2, r3]) rfl ?_
        exact RrPost.no HNO.out (below_four hY.out.old (Nat.le_refl _) _ _ _ _)
      · rw [RM.hxv_yes ha] at HP
        have hbn := RM.hb_toNat X.data.toList ha hX2
        have HD' := Lib.hid (show RM.dg (bs ++ [RM.hb X.data.toList]) = D.data.toList.take (f + 2) by rw [RM.dg_snoc, hdg.out, HT.out, RM.hb_dg _ ha hX2])
        have hvb : (RM.hb X.data.toList).toNat < 256 := UInt8.toNat_lt _
        obtain ⟨bb, hbb⟩ : ∃ bb, RM.hb X.data.toList = bb := ⟨_, rfl⟩
        rw [hbb] at hbn hvb HD'
        have HBN := Lib.hid hbn
        rw [hbn] at hvb
        generalize NM.val 16 X.data.toList = N at *
        have HXS := Lib.hid hX
        have hj1000 : j ≤ 1000 := by have := hj.out; omega
        clear ha hX hX1 hX2 hXs hbn hbb r0 r1 r2 r3 rf
        go_wp2_with (first
          | (go_at_call 48; rw [HXS.out]; refine (HP.out _).mono ?_; rintro e w4 ⟨rfl, rfl⟩)
          | (at_builtin; refine wpList_append_lies _ rfl _ _ 28 rfl w.heap.size 5 i5 (.int .u8 0) 1 1 Tryd.underlying28 HI5.out.1 HI5.out.2.1 HI5.out.2.2.1 HI5.out.2.2.2 rfl (by decide) v j (byC bs) rfl (hY.out.own.alloc _) ⟨_, 0, none⟩ 1 1 [.int .u8 N] rfl rfl (S02.new_cell _ _ _) (fun u hu => by simp at hu; subst hu; rfl) (by decide) (by unfold maxLen; omega) (by omega) (by have := hY.out.old.size; simp; omega) _ rfl ?_; intro g' cap' w4 ho4 hg4 hv4 hl4; obtain ⟨y1, y2, y3⟩ := hY.out.step (b := bb) hg4 (by rw [HBN.out]; exact ho4); have HY4 := Lib.hid y3; clear y3 ho4 hg4 hv4 hl4))
        go_roundw
        case rel => exact ⟨j + 1, f + 2, bs ++ [bb], _, Lib.hid (by have := hj.out; omega), by omega, by go_num, Lib.hid (by rw [List.length_append, hbl.out]; rfl), HD', HY4⟩
        case measure => simp [intOf]; omega
    · have hlt' : decide (f < m) = false := by simpa using hlt
      obtain rfl : f = m := by omega
      have HE := Lib.hid (HNT.out (by rw [← hdg.out]; exact RM.al_dg _))
      rw [← hdg.out, RM.unh_dg] at HE
      obtain ⟨A1, c1, rfl⟩ := own_form hY.out.own
      obtain ⟨⟨r0, r1, r2, r3⟩, rf, x0, x1, x2, x3⟩ := hY.out.cells
      clear hlt
      go_wp2
      refine bodyPost_ret (v := .agg #[.int .i64 2, .int .u32 V, .slice A1 j c1, .int .u8 U]) (by simp [results, Tryd.results36, go_sem, r0, r1, r2, r3]) rfl ?_
      refine ⟨below_four hY.out.old (Nat.le_refl _) _ _ _ _, .inr ⟨_, .slice A1 j c1, HE.out, rfl, ?_⟩⟩
      simp only [hbl.out]
      exact own_four77 hY.out.own hY.out.rz
namespace RM
theorem rrd_byte {l : List UInt8} (h : l.getD (rF l + 8) 0 ≠ 32) : rrd l = none := by unfold rrd; rw [if_pos (.inr (.inr h))]
theorem rrd_body {l : List UInt8} (h0 : ¬ (rHd l = 0 ∨ l.length < rF l + 11)) (hb : l.getD (rF l + 8) 0 = 32) : rrd l = if rHd l = 3 then rr3 ((l.drop 6).take 8) (l.drop 15) else rr1 (rHd l) ((l.drop 4).take 8) (l.drop 13) := by
  unfold rrd
  rw [if_neg]
  rintro (h | h | h)
  · exact h0 (.inl h)
  · exact h0 (.inr h)
  · exact h hb
theorem rr1_no {k : Nat} {A D : List UInt8} (h : NM.al 16 A = false ∨ D.length < 5 ∨ 35 < D.length ∨ (D.length - 3) % 2 ≠ 0 ∨ D.getD (D.length - 3) 0 ≠ 32 ∨ NM.al 16 (D.drop (D.length - 2)) = false ∨ NM.al 16 (D.take (D.length - 3)) = false) : rr1 k A D = none := by unfold rr1; rw [if_pos h]
theorem rr1_yes {k : Nat} {A D : List UInt8} (h1 : NM.al 16 A = true) (h2 : 5 ≤ D.length) (h3 : D.length ≤ 35) (h4 : (D.length - 3) % 2 = 0) (h5 : D.getD (D.length - 3) 0 = 32) (h6 : NM.al 16 (D.drop (D.length - 2)) = true) (h7 : NM.al 16 (D.take (D.length - 3)) = true) : rr1 k A D = some ⟨k, NM.val 16 A, unh (D.take (D.length - 3)), NM.val 16 (D.drop (D.length - 2))⟩ := by
  unfold rr1
  rw [if_neg]
  rintro (h | h | h | h | h | h | h)
  · rw [h1] at h; cases h
  · omega
  · omega
  · exact h h4
  · exact h h5
  · rw [h6] at h; cases h
  · rw [h7] at h; cases h
end RM
theorem rseg_any (s : ByteArray) (w : World) (hsz : s.size ≤ 100000) (hk : RM.rHd s.data.toList = 1) (e1 : s.data.toList.take 4 = [115, 101, 103, 32]) (h15 : 15 ≤ s.size) : Calls Tryd.prog 36 #[.string s] w (RrPost w s.data.toList) := by
  have hlen := NM.len_eq s
  have hF : RM.rF s.data.toList = 4 := by unfold RM.rF; rw [hk, if_neg (by decide)]
  have h0 : ¬ (RM.rHd s.data.toList = 0 ∨ s.data.toList.length < RM.rF s.data.toList + 11) := by rw [hk, hF]; omega
  have hby := byte_of s 12 (by omega)
  by_cases hb : s.data.toList.getD 12 0 = 32
  · have hb' : (s[12].toNat : Int) = 32 := by
      rw [hb] at hby
      rw [← hby]; rfl
    have HR : RM.rrd s.data.toList = RM.rr1 1 ((s.data.toList.drop 4).take 8) (s.data.toList.drop 13) := by
      rw [RM.rrd_body h0 (by rw [hF]; exact hb), hk, if_neg (by decide)]
    have hDl : (s.data.toList.drop 13).length = s.size - 13 := by rw [List.length_drop, hlen]
    cases ha : NM.al 16 ((s.data.toList.drop 4).take 8) with
    | false => exact rseg_addr s w h15 hsz e1 hb' ha (Lib.hid (HR.trans (RM.rr1_no (.inl ha))))
    | true =>
      by_cases z1 : s.size < 18
      · exact rseg_few s w h15 hsz e1 hb' ha z1 (Lib.hid (HR.trans (RM.rr1_no (.inr (.inl (by omega))))))
      · by_cases z2 : 48 < s.size
        · exact rseg_many s w h15 hsz e1 hb' ha z2 (Lib.hid (HR.trans (RM.rr1_no (.inr (.inr (.inl (by omega)))))))
        · by_cases z3 : s.size % 2 = 0
          · by_cases z4 : (s.data.toList.drop 13).getD (s.size - 16) 0 = 32
            · cases hs : NM.al 16 ((s.data.toList.drop 13).drop (s.size - 15)) with
              | false => exact rseg_sum s w h15 hsz e1 hb' ha (by omega) (by omega) z3 z4 hs (Lib.hid (HR.trans (RM.rr1_no (.inr (.inr (.inr (.inr (.inr (.inl (by rw [hDl, show s.size - 13 - 2 = s.size - 15 by omega]; exact hs)))))))))) 
              | true =>
                refine rseg_loop s w h15 hsz e1 hb' ha (by omega) (by omega) z3 z4 hs (fun h => HR.trans (RM.rr1_no (.inr (.inr (.inr (.inr (.inr (.inr ?_)))))))) (fun h => ?_)
                · rw [hDl, show s.size - 13 - 3 = s.size - 16 by omega]; exact h
                · have := RM.rr1_yes (k := 1) (A := (s.data.toList.drop 4).take 8) (D := s.data.toList.drop 13) ha (by omega) (by omega) (by omega) (by rw [hDl, show s.size - 13 - 3 = s.size - 16 by omega]; exact z4) (by rw [hDl, show s.size - 13 - 2 = s.size - 15 by omega]; exact hs) (by rw [hDl, show s.size - 13 - 3 = s.size - 16 by omega]; exact h)
                  rw [hDl, show s.size - 13 - 3 = s.size - 16 by omega, show s.size - 13 - 2 = s.size - 15 by omega] at this
                  exact HR.trans this
            · exact rseg_gap s w h15 hsz e1 hb' ha (by omega) (by omega) z3 z4 (Lib.hid (HR.trans (RM.rr1_no (.inr (.inr (.inr (.inr (.inl (by rw [hDl, show s.size - 13 - 3 = s.size - 16 by omega]; exact z4)))))))))
          · exact rseg_odd s w h15 hsz e1 hb' ha (by omega) (by omega) (by omega) (Lib.hid (HR.trans (RM.rr1_no (.inr (.inr (.inr (.inl (by rw [hDl]; omega))))))))
  · refine rseg_byte s w h15 hsz e1 (fun e => hb ?_) (Lib.hid (RM.rrd_byte (by rw [hF]; exact hb)))
    rw [hby]
    exact UInt8.toNat_inj.mp (by have : (32 : UInt8).toNat = 32 := rfl; omega)
theorem rand_any (s : ByteArray) (w : World) (hsz : s.size ≤ 100000) (hk : RM.rHd s.data.toList = 2) (e1 : s.data.toList.take 4 = [97, 110, 100, 32]) (h15 : 15 ≤ s.size) : Calls Tryd.prog 36 #[.string s] w (RrPost w s.data.toList) := by
  have hlen := NM.len_eq s
  have hF : RM.rF s.data.toList = 4 := by unfold RM.rF; rw [hk, if_neg (by decide)]
  have h0 : ¬ (RM.rHd s.data.toList = 0 ∨ s.data.toList.length < RM.rF s.data.toList + 11) := by rw [hk, hF]; omega
  have hby := byte_of s 12 (by omega)
  by_cases hb : s.data.toList.getD 12 0 = 32
  · have hb' : (s[12].toNat : Int) = 32 := by
      rw [hb] at hby
      rw [← hby]; rfl
    have HR : RM.rrd s.data.toList = RM.rr1 2 ((s.data.toList.drop 4).take 8) (s.data.toList.drop 13) := by
      rw [RM.rrd_body h0 (by rw [hF]; exact hb), hk, if_neg (by decide)]
    have hDl : (s.data.toList.drop 13).length = s.size - 13 := by rw [List.length_drop, hlen]
    cases ha : NM.al 16 ((s.data.toList.drop 4).take 8) with
    | false => exact rand_addr s w h15 hsz e1 hb' ha (Lib.hid (HR.trans (RM.rr1_no (.inl ha))))
    | true =>
      by_cases z1 : s.size < 18
      · exact rand_few s w h15 hsz e1 hb' ha z1 (Lib.hid (HR.trans (RM.rr1_no (.inr (.inl (by omega))))))
      · by_cases z2 : 48 < s.size
        · exact rand_many s w h15 hsz e1 hb' ha z2 (Lib.hid (HR.trans (RM.rr1_no (.inr (.inr (.inl (by omega)))))))
        · by_cases z3 : s.size % 2 = 0
          · by_cases z4 : (s.data.toList.drop 13).getD (s.size - 16) 0 = 32
            · cases hs : NM.al 16 ((s.data.toList.drop 13).drop (s.size - 15)) with
              | false => exact rand_sum s w h15 hsz e1 hb' ha (by omega) (by omega) z3 z4 hs (Lib.hid (HR.trans (RM.rr1_no (.inr (.inr (.inr (.inr (.inr (.inl (by rw [hDl, show s.size - 13 - 2 = s.size - 15 by omega]; exact hs)))))))))) 
              | true =>
                refine rand_loop s w h15 hsz e1 hb' ha (by omega) (by omega) z3 z4 hs (fun h => HR.trans (RM.rr1_no (.inr (.inr (.inr (.inr (.inr (.inr ?_)))))))) (fun h => ?_)
                · rw [hDl, show s.size - 13 - 3 = s.size - 16 by omega]; exact h
                · have := RM.rr1_yes (k := 2) (A := (s.data.toList.drop 4).take 8) (D := s.data.toList.drop 13) ha (by omega) (by omega) (by omega) (by rw [hDl, show s.size - 13 - 3 = s.size - 16 by omega]; exact z4) (by rw [hDl, show s.size - 13 - 2 = s.size - 15 by omega]; exact hs) (by rw [hDl, show s.size - 13 - 3 = s.size - 16 by omega]; exact h)
                  rw [hDl, show s.size - 13 - 3 = s.size - 16 by omega, show s.size - 13 - 2 = s.size - 15 by omega] at this
                  exact HR.trans this
            · exact rand_gap s w h15 hsz e1 hb' ha (by omega) (by omega) z3 z4 (Lib.hid (HR.trans (RM.rr1_no (.inr (.inr (.inr (.inr (.inl (by rw [hDl, show s.size - 13 - 3 = s.size - 16 by omega]; exact z4)))))))))
          · exact rand_odd s w h15 hsz e1 hb' ha (by omega) (by omega) (by omega) (Lib.hid (HR.trans (RM.rr1_no (.inr (.inr (.inr (.inl (by rw [hDl]; omega))))))))
  · refine rand_byte s w h15 hsz e1 (fun e => hb ?_) (Lib.hid (RM.rrd_byte (by rw [hF]; exact hb)))
    rw [hby]
    exact UInt8.toNat_inj.mp (by have : (32 : UInt8).toNat = 32 := rfl; omega)
theorem rstart_any (s : ByteArray) (w : World) (hk : RM.rHd s.data.toList = 3) (e1 : s.data.toList.take 6 = [115, 116, 97, 114, 116, 32]) (h17 : 17 ≤ s.size) : Calls Tryd.prog 36 #[.string s] w (RrPost w s.data.toList) := by
  have hlen := NM.len_eq s
  have hF : RM.rF s.data.toList = 6 := by unfold RM.rF; rw [hk, if_pos rfl]
  have h0 : ¬ (RM.rHd s.data.toList = 0 ∨ s.data.toList.length < RM.rF s.data.toList + 11) := by rw [hk, hF]; omega
  have hby := byte_of s 14 (by omega)
  by_cases hb : s.data.toList.getD 14 0 = 32
  · have hb' : (s[14].toNat : Int) = 32 := by
      rw [hb] at hby
      rw [← hby]; rfl
    have HR : RM.rrd s.data.toList = RM.rr3 ((s.data.toList.drop 6).take 8) (s.data.toList.drop 15) := by
      rw [RM.rrd_body h0 (by rw [hF]; exact hb), hk, if_pos rfl]
    have hDl : (s.data.toList.drop 15).length = s.size - 15 := by rw [List.length_drop, hlen]
    have no : ∀ (h : (s.data.toList.drop 15).length ≠ 2 ∨ NM.al 16 ((s.data.toList.drop 6).take 8) = false ∨ NM.al 16 (s.data.toList.drop 15) = false), RM.rrd s.data.toList = none := fun h => by rw [HR]; unfold RM.rr3; rw [if_pos h]
    by_cases z1 : s.size = 17
    · cases ha : NM.al 16 ((s.data.toList.drop 6).take 8) with
      | false => exact rstart_addr s w h17 e1 hb' z1 ha (Lib.hid (no (.inr (.inl ha))))
      | true =>
        cases hs : NM.al 16 (s.data.toList.drop 15) with
        | false => exact rstart_sum s w h17 e1 hb' z1 ha hs (Lib.hid (no (.inr (.inr hs))))
        | true =>
          refine rstart_yes s w h17 e1 hb' z1 ha hs (Lib.hid ?_)
          rw [HR]
          unfold RM.rr3
          rw [if_neg]
          rintro (h | h | h)
          · omega
          · rw [ha] at h; cases h
          · rw [hs] at h; cases h
    · exact rstart_long s w h17 e1 hb' z1 (Lib.hid (no (.inl (by omega))))
  · refine rstart_byte s w h17 e1 (fun e => hb (by rw [hby]; exact e)) (Lib.hid (RM.rrd_byte (by rw [hF]; exact hb)))
theorem read_any (s : ByteArray) (w : World) (hsz : s.size ≤ 100000) : Calls Tryd.prog 36 #[.string s] w (RrPost w s.data.toList) := by
  have hlen := NM.len_eq s
  by_cases h0 : RM.rHd s.data.toList = 0 ∨ s.data.toList.length < RM.rF s.data.toList + 11
  · exact read_head s w h0
  · rcases RM.rHd_bd s.data.toList with hk | hk | hk | hk
    · exact absurd (.inl hk) h0
    · have hF : RM.rF s.data.toList = 4 := by unfold RM.rF; rw [hk, if_neg (by decide)]
      have e1 : s.data.toList.take 4 = [115, 101, 103, 32] := by
        unfold RM.rHd at hk
        split at hk
        · rename_i h; exact h.2
        · split at hk
          · cases hk
          · split at hk <;> cases hk
      exact rseg_any s w hsz hk e1 (by rw [hF] at h0; omega)
    · have hF : RM.rF s.data.toList = 4 := by unfold RM.rF; rw [hk, if_neg (by decide)]
      have e1 : s.data.toList.take 4 = [97, 110, 100, 32] := by
        unfold RM.rHd at hk
        split at hk
        · cases hk
        · split at hk
          · rename_i h; exact h.2
          · split at hk <;> cases hk
      exact rand_any s w hsz hk e1 (by rw [hF] at h0; omega)
    · have hF : RM.rF s.data.toList = 6 := by unfold RM.rF; rw [hk, if_pos rfl]
      have e1 : s.data.toList.take 6 = [115, 116, 97, 114, 116, 32] := by
        unfold RM.rHd at hk
        split at hk
        · cases hk
        · split at hk
          · cases hk
          · split at hk
            · rename_i h; exact h.2
            · cases hk
      exact rstart_any s w hk e1 (by rw [hF] at h0; omega)
end Go.Proofs.YtcilhippjiichaaDoor
