/-
  What the reference's read answers at a line of bytes: its loop over the digits. No condition but the line's length.
-/
import Derived.Test.YtcilhippjiichaaDoorWalkZ
import Derived.Test.YtcilhippjiichaaDoorWalkU
namespace Go.Proofs.YtcilhippjiichaaDoor
open Go.RowKit Go.Maps S02
/-- A row that is being read: the answer's block, and the row's. -/
structure YZ (w wr : World) (k V U : Nat) (v : Value) (j : Nat) (bs : List UInt8) : Prop where
  rz : wr.heap[w.heap.size]? = some (.cells #[.int .i64 0, .int .u32 0, .slice none 0 0, .int .u8 0] 77 (0, 0))
  xz : wr.heap[w.heap.size + 1]? = some (.cells #[.int .i64 k, .int .u32 V, v, .int .u8 U] 77 (0, 0))
  own : wr.ownsRow w.heap.size 5 1 v j (byC bs)
  old : Below w.heap.size w wr
theorem YZ.start {w W0 : World} {k V U : Nat} (hI : W0.heap[w.heap.size]? = some (.cells #[.int .i64 0, .int .u32 0, .slice none 0 0, .int .u8 0] 77 (0, 0))) (hB : Below w.heap.size w W0) (hz : W0.heap.size = w.heap.size + 1) : YZ w (W0.alloc (.cells #[.int .i64 k, .int .u32 V, .slice none 0 0, .int .u8 U] 77)) k V U (.slice none 0 0) 0 [] := by
  refine ⟨(Below.heap_alloc W0 _ _ (lt_of_heap hI)).trans hI, ?_, World.ownsRow_nil _ _ _ _, hB.alloc hB.size _⟩
  rw [← hz]
  exact heap_alloc_new W0 _
theorem YZ.step {w wr w4 : World} {k V U j : Nat} {v v' : Value} {bs : List UInt8} {b : UInt8} {o : Obj} (h : YZ w wr k V U v j bs) (hg : (wr.alloc o).grownBy w4 v.ownBlock) (ho : w4.ownsRow w.heap.size 5 1 v' (j + 1) (byC bs ++ [.int .u8 b.toNat])) : w4.cell? ⟨w.heap.size + 1, 2, none⟩ = some v ∧ w4.frozen? ⟨w.heap.size + 1, 2, none⟩ = false ∧ YZ w (w4.setCell ⟨w.heap.size + 1, 2, none⟩ v') k V U v' (j + 1) (bs ++ [b]) := by
  have kp : ∀ (i : Nat) (c : Array Value) (e : TypeId) (f : Nat × Nat), wr.heap[i]? = some (Obj.cells c e f) → e ≠ 5 → w4.heap[i]? = wr.heap[i]? := fun i c e f hk he => by
    rw [hg.block i (by have := lt_of_heap hk; simp; omega) (fun e' => ?_), Below.heap_alloc wr o i (lt_of_heap hk)]
    obtain ⟨_, _, c', hc'⟩ := own_lt h.own e'.symm
    exact kind_ne hk hc' he rfl
  have z1 := (kp _ _ _ _ h.xz (by decide)).trans h.xz
  have z0 := (kp _ _ _ _ h.rz (by decide)).trans h.rz
  refine ⟨cell_of z1 rfl, unfrozen z1, (heap_other (by omega)).trans z0, heap_set z1, ?_, ?_⟩
  · rw [byC_snoc]
    exact own_off ho z1 (by decide)
  · exact ((h.old.alloc h.old.size o).grown hg (Nat.le_trans h.old.size (by simp)) fun i hi => (own_lt h.own hi).1).setCell (by show w.heap.size ≤ w.heap.size + 1; omega) _
theorem YZ.cells {w wr : World} {k V U j : Nat} {v : Value} {bs : List UInt8} (h : YZ w wr k V U v j bs) : (wr.cell? ⟨w.heap.size, 0, none⟩ = some (.int .i64 0) ∧ wr.cell? ⟨w.heap.size, 1, none⟩ = some (.int .u32 0) ∧ wr.cell? ⟨w.heap.size, 2, none⟩ = some (.slice none 0 0) ∧ wr.cell? ⟨w.heap.size, 3, none⟩ = some (.int .u8 0)) ∧ (∀ o, wr.frozen? ⟨w.heap.size, o, none⟩ = false) ∧ wr.cell? ⟨w.heap.size + 1, 0, none⟩ = some (.int .i64 k) ∧ wr.cell? ⟨w.heap.size + 1, 1, none⟩ = some (.int .u32 V) ∧ wr.cell? ⟨w.heap.size + 1, 2, none⟩ = some v ∧ wr.cell? ⟨w.heap.size + 1, 3, none⟩ = some (.int .u8 U) :=
  ⟨⟨cell_of h.rz rfl, cell_of h.rz rfl, cell_of h.rz rfl, cell_of h.rz rfl⟩, fun _ => unfrozen h.rz, cell_of h.xz rfl, cell_of h.xz rfl, cell_of h.xz rfl, cell_of h.xz rfl⟩
theorem own_four77 {W : World} {R B n : Nat} {v u0 u1 u2 u3 : Value} {xs : List Value} {cs : Array Value} {f : Nat × Nat} (h : W.ownsRow B 5 1 v n xs) (hk : W.heap[R]? = some (.cells cs 77 f)) : ((((W.setCell ⟨R, 0, none⟩ u0).setCell ⟨R, 1, none⟩ u1).setCell ⟨R, 2, none⟩ u2).setCell ⟨R, 3, none⟩ u3).ownsRow B 5 1 v n xs := by
  refine own_keep h fun k e => ?_
  obtain ⟨_, _, c, hc⟩ := own_lt h e
  have hne : k ≠ R := kind_ne hc hk (by decide)
  rw [heap_other hne, heap_other hne, heap_other hne, heap_other hne]
set_option maxHeartbeats 16000000 in
set_option maxRecDepth 100000 in
theorem rseg_loop (s : ByteArray) (w : World) (h15 : 15 ≤ s.size) (hsz : s.size ≤ 100000) (e1 : s.data.toList.take 4 = [115, 101, 103, 32]) (hb : (s[12].toNat : Int) = 32) (ha : NM.al 16 ((s.data.toList.drop 4).take 8) = true) (hz : 18 ≤ s.size) (hy : s.size ≤ 48) (ho : s.size % 2 = 0) (hg : (s.data.toList.drop 13).getD (s.size - 16) 0 = 32) (hs : NM.al 16 ((s.data.toList.drop 13).drop (s.size - 15)) = true) (HNf : NM.al 16 ((s.data.toList.drop 13).take (s.size - 16)) = false → RM.rrd s.data.toList = none) (HNt : NM.al 16 ((s.data.toList.drop 13).take (s.size - 16)) = true → RM.rrd s.data.toList = some ⟨1, NM.val 16 ((s.data.toList.drop 4).take 8), RM.unh ((s.data.toList.drop 13).take (s.size - 16)), NM.val 16 ((s.data.toList.drop 13).drop (s.size - 15))⟩) : Calls Tryd.prog 36 #[.string s] w (RrPost w s.data.toList) := by
  have HB := Lib.hid (below_one w (.cells #[.int .i64 0, .int .u32 0, .slice none 0 0, .int .u8 0] 77))
  have HI := Lib.hid (heap_alloc_new w (.cells #[.int .i64 0, .int .u32 0, .slice none 0 0, .int .u8 0] 77))
  have p4 : (s.extract 0 4).toList = [115, 101, 103, 32] := by rw [head_of]; exact e1
  obtain ⟨p6, p7⟩ := head_not (s := s) (n := 6) (ne6 e1 (by decide))
  have h4 : (4 : Int) < s.size := by omega
  have h6 : (6 : Int) < s.size := by omega
  have h15' : ¬ (s.size : Int) < 15 := by omega
  obtain ⟨A, hA⟩ : ∃ A, s.extract 4 12 = A := ⟨_, rfl⟩
  have hAd : A.data.toList = (s.data.toList.drop 4).take 8 := by rw [← hA, cut_of]
  have HA := Lib.hid (fun W => hexes_any A W (by rw [← NM.len_eq, hAd, List.length_take]; omega))
  rw [hAd] at HA
  obtain ⟨D, hD⟩ : ∃ D, s.extract 13 s.size = D := ⟨_, rfl⟩
  have hDs : D.size = s.size - 13 := by rw [← NM.len_eq, ← hD, tail_of, List.length_drop, NM.len_eq]
  have hDd : D.data.toList = s.data.toList.drop 13 := by rw [← hD, tail_of]
  rw [RM.hxv_yes ha] at HA
  have hv : NM.val 16 ((s.data.toList.drop 4).take 8) < 4294967296 := RM.val_top ha (by rw [List.length_take]; omega)
  generalize NM.val 16 ((s.data.toList.drop 4).take 8) = V at *
  obtain ⟨m, hm⟩ : ∃ m, s.size = m + 16 := ⟨s.size - 16, by omega⟩
  have hDm : D.size = m + 3 := by omega
  have hd2 : ¬ (m : Int) < 2 := by omega
  have hd3 : ¬ (32 : Int) < m := by omega
  have hd4 : (m : Int) % 2 = 0 := by omega
  have hmD : m < D.size := by omega
  have hd5 : (D[m].toNat : Int) = 32 := by
    have := byte_of D m hmD
    rw [show s.size - 16 = m by omega] at hg
    rw [hDd, hg] at this
    rw [← this]
    rfl
  obtain ⟨S, hS⟩ : ∃ S, D.extract (m + 1) D.size = S := ⟨_, rfl⟩
  have hSd : S.data.toList = (s.data.toList.drop 13).drop (s.size - 15) := by rw [← hS, tail_of, hDd, show m + 1 = s.size - 15 by omega]
  have hS2 : S.size = 2 := by rw [← NM.len_eq, hSd, List.length_drop, List.length_drop, NM.len_eq]; omega
  rw [hDm] at hS
  have HS := Lib.hid (fun W => hexes_any S W (by omega))
  rw [hSd] at HS
  rw [RM.hxv_yes hs] at HS
  have hu : NM.val 16 ((s.data.toList.drop 13).drop (s.size - 15)) < 16 ^ 2 := RM.val_lt' hs (by rw [← hSd, NM.len_eq, hS2]) (by decide)
  have hu' : NM.val 16 ((s.data.toList.drop 13).drop (s.size - 15)) < 256 := hu
  generalize NM.val 16 ((s.data.toList.drop 13).drop (s.size - 15)) = U at *
  rw [← hDd, show s.size - 16 = m by omega] at HNf HNt
  have HNF := Lib.hid HNf
  have HNT := Lib.hid HNt
  have HDL := Lib.hid (NM.len_eq D)
  have hm32 : m ≤ 32 := by omega
  have HM2 := Lib.hid (show m % 2 = 0 by omega)
  obtain ⟨i5, HI5⟩ := info_parts u8_info
  have HI5 := Lib.hid HI5
  have HWS := Lib.hid (show (w.alloc (.cells #[.int .i64 0, .int .u32 0, .slice none 0 0, .int .u8 0] 77)).heap.size = w.heap.size + 1 by simp)
  clear e1 hDs hDd hAd ha hz hm hy ho hg hSd hS2 hs hu HNf HNt
  go_enter Tryd.func36, Tryd.ntmps36
  go_upto_region 9 with fail
  obtain ⟨W0, hW0⟩ : ∃ W0, w.alloc (.cells #[.int .i64 0, .int .u32 0, .slice none 0 0, .int .u8 0] 77) = W0 := ⟨_, rfl⟩
  rw [hW0] at HB HI HWS ⊢
  clear hW0
  have r0 := cell_of (o := 0) HI.out rfl
  have r1 := cell_of (o := 1) HI.out rfl
  have r2 := cell_of (o := 2) HI.out rfl
  have r3 := cell_of (o := 3) HI.out rfl
  have rf : ∀ o, W0.frozen? ⟨w.heap.size, o, none⟩ = false := fun o => unfrozen HI.out
  go_upto_region 12 with (go_at_call 48; refine (HA.out _).mono ?_; rintro e w2 ⟨rfl, rfl⟩)
  go_upto_region 20 with (go_at_call 48; refine (HS.out _).mono ?_; rintro e w2 ⟨rfl, rfl⟩)
  clear h15 h15' hsz hb hd4 hd5 p4 p6 p7 h4 h6 hA hD hd2 hd3
  go_upto_region 21 with (go_at_call 48; refine (HS.out _).mono ?_; rintro e w2 ⟨rfl, rfl⟩)
  have HY0 := Lib.hid (YZ.start (k := 1) (V := V) (U := U) HI.out HB.out HWS.out)
  obtain ⟨W1, hW1⟩ : ∃ W1, W0.alloc (.cells #[.int .i64 1, .int .u32 V, .slice none 0 0, .int .u8 U] 77) = W1 := ⟨_, rfl⟩
  rw [show (Value.int .i64 ((1 : Nat) : Int)) = .int .i64 1 from rfl] at HY0
  rw [hW1] at HY0 ⊢
  rw [HWS.out]
  clear hW1 r0 r1 r2 r3 rf HB HI HA HS
  go_wp2
  go_loopw [9] (fun i wr => ∃ (j f : Nat) (bs : List UInt8) (v : Value), Hid (f = 2 * j) ∧ f ≤ m ∧ i = .int .i64 f ∧ Hid (bs.length = j) ∧ Hid (RM.dg bs = D.data.toList.take f) ∧ Hid (YZ w wr 1 V U v j bs)) (fun i _ => m - (intOf i).toNat)
  case atStart => exact ⟨0, 0, [], _, Lib.hid rfl, by omega, rfl, Lib.hid rfl, Lib.hid rfl, HY0⟩
  case round =>
    obtain ⟨j, f, bs, v, hj, hf, rfl, hbl, hdg, hY⟩ := hrel
    by_cases hlt : f < m
    · have hf2 : f + 2 ≤ m := by have := hj.out; have := HM2.out; omega
      obtain ⟨X, hX⟩ : ∃ X, D.extract f (f + 2) = X := ⟨_, rfl⟩
      have hX1 : X.data.toList = (D.data.toList.drop f).take 2 := by rw [← hX, cut_of, show f + 2 - f = 2 by omega]
      have hX2 : X.data.toList.length = 2 := by rw [hX1, List.length_take, List.length_drop, HDL.out]; omega
      have HT := Lib.hid (show D.data.toList.take (f + 2) = D.data.toList.take f ++ X.data.toList by rw [hX1]; exact wp_tail (by rw [HDL.out]; omega))
      have hXs : X.size = 2 := by rw [← NM.len_eq]; exact hX2
      have HP := Lib.hid (fun W => hexes_any X W (by omega))
      obtain ⟨⟨r0, r1, r2, r3⟩, rf, -, -, x2, -⟩ := hY.out.cells
      have htn : ((f : Int) + 2).toNat = f + 2 := by omega
      cases ha : NM.al 16 X.data.toList
      · rw [RM.hxv_no ha] at HP
        have HNO := Lib.hid (HNF.out (by
          cases h5 : NM.al 16 (D.data.toList.take m) with
          | false => rfl
          | true =>
            have h6 := NM.al_take (f + 2) h5
            rw [List.take_take, Nat.min_eq_left hf2, HT.out, RM.al_app, ha, Bool.and_false] at h6
            cases h6))
        have HXS := Lib.hid hX
        clear ha hX hX1 hX2 hXs x2
        go_wp2_with (go_at_call 48; rw [HXS.out]; refine (HP.out _).mono ?_; rintro e w4 ⟨rfl, rfl⟩)
        refine bodyPost_ret (v := .agg #[.int .i64 0, .int .u32 0, .slice none 0 0, .int .u8 0]) (by simp [results, Tryd.results36, go_sem, r0, r1, r2, r3]) rfl ?_
        exact RrPost.no HNO.out (below_four hY.out.old (Nat.le_refl _) _ _ _ _)
      · rw [RM.hxv_yes ha] at HP
        have hbn := RM.hb_toNat X.data.toList ha hX2
        have HD' := Lib.hid (show RM.dg (bs ++ [RM.hb X.data.toList]) = D.data.toList.take (f + 2) by rw [RM.dg_snoc, hdg.out, HT.out, RM.hb_dg _ ha hX2])
        have hvb : (RM.hb X.data.toList).toNat < 256 := UInt8.toNat_lt _
        obtain ⟨bb, hbb⟩ : ∃ bb, RM.hb X.data.toList = bb := ⟨_, rfl⟩
        rw [hbb] at hbn hvb HD'
        have HBN := Lib.hid hbn
        rw [hbn] at hvb
        generalize NM.val 16 X.data.toList = N at *
        have HXS := Lib.hid hX
        have hj1000 : j ≤ 1000 := by have := hj.out; omega
        clear ha hX hX1 hX2 hXs hbn hbb r0 r1 r2 r3 rf
        go_wp2_with (first
          | (go_at_call 48; rw [HXS.out]; refine (HP.out _).mono ?_; rintro e w4 ⟨rfl, rfl⟩)
          | (at_builtin; refine wpList_append_lies _ rfl _ _ 28 rfl w.heap.size 5 i5 (.int .u8 0) 1 1 Tryd.underlying28 HI5.out.1 HI5.out.2.1 HI5.out.2.2.1 HI5.out.2.2.2 rfl (by decide) v j (byC bs) rfl (hY.out.own.alloc _) ⟨_, 0, none⟩ 1 1 [.int .u8 N] rfl rfl (S02.new_cell _ _ _) (fun u hu => by simp at hu; subst hu; rfl) (by decide) (by unfold maxLen; omega) (by omega) (by have := hY.out.old.size; simp; omega) _ rfl ?_; intro g' cap' w4 ho4 hg4 hv4 hl4; obtain ⟨y1, y2, y3⟩ := hY.out.step (b := bb) hg4 (by rw [HBN.out]; exact ho4); have HY4 := Lib.hid y3; clear y3 ho4 hg4 hv4 hl4))
        go_roundw
        case rel => exact ⟨j + 1, f + 2, bs ++ [bb], _, Lib.hid (by have := hj.out; omega), by omega, by go_num, Lib.hid (by rw [List.length_append, hbl.out]; rfl), HD', HY4⟩
        case measure => simp [intOf]; omega
    · have hlt' : decide (f < m) = false := by simpa using hlt
      obtain rfl : f = m := by omega
      have HE := Lib.hid (HNT.out (by rw [← hdg.out]; exact RM.al_dg _))
      rw [← hdg.out, RM.unh_dg] at HE
      obtain ⟨A1, c1, rfl⟩ := own_form hY.out.own
      obtain ⟨⟨r0, r1, r2, r3⟩, rf, x0, x1, x2, x3⟩ := hY.out.cells
      clear hlt
      go_wp2
      refine bodyPost_ret (v := .agg #[.int .i64 1, .int .u32 V, .slice A1 j c1, .int .u8 U]) (by simp [results, Tryd.results36, go_sem, r0, r1, r2, r3]) rfl ?_
      refine ⟨below_four hY.out.old (Nat.le_refl _) _ _ _ _, .inr ⟨_, .slice A1 j c1, HE.out, rfl, ?_⟩⟩
      simp only [hbl.out]
      exact own_four77 hY.out.own hY.out.rz
end Go.Proofs.YtcilhippjiichaaDoor
