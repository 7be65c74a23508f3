/-
  What the reference's read answers at a line of bytes whose parts are none. No condition but the line's length.
-/
import Derived.Test.YtcilhippjiichaaDoorWalkY
namespace Go.Proofs.YtcilhippjiichaaDoor
open Go.RowKit Go.Maps S02
set_option maxHeartbeats 16000000 in
set_option maxRecDepth 100000 in
theorem rand_byte (s : ByteArray) (w : World) (h15 : 15 ≤ s.size) (hsz : s.size ≤ 100000) (e1 : s.data.toList.take 4 = [97, 110, 100, 32]) (hb : ¬ (s[12].toNat : Int) = 32) (HN : Hid (RM.rrd s.data.toList = none)) : Calls Tryd.prog 36 #[.string s] w (RrPost w s.data.toList) := by
  have HB := Lib.hid (below_one w (.cells #[.int .i64 0, .int .u32 0, .slice none 0 0, .int .u8 0] 77))
  have HI := Lib.hid (heap_alloc_new w (.cells #[.int .i64 0, .int .u32 0, .slice none 0 0, .int .u8 0] 77))
  have p4 : (s.extract 0 4).toList = [97, 110, 100, 32] := by rw [head_of]; exact e1
  obtain ⟨p6, p7⟩ := head_not (s := s) (n := 6) (ne6 e1 (by decide))
  have h4 : (4 : Int) < s.size := by omega
  have h6 : (6 : Int) < s.size := by omega
  have h15' : ¬ (s.size : Int) < 15 := by omega
  clear e1
  go_enter Tryd.func36, Tryd.ntmps36
  go_upto_region 9 with fail
  obtain ⟨W0, hW0⟩ : ∃ W0, w.alloc (.cells #[.int .i64 0, .int .u32 0, .slice none 0 0, .int .u8 0] 77) = W0 := ⟨_, rfl⟩
  rw [hW0] at HB HI ⊢
  clear hW0
  have r0 := cell_of (o := 0) HI.out rfl
  have r1 := cell_of (o := 1) HI.out rfl
  have r2 := cell_of (o := 2) HI.out rfl
  have r3 := cell_of (o := 3) HI.out rfl
  have rf : ∀ o, W0.frozen? ⟨w.heap.size, o, none⟩ = false := fun o => unfrozen HI.out
  go_wp2
  refine bodyPost_ret (v := .agg #[.int .i64 0, .int .u32 0, .slice none 0 0, .int .u8 0]) (by simp [results, Tryd.results36, go_sem, r0, r1, r2, r3]) rfl ?_
  exact RrPost.no HN.out (below_four HB.out (Nat.le_refl _) _ _ _ _)
set_option maxHeartbeats 16000000 in
set_option maxRecDepth 100000 in
theorem rand_addr (s : ByteArray) (w : World) (h15 : 15 ≤ s.size) (hsz : s.size ≤ 100000) (e1 : s.data.toList.take 4 = [97, 110, 100, 32]) (hb : (s[12].toNat : Int) = 32) (ha : NM.al 16 ((s.data.toList.drop 4).take 8) = false) (HN : Hid (RM.rrd s.data.toList = none)) : Calls Tryd.prog 36 #[.string s] w (RrPost w s.data.toList) := by
  have HB := Lib.hid (below_one w (.cells #[.int .i64 0, .int .u32 0, .slice none 0 0, .int .u8 0] 77))
  have HI := Lib.hid (heap_alloc_new w (.cells #[.int .i64 0, .int .u32 0, .slice none 0 0, .int .u8 0] 77))
  have p4 : (s.extract 0 4).toList = [97, 110, 100, 32] := by rw [head_of]; exact e1
  obtain ⟨p6, p7⟩ := head_not (s := s) (n := 6) (ne6 e1 (by decide))
  have h4 : (4 : Int) < s.size := by omega
  have h6 : (6 : Int) < s.size := by omega
  have h15' : ¬ (s.size : Int) < 15 := by omega
  obtain ⟨A, hA⟩ : ∃ A, s.extract 4 12 = A := ⟨_, rfl⟩
  have hAd : A.data.toList = (s.data.toList.drop 4).take 8 := by rw [← hA, cut_of]
  have HA := Lib.hid (fun W => hexes_any A W (by rw [← NM.len_eq, hAd, List.length_take]; omega))
  rw [hAd] at HA
  obtain ⟨D, hD⟩ : ∃ D, s.extract 13 s.size = D := ⟨_, rfl⟩
  have hDs : D.size = s.size - 13 := by rw [← NM.len_eq, ← hD, tail_of, List.length_drop, NM.len_eq]
  have hDd : D.data.toList = s.data.toList.drop 13 := by rw [← hD, tail_of]
  rw [RM.hxv_no ha] at HA
  have hd2 : (2 : Int) ≤ D.size := by omega
  clear e1 hDs hDd hAd ha
  go_enter Tryd.func36, Tryd.ntmps36
  go_upto_region 9 with fail
  obtain ⟨W0, hW0⟩ : ∃ W0, w.alloc (.cells #[.int .i64 0, .int .u32 0, .slice none 0 0, .int .u8 0] 77) = W0 := ⟨_, rfl⟩
  rw [hW0] at HB HI ⊢
  clear hW0
  have r0 := cell_of (o := 0) HI.out rfl
  have r1 := cell_of (o := 1) HI.out rfl
  have r2 := cell_of (o := 2) HI.out rfl
  have r3 := cell_of (o := 3) HI.out rfl
  have rf : ∀ o, W0.frozen? ⟨w.heap.size, o, none⟩ = false := fun o => unfrozen HI.out
  go_upto_region 12 with (go_at_call 48; refine (HA.out _).mono ?_; rintro e w2 ⟨rfl, rfl⟩)
  go_wp2
  refine bodyPost_ret (v := .agg #[.int .i64 0, .int .u32 0, .slice none 0 0, .int .u8 0]) (by simp [results, Tryd.results36, go_sem, r0, r1, r2, r3]) rfl ?_
  exact RrPost.no HN.out (below_four HB.out (Nat.le_refl _) _ _ _ _)
set_option maxHeartbeats 16000000 in
set_option maxRecDepth 100000 in
theorem rand_few (s : ByteArray) (w : World) (h15 : 15 ≤ s.size) (hsz : s.size ≤ 100000) (e1 : s.data.toList.take 4 = [97, 110, 100, 32]) (hb : (s[12].toNat : Int) = 32) (ha : NM.al 16 ((s.data.toList.drop 4).take 8) = true) (hz : s.size < 18) (HN : Hid (RM.rrd s.data.toList = none)) : Calls Tryd.prog 36 #[.string s] w (RrPost w s.data.toList) := by
  have HB := Lib.hid (below_one w (.cells #[.int .i64 0, .int .u32 0, .slice none 0 0, .int .u8 0] 77))
  have HI := Lib.hid (heap_alloc_new w (.cells #[.int .i64 0, .int .u32 0, .slice none 0 0, .int .u8 0] 77))
  have p4 : (s.extract 0 4).toList = [97, 110, 100, 32] := by rw [head_of]; exact e1
  obtain ⟨p6, p7⟩ := head_not (s := s) (n := 6) (ne6 e1 (by decide))
  have h4 : (4 : Int) < s.size := by omega
  have h6 : (6 : Int) < s.size := by omega
  have h15' : ¬ (s.size : Int) < 15 := by omega
  obtain ⟨A, hA⟩ : ∃ A, s.extract 4 12 = A := ⟨_, rfl⟩
  have hAd : A.data.toList = (s.data.toList.drop 4).take 8 := by rw [← hA, cut_of]
  have HA := Lib.hid (fun W => hexes_any A W (by rw [← NM.len_eq, hAd, List.length_take]; omega))
  rw [hAd] at HA
  obtain ⟨D, hD⟩ : ∃ D, s.extract 13 s.size = D := ⟨_, rfl⟩
  have hDs : D.size = s.size - 13 := by rw [← NM.len_eq, ← hD, tail_of, List.length_drop, NM.len_eq]
  have hDd : D.data.toList = s.data.toList.drop 13 := by rw [← hD, tail_of]
  rw [RM.hxv_yes ha] at HA
  generalize NM.val 16 ((s.data.toList.drop 4).take 8) = V at *
  have hd2 : (D.size : Int) - 3 < 2 := by omega
  have hd3 : (2 : Int) ≤ D.size := by omega
  clear e1 hDs hDd hAd ha hz
  go_enter Tryd.func36, Tryd.ntmps36
  go_upto_region 9 with fail
  obtain ⟨W0, hW0⟩ : ∃ W0, w.alloc (.cells #[.int .i64 0, .int .u32 0, .slice none 0 0, .int .u8 0] 77) = W0 := ⟨_, rfl⟩
  rw [hW0] at HB HI ⊢
  clear hW0
  have r0 := cell_of (o := 0) HI.out rfl
  have r1 := cell_of (o := 1) HI.out rfl
  have r2 := cell_of (o := 2) HI.out rfl
  have r3 := cell_of (o := 3) HI.out rfl
  have rf : ∀ o, W0.frozen? ⟨w.heap.size, o, none⟩ = false := fun o => unfrozen HI.out
  go_upto_region 12 with (go_at_call 48; refine (HA.out _).mono ?_; rintro e w2 ⟨rfl, rfl⟩)
  go_wp2
  refine bodyPost_ret (v := .agg #[.int .i64 0, .int .u32 0, .slice none 0 0, .int .u8 0]) (by simp [results, Tryd.results36, go_sem, r0, r1, r2, r3]) rfl ?_
  exact RrPost.no HN.out (below_four HB.out (Nat.le_refl _) _ _ _ _)
set_option maxHeartbeats 16000000 in
set_option maxRecDepth 100000 in
theorem rand_many (s : ByteArray) (w : World) (h15 : 15 ≤ s.size) (hsz : s.size ≤ 100000) (e1 : s.data.toList.take 4 = [97, 110, 100, 32]) (hb : (s[12].toNat : Int) = 32) (ha : NM.al 16 ((s.data.toList.drop 4).take 8) = true) (hz : 48 < s.size) (HN : Hid (RM.rrd s.data.toList = none)) : Calls Tryd.prog 36 #[.string s] w (RrPost w s.data.toList) := by
  have HB := Lib.hid (below_one w (.cells #[.int .i64 0, .int .u32 0, .slice none 0 0, .int .u8 0] 77))
  have HI := Lib.hid (heap_alloc_new w (.cells #[.int .i64 0, .int .u32 0, .slice none 0 0, .int .u8 0] 77))
  have p4 : (s.extract 0 4).toList = [97, 110, 100, 32] := by rw [head_of]; exact e1
  obtain ⟨p6, p7⟩ := head_not (s := s) (n := 6) (ne6 e1 (by decide))
  have h4 : (4 : Int) < s.size := by omega
  have h6 : (6 : Int) < s.size := by omega
  have h15' : ¬ (s.size : Int) < 15 := by omega
  obtain ⟨A, hA⟩ : ∃ A, s.extract 4 12 = A := ⟨_, rfl⟩
  have hAd : A.data.toList = (s.data.toList.drop 4).take 8 := by rw [← hA, cut_of]
  have HA := Lib.hid (fun W => hexes_any A W (by rw [← NM.len_eq, hAd, List.length_take]; omega))
  rw [hAd] at HA
  obtain ⟨D, hD⟩ : ∃ D, s.extract 13 s.size = D := ⟨_, rfl⟩
  have hDs : D.size = s.size - 13 := by rw [← NM.len_eq, ← hD, tail_of, List.length_drop, NM.len_eq]
  have hDd : D.data.toList = s.data.toList.drop 13 := by rw [← hD, tail_of]
  rw [RM.hxv_yes ha] at HA
  generalize NM.val 16 ((s.data.toList.drop 4).take 8) = V at *
  obtain ⟨m, hm⟩ : ∃ m, s.size = m + 16 := ⟨s.size - 16, by omega⟩
  have hDm : D.size = m + 3 := by omega
  have hd2 : ¬ (m : Int) < 2 := by omega
  have hd3 : (32 : Int) < m := by omega
  have hd4 : (m : Int) ≤ 100000 := by omega
  clear e1 hDs hDd hAd ha hz hm
  go_enter Tryd.func36, Tryd.ntmps36
  go_upto_region 9 with fail
  obtain ⟨W0, hW0⟩ : ∃ W0, w.alloc (.cells #[.int .i64 0, .int .u32 0, .slice none 0 0, .int .u8 0] 77) = W0 := ⟨_, rfl⟩
  rw [hW0] at HB HI ⊢
  clear hW0
  have r0 := cell_of (o := 0) HI.out rfl
  have r1 := cell_of (o := 1) HI.out rfl
  have r2 := cell_of (o := 2) HI.out rfl
  have r3 := cell_of (o := 3) HI.out rfl
  have rf : ∀ o, W0.frozen? ⟨w.heap.size, o, none⟩ = false := fun o => unfrozen HI.out
  go_upto_region 12 with (go_at_call 48; refine (HA.out _).mono ?_; rintro e w2 ⟨rfl, rfl⟩)
  go_wp2
  refine bodyPost_ret (v := .agg #[.int .i64 0, .int .u32 0, .slice none 0 0, .int .u8 0]) (by simp [results, Tryd.results36, go_sem, r0, r1, r2, r3]) rfl ?_
  exact RrPost.no HN.out (below_four HB.out (Nat.le_refl _) _ _ _ _)
set_option maxHeartbeats 16000000 in
set_option maxRecDepth 100000 in
theorem rand_odd (s : ByteArray) (w : World) (h15 : 15 ≤ s.size) (hsz : s.size ≤ 100000) (e1 : s.data.toList.take 4 = [97, 110, 100, 32]) (hb : (s[12].toNat : Int) = 32) (ha : NM.al 16 ((s.data.toList.drop 4).take 8) = true) (hz : 18 ≤ s.size) (hy : s.size ≤ 48) (ho : s.size % 2 = 1) (HN : Hid (RM.rrd s.data.toList = none)) : Calls Tryd.prog 36 #[.string s] w (RrPost w s.data.toList) := by
  have HB := Lib.hid (below_one w (.cells #[.int .i64 0, .int .u32 0, .slice none 0 0, .int .u8 0] 77))
  have HI := Lib.hid (heap_alloc_new w (.cells #[.int .i64 0, .int .u32 0, .slice none 0 0, .int .u8 0] 77))
  have p4 : (s.extract 0 4).toList = [97, 110, 100, 32] := by rw [head_of]; exact e1
  obtain ⟨p6, p7⟩ := head_not (s := s) (n := 6) (ne6 e1 (by decide))
  have h4 : (4 : Int) < s.size := by omega
  have h6 : (6 : Int) < s.size := by omega
  have h15' : ¬ (s.size : Int) < 15 := by omega
  obtain ⟨A, hA⟩ : ∃ A, s.extract 4 12 = A := ⟨_, rfl⟩
  have hAd : A.data.toList = (s.data.toList.drop 4).take 8 := by rw [← hA, cut_of]
  have HA := Lib.hid (fun W => hexes_any A W (by rw [← NM.len_eq, hAd, List.length_take]; omega))
  rw [hAd] at HA
  obtain ⟨D, hD⟩ : ∃ D, s.extract 13 s.size = D := ⟨_, rfl⟩
  have hDs : D.size = s.size - 13 := by rw [← NM.len_eq, ← hD, tail_of, List.length_drop, NM.len_eq]
  have hDd : D.data.toList = s.data.toList.drop 13 := by rw [← hD, tail_of]
  rw [RM.hxv_yes ha] at HA
  generalize NM.val 16 ((s.data.toList.drop 4).take 8) = V at *
  obtain ⟨m, hm⟩ : ∃ m, s.size = m + 16 := ⟨s.size - 16, by omega⟩
  have hDm : D.size = m + 3 := by omega
  have hd2 : ¬ (m : Int) < 2 := by omega
  have hd3 : ¬ (32 : Int) < m := by omega
  have hd4 : (m : Int) % 2 = 1 := by omega
  clear e1 hDs hDd hAd ha hz hm hy ho
  go_enter Tryd.func36, Tryd.ntmps36
  go_upto_region 9 with fail
  obtain ⟨W0, hW0⟩ : ∃ W0, w.alloc (.cells #[.int .i64 0, .int .u32 0, .slice none 0 0, .int .u8 0] 77) = W0 := ⟨_, rfl⟩
  rw [hW0] at HB HI ⊢
  clear hW0
  have r0 := cell_of (o := 0) HI.out rfl
  have r1 := cell_of (o := 1) HI.out rfl
  have r2 := cell_of (o := 2) HI.out rfl
  have r3 := cell_of (o := 3) HI.out rfl
  have rf : ∀ o, W0.frozen? ⟨w.heap.size, o, none⟩ = false := fun o => unfrozen HI.out
  go_upto_region 12 with (go_at_call 48; refine (HA.out _).mono ?_; rintro e w2 ⟨rfl, rfl⟩)
  go_wp2
  refine bodyPost_ret (v := .agg #[.int .i64 0, .int .u32 0, .slice none 0 0, .int .u8 0]) (by simp [results, Tryd.results36, go_sem, r0, r1, r2, r3]) rfl ?_
  exact RrPost.no HN.out (below_four HB.out (Nat.le_refl _) _ _ _ _)
set_option maxHeartbeats 16000000 in
set_option maxRecDepth 100000 in
theorem rand_gap (s : ByteArray) (w : World) (h15 : 15 ≤ s.size) (hsz : s.size ≤ 100000) (e1 : s.data.toList.take 4 = [97, 110, 100, 32]) (hb : (s[12].toNat : Int) = 32) (ha : NM.al 16 ((s.data.toList.drop 4).take 8) = true) (hz : 18 ≤ s.size) (hy : s.size ≤ 48) (ho : s.size % 2 = 0) (hg : (s.data.toList.drop 13).getD (s.size - 16) 0 ≠ 32) (HN : Hid (RM.rrd s.data.toList = none)) : Calls Tryd.prog 36 #[.string s] w (RrPost w s.data.toList) := by
  have HB := Lib.hid (below_one w (.cells #[.int .i64 0, .int .u32 0, .slice none 0 0, .int .u8 0] 77))
  have HI := Lib.hid (heap_alloc_new w (.cells #[.int .i64 0, .int .u32 0, .slice none 0 0, .int .u8 0] 77))
  have p4 : (s.extract 0 4).toList = [97, 110, 100, 32] := by rw [head_of]; exact e1
  obtain ⟨p6, p7⟩ := head_not (s := s) (n := 6) (ne6 e1 (by decide))
  have h4 : (4 : Int) < s.size := by omega
  have h6 : (6 : Int) < s.size := by omega
  have h15' : ¬ (s.size : Int) < 15 := by omega
  obtain ⟨A, hA⟩ : ∃ A, s.extract 4 12 = A := ⟨_, rfl⟩
  have hAd : A.data.toList = (s.data.toList.drop 4).take 8 := by rw [← hA, cut_of]
  have HA := Lib.hid (fun W => hexes_any A W (by rw [← NM.len_eq, hAd, List.length_take]; omega))
  rw [hAd] at HA
  obtain ⟨D, hD⟩ : ∃ D, s.extract 13 s.size = D := ⟨_, rfl⟩
  have hDs : D.size = s.size - 13 := by rw [← NM.len_eq, ← hD, tail_of, List.length_drop, NM.len_eq]
  have hDd : D.data.toList = s.data.toList.drop 13 := by rw [← hD, tail_of]
  rw [RM.hxv_yes ha] at HA
  generalize NM.val 16 ((s.data.toList.drop 4).take 8) = V at *
  obtain ⟨m, hm⟩ : ∃ m, s.size = m + 16 := ⟨s.size - 16, by omega⟩
  have hDm : D.size = m + 3 := by omega
  have hd2 : ¬ (m : Int) < 2 := by omega
  have hd3 : ¬ (32 : Int) < m := by omega
  have hd4 : (m : Int) % 2 = 0 := by omega
  have hmD : m < D.size := by omega
  have hd5 : ¬ (D[m].toNat : Int) = 32 := fun e => hg (by
    rw [← hDd, show s.size - 16 = m by omega, byte_of D m hmD]
    exact UInt8.toNat_inj.mp (by have : (32 : UInt8).toNat = 32 := rfl; omega))
  clear e1 hDs hDd hAd ha hz hm hy ho hg
  go_enter Tryd.func36, Tryd.ntmps36
  go_upto_region 9 with fail
  obtain ⟨W0, hW0⟩ : ∃ W0, w.alloc (.cells #[.int .i64 0, .int .u32 0, .slice none 0 0, .int .u8 0] 77) = W0 := ⟨_, rfl⟩
  rw [hW0] at HB HI ⊢
  clear hW0
  have r0 := cell_of (o := 0) HI.out rfl
  have r1 := cell_of (o := 1) HI.out rfl
  have r2 := cell_of (o := 2) HI.out rfl
  have r3 := cell_of (o := 3) HI.out rfl
  have rf : ∀ o, W0.frozen? ⟨w.heap.size, o, none⟩ = false := fun o => unfrozen HI.out
  go_upto_region 12 with (go_at_call 48; refine (HA.out _).mono ?_; rintro e w2 ⟨rfl, rfl⟩)
  go_wp2
  refine bodyPost_ret (v := .agg #[.int .i64 0, .int .u32 0, .slice none 0 0, .int .u8 0]) (by simp [results, Tryd.results36, go_sem, r0, r1, r2, r3]) rfl ?_
  exact RrPost.no HN.out (below_four HB.out (Nat.le_refl _) _ _ _ _)
set_option maxHeartbeats 16000000 in
set_option maxRecDepth 100000 in
theorem rand_sum (s : ByteArray) (w : World) (h15 : 15 ≤ s.size) (hsz : s.size ≤ 100000) (e1 : s.data.toList.take 4 = [97, 110, 100, 32]) (hb : (s[12].toNat : Int) = 32) (ha : NM.al 16 ((s.data.toList.drop 4).take 8) = true) (hz : 18 ≤ s.size) (hy : s.size ≤ 48) (ho : s.size % 2 = 0) (hg : (s.data.toList.drop 13).getD (s.size - 16) 0 = 32) (hs : NM.al 16 ((s.data.toList.drop 13).drop (s.size - 15)) = false) (HN : Hid (RM.rrd s.data.toList = none)) : Calls Tryd.prog 36 #[.string s] w (RrPost w s.data.toList) := by
  have HB := Lib.hid (below_one w (.cells #[.int .i64 0, .int .u32 0, .slice none 0 0, .int .u8 0] 77))
  have HI := Lib.hid (heap_alloc_new w (.cells #[.int .i64 0, .int .u32 0, .slice none 0 0, .int .u8 0] 77))
  have p4 : (s.extract 0 4).toList = [97, 110, 100, 32] := by rw [head_of]; exact e1
  obtain ⟨p6, p7⟩ := head_not (s := s) (n := 6) (ne6 e1 (by decide))
  have h4 : (4 : Int) < s.size := by omega
  have h6 : (6 : Int) < s.size := by omega
  have h15' : ¬ (s.size : Int) < 15 := by omega
  obtain ⟨A, hA⟩ : ∃ A, s.extract 4 12 = A := ⟨_, rfl⟩
  have hAd : A.data.toList = (s.data.toList.drop 4).take 8 := by rw [← hA, cut_of]
  have HA := Lib.hid (fun W => hexes_any A W (by rw [← NM.len_eq, hAd, List.length_take]; omega))
  rw [hAd] at HA
  obtain ⟨D, hD⟩ : ∃ D, s.extract 13 s.size = D := ⟨_, rfl⟩
  have hDs : D.size = s.size - 13 := by rw [← NM.len_eq, ← hD, tail_of, List.length_drop, NM.len_eq]
  have hDd : D.data.toList = s.data.toList.drop 13 := by rw [← hD, tail_of]
  rw [RM.hxv_yes ha] at HA
  generalize NM.val 16 ((s.data.toList.drop 4).take 8) = V at *
  obtain ⟨m, hm⟩ : ∃ m, s.size = m + 16 := ⟨s.size - 16, by omega⟩
  have hDm : D.size = m + 3 := by omega
  have hd2 : ¬ (m : Int) < 2 := by omega
  have hd3 : ¬ (32 : Int) < m := by omega
  have hd4 : (m : Int) % 2 = 0 := by omega
  have hmD : m < D.size := by omega
  have hd5 : (D[m].toNat : Int) = 32 := by
    have := byte_of D m hmD
    rw [show s.size - 16 = m by omega] at hg
    rw [hDd, hg] at this
    rw [← this]
    rfl
  obtain ⟨S, hS⟩ : ∃ S, D.extract (m + 1) D.size = S := ⟨_, rfl⟩
  have hSd : S.data.toList = (s.data.toList.drop 13).drop (s.size - 15) := by rw [← hS, tail_of, hDd, show m + 1 = s.size - 15 by omega]
  have hS2 : S.size = 2 := by rw [← NM.len_eq, hSd, List.length_drop, List.length_drop, NM.len_eq]; omega
  rw [hDm] at hS
  have HS := Lib.hid (fun W => hexes_any S W (by omega))
  rw [hSd] at HS
  rw [RM.hxv_no hs] at HS
  clear e1 hDs hDd hAd ha hz hm hy ho hg hSd hS2 hs
  go_enter Tryd.func36, Tryd.ntmps36
  go_upto_region 9 with fail
  obtain ⟨W0, hW0⟩ : ∃ W0, w.alloc (.cells #[.int .i64 0, .int .u32 0, .slice none 0 0, .int .u8 0] 77) = W0 := ⟨_, rfl⟩
  rw [hW0] at HB HI ⊢
  clear hW0
  have r0 := cell_of (o := 0) HI.out rfl
  have r1 := cell_of (o := 1) HI.out rfl
  have r2 := cell_of (o := 2) HI.out rfl
  have r3 := cell_of (o := 3) HI.out rfl
  have rf : ∀ o, W0.frozen? ⟨w.heap.size, o, none⟩ = false := fun o => unfrozen HI.out
  go_upto_region 12 with (go_at_call 48; refine (HA.out _).mono ?_; rintro e w2 ⟨rfl, rfl⟩)
  go_wp2_with (go_at_call 48; refine (HS.out _).mono ?_; rintro e w2 ⟨rfl, rfl⟩)
  refine bodyPost_ret (v := .agg #[.int .i64 0, .int .u32 0, .slice none 0 0, .int .u8 0]) (by simp [results, Tryd.results36, go_sem, r0, r1, r2, r3]) rfl ?_
  exact RrPost.no HN.out (below_four HB.out (Nat.le_refl _) _ _ _ _)
end Go.Proofs.YtcilhippjiichaaDoor
