/-
  What the reference's read answers at a line that tells the start. No condition but the line's length.
-/
import Derived.Test.YtcilhippjiichaaDoorGh
namespace Go.Proofs.YtcilhippjiichaaDoor
open Go.RowKit Go.Maps S02
theorem cut_of (s : ByteArray) (a b : Nat) : (s.extract a b).data.toList = (s.data.toList.drop a).take (b - a) := Lib.extract_data s a b
theorem tail_of (s : ByteArray) (a : Nat) : (s.extract a s.size).data.toList = s.data.toList.drop a := by
  rw [Lib.extract_data, List.take_of_length_le]
  rw [List.length_drop, NM.len_eq]
  omega
theorem byte_of (s : ByteArray) (k : Nat) (h : k < s.size) : s.data.toList.getD k 0 = s[k] := by
  rw [List.getD_eq_getElem?_getD, List.getElem?_eq_getElem (by simpa using h)]
  rfl
set_option maxHeartbeats 16000000 in
set_option maxRecDepth 100000 in
theorem rstart_byte (s : ByteArray) (w : World) (h17 : 17 ≤ s.size) (e1 : s.data.toList.take 6 = [115, 116, 97, 114, 116, 32]) (hb : s[14] ≠ 32) (HN : Hid (RM.rrd s.data.toList = none)) : Calls Tryd.prog 36 #[.string s] w (RrPost w s.data.toList) := by
  have HB := Lib.hid (below_one w (.cells #[.int .i64 0, .int .u32 0, .slice none 0 0, .int .u8 0] 77))
  have HI := Lib.hid (heap_alloc_new w (.cells #[.int .i64 0, .int .u32 0, .slice none 0 0, .int .u8 0] 77))
  have e4 : s.data.toList.take 4 = [115, 116, 97, 114] := by
    have := congrArg (List.take 4) e1
    rwa [List.take_take] at this
  have p4 : (s.extract 0 4).toList = [115, 116, 97, 114] := by rw [head_of]; exact e4
  have p6 : (s.extract 0 6).toList = [115, 116, 97, 114, 116, 32] := by rw [head_of]; exact e1
  have h4 : (4 : Int) < s.size := by omega
  have h6 : (6 : Int) < s.size := by omega
  have h17' : ¬ (s.size : Int) < 17 := by omega
  have hb' : ¬ (s[14].toNat : Int) = 32 := fun e => hb (UInt8.toNat_inj.mp (by have : (32 : UInt8).toNat = 32 := rfl; omega))
  clear e1 e4 hb
  go_enter Tryd.func36, Tryd.ntmps36
  go_upto_region 9 with fail
  obtain ⟨W0, hW0⟩ : ∃ W0, w.alloc (.cells #[.int .i64 0, .int .u32 0, .slice none 0 0, .int .u8 0] 77) = W0 := ⟨_, rfl⟩
  rw [hW0] at HB HI ⊢
  clear hW0
  have r0 := cell_of (o := 0) HI.out rfl
  have r1 := cell_of (o := 1) HI.out rfl
  have r2 := cell_of (o := 2) HI.out rfl
  have r3 := cell_of (o := 3) HI.out rfl
  have rf : ∀ o, W0.frozen? ⟨w.heap.size, o, none⟩ = false := fun o => unfrozen HI.out
  go_wp2
  refine bodyPost_ret (v := .agg #[.int .i64 0, .int .u32 0, .slice none 0 0, .int .u8 0]) (by simp [results, Tryd.results36, go_sem, r0, r1, r2, r3]) rfl ?_
  exact RrPost.no HN.out (below_four HB.out (Nat.le_refl _) _ _ _ _)
set_option maxHeartbeats 16000000 in
set_option maxRecDepth 100000 in
theorem rstart_long (s : ByteArray) (w : World) (h17 : 17 ≤ s.size) (e1 : s.data.toList.take 6 = [115, 116, 97, 114, 116, 32]) (hb : (s[14].toNat : Int) = 32) (hz : s.size ≠ 17) (HN : Hid (RM.rrd s.data.toList = none)) : Calls Tryd.prog 36 #[.string s] w (RrPost w s.data.toList) := by
  have HB := Lib.hid (below_one w (.cells #[.int .i64 0, .int .u32 0, .slice none 0 0, .int .u8 0] 77))
  have HI := Lib.hid (heap_alloc_new w (.cells #[.int .i64 0, .int .u32 0, .slice none 0 0, .int .u8 0] 77))
  have e4 : s.data.toList.take 4 = [115, 116, 97, 114] := by
    have := congrArg (List.take 4) e1
    rwa [List.take_take] at this
  have p4 : (s.extract 0 4).toList = [115, 116, 97, 114] := by rw [head_of]; exact e4
  have p6 : (s.extract 0 6).toList = [115, 116, 97, 114, 116, 32] := by rw [head_of]; exact e1
  have h4 : (4 : Int) < s.size := by omega
  have h6 : (6 : Int) < s.size := by omega
  have h17' : ¬ (s.size : Int) < 17 := by omega
  obtain ⟨A, hA⟩ : ∃ A, s.extract 6 14 = A := ⟨_, rfl⟩
  have hAd : A.data.toList = (s.data.toList.drop 6).take 8 := by rw [← hA, cut_of]
  have HA := Lib.hid (fun W => hexes_any A W (by rw [← NM.len_eq, hAd, List.length_take]; omega))
  rw [hAd] at HA
  obtain ⟨D, hD⟩ : ∃ D, s.extract 15 s.size = D := ⟨_, rfl⟩
  have hDs : D.size = s.size - 15 := by rw [← NM.len_eq, ← hD, tail_of, List.length_drop, NM.len_eq]
  have hDd : D.data.toList = s.data.toList.drop 15 := by rw [← hD, tail_of]
  have hd2 : ¬ (D.size : Int) = 2 := by omega
  generalize RM.hxv ((s.data.toList.drop 6).take 8) = V at *
  clear e1 e4 hDs hDd hAd
  go_enter Tryd.func36, Tryd.ntmps36
  go_upto_region 9 with fail
  obtain ⟨W0, hW0⟩ : ∃ W0, w.alloc (.cells #[.int .i64 0, .int .u32 0, .slice none 0 0, .int .u8 0] 77) = W0 := ⟨_, rfl⟩
  rw [hW0] at HB HI ⊢
  clear hW0
  have r0 := cell_of (o := 0) HI.out rfl
  have r1 := cell_of (o := 1) HI.out rfl
  have r2 := cell_of (o := 2) HI.out rfl
  have r3 := cell_of (o := 3) HI.out rfl
  have rf : ∀ o, W0.frozen? ⟨w.heap.size, o, none⟩ = false := fun o => unfrozen HI.out
  go_wp2_with (first | (go_at_call 48; refine (HA.out _).mono ?_; rintro e w2 ⟨rfl, rfl⟩))
  refine bodyPost_ret (v := .agg #[.int .i64 0, .int .u32 0, .slice none 0 0, .int .u8 0]) (by simp [results, Tryd.results36, go_sem, r0, r1, r2, r3]) rfl ?_
  exact RrPost.no HN.out (below_four HB.out (Nat.le_refl _) _ _ _ _)
set_option maxHeartbeats 16000000 in
set_option maxRecDepth 100000 in
theorem rstart_addr (s : ByteArray) (w : World) (h17 : 17 ≤ s.size) (e1 : s.data.toList.take 6 = [115, 116, 97, 114, 116, 32]) (hb : (s[14].toNat : Int) = 32) (hz : s.size = 17) (ha : NM.al 16 ((s.data.toList.drop 6).take 8) = false) (HN : Hid (RM.rrd s.data.toList = none)) : Calls Tryd.prog 36 #[.string s] w (RrPost w s.data.toList) := by
  have HB := Lib.hid (below_one w (.cells #[.int .i64 0, .int .u32 0, .slice none 0 0, .int .u8 0] 77))
  have HI := Lib.hid (heap_alloc_new w (.cells #[.int .i64 0, .int .u32 0, .slice none 0 0, .int .u8 0] 77))
  have e4 : s.data.toList.take 4 = [115, 116, 97, 114] := by
    have := congrArg (List.take 4) e1
    rwa [List.take_take] at this
  have p4 : (s.extract 0 4).toList = [115, 116, 97, 114] := by rw [head_of]; exact e4
  have p6 : (s.extract 0 6).toList = [115, 116, 97, 114, 116, 32] := by rw [head_of]; exact e1
  have h4 : (4 : Int) < s.size := by omega
  have h6 : (6 : Int) < s.size := by omega
  have h17' : ¬ (s.size : Int) < 17 := by omega
  obtain ⟨A, hA⟩ : ∃ A, s.extract 6 14 = A := ⟨_, rfl⟩
  have hAd : A.data.toList = (s.data.toList.drop 6).take 8 := by rw [← hA, cut_of]
  have HA := Lib.hid (fun W => hexes_any A W (by rw [← NM.len_eq, hAd, List.length_take]; omega))
  rw [hAd] at HA
  obtain ⟨D, hD⟩ : ∃ D, s.extract 15 s.size = D := ⟨_, rfl⟩
  have hDs : D.size = s.size - 15 := by rw [← NM.len_eq, ← hD, tail_of, List.length_drop, NM.len_eq]
  have hDd : D.data.toList = s.data.toList.drop 15 := by rw [← hD, tail_of]
  have hd2 : (D.size : Int) = 2 := by omega
  rw [RM.hxv_no ha] at HA
  clear e1 e4 hDs hDd hAd hz ha
  go_enter Tryd.func36, Tryd.ntmps36
  go_upto_region 9 with fail
  obtain ⟨W0, hW0⟩ : ∃ W0, w.alloc (.cells #[.int .i64 0, .int .u32 0, .slice none 0 0, .int .u8 0] 77) = W0 := ⟨_, rfl⟩
  rw [hW0] at HB HI ⊢
  clear hW0
  have r0 := cell_of (o := 0) HI.out rfl
  have r1 := cell_of (o := 1) HI.out rfl
  have r2 := cell_of (o := 2) HI.out rfl
  have r3 := cell_of (o := 3) HI.out rfl
  have rf : ∀ o, W0.frozen? ⟨w.heap.size, o, none⟩ = false := fun o => unfrozen HI.out
  go_wp2_with (first | (go_at_call 48; refine (HA.out _).mono ?_; rintro e w2 ⟨rfl, rfl⟩))
  refine bodyPost_ret (v := .agg #[.int .i64 0, .int .u32 0, .slice none 0 0, .int .u8 0]) (by simp [results, Tryd.results36, go_sem, r0, r1, r2, r3]) rfl ?_
  exact RrPost.no HN.out (below_four HB.out (Nat.le_refl _) _ _ _ _)
set_option maxHeartbeats 16000000 in
set_option maxRecDepth 100000 in
theorem rstart_sum (s : ByteArray) (w : World) (h17 : 17 ≤ s.size) (e1 : s.data.toList.take 6 = [115, 116, 97, 114, 116, 32]) (hb : (s[14].toNat : Int) = 32) (hz : s.size = 17) (ha : NM.al 16 ((s.data.toList.drop 6).take 8) = true) (hs : NM.al 16 (s.data.toList.drop 15) = false) (HN : Hid (RM.rrd s.data.toList = none)) : Calls Tryd.prog 36 #[.string s] w (RrPost w s.data.toList) := by
  have HB := Lib.hid (below_one w (.cells #[.int .i64 0, .int .u32 0, .slice none 0 0, .int .u8 0] 77))
  have HI := Lib.hid (heap_alloc_new w (.cells #[.int .i64 0, .int .u32 0, .slice none 0 0, .int .u8 0] 77))
  have e4 : s.data.toList.take 4 = [115, 116, 97, 114] := by
    have := congrArg (List.take 4) e1
    rwa [List.take_take] at this
  have p4 : (s.extract 0 4).toList = [115, 116, 97, 114] := by rw [head_of]; exact e4
  have p6 : (s.extract 0 6).toList = [115, 116, 97, 114, 116, 32] := by rw [head_of]; exact e1
  have h4 : (4 : Int) < s.size := by omega
  have h6 : (6 : Int) < s.size := by omega
  have h17' : ¬ (s.size : Int) < 17 := by omega
  obtain ⟨A, hA⟩ : ∃ A, s.extract 6 14 = A := ⟨_, rfl⟩
  have hAd : A.data.toList = (s.data.toList.drop 6).take 8 := by rw [← hA, cut_of]
  have HA := Lib.hid (fun W => hexes_any A W (by rw [← NM.len_eq, hAd, List.length_take]; omega))
  rw [hAd] at HA
  obtain ⟨D, hD⟩ : ∃ D, s.extract 15 s.size = D := ⟨_, rfl⟩
  have hDs : D.size = s.size - 15 := by rw [← NM.len_eq, ← hD, tail_of, List.length_drop, NM.len_eq]
  have hDd : D.data.toList = s.data.toList.drop 15 := by rw [← hD, tail_of]
  have hd2 : (D.size : Int) = 2 := by omega
  have HD := Lib.hid (fun W => hexes_any D W (by omega))
  rw [RM.hxv_yes ha] at HA
  rw [hDd, RM.hxv_no hs] at HD
  generalize NM.val 16 ((s.data.toList.drop 6).take 8) = V at *
  clear e1 e4 hDs hDd hAd hz ha hs
  go_enter Tryd.func36, Tryd.ntmps36
  go_upto_region 9 with fail
  obtain ⟨W0, hW0⟩ : ∃ W0, w.alloc (.cells #[.int .i64 0, .int .u32 0, .slice none 0 0, .int .u8 0] 77) = W0 := ⟨_, rfl⟩
  rw [hW0] at HB HI ⊢
  clear hW0
  have r0 := cell_of (o := 0) HI.out rfl
  have r1 := cell_of (o := 1) HI.out rfl
  have r2 := cell_of (o := 2) HI.out rfl
  have r3 := cell_of (o := 3) HI.out rfl
  have rf : ∀ o, W0.frozen? ⟨w.heap.size, o, none⟩ = false := fun o => unfrozen HI.out
  go_upto_region 12 with (go_at_call 48; refine (HA.out _).mono ?_; rintro e w2 ⟨rfl, rfl⟩)
  go_wp2_with (go_at_call 48; refine (HD.out _).mono ?_; rintro e w2 ⟨rfl, rfl⟩)
  refine bodyPost_ret (v := .agg #[.int .i64 0, .int .u32 0, .slice none 0 0, .int .u8 0]) (by simp [results, Tryd.results36, go_sem, r0, r1, r2, r3]) rfl ?_
  exact RrPost.no HN.out (below_four HB.out (Nat.le_refl _) _ _ _ _)
set_option maxHeartbeats 16000000 in
set_option maxRecDepth 100000 in
theorem rstart_yes (s : ByteArray) (w : World) (h17 : 17 ≤ s.size) (e1 : s.data.toList.take 6 = [115, 116, 97, 114, 116, 32]) (hb : (s[14].toNat : Int) = 32) (hz : s.size = 17) (ha : NM.al 16 ((s.data.toList.drop 6).take 8) = true) (hs : NM.al 16 (s.data.toList.drop 15) = true) (HN : Hid (RM.rrd s.data.toList = some ⟨3, NM.val 16 ((s.data.toList.drop 6).take 8), [], NM.val 16 (s.data.toList.drop 15)⟩)) : Calls Tryd.prog 36 #[.string s] w (RrPost w s.data.toList) := by
  have HB := Lib.hid (below_one w (.cells #[.int .i64 0, .int .u32 0, .slice none 0 0, .int .u8 0] 77))
  have HI := Lib.hid (heap_alloc_new w (.cells #[.int .i64 0, .int .u32 0, .slice none 0 0, .int .u8 0] 77))
  have e4 : s.data.toList.take 4 = [115, 116, 97, 114] := by
    have := congrArg (List.take 4) e1
    rwa [List.take_take] at this
  have p4 : (s.extract 0 4).toList = [115, 116, 97, 114] := by rw [head_of]; exact e4
  have p6 : (s.extract 0 6).toList = [115, 116, 97, 114, 116, 32] := by rw [head_of]; exact e1
  have h4 : (4 : Int) < s.size := by omega
  have h6 : (6 : Int) < s.size := by omega
  have h17' : ¬ (s.size : Int) < 17 := by omega
  obtain ⟨A, hA⟩ : ∃ A, s.extract 6 14 = A := ⟨_, rfl⟩
  have hAd : A.data.toList = (s.data.toList.drop 6).take 8 := by rw [← hA, cut_of]
  have HA := Lib.hid (fun W => hexes_any A W (by rw [← NM.len_eq, hAd, List.length_take]; omega))
  rw [hAd] at HA
  obtain ⟨D, hD⟩ : ∃ D, s.extract 15 s.size = D := ⟨_, rfl⟩
  have hDs : D.size = s.size - 15 := by rw [← NM.len_eq, ← hD, tail_of, List.length_drop, NM.len_eq]
  have hDd : D.data.toList = s.data.toList.drop 15 := by rw [← hD, tail_of]
  have hd2 : (D.size : Int) = 2 := by omega
  have HD := Lib.hid (fun W => hexes_any D W (by omega))
  rw [RM.hxv_yes ha] at HA
  rw [hDd, RM.hxv_yes hs] at HD
  have hv : NM.val 16 ((s.data.toList.drop 6).take 8) < 4294967296 := RM.val_top ha (by rw [List.length_take]; omega)
  have hu : NM.val 16 (s.data.toList.drop 15) < 16 ^ 2 := RM.val_lt' hs (by rw [List.length_drop, NM.len_eq, hz]) (by decide)
  have hu' : NM.val 16 (s.data.toList.drop 15) < 256 := hu
  generalize NM.val 16 ((s.data.toList.drop 6).take 8) = V at *
  generalize NM.val 16 (s.data.toList.drop 15) = U at *
  clear e1 e4 hDs hDd hAd hz ha hs hu
  go_enter Tryd.func36, Tryd.ntmps36
  go_upto_region 9 with fail
  obtain ⟨W0, hW0⟩ : ∃ W0, w.alloc (.cells #[.int .i64 0, .int .u32 0, .slice none 0 0, .int .u8 0] 77) = W0 := ⟨_, rfl⟩
  rw [hW0] at HB HI ⊢
  clear hW0
  have r0 := cell_of (o := 0) HI.out rfl
  have r1 := cell_of (o := 1) HI.out rfl
  have r2 := cell_of (o := 2) HI.out rfl
  have r3 := cell_of (o := 3) HI.out rfl
  have rf : ∀ o, W0.frozen? ⟨w.heap.size, o, none⟩ = false := fun o => unfrozen HI.out
  go_upto_region 12 with (go_at_call 48; refine (HA.out _).mono ?_; rintro e w2 ⟨rfl, rfl⟩)
  go_wp2_with (go_at_call 48; refine (HD.out _).mono ?_; rintro e w2 ⟨rfl, rfl⟩)
  refine bodyPost_ret (v := .agg #[.int .i64 3, .int .u32 V, .slice none 0 0, .int .u8 U]) (by simp [results, Tryd.results36, go_sem, r0, r1, r2, r3]) rfl ?_
  exact ⟨below_four HB.out (Nat.le_refl _) _ _ _ _, .inr ⟨_, .slice none 0 0, HN.out, rfl, World.ownsRow_nil _ _ _ _⟩⟩
end Go.Proofs.YtcilhippjiichaaDoor
