/-
  What the reference's Hexes answers, of at most eight bytes: the number that they are as digits, -1 if they are none.
  What the reference's read answers, where a line's head is none. No condition but the line's length.
-/
import Derived.Test.YtcilhippjiichaaDoorMathE

/-! WalkV -/
namespace Go.Proofs.YtcilhippjiichaaDoor
open Go.RowKit Go.Maps S02
namespace RM
/-- The number that digits are; -1: they are none. -/
def hxv (l : List UInt8) : Int := if NM.al 16 l = true then (NM.val 16 l : Nat) else -1
theorem hxv_no {l : List UInt8} (h : NM.al 16 l = false) : hxv l = -1 := by unfold hxv; rw [h]; rfl
theorem hxv_yes {l : List UInt8} (h : NM.al 16 l = true) : hxv l = (NM.val 16 l : Nat) := by unfold hxv; rw [if_pos h]
theorem al_cut {l : List UInt8} (k : Nat) (h : NM.al 16 (l.take k) = false) : NM.al 16 l = false := by
  cases e : NM.al 16 l with
  | false => rfl
  | true => rw [NM.al_take k e] at h; cases h
theorem val_top {l : List UInt8} (h : NM.al 16 l = true) (h8 : l.length ≤ 8) : NM.val 16 l < 4294967296 := by
  rcases NM.val_lt 16 l h with h1 | h1
  · have : (16 : Nat) ^ l.length ≤ 16 ^ 8 := Nat.pow_le_pow_right (by decide) h8
    have e : (16 : Nat) ^ 8 = 4294967296 := by decide
    omega
  · omega
end RM
set_option maxHeartbeats 4000000 in
set_option maxRecDepth 100000 in
theorem hexes_any (s : ByteArray) (w : World) (hs : s.size ≤ 8) : Calls Tryd.prog 48 #[.string s] w fun e w' => e = .returned (.int .i64 (RM.hxv s.data.toList)) ∧ w = w' := by
  have HL := Lib.hid (NM.len_eq s)
  go_enter Tryd.func48, Tryd.ntmps48
  go_wp2
  go_loopw [3, 4] (fun v i wr => ∃ k n : Nat, k ≤ s.size ∧ i = .int .i64 k ∧ v = .int .i64 n ∧ n < 4294967296 ∧ Hid (NM.al 16 (s.data.toList.take k) = true ∧ n = NM.val 16 (s.data.toList.take k)) ∧ wr = w) (fun _ i _ => s.size - (intOf i).toNat)
  case atStart => exact ⟨0, 0, by omega, rfl, rfl, by decide, Lib.hid ⟨rfl, rfl⟩, rfl⟩
  case round =>
    obtain ⟨k, n, hk, rfl, rfl, hn, hA, rfl⟩ := hrel
    by_cases hlt : k < s.size
    · have HT := Lib.hid (NM.take_snoc s k hlt)
      by_cases hd : NM.dv s[k] < 16
      · have HV := Lib.hid (NM.rvl_yes s[k] hd)
        have HN := Lib.hid (show NM.al 16 (s.data.toList.take (k + 1)) = true ∧ n * 16 + NM.dv s[k] = NM.val 16 (s.data.toList.take (k + 1)) by
          rw [HT.out, NM.al_snoc, NM.val_snoc, hA.out.1, ← hA.out.2]
          exact ⟨by simpa using hd, rfl⟩)
        have hn2 := RM.val_top HN.out.1 (by rw [List.length_take, HL.out]; omega)
        rw [← HN.out.2] at hn2
        have HC := Lib.hid (fun W => rvalue_any s[k] W)
        rw [HV.out] at HC
        clear HV
        generalize NM.dv s[k] = d at *
        go_wp2_with (go_at_call 59; refine (HC.out _).mono ?_; rintro e w4 ⟨rfl, rfl⟩)
        go_roundw
        case rel => exact ⟨k + 1, n * 16 + d, by omega, by go_num, by go_num, hn2, HN, by trivial⟩
        case measure => simp [intOf]; omega
      · have HV := Lib.hid (NM.rvl_no s[k] hd)
        have HE := Lib.hid (show RM.hxv s.data.toList = -1 from RM.hxv_no (RM.al_cut (k + 1) (by rw [HT.out, NM.al_snoc, decide_eq_false hd, Bool.and_false])))
        have HC := Lib.hid (fun W => rvalue_any s[k] W)
        rw [HV.out] at HC
        clear HV hd
        go_wp2_with (go_at_call 59; refine (HC.out _).mono ?_; rintro e w4 ⟨rfl, rfl⟩)
        go_ret
        exact ⟨S02.ret_int HE.out.symm, rfl⟩
    · have hlt' : decide (k < s.size) = false := by simpa using hlt
      obtain rfl : k = s.size := by omega
      have HE := Lib.hid (show RM.hxv s.data.toList = (n : Int) by
        have h := hA.out
        rw [NM.take_all s _ (Nat.le_refl _)] at h
        rw [RM.hxv_yes h.1, ← h.2])
      clear hlt
      go_wp2
      go_ret
      exact ⟨S02.ret_int HE.out.symm, rfl⟩
end Go.Proofs.YtcilhippjiichaaDoor
/-! WalkW -/
namespace Go.Proofs.YtcilhippjiichaaDoor
open Go.RowKit Go.Maps S02
/-- A line as the reference has it. -/
def rwV (k a : Nat) (v : Value) (s : Nat) : Value := .agg #[.int .i64 k, .int .u32 a, v, .int .u8 s]
/-- What read leaves. -/
def RrPost (w : World) (l : List UInt8) (e : Ending) (w' : World) : Prop :=
  Below w.heap.size w w' ∧ ((RM.rrd l = none ∧ e = .returned (rwV 0 0 (.slice none 0 0) 0)) ∨
    (∃ (x : RM.Ln) (v : Value), RM.rrd l = some x ∧ e = .returned (rwV x.k x.a v x.s) ∧ w'.ownsRow w.heap.size 5 1 v x.bs.length (byC x.bs)))
theorem RrPost.no {w w' : World} {l : List UInt8} (h : RM.rrd l = none) (hb : Below w.heap.size w w') : RrPost w l (.returned (.agg #[.int .i64 0, .int .u32 0, .slice none 0 0, .int .u8 0])) w' := ⟨hb, .inl ⟨h, rfl⟩⟩
theorem head_of (s : ByteArray) (n : Nat) : (s.extract 0 n).toList = s.data.toList.take n := by
  rw [ByteArray.toList_eq, Lib.extract_data, List.drop_zero, Nat.sub_zero]
theorem head_not {s : ByteArray} {n : Nat} {l : List UInt8} (h : s.data.toList.take n ≠ l) : ((s.extract 0 n).toList == l) = false ∧ ¬ (s.extract 0 n).toList = l := by
  rw [head_of]
  exact ⟨by simpa using h, h⟩
namespace RM
theorem rrd_head {l : List UInt8} (h : rHd l = 0 ∨ l.length < rF l + 11) : rrd l = none := by
  unfold rrd
  rw [if_pos (h.elim .inl (fun h => .inr (.inl h)))]
theorem rF_ge (l : List UInt8) : 4 ≤ rF l := by unfold rF; split <;> omega
end RM
set_option maxHeartbeats 8000000 in
theorem read_tiny (s : ByteArray) (w : World) (hs : s.size ≤ 4) : Calls Tryd.prog 36 #[.string s] w (RrPost w s.data.toList) := by
  have hlen := NM.len_eq s
  have HN := Lib.hid (RM.rrd_head (l := s.data.toList) (.inr (by have := RM.rF_ge s.data.toList; omega)))
  have HB := Lib.hid (below_one w (.cells #[.int .i64 0, .int .u32 0, .slice none 0 0, .int .u8 0] 77))
  have HI := Lib.hid (heap_alloc_new w (.cells #[.int .i64 0, .int .u32 0, .slice none 0 0, .int .u8 0] 77))
  have h4 : ¬ (4 : Int) < s.size := by omega
  have h6 : ¬ (6 : Int) < s.size := by omega
  clear hlen
  go_enter Tryd.func36, Tryd.ntmps36
  go_upto_region 10 with fail
  obtain ⟨W0, hW0⟩ : ∃ W0, w.alloc (.cells #[.int .i64 0, .int .u32 0, .slice none 0 0, .int .u8 0] 77) = W0 := ⟨_, rfl⟩
  rw [hW0] at HB HI ⊢
  clear hW0
  have r0 := cell_of (o := 0) HI.out rfl
  have r1 := cell_of (o := 1) HI.out rfl
  have r2 := cell_of (o := 2) HI.out rfl
  have r3 := cell_of (o := 3) HI.out rfl
  have rf : ∀ o, W0.frozen? ⟨w.heap.size, o, none⟩ = false := fun o => unfrozen HI.out
  go_wp2
  refine bodyPost_ret (v := .agg #[.int .i64 0, .int .u32 0, .slice none 0 0, .int .u8 0]) (by simp [results, Tryd.results36, go_sem, r0, r1, r2, r3]) rfl ?_
  exact RrPost.no HN.out (below_four HB.out (Nat.le_refl _) _ _ _ _)
theorem ne6 {s : ByteArray} {l : List UInt8} (h : s.data.toList.take 4 = l) (h' : l ≠ [115, 116, 97, 114]) : s.data.toList.take 6 ≠ [115, 116, 97, 114, 116, 32] := fun e => by
  have := congrArg (List.take 4) e
  rw [List.take_take] at this
  exact h' (h.symm.trans this)
set_option maxHeartbeats 16000000 in
theorem read_seg (s : ByteArray) (w : World) (h5 : 4 < s.size) (e1 : s.data.toList.take 4 = [115, 101, 103, 32]) (h0 : RM.rHd s.data.toList = 0 ∨ s.data.toList.length < RM.rF s.data.toList + 11) : Calls Tryd.prog 36 #[.string s] w (RrPost w s.data.toList) := by
  have hlen := NM.len_eq s
  have HN := Lib.hid (RM.rrd_head h0)
  have HB := Lib.hid (below_one w (.cells #[.int .i64 0, .int .u32 0, .slice none 0 0, .int .u8 0] 77))
  have HI := Lib.hid (heap_alloc_new w (.cells #[.int .i64 0, .int .u32 0, .slice none 0 0, .int .u8 0] 77))
  have h4 : (4 : Int) < s.size := by omega
  have hsh : (s.size : Int) < 15 := by
    have q1 : RM.rHd s.data.toList = 1 := by unfold RM.rHd; rw [if_pos ⟨by omega, e1⟩]
    unfold RM.rF at h0
    rw [q1, if_neg (by decide)] at h0
    omega
  have p4 : (s.extract 0 4).toList = [115, 101, 103, 32] := by rw [head_of]; exact e1
  obtain ⟨p6, p7⟩ := head_not (s := s) (n := 6) (ne6 e1 (by decide))
  clear h0 hlen e1
  by_cases h6 : (6 : Int) < s.size
  · go_enter Tryd.func36, Tryd.ntmps36
    go_upto_region 10 with fail
    obtain ⟨W0, hW0⟩ : ∃ W0, w.alloc (.cells #[.int .i64 0, .int .u32 0, .slice none 0 0, .int .u8 0] 77) = W0 := ⟨_, rfl⟩
    rw [hW0] at HB HI ⊢
    clear hW0
    have r0 := cell_of (o := 0) HI.out rfl
    have r1 := cell_of (o := 1) HI.out rfl
    have r2 := cell_of (o := 2) HI.out rfl
    have r3 := cell_of (o := 3) HI.out rfl
    have rf : ∀ o, W0.frozen? ⟨w.heap.size, o, none⟩ = false := fun o => unfrozen HI.out
    go_wp2
    refine bodyPost_ret (v := .agg #[.int .i64 0, .int .u32 0, .slice none 0 0, .int .u8 0]) (by simp [results, Tryd.results36, go_sem, r0, r1, r2, r3]) rfl ?_
    exact RrPost.no HN.out (below_four HB.out (Nat.le_refl _) _ _ _ _)
  · go_enter Tryd.func36, Tryd.ntmps36
    go_upto_region 10 with fail
    obtain ⟨W0, hW0⟩ : ∃ W0, w.alloc (.cells #[.int .i64 0, .int .u32 0, .slice none 0 0, .int .u8 0] 77) = W0 := ⟨_, rfl⟩
    rw [hW0] at HB HI ⊢
    clear hW0
    have r0 := cell_of (o := 0) HI.out rfl
    have r1 := cell_of (o := 1) HI.out rfl
    have r2 := cell_of (o := 2) HI.out rfl
    have r3 := cell_of (o := 3) HI.out rfl
    have rf : ∀ o, W0.frozen? ⟨w.heap.size, o, none⟩ = false := fun o => unfrozen HI.out
    go_wp2
    refine bodyPost_ret (v := .agg #[.int .i64 0, .int .u32 0, .slice none 0 0, .int .u8 0]) (by simp [results, Tryd.results36, go_sem, r0, r1, r2, r3]) rfl ?_
    exact RrPost.no HN.out (below_four HB.out (Nat.le_refl _) _ _ _ _)
set_option maxHeartbeats 16000000 in
theorem read_and (s : ByteArray) (w : World) (h5 : 4 < s.size) (e1 : s.data.toList.take 4 = [97, 110, 100, 32]) (h0 : RM.rHd s.data.toList = 0 ∨ s.data.toList.length < RM.rF s.data.toList + 11) : Calls Tryd.prog 36 #[.string s] w (RrPost w s.data.toList) := by
  have hlen := NM.len_eq s
  have HN := Lib.hid (RM.rrd_head h0)
  have HB := Lib.hid (below_one w (.cells #[.int .i64 0, .int .u32 0, .slice none 0 0, .int .u8 0] 77))
  have HI := Lib.hid (heap_alloc_new w (.cells #[.int .i64 0, .int .u32 0, .slice none 0 0, .int .u8 0] 77))
  have h4 : (4 : Int) < s.size := by omega
  have hsh : (s.size : Int) < 15 := by
    have q1 : RM.rHd s.data.toList = 2 := by unfold RM.rHd; rw [if_neg (fun h => by rw [e1] at h; exact absurd h.2 (by decide)), if_pos ⟨by omega, e1⟩]
    unfold RM.rF at h0
    rw [q1, if_neg (by decide)] at h0
    omega
  have p4 : (s.extract 0 4).toList = [97, 110, 100, 32] := by rw [head_of]; exact e1
  obtain ⟨p6, p7⟩ := head_not (s := s) (n := 6) (ne6 e1 (by decide))
  clear h0 hlen e1
  by_cases h6 : (6 : Int) < s.size
  · go_enter Tryd.func36, Tryd.ntmps36
    go_upto_region 10 with fail
    obtain ⟨W0, hW0⟩ : ∃ W0, w.alloc (.cells #[.int .i64 0, .int .u32 0, .slice none 0 0, .int .u8 0] 77) = W0 := ⟨_, rfl⟩
    rw [hW0] at HB HI ⊢
    clear hW0
    have r0 := cell_of (o := 0) HI.out rfl
    have r1 := cell_of (o := 1) HI.out rfl
    have r2 := cell_of (o := 2) HI.out rfl
    have r3 := cell_of (o := 3) HI.out rfl
    have rf : ∀ o, W0.frozen? ⟨w.heap.size, o, none⟩ = false := fun o => unfrozen HI.out
    go_wp2
    refine bodyPost_ret (v := .agg #[.int .i64 0, .int .u32 0, .slice none 0 0, .int .u8 0]) (by simp [results, Tryd.results36, go_sem, r0, r1, r2, r3]) rfl ?_
    exact RrPost.no HN.out (below_four HB.out (Nat.le_refl _) _ _ _ _)
  · go_enter Tryd.func36, Tryd.ntmps36
    go_upto_region 10 with fail
    obtain ⟨W0, hW0⟩ : ∃ W0, w.alloc (.cells #[.int .i64 0, .int .u32 0, .slice none 0 0, .int .u8 0] 77) = W0 := ⟨_, rfl⟩
    rw [hW0] at HB HI ⊢
    clear hW0
    have r0 := cell_of (o := 0) HI.out rfl
    have r1 := cell_of (o := 1) HI.out rfl
    have r2 := cell_of (o := 2) HI.out rfl
    have r3 := cell_of (o := 3) HI.out rfl
    have rf : ∀ o, W0.frozen? ⟨w.heap.size, o, none⟩ = false := fun o => unfrozen HI.out
    go_wp2
    refine bodyPost_ret (v := .agg #[.int .i64 0, .int .u32 0, .slice none 0 0, .int .u8 0]) (by simp [results, Tryd.results36, go_sem, r0, r1, r2, r3]) rfl ?_
    exact RrPost.no HN.out (below_four HB.out (Nat.le_refl _) _ _ _ _)
set_option maxHeartbeats 16000000 in
theorem read_start (s : ByteArray) (w : World) (h5 : 6 < s.size) (e1 : s.data.toList.take 6 = [115, 116, 97, 114, 116, 32]) (h0 : RM.rHd s.data.toList = 0 ∨ s.data.toList.length < RM.rF s.data.toList + 11) : Calls Tryd.prog 36 #[.string s] w (RrPost w s.data.toList) := by
  have hlen := NM.len_eq s
  have HN := Lib.hid (RM.rrd_head h0)
  have HB := Lib.hid (below_one w (.cells #[.int .i64 0, .int .u32 0, .slice none 0 0, .int .u8 0] 77))
  have HI := Lib.hid (heap_alloc_new w (.cells #[.int .i64 0, .int .u32 0, .slice none 0 0, .int .u8 0] 77))
  have h4 : (4 : Int) < s.size := by omega
  have h6 : (6 : Int) < s.size := by omega
  have e4 : s.data.toList.take 4 = [115, 116, 97, 114] := by
    have := congrArg (List.take 4) e1
    rwa [List.take_take] at this
  have hsh : (s.size : Int) < 17 := by
    have q1 : RM.rHd s.data.toList = 3 := by unfold RM.rHd; rw [if_neg (fun h => by rw [e4] at h; exact absurd h.2 (by decide)), if_neg (fun h => by rw [e4] at h; exact absurd h.2 (by decide)), if_pos ⟨by omega, e1⟩]
    unfold RM.rF at h0
    rw [q1, if_pos rfl] at h0
    omega
  have p4 : (s.extract 0 4).toList = [115, 116, 97, 114] := by rw [head_of]; exact e4
  have p6 : (s.extract 0 6).toList = [115, 116, 97, 114, 116, 32] := by rw [head_of]; exact e1
  clear h0 hlen e1 e4
  go_enter Tryd.func36, Tryd.ntmps36
  go_upto_region 10 with fail
  obtain ⟨W0, hW0⟩ : ∃ W0, w.alloc (.cells #[.int .i64 0, .int .u32 0, .slice none 0 0, .int .u8 0] 77) = W0 := ⟨_, rfl⟩
  rw [hW0] at HB HI ⊢
  clear hW0
  have r0 := cell_of (o := 0) HI.out rfl
  have r1 := cell_of (o := 1) HI.out rfl
  have r2 := cell_of (o := 2) HI.out rfl
  have r3 := cell_of (o := 3) HI.out rfl
  have rf : ∀ o, W0.frozen? ⟨w.heap.size, o, none⟩ = false := fun o => unfrozen HI.out
  go_wp2
  refine bodyPost_ret (v := .agg #[.int .i64 0, .int .u32 0, .slice none 0 0, .int .u8 0]) (by simp [results, Tryd.results36, go_sem, r0, r1, r2, r3]) rfl ?_
  exact RrPost.no HN.out (below_four HB.out (Nat.le_refl _) _ _ _ _)
set_option maxHeartbeats 16000000 in
theorem read_other (s : ByteArray) (w : World) (h5 : 4 < s.size) (e1 : s.data.toList.take 4 ≠ [115, 101, 103, 32]) (e2 : s.data.toList.take 4 ≠ [97, 110, 100, 32]) (e3 : 6 < s.size → s.data.toList.take 6 ≠ [115, 116, 97, 114, 116, 32]) : Calls Tryd.prog 36 #[.string s] w (RrPost w s.data.toList) := by
  have h0 : RM.rHd s.data.toList = 0 ∨ s.data.toList.length < RM.rF s.data.toList + 11 := .inl (by
    unfold RM.rHd
    rw [if_neg (fun h => e1 h.2), if_neg (fun h => e2 h.2), if_neg (fun h => e3 (by rw [NM.len_eq] at h; exact h.1) h.2)])
  have hlen := NM.len_eq s
  have HN := Lib.hid (RM.rrd_head h0)
  have HB := Lib.hid (below_one w (.cells #[.int .i64 0, .int .u32 0, .slice none 0 0, .int .u8 0] 77))
  have HI := Lib.hid (heap_alloc_new w (.cells #[.int .i64 0, .int .u32 0, .slice none 0 0, .int .u8 0] 77))
  have h4 : (4 : Int) < s.size := by omega
  obtain ⟨p1, p2⟩ := head_not e1
  obtain ⟨p3, p4⟩ := head_not e2
  clear h0 hlen e1 e2
  by_cases h6 : (6 : Int) < s.size
  · obtain ⟨p5, p6⟩ := head_not (e3 (by omega))
    clear e3
    go_enter Tryd.func36, Tryd.ntmps36
    go_upto_region 10 with fail
    obtain ⟨W0, hW0⟩ : ∃ W0, w.alloc (.cells #[.int .i64 0, .int .u32 0, .slice none 0 0, .int .u8 0] 77) = W0 := ⟨_, rfl⟩
    rw [hW0] at HB HI ⊢
    clear hW0
    have r0 := cell_of (o := 0) HI.out rfl
    have r1 := cell_of (o := 1) HI.out rfl
    have r2 := cell_of (o := 2) HI.out rfl
    have r3 := cell_of (o := 3) HI.out rfl
    have rf : ∀ o, W0.frozen? ⟨w.heap.size, o, none⟩ = false := fun o => unfrozen HI.out
    go_wp2
    refine bodyPost_ret (v := .agg #[.int .i64 0, .int .u32 0, .slice none 0 0, .int .u8 0]) (by simp [results, Tryd.results36, go_sem, r0, r1, r2, r3]) rfl ?_
    exact RrPost.no HN.out (below_four HB.out (Nat.le_refl _) _ _ _ _)
  · clear e3
    go_enter Tryd.func36, Tryd.ntmps36
    go_upto_region 10 with fail
    obtain ⟨W0, hW0⟩ : ∃ W0, w.alloc (.cells #[.int .i64 0, .int .u32 0, .slice none 0 0, .int .u8 0] 77) = W0 := ⟨_, rfl⟩
    rw [hW0] at HB HI ⊢
    clear hW0
    have r0 := cell_of (o := 0) HI.out rfl
    have r1 := cell_of (o := 1) HI.out rfl
    have r2 := cell_of (o := 2) HI.out rfl
    have r3 := cell_of (o := 3) HI.out rfl
    have rf : ∀ o, W0.frozen? ⟨w.heap.size, o, none⟩ = false := fun o => unfrozen HI.out
    go_wp2
    refine bodyPost_ret (v := .agg #[.int .i64 0, .int .u32 0, .slice none 0 0, .int .u8 0]) (by simp [results, Tryd.results36, go_sem, r0, r1, r2, r3]) rfl ?_
    exact RrPost.no HN.out (below_four HB.out (Nat.le_refl _) _ _ _ _)
theorem read_head (s : ByteArray) (w : World) (h0 : RM.rHd s.data.toList = 0 ∨ s.data.toList.length < RM.rF s.data.toList + 11) : Calls Tryd.prog 36 #[.string s] w (RrPost w s.data.toList) := by
  by_cases h5 : 4 < s.size
  · by_cases e1 : s.data.toList.take 4 = [115, 101, 103, 32]
    · exact read_seg s w h5 e1 h0
    · by_cases e2 : s.data.toList.take 4 = [97, 110, 100, 32]
      · exact read_and s w h5 e2 h0
      · by_cases e3 : 6 < s.size ∧ s.data.toList.take 6 = [115, 116, 97, 114, 116, 32]
        · exact read_start s w e3.1 e3.2 h0
        · exact read_other s w h5 e1 e2 fun h h' => e3 ⟨h, h'⟩
  · exact read_tiny s w (by omega)
end Go.Proofs.YtcilhippjiichaaDoor
