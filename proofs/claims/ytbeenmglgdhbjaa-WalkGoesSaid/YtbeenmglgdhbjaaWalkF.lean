/-
  The letters of an entry's flags. For every entry.
-/
import Derived.Test.YtbeenmglgdhbjaaWalkE
import Derived.Test.YtbeenmglgdhbjaaS10WalkC
import Derived.Lib.SlBytesConst
namespace Go.Proofs.Ytbeenmglgdhbjaa
open Go.RowKit Go.Maps S01 S10 S11 S12
/-- A text under work: the letters of the flags, the first k looked at. -/
def Tx (w : World) (s : Nat) (b : Int) (k : Nat) : Prop := w.heap[s]? = some (.cells (byC (WK.fk b k)).toArray 5 (6, 7))
theorem Tx.below {w w1 : World} {s : Nat} {b : Int} {k : Nat} (h : Tx w s b k) (hb : Below w.heap.size w w1) : Tx w1 s b k := (hb.block s (lt_of_heap h)).trans h
theorem Tx.cell {w : World} {s : Nat} {b : Int} {k j : Nat} (h : Tx w s b k) (hj : j < 6) : w.cell? ⟨s, j, none⟩ = some (.int .u8 ((WK.fk b k).getD j 0).toNat) :=
  cell_of h (by rw [List.getElem?_toArray]; exact byC_at (by rw [WK.fk_len]; exact hj))
theorem Tx.free {w : World} {s : Nat} {b : Int} {k j : Nat} (h : Tx w s b k) (hj : j < 6) : w.frozen? ⟨s, j, none⟩ = false := by
  simp [World.frozen?, show w.heap[s]? = _ from h]
  omega
theorem Tx.set {w : World} {s : Nat} {b : Int} {k : Nat} (h : Tx w s b k) (hb : PT.bt b (k + 1) = false) : Tx (w.setCell ⟨s, k, none⟩ (.int .u8 45)) s b (k + 1) := by
  unfold Tx
  rw [heap_set h, WK.fk_off hb]
  congr 2
  rw [List.setIfInBounds_toArray]
  congr 1
  rw [byC, byC, List.map_set]
  rfl
theorem Tx.on {w : World} {s : Nat} {b : Int} {k : Nat} (h : Tx w s b k) (hb : PT.bt b (k + 1) = true) : Tx w s b (k + 1) := by
  unfold Tx
  rw [WK.fk_on hb]
  exact h
theorem Tx.new (w : World) (b : Int) : Tx (w.alloc (.cells #[.int .u8 114, .int .u8 119, .int .u8 120, .int .u8 117, .int .u8 116, .int .u8 100] 5 (6, 7))) w.heap.size b 0 := by
  unfold Tx
  rw [WK.fk_zero]
  exact heap_alloc_new w _
theorem Tx.text {w : World} {s : Nat} {b : Int} (h : Tx w s b 6) : (convert 22 9 (.slice (some ⟨s, 0, none⟩) 6 6)).run Try.prog w = .ok (.string ⟨(WK.fs b).toArray⟩) w := by
  have e := run_convert_bytes_back (P := Try.prog) w 22 9 5 ⟨s, 0, none⟩ 6 (WK.fs b) Try.underlying22 Try.underlying5 Try.underlying9 (fun j hj => by
    have hj' : j < 6 := by rw [WK.fs, WK.fk_len] at hj; exact hj
    rw [S10.add_plain, Nat.zero_add, h.cell hj', List.getD_eq_getElem?_getD]
    show some (Value.int .u8 (((WK.fs b)[j]?).getD 0).toNat) = _
    rw [List.getElem?_eq_getElem hj]
    rfl)
  rw [WK.fs, WK.fk_len] at e
  exact e
set_option maxHeartbeats 3200000 in
theorem flags_any (b g : Int) (w : World) (h0 : 0 ≤ b) (h1 : b < 4294967296) :
    Calls Try.prog 36 #[PV b g] w fun e w' => e = .returned (tv (WK.fs b)) ∧ Below w.heap.size w w' := by
  have HM := Lib.hid (fun k hk => WK.bt_mask b k hk h0 h1)
  unfold PV
  go_enter Try.func36, Try.ntmps36
  go_upto_region 1 with fail
  have L0 := Lib.hid (Pk.new w b g)
  have B0 := Lib.hid (below_one w (.cells #[.int .u32 b, .int .i64 g] 26))
  have S0 := Lib.hid (show w.heap.size < (w.alloc (.cells #[.int .u32 b, .int .i64 g] 26)).heap.size by simp)
  generalize World.alloc w _ = W0 at L0 B0 S0 ⊢
  have kc := fun (w : World) (C : Array Value) (n c : Nat) => Lib.run_convert_bytes_const (P := Try.prog) w 22 5 C n c Try.underlying22 Try.underlying5
  go_upto_region 2 with fail
  clear kc
  have T1 := Lib.hid (Tx.new W0 b)
  have L1 := Lib.hid (L0.out.below (below_one W0 (.cells #[.int .u8 114, .int .u8 119, .int .u8 120, .int .u8 117, .int .u8 116, .int .u8 100] 5 (6, 7))))
  have B1 := Lib.hid (below_then B0.out (below_one W0 (.cells #[.int .u8 114, .int .u8 119, .int .u8 120, .int .u8 117, .int .u8 116, .int .u8 100] 5 (6, 7))))
  generalize World.alloc W0 _ = W1 at T1 L1 B1 ⊢
  generalize W0.heap.size = s at *
  clear L0 B0
  go_wp2
  go_loopw [9] (fun i wr => ∃ k : Nat, k ≤ 6 ∧ i = .int .i64 k ∧ Hid (Tx wr s b k) ∧ Hid (Pk wr w.heap.size b g) ∧ Hid (Below w.heap.size w wr)) (fun i _ => (6 - intOf i).toNat)
  case atStart => exact ⟨0, by omega, rfl, T1, L1, B1⟩
  case round =>
    clear T1 L1 B1
    obtain ⟨k, hk, rfl, T, L, B⟩ := hrel
    by_cases hlt : k < 6
    · have hm := HM.out (k + 1) (by omega)
      have c0 := L.out.c0
      have z := T.out.cell hlt
      have zf := T.out.free hlt
      generalize (((WK.fk b k).getD k 0).toNat : Int) = u at *
      obtain ⟨x, hx⟩ : ∃ x, PT.bt b (k + 1) = x := ⟨_, rfl⟩
      rw [hx] at hm
      have HX := Lib.hid hx
      clear hx HM
      have HS := Lib.hid hlt
      obtain rfl | rfl | rfl | rfl | rfl | rfl : k = 0 ∨ k = 1 ∨ k = 2 ∨ k = 3 ∨ k = 4 ∨ k = 5 := by omega
      · simp only [show ((2 ^ (0 + 1) : Nat) : Int) = 2 from rfl] at hm
        cases x
        · simp only [Bool.not_false] at hm
          go_wp2
          go_quiet (fail)
          have T2 := Lib.hid (T.out.below (below_drewN' wr nq))
          have L2 := Lib.hid (L.out.below (below_drewN' wr nq))
          have B2 := Lib.hid (below_then B.out (below_drewN' wr nq))
          have z2 := T2.out.cell HS.out
          have zf2 := T2.out.free HS.out
          have T3 := Lib.hid (T2.out.set HX.out)
          have L3 := Lib.hid (pk_other (s' := s) L2.out (by have := S0.out; omega) 0 (.int .u8 45))
          have B3 := Lib.hid (B2.out.setCell (p := ⟨s, 0, none⟩) (Nat.le_of_lt S0.out) (.int .u8 45))
          clear T2 L2 B2 T L B z zf c0
          generalize ((WK.fk b 0).getD 0 0) = u2 at *
          go_wp2
          go_roundw
          case rel => exact ⟨0 + 1, by omega, by go_num, T3, L3, B3⟩
          case measure => simp [intOf]
        · simp only [Bool.not_true] at hm
          go_wp2
          go_quiet (fail)
          have T3 := Lib.hid ((T.out.below (below_drewN' wr nq)).on HX.out)
          have L3 := Lib.hid (L.out.below (below_drewN' wr nq))
          have B3 := Lib.hid (below_then B.out (below_drewN' wr nq))
          clear T L B z zf c0
          go_wp2
          go_roundw
          case rel => exact ⟨0 + 1, by omega, by go_num, T3, L3, B3⟩
          case measure => simp [intOf]
      · simp only [show ((2 ^ (1 + 1) : Nat) : Int) = 4 from rfl] at hm
        cases x
        · simp only [Bool.not_false] at hm
          go_wp2
          go_quiet (fail)
          have T2 := Lib.hid (T.out.below (below_drewN' wr nq))
          have L2 := Lib.hid (L.out.below (below_drewN' wr nq))
          have B2 := Lib.hid (below_then B.out (below_drewN' wr nq))
          have z2 := T2.out.cell HS.out
          have zf2 := T2.out.free HS.out
          have T3 := Lib.hid (T2.out.set HX.out)
          have L3 := Lib.hid (pk_other (s' := s) L2.out (by have := S0.out; omega) 1 (.int .u8 45))
          have B3 := Lib.hid (B2.out.setCell (p := ⟨s, 1, none⟩) (Nat.le_of_lt S0.out) (.int .u8 45))
          clear T2 L2 B2 T L B z zf c0
          generalize ((WK.fk b 1).getD 1 0) = u2 at *
          go_wp2
          go_roundw
          case rel => exact ⟨1 + 1, by omega, by go_num, T3, L3, B3⟩
          case measure => simp [intOf]
        · simp only [Bool.not_true] at hm
          go_wp2
          go_quiet (fail)
          have T3 := Lib.hid ((T.out.below (below_drewN' wr nq)).on HX.out)
          have L3 := Lib.hid (L.out.below (below_drewN' wr nq))
          have B3 := Lib.hid (below_then B.out (below_drewN' wr nq))
          clear T L B z zf c0
          go_wp2
          go_roundw
          case rel => exact ⟨1 + 1, by omega, by go_num, T3, L3, B3⟩
          case measure => simp [intOf]
      · simp only [show ((2 ^ (2 + 1) : Nat) : Int) = 8 from rfl] at hm
        cases x
        · simp only [Bool.not_false] at hm
          go_wp2
          go_quiet (fail)
          have T2 := Lib.hid (T.out.below (below_drewN' wr nq))
          have L2 := Lib.hid (L.out.below (below_drewN' wr nq))
          have B2 := Lib.hid (below_then B.out (below_drewN' wr nq))
          have z2 := T2.out.cell HS.out
          have zf2 := T2.out.free HS.out
          have T3 := Lib.hid (T2.out.set HX.out)
          have L3 := Lib.hid (pk_other (s' := s) L2.out (by have := S0.out; omega) 2 (.int .u8 45))
          have B3 := Lib.hid (B2.out.setCell (p := ⟨s, 2, none⟩) (Nat.le_of_lt S0.out) (.int .u8 45))
          clear T2 L2 B2 T L B z zf c0
          generalize ((WK.fk b 2).getD 2 0) = u2 at *
          go_wp2
          go_roundw
          case rel => exact ⟨2 + 1, by omega, by go_num, T3, L3, B3⟩
          case measure => simp [intOf]
        · simp only [Bool.not_true] at hm
          go_wp2
          go_quiet (fail)
          have T3 := Lib.hid ((T.out.below (below_drewN' wr nq)).on HX.out)
          have L3 := Lib.hid (L.out.below (below_drewN' wr nq))
          have B3 := Lib.hid (below_then B.out (below_drewN' wr nq))
          clear T L B z zf c0
          go_wp2
          go_roundw
          case rel => exact ⟨2 + 1, by omega, by go_num, T3, L3, B3⟩
          case measure => simp [intOf]
      · simp only [show ((2 ^ (3 + 1) : Nat) : Int) = 16 from rfl] at hm
        cases x
        · simp only [Bool.not_false] at hm
          go_wp2
          go_quiet (fail)
          have T2 := Lib.hid (T.out.below (below_drewN' wr nq))
          have L2 := Lib.hid (L.out.below (below_drewN' wr nq))
          have B2 := Lib.hid (below_then B.out (below_drewN' wr nq))
          have z2 := T2.out.cell HS.out
          have zf2 := T2.out.free HS.out
          have T3 := Lib.hid (T2.out.set HX.out)
          have L3 := Lib.hid (pk_other (s' := s) L2.out (by have := S0.out; omega) 3 (.int .u8 45))
          have B3 := Lib.hid (B2.out.setCell (p := ⟨s, 3, none⟩) (Nat.le_of_lt S0.out) (.int .u8 45))
          clear T2 L2 B2 T L B z zf c0
          generalize ((WK.fk b 3).getD 3 0) = u2 at *
          go_wp2
          go_roundw
          case rel => exact ⟨3 + 1, by omega, by go_num, T3, L3, B3⟩
          case measure => simp [intOf]
        · simp only [Bool.not_true] at hm
          go_wp2
          go_quiet (fail)
          have T3 := Lib.hid ((T.out.below (below_drewN' wr nq)).on HX.out)
          have L3 := Lib.hid (L.out.below (below_drewN' wr nq))
          have B3 := Lib.hid (below_then B.out (below_drewN' wr nq))
          clear T L B z zf c0
          go_wp2
          go_roundw
          case rel => exact ⟨3 + 1, by omega, by go_num, T3, L3, B3⟩
          case measure => simp [intOf]
      · simp only [show ((2 ^ (4 + 1) : Nat) : Int) = 32 from rfl] at hm
        cases x
        · simp only [Bool.not_false] at hm
          go_wp2
          go_quiet (fail)
          have T2 := Lib.hid (T.out.below (below_drewN' wr nq))
          have L2 := Lib.hid (L.out.below (below_drewN' wr nq))
          have B2 := Lib.hid (below_then B.out (below_drewN' wr nq))
          have z2 := T2.out.cell HS.out
          have zf2 := T2.out.free HS.out
          have T3 := Lib.hid (T2.out.set HX.out)
          have L3 := Lib.hid (pk_other (s' := s) L2.out (by have := S0.out; omega) 4 (.int .u8 45))
          have B3 := Lib.hid (B2.out.setCell (p := ⟨s, 4, none⟩) (Nat.le_of_lt S0.out) (.int .u8 45))
          clear T2 L2 B2 T L B z zf c0
          generalize ((WK.fk b 4).getD 4 0) = u2 at *
          go_wp2
          go_roundw
          case rel => exact ⟨4 + 1, by omega, by go_num, T3, L3, B3⟩
          case measure => simp [intOf]
        · simp only [Bool.not_true] at hm
          go_wp2
          go_quiet (fail)
          have T3 := Lib.hid ((T.out.below (below_drewN' wr nq)).on HX.out)
          have L3 := Lib.hid (L.out.below (below_drewN' wr nq))
          have B3 := Lib.hid (below_then B.out (below_drewN' wr nq))
          clear T L B z zf c0
          go_wp2
          go_roundw
          case rel => exact ⟨4 + 1, by omega, by go_num, T3, L3, B3⟩
          case measure => simp [intOf]
      · simp only [show ((2 ^ (5 + 1) : Nat) : Int) = 64 from rfl] at hm
        cases x
        · simp only [Bool.not_false] at hm
          go_wp2
          go_quiet (fail)
          have T2 := Lib.hid (T.out.below (below_drewN' wr nq))
          have L2 := Lib.hid (L.out.below (below_drewN' wr nq))
          have B2 := Lib.hid (below_then B.out (below_drewN' wr nq))
          have z2 := T2.out.cell HS.out
          have zf2 := T2.out.free HS.out
          have T3 := Lib.hid (T2.out.set HX.out)
          have L3 := Lib.hid (pk_other (s' := s) L2.out (by have := S0.out; omega) 5 (.int .u8 45))
          have B3 := Lib.hid (B2.out.setCell (p := ⟨s, 5, none⟩) (Nat.le_of_lt S0.out) (.int .u8 45))
          clear T2 L2 B2 T L B z zf c0
          generalize ((WK.fk b 5).getD 5 0) = u2 at *
          go_wp2
          go_roundw
          case rel => exact ⟨5 + 1, by omega, by go_num, T3, L3, B3⟩
          case measure => simp [intOf]
        · simp only [Bool.not_true] at hm
          go_wp2
          go_quiet (fail)
          have T3 := Lib.hid ((T.out.below (below_drewN' wr nq)).on HX.out)
          have L3 := Lib.hid (L.out.below (below_drewN' wr nq))
          have B3 := Lib.hid (below_then B.out (below_drewN' wr nq))
          clear T L B z zf c0
          go_wp2
          go_roundw
          case rel => exact ⟨5 + 1, by omega, by go_num, T3, L3, B3⟩
          case measure => simp [intOf]
    · obtain rfl : k = 6 := by omega
      have hcv := T.out.text
      have HB := Lib.hid B.out
      clear T L B hlt
      go_wp2
      go_ret
      exact ⟨rfl, HB.out⟩
end Go.Proofs.Ytbeenmglgdhbjaa
