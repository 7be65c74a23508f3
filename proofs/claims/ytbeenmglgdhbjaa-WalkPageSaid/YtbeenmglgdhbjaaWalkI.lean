/-
  Bytes under work in a block of one's own; the memory of the examples.
-/
import Derived.Test.YtbeenmglgdhbjaaBase
import Derived.Test.YtbeenmglgdhbjaaS10WalkD
namespace Go.Proofs.Ytbeenmglgdhbjaa
open Go.RowKit Go.Maps S01 S10 S11 S12
/-- The block G begins with these bytes. -/
def Wb (w : World) (G : Nat) (bs : List UInt8) : Prop := ∃ cur : List Value, w.heap[G]? = some (.cells cur.toArray 5 (0, 0)) ∧ bs.length ≤ cur.length ∧ cur.take bs.length = byC bs
theorem Wb.below {w w1 : World} {G : Nat} {bs : List UInt8} (h : Wb w G bs) (hb : Below w.heap.size w w1) : Wb w1 G bs := by
  obtain ⟨cur, h1, h2⟩ := h
  exact ⟨cur, (hb.block G (lt_of_heap h1)).trans h1, h2⟩
theorem Wb.lt {w : World} {G : Nat} {bs : List UInt8} (h : Wb w G bs) : G < w.heap.size := by
  obtain ⟨cur, h1, -⟩ := h
  exact lt_of_heap h1
theorem Wb.free {w : World} {G : Nat} {bs : List UInt8} (h : Wb w G bs) (k : Nat) : w.frozen? ⟨G, k, none⟩ = false := by
  obtain ⟨cur, h1, -⟩ := h
  exact unfrozen h1
theorem Wb.cell {w : World} {G k : Nat} {bs : List UInt8} (h : Wb w G bs) (hk : k < bs.length) : w.cell? ⟨G, k, none⟩ = some (.int .u8 (bs.getD k 0).toNat) := by
  obtain ⟨cur, h1, h2, h3⟩ := h
  refine cell_of h1 ?_
  rw [List.getElem?_toArray, ← byC_at hk, ← h3, List.getElem?_take, if_pos hk]
theorem Wb.set {w : World} {G k : Nat} {bs : List UInt8} (h : Wb w G bs) (c : UInt8) : Wb (w.setCell ⟨G, k, none⟩ (.int .u8 c.toNat)) G (bs.set k c) := by
  obtain ⟨cur, h1, h2, h3⟩ := h
  refine ⟨cur.set k (.int .u8 c.toNat), by rw [heap_set h1, List.setIfInBounds_toArray], by rw [List.length_set, List.length_set]; exact h2, ?_⟩
  rw [List.length_set, List.take_set, h3, byC, byC, List.map_set]
theorem Wb.by {w : World} {G cap : Nat} {bs : List UInt8} (h : Wb w G bs) (hc : bs.length ≤ cap) (hm : cap ≤ maxLen) : ByR w (.slice (some ⟨G, 0, none⟩) bs.length cap) bs := by
  by_cases e : bs = []
  · subst e; exact .inl ⟨rfl, _, _, rfl⟩
  · exact .inr ⟨e, G, 0, cap, rfl, hc, hm, fun j hj => by rw [Nat.zero_add]; exact h.cell hj⟩
theorem Wb.of_own {w : World} {N n : Nat} {v : Value} {bs : List UInt8} (h : w.ownsRow N 5 1 v n (byC bs)) (h0 : 0 < n) (hn : bs.length = n) : ∃ G cap, v = .slice (some ⟨G, 0, none⟩) n cap ∧ N ≤ G ∧ n ≤ cap ∧ cap ≤ maxLen ∧ Wb w G bs := by
  obtain ⟨G, cap, cur, h1, h2, h3, h4, h5, h6, h7⟩ := own_gone h h0
  subst hn
  exact ⟨G, cap, h1, h2, h4, h5, cur, h3, by omega, by rwa [Nat.mul_one] at h7⟩
/-- The memory of the examples. -/
def TB : List UInt8 := ((((List.replicate 256 0).set 1 1).set 0 1).set 68 51).set 69 2
theorem TB_len : TB.length = 256 := by simp only [TB, List.length_set, List.length_replicate]
theorem zeros_wb {w w1 : World} (hown : w1.ownsRow w.heap.size 5 1 (.slice (some ⟨w.heap.size, 0, none⟩) 256 256) 256 (madeCells (Value.int .u8 0).cells (256 * 1)).toList) : Wb w1 w.heap.size (List.replicate 256 0) := by
  have e : (madeCells (Value.int .u8 0).cells (256 * 1)).toList = byC (List.replicate 256 0) := by
    show (madeCells #[Value.int .u8 0] (256 * 1)).toList = _
    rw [toList_madeCells_one, Nat.mul_one, byC, List.map_replicate]
    rfl
  rw [e] at hown
  obtain ⟨G, cap, h1, -, -, -, h2⟩ := Wb.of_own hown (by decide) (List.length_replicate ..)
  injection h1 with h1 _ _
  injection h1 with h1
  injection h1 with h1
  subst h1
  exact h2
set_option maxRecDepth 100000 in
set_option maxHeartbeats 1600000 in
theorem tables_any (w : World) : Calls Try.prog 21 #[] w fun e w' => ∃ v, e = .returned v ∧ ByR w' v TB ∧ Below w.heap.size w w' := by
  obtain ⟨i0, hi, hz0, hz1, hz2⟩ := info_parts info5
  have HI := Lib.hid (And.intro hi (And.intro hz0 (And.intro hz1 hz2)))
  clear hi hz0 hz1 hz2
  go_enter Try.func21, Try.ntmps21
  go_upto_region 2 with (at_make; refine wpList_make_full _ rfl _ _ 22 rfl w.heap.size 5 i0 (.int .u8 0) 1 Try.underlying22 HI.out.1 HI.out.2.1 HI.out.2.2.1 .i64 .i64 _ _ 256 rfl rfl rfl rfl (by rw [HI.out.2.2.2]; decide) (by decide) (Nat.le_refl _) ?_; intro w1 hown hgrow; have HY := Lib.hid (zeros_wb hown); have HB := Lib.hid ((Below.refl _ _).grown hgrow (Nat.le_refl _) (by intro k hk; cases hk)); clear hown hgrow)
  have B4 := Lib.hid ((((HB.out.setCell (p := ⟨w.heap.size, 1, none⟩) (Nat.le_refl _) (.int .u8 (1 : UInt8).toNat)).setCell (p := ⟨w.heap.size, 0, none⟩) (Nat.le_refl _) (.int .u8 (1 : UInt8).toNat)).setCell (p := ⟨w.heap.size, 68, none⟩) (Nat.le_refl _) (.int .u8 (51 : UInt8).toNat)).setCell (p := ⟨w.heap.size, 69, none⟩) (Nat.le_refl _) (.int .u8 (2 : UInt8).toNat))
  have Y4 := Lib.hid ((((HY.out.set (k := 1) 1).set (k := 0) 1).set (k := 68) 51).set (k := 69) 2)
  have f := HY.out.free
  have c1 := HY.out.cell (k := 1) (by decide)
  have c0 := HY.out.cell (k := 0) (by decide)
  have c2 := HY.out.cell (k := 68) (by decide)
  have c3 := HY.out.cell (k := 69) (by decide)
  clear HB HY
  go_wp2
  go_ret
  refine ⟨_, rfl, ?_, B4.out⟩
  have h := Wb.by (bs := TB) (cap := 256) Y4.out (by rw [TB_len]; exact Nat.le_refl _) (by decide)
  rw [TB_len] at h
  exact h
end Go.Proofs.Ytbeenmglgdhbjaa
