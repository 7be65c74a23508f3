/-
  The chapter's examples hold; nothing that was there is changed.
-/
import Derived.Test.YtiakoflgcpahgaaWalkG
import Derived.Deep.WholeRow
namespace Go.Proofs.Ytiakoflgcpahgaa
open Go.RowKit S01 S10
/-- The core of the examples. -/
def ex0 : Nat → Int := CM.up (CM.up (CM.up (fun _ => 0) 17 1) 25 5) 24 4
theorem ex_ok : CM.Ok ex0 := CM.up_ok (CM.up_ok (CM.up_ok CM.zero_ok _ ⟨by decide, by decide⟩) _ ⟨by decide, by decide⟩) _ ⟨by decide, by decide⟩
theorem ex_facts : CM.ks ex0 9 = 0 ∧ CM.wf ex0 9 15 26 = 7 ∧ CM.mk 5 = 4294967232 ∧ CM.ct ex0 27 = 4 := ⟨rfl, rfl, rfl, rfl⟩
theorem store_new (w : World) (f : Nat → Int) (h : Bool) : (storeCells ⟨w.heap.size, 0, none⟩ (AC f h) 0).run Try.prog (w.alloc (.cells #[.int .u32 0, .int .u32 0, .int .u32 0, .int .u32 0, .int .u32 0, .int .u32 0, .int .u32 0, .int .u32 0, .int .u32 0, .int .u32 0, .int .u32 0, .int .u32 0, .int .u32 0, .int .u32 0, .int .u32 0, .int .u32 0, .int .u32 0, .int .u32 0, .int .u32 0, .int .u32 0, .int .u32 0, .int .u32 0, .int .u32 0, .int .u32 0, .int .u32 0, .int .u32 0, .int .u32 0, .int .u32 0, .int .u32 0, .bool false] 26)) = .ok () (w.alloc (.cells (AC f h).toArray 26)) := by
  have hS := run_storeCells_new (P := Try.prog) w 26 (AC (fun _ => 0) false).toArray (AC f h).toArray (AC_size _ _) (by rw [List.size_toArray, List.size_toArray, AC_len, AC_len]) (AC_all _ _)
  rwa [zero_core] at hS
/-- The control registers, by value. -/
def CC (f : Nat → Int) : List Value := (List.range 12).map fun i => Value.int .u32 (f (17 + i))
theorem CC_get (f : Nat → Int) {k : Nat} (hk : k < 12) : (CC f)[k]? = some (.int .u32 (f (17 + k))) := by
  simp [CC, hk]
theorem AC_csr (f : Nat → Int) (h : Bool) : List.take 12 (List.drop 17 (AC f h)) = CC f := by
  apply List.ext_getElem?
  intro i
  rw [List.getElem?_take, List.getElem?_drop]
  by_cases hi : i < 12
  · rw [if_pos hi, AC_get f h (by omega), CC_get f hi]
  · rw [if_neg hi, List.getElem?_eq_none (by simp [CC]; omega)]
theorem field_csr (f : Nat → Int) (h : Bool) (w : World) : (Instr.field 26 (.agg (AC f h).toArray) 2).run Try.prog w = .ok (.agg (CC f).toArray) w := by
  simp [Instr.field, run_underlying Try.underlying26, asAgg, part, Try.isAgg24, Try.sizeOf24, AC_csr, go_sem]
theorem index_csr (f : Nat → Int) (k : Nat) (hk : k < 12) (w : World) : (Instr.index 24 (.agg (CC f).toArray) (.int .i64 k)).run Try.prog w = .ok (.int .u32 (f (17 + k))) w := by
  have hk' : (k : Int) < 12 := by omega
  have e := CC_get f hk
  simp [Instr.index, run_underlying Try.underlying24, asIntOf, part, Try.isAgg22, Try.sizeOf22, e, go_sem]
  intro h; omega
set_option maxHeartbeats 800000 in
theorem awake_any (w : World) : Calls Try.prog 14 #[] w fun e w' => e = .returned (.bool true) ∧ Below w.heap.size w w' := by
  have HW := Lib.hid (fun W => write_any ex0 false 9 15 W ex_ok ⟨by decide, by decide⟩)
  have HM := Lib.hid (fun W => masked_any 5 W)
  have HC := Lib.hid (fun W => count_any ex0 false W ex_ok)
  have WO := Lib.hid (CM.wf_ok ex_ok 9 15 ⟨by decide, by decide⟩)
  obtain ⟨x1, x2, x3, x4⟩ := ex_facts
  have X2 := Lib.hid x2
  have X4 := Lib.hid x4
  rw [x1] at HW
  rw [x3] at HM
  unfold AR at HW HC
  clear x1 x2 x3 x4
  generalize CM.ct ex0 = gc at HC X4
  generalize CM.wf ex0 9 15 = g at HW WO X2
  generalize CM.wh ex0 false 9 = gh at HW
  go_enter Try.func14, Try.ntmps14
  go_upto_region 2 with (refine wpList_store_mid rfl 26 _ _ rfl w.heap.size 0 (AC (fun _ => 0) false).toArray rfl rfl ((Bk.new w (fun _ => 0) false).there' _ _) (AC_size _ _) (AC_all _ _) ?_)
  rw [← zero_core]
  have K1 := Lib.hid ((Bk.new w (fun _ => 0) false).store (fun _ => 0) false)
  have B1 := Lib.hid (below_setCells (Nat.le_refl _) (AC (fun _ => 0) false) 0 _ (below_one w (.cells (AC (fun _ => 0) false).toArray 26)))
  generalize World.setCells _ _ _ _ = W1 at K1 B1 ⊢
  have f1 := K1.out.free 17
  have f2 := K1.out.free 24
  have f3 := K1.out.free 25
  have c1 := K1.out.cell (k := 17) (by decide)
  have c2 := K1.out.cell (k := 24) (by decide)
  have c3 := K1.out.cell (k := 25) (by decide)
  go_upto_region 3 with fail
  have K2 : Hid (Bk (((W1.setCell ⟨w.heap.size, 17, none⟩ (.int .u32 1)).setCell ⟨w.heap.size, 25, none⟩ (.int .u32 5)).setCell ⟨w.heap.size, 24, none⟩ (.int .u32 4)) w.heap.size ex0 false) := Lib.hid (((K1.out.set (k := 17) 1 (by decide)).set (k := 25) 5 (by decide)).set (k := 24) 4 (by decide))
  have B2 := Lib.hid (((B1.out.setCell (p := ⟨w.heap.size, 17, none⟩) (Nat.le_refl _) (.int .u32 1)).setCell (p := ⟨w.heap.size, 25, none⟩) (Nat.le_refl _) (.int .u32 5)).setCell (p := ⟨w.heap.size, 24, none⟩) (Nat.le_refl _) (.int .u32 4))
  generalize World.setCell _ _ _ = W2 at K2 B2 ⊢
  clear f1 f2 f3 c1 c2 c3 K1 B1
  generalize ex0 = x0 at HW HC K2
  have R2 := Lib.hid K2.out.range
  go_upto_region 4 with (first | (refine wpList_load_mid rfl 26 _ rfl w.heap.size 0 rfl (AC x0 false) _ R2.out Try.underlying26 rfl (by kernel_rfl) ?_) | (go_at_call 15; (with_reducible refine (HW.out _).mono ?_); rintro e w3 ⟨rfl, hb⟩; have HB3 := Lib.hid hb; clear hb; have hS := store_new w3 g gh; have hl := AC_len g gh))
  clear hS hl
  have K3 := Lib.hid (Bk.new w3 g gh)
  have L3 := Lib.hid ((K2.out.below HB3.out).more (.cells (AC g gh).toArray 26))
  have B3 := Lib.hid (below_then (below_then B2.out HB3.out) (below_one w3 (.cells (AC g gh).toArray 26)))
  generalize World.alloc _ _ = W3 at K3 L3 B3 ⊢
  generalize w3.heap.size = s3 at *
  have R3 := Lib.hid L3.out.range
  go_wp2_with (first | (go_at_call 12; (with_reducible refine (HM.out _).mono ?_); rintro e w4 ⟨rfl, hb⟩; have HB4 := Lib.hid (below_then B3.out hb); have L4 := Lib.hid (L3.out.below hb).range; have K4 := Lib.hid (K3.out.below hb); clear hb; have c4 := K4.out.cell (k := 26) (by decide); rw [X2.out] at c4) | (refine wpList_load_wanted rfl 26 _ rfl w.heap.size 0 rfl (AC x0 false) _ L4.out Try.underlying26 rfl (by kernel_rfl) ?_) | (go_at_call 17; (with_reducible refine (HC.out _).mono ?_); rintro e w5 ⟨rfl, hb⟩; have HB5 := Lib.hid (below_then HB4.out hb); clear hb c4; have hF := field_csr gc false; have hI : ∀ W, (Instr.index 24 (.agg (CC gc).toArray) (.int .i64 10)).run Try.prog W = .ok (.int .u32 4) W := fun W => X4.out ▸ index_csr gc 10 (by decide) W))
  go_ret
  exact ⟨rfl, HB5.out⟩
end Go.Proofs.Ytiakoflgcpahgaa
