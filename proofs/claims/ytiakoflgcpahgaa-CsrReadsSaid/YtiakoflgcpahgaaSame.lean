/-
  A core equals itself by Go's '=='.
-/
import Derived.Test.YtiakoflgcpahgaaWalkI
import Derived.ChangeKeysEq
namespace Go.Proofs.Ytiakoflgcpahgaa
open Go.RowKit S01 S10
theorem items_same (xs : Array Value) (d : Nat) (w : World) : ∀ is : List Nat, (∀ i ∈ is, ∃ v : Int, xs[i]? = some (.int .u32 v)) → (Op.eqItems (d + 1) 22 1 xs xs is).run Try.prog w = .ok true w
  | [], _ => by simp [Op.eqItems]
  | i :: is, h => by
    obtain ⟨v, hv⟩ := h i (by simp)
    have ih := items_same xs d w is (fun j hj => h j (by simp [hj]))
    have e := run_equalIn_int w d 22 .u32 .u32 v v Try.underlying22
    simp [Op.eqItems, part, Try.isAgg22, Sem.run_bind, hv, ih, go_sem]
theorem fields_core : Try.prog.fieldsOf 26 = (match Try.prog.underlying 26 with | some (.struct fs) => fs | _ => #[]) := rfl
/-- The registers, by value. -/
def RC (f : Nat → Int) : List Value := (List.range 16).map fun i => Value.int .u32 (f (1 + i))
theorem RC_get (f : Nat → Int) {k : Nat} (hk : k < 16) : (RC f)[k]? = some (.int .u32 (f (1 + k))) := by
  simp [RC, hk]
theorem AC_reg (f : Nat → Int) (h : Bool) : List.take 16 (List.drop 1 (AC f h)) = RC f := by
  apply List.ext_getElem?
  intro i
  rw [List.getElem?_take, List.getElem?_drop]
  by_cases hi : i < 16
  · rw [if_pos hi, AC_get f h (by omega), RC_get f hi]
  · rw [if_neg hi, List.getElem?_eq_none (by simp [RC]; omega)]
theorem part_word (f : Nat → Int) (h : Bool) (k : Nat) (hk : k < 29) (w : World) : (part 22 (AC f h).toArray k).run Try.prog w = .ok (.int .u32 (f k)) w := by
  simp [part, Try.isAgg22, AC_get f h hk, go_sem]
theorem part_halt (f : Nat → Int) (h : Bool) (w : World) : (part 4 (AC f h).toArray 29).run Try.prog w = .ok (.bool h) w := by
  simp [part, Try.isAgg4, AC_halt f h, go_sem]
theorem part_regs (f : Nat → Int) (h : Bool) (w : World) : (part 23 (AC f h).toArray 1).run Try.prog w = .ok (.agg (RC f).toArray) w := by
  have e : List.take 16 (AC f h).tail = RC f := by rw [← AC_reg f h, List.drop_one]
  simp [part, Try.isAgg23, Try.sizeOf23, e, go_sem]
theorem part_csrs (f : Nat → Int) (h : Bool) (w : World) : (part 24 (AC f h).toArray 17).run Try.prog w = .ok (.agg (CC f).toArray) w := by
  simp [part, Try.isAgg24, Try.sizeOf24, AC_csr, go_sem]
theorem same_regs (f : Nat → Int) (w : World) : (Op.equalIn 9999 23 (.agg (RC f).toArray) (.agg (RC f).toArray)).run Try.prog w = .ok true w := by
  rw [run_equalIn_array w 9998 (n := 16) (e := 22) (i := (Try.prog.info? 22).get rfl) _ _ Try.underlying23 (by kernel_rfl)]
  exact items_same _ 9997 w _ fun i hi => ⟨f (1 + i), by rw [List.getElem?_toArray]; exact RC_get f (List.mem_range.1 hi)⟩
theorem same_csrs (f : Nat → Int) (w : World) : (Op.equalIn 9999 24 (.agg (CC f).toArray) (.agg (CC f).toArray)).run Try.prog w = .ok true w := by
  rw [run_equalIn_array w 9998 (n := 12) (e := 22) (i := (Try.prog.info? 22).get rfl) _ _ Try.underlying24 (by kernel_rfl)]
  exact items_same _ 9997 w _ fun i hi => ⟨f (17 + i), by rw [List.getElem?_toArray]; exact CC_get f (List.mem_range.1 hi)⟩
theorem same_core (f : Nat → Int) (h : Bool) (w : World) : (Op.equalIn 10000 26 (.agg (AC f h).toArray) (.agg (AC f h).toArray)).run Try.prog w = .ok true w := by
  rw [run_equalIn_struct w 9999 26 _ _ (by kernel_rfl) (by kernel_rfl)]
  have e1 := fun W => run_equalIn_int W 9998 22 .u32 .u32 (f 0) (f 0) Try.underlying22
  have e2 := fun W => run_equalIn_bool W 9998 4 h h Try.underlying4
  simp [fields_core, Try.underlying26, Op.eqFields, part_word f h 0 (by decide), part_halt, part_regs, part_csrs, same_regs, same_csrs, e1, e2]
end Go.Proofs.Ytiakoflgcpahgaa
