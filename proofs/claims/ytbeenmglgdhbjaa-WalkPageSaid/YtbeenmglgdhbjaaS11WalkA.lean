/-
  Kernel mode and the bits of a control register, of package csr and of the reference.
-/
import Derived.Test.YtbeenmglgdhbjaaS11Base
namespace Go.Proofs.Ytbeenmglgdhbjaa.S11
open Go.RowKit S01 S10
theorem Bk.there' {w : World} {s : Nat} {f : Nat → Int} {h : Bool} (hB : Bk w s f h) (f' : Nat → Int) (h' : Bool) : w.there s 0 (AC f' h').toArray.size := by
  rw [List.size_toArray, AC_len]; exact hB.there
/-- A core that lies in a result's cell is handed back. -/
theorem Bk.result {w : World} {s : Nat} {f : Nat → Int} {h : Bool} (hB : Bk w s f h) {fn : Func} {p : Tmp} (hr : fn.results = #[.cell p 35]) (tmps : Array Value) (hp : tmps.getD p undef = .pointer (some ⟨s, 0, none⟩)) :
    (results fn tmps).run Try.prog w = .ok (.agg (AC f h).toArray) w :=
  results_cell_row hr tmps w s 35 (AC f h).toArray (0, 0) _ hp hB Try.underlying35 rfl (by kernel_rfl)
theorem Bk.result2 {w : World} {s : Nat} {f : Nat → Int} {h : Bool} (hB : Bk w s f h) {fn : Func} {p u : Tmp} (hr : fn.results = #[.cell p 35, .tmp u]) (tmps : Array Value) (hp : tmps.getD p undef = .pointer (some ⟨s, 0, none⟩)) :
    (results fn tmps).run Try.prog w = .ok (.tuple #[.agg (AC f h).toArray, tmps.getD u undef]) w := by
  rw [results_cell_tmp hr tmps, hp]
  have e := run_loadVar_row (P := Try.prog) w s 35 35 (AC f h).toArray (0, 0) _ hB Try.underlying35 rfl (by kernel_rfl)
  simp [asAddr, e, Result.andThen]
theorem and_one (x : Int) (h0 : 0 ≤ x) (h1 : x < 4294967296) : bits .and .u32 x 1 = x % 2 := by
  obtain ⟨X, rfl⟩ := Int.eq_ofNat_of_zero_le h0
  have e : bits .and .u32 (X : Int) 1 = ((X &&& 1 : Nat) : Int) := u32_and_nat X 1 (by omega) (by omega)
  rw [e, Nat.and_one_is_mod]
  omega
theorem odd_ne (x : Int) : (x % 2 != 0) = decide (x % 2 = 1) := by
  by_cases h : x % 2 = 1
  · rw [h]; rfl
  · rw [show x % 2 = 0 by omega]; rfl
set_option maxHeartbeats 400000 in
theorem kernel_any (f : Nat → Int) (h : Bool) (w : World) (hf : CM.Ok f) :
    Calls Try.prog 34 #[AR f h] w fun e w' => e = .returned (.bool (CM.km f)) ∧ Below w.heap.size w w' := by
  have c0 := (Bk.new w f h).cell (k := 17) (by decide)
  obtain ⟨x0, x1⟩ := hf 17 (by decide)
  have HK := Lib.hid (show CM.km f = decide (f 17 % 2 = 1) from rfl)
  have e := and_one _ x0 x1
  have HB := Lib.hid (below_one w (.cells (AC f h).toArray 35))
  generalize f 17 = x at *
  unfold AR
  go_enter Try.func34, Try.ntmps34
  go_wp2
  go_ret
  exact ⟨ret_bool (by rw [HK.out]; exact odd_ne x), HB.out⟩
set_option maxHeartbeats 400000 in
theorem rkernel_any (f : Nat → Int) (h : Bool) (w : World) (hf : CM.Ok f) :
    Calls Try.prog 35 #[AR f h] w fun e w' => e = .returned (.bool (CM.km f)) ∧ Below w.heap.size w w' := by
  have c0 := (Bk.new w f h).cell (k := 17) (by decide)
  obtain ⟨x0, x1⟩ := hf 17 (by decide)
  have HK := Lib.hid (show CM.km f = decide (f 17 % 2 = 1) from rfl)
  have HB := Lib.hid (below_one w (.cells (AC f h).toArray 35))
  generalize f 17 = x at *
  unfold AR
  go_enter Try.func35, Try.ntmps35
  go_wp2
  go_ret
  exact ⟨ret_bool (by rw [HK.out]; by_cases g : x % 2 = 1 <;> simp [g]), HB.out⟩
theorem table_at (k : Nat) (hk : k < 12) : (#[.int .u32 63, .int .u32 31, .int .u32 4294967295, .int .u32 4294967295, .int .u32 4294967295, .int .u32 4294967232, .int .u32 4294967295, .int .u32 4294967295, .int .u32 4294967295, .int .u32 7, .int .u32 7, .int .u32 4294967295] : Array Value)[k]? = some (.int .u32 (CM.mk k)) := by
  obtain rfl | rfl | rfl | rfl | rfl | rfl | rfl | rfl | rfl | rfl | rfl | rfl : k = 0 ∨ k = 1 ∨ k = 2 ∨ k = 3 ∨ k = 4 ∨ k = 5 ∨ k = 6 ∨ k = 7 ∨ k = 8 ∨ k = 9 ∨ k = 10 ∨ k = 11 := by omega
  all_goals rfl
end Go.Proofs.Ytbeenmglgdhbjaa.S11
