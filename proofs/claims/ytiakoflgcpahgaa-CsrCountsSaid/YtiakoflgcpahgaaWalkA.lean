/-
  Kernel mode and the bits of a control register, of package csr and of the reference.
-/
import Derived.Test.YtiakoflgcpahgaaBase
namespace Go.Proofs.Ytiakoflgcpahgaa
open Go.RowKit S01 S10
theorem Bk.there' {w : World} {s : Nat} {f : Nat → Int} {h : Bool} (hB : Bk w s f h) (f' : Nat → Int) (h' : Bool) : w.there s 0 (AC f' h').toArray.size := by
  rw [List.size_toArray, AC_len]; exact hB.there
/-- A core that lies in a result's cell is handed back. -/
theorem Bk.result {w : World} {s : Nat} {f : Nat → Int} {h : Bool} (hB : Bk w s f h) {fn : Func} {p : Tmp} (hr : fn.results = #[.cell p 26]) (tmps : Array Value) (hp : tmps.getD p undef = .pointer (some ⟨s, 0, none⟩)) :
    (results fn tmps).run Try.prog w = .ok (.agg (AC f h).toArray) w :=
  results_cell_row hr tmps w s 26 (AC f h).toArray (0, 0) _ hp hB Try.underlying26 rfl (by kernel_rfl)
theorem Bk.result2 {w : World} {s : Nat} {f : Nat → Int} {h : Bool} (hB : Bk w s f h) {fn : Func} {p u : Tmp} (hr : fn.results = #[.cell p 26, .tmp u]) (tmps : Array Value) (hp : tmps.getD p undef = .pointer (some ⟨s, 0, none⟩)) :
    (results fn tmps).run Try.prog w = .ok (.tuple #[.agg (AC f h).toArray, tmps.getD u undef]) w := by
  rw [results_cell_tmp hr tmps, hp]
  have e := run_loadVar_row (P := Try.prog) w s 26 26 (AC f h).toArray (0, 0) _ hB Try.underlying26 rfl (by kernel_rfl)
  simp [asAddr, e, Result.andThen]
theorem and_one (x : Int) (h0 : 0 ≤ x) (h1 : x < 4294967296) : bits .and .u32 x 1 = x % 2 := by
  obtain ⟨X, rfl⟩ := Int.eq_ofNat_of_zero_le h0
  have e : bits .and .u32 (X : Int) 1 = ((X &&& 1 : Nat) : Int) := u32_and_nat X 1 (by omega) (by omega)
  rw [e, Nat.and_one_is_mod]
  omega
theorem odd_ne (x : Int) : (x % 2 != 0) = decide (x % 2 = 1) := by
  by_cases h : x % 2 = 1
  · rw [h]; rfl
  · rw [show x % 2 = 0 by omega]; rfl
set_option maxHeartbeats 400000 in
theorem kernel_any (f : Nat → Int) (h : Bool) (w : World) (hf : CM.Ok f) :
    Calls Try.prog 10 #[AR f h] w fun e w' => e = .returned (.bool (CM.km f)) ∧ Below w.heap.size w w' := by
  have c0 := (Bk.new w f h).cell (k := 17) (by decide)
  obtain ⟨x0, x1⟩ := hf 17 (by decide)
  have HK := Lib.hid (show CM.km f = decide (f 17 % 2 = 1) from rfl)
  have e := and_one _ x0 x1
  have HB := Lib.hid (below_one w (.cells (AC f h).toArray 26))
  generalize f 17 = x at *
  unfold AR
  go_enter Try.func10, Try.ntmps10
  go_wp2
  go_ret
  exact ⟨ret_bool (by rw [HK.out]; exact odd_ne x), HB.out⟩
set_option maxHeartbeats 400000 in
theorem rkernel_any (f : Nat → Int) (h : Bool) (w : World) (hf : CM.Ok f) :
    Calls Try.prog 11 #[AR f h] w fun e w' => e = .returned (.bool (CM.km f)) ∧ Below w.heap.size w w' := by
  have c0 := (Bk.new w f h).cell (k := 17) (by decide)
  obtain ⟨x0, x1⟩ := hf 17 (by decide)
  have HK := Lib.hid (show CM.km f = decide (f 17 % 2 = 1) from rfl)
  have HB := Lib.hid (below_one w (.cells (AC f h).toArray 26))
  generalize f 17 = x at *
  unfold AR
  go_enter Try.func11, Try.ntmps11
  go_wp2
  go_ret
  exact ⟨ret_bool (by rw [HK.out]; by_cases g : x % 2 = 1 <;> simp [g]), HB.out⟩
set_option maxHeartbeats 400000 in
theorem known_any (n : Int) (w : World) :
    Calls Try.prog 23 #[.int .i64 n] w fun e w' => e = .returned (.bool (CM.kn n)) ∧ w = w' := by
  by_cases h0 : 0 ≤ n
  · by_cases h1 : n < 12
    · have HK := Lib.hid (CM.kn_true h0 (by omega))
      go_enter Try.func23, Try.ntmps23
      go_wp2
      go_ret
      exact ⟨ret_bool (by rw [HK.out]), rfl⟩
    · have HK := Lib.hid (CM.kn_false (n := n) (by omega))
      have d : decide (n < 12) = false := by simpa using h1
      go_enter Try.func23, Try.ntmps23
      go_wp2
      go_ret
      exact ⟨ret_bool (by rw [HK.out]), rfl⟩
  · have HK := Lib.hid (CM.kn_false (n := n) (by omega))
    have d : decide (0 ≤ n) = false := by simpa using h0
    go_enter Try.func23, Try.ntmps23
    go_wp2
    go_ret
    exact ⟨ret_bool (by rw [HK.out]), rfl⟩
theorem table_at (k : Nat) (hk : k < 12) : (#[.int .u32 63, .int .u32 31, .int .u32 4294967295, .int .u32 4294967295, .int .u32 4294967295, .int .u32 4294967232, .int .u32 4294967295, .int .u32 4294967295, .int .u32 4294967295, .int .u32 7, .int .u32 7, .int .u32 4294967295] : Array Value)[k]? = some (.int .u32 (CM.mk k)) := by
  obtain rfl | rfl | rfl | rfl | rfl | rfl | rfl | rfl | rfl | rfl | rfl | rfl : k = 0 ∨ k = 1 ∨ k = 2 ∨ k = 3 ∨ k = 4 ∨ k = 5 ∨ k = 6 ∨ k = 7 ∨ k = 8 ∨ k = 9 ∨ k = 10 ∨ k = 11 := by omega
  all_goals rfl
set_option maxHeartbeats 400000 in
theorem masked_out (n : Int) (w : World) (h : n < 0 ∨ 11 < n) :
    Calls Try.prog 12 #[.int .i64 n] w fun e w' => e = .returned (.int .u32 0) ∧ Below w.heap.size w w' := by
  have HK := Lib.hid (CM.kn_false h)
  clear h
  go_enter Try.func12, Try.ntmps12
  go_upto_region 2 with fail
  generalize hW : World.alloc w _ = W1
  have HB := Lib.hid (show Below w.heap.size w W1 from hW ▸ below_one w _)
  clear hW
  go_wp2_with (go_at_call 23; refine (known_any _ _).mono ?_; rintro e w' ⟨rfl, rfl⟩; rw [HK.out])
  go_ret
  exact ⟨rfl, HB.out⟩
set_option maxHeartbeats 400000 in
theorem masked_in (k : Nat) (w : World) (h : k < 12) :
    Calls Try.prog 12 #[.int .i64 k] w fun e w' => e = .returned (.int .u32 (CM.mk k)) ∧ Below w.heap.size w w' := by
  have HK := Lib.hid (CM.kn_true (n := (k : Int)) (by omega) (by omega))
  have HT := Lib.hid (table_at k h)
  have hk : (k : Int) < 12 := by omega
  generalize CM.mk (k : Int) = m at HT ⊢
  clear h
  go_enter Try.func12, Try.ntmps12
  go_upto_region 2 with fail
  generalize hW : World.alloc w _ = W1
  have HB := Lib.hid (show Below w.heap.size w W1 from hW ▸ below_one w _)
  have c0 : W1.cell? ⟨w.heap.size, k, none⟩ = some (.int .u32 m) := cell_of (hW ▸ heap_alloc_new w _) HT.out
  clear hW HT
  go_wp2_with (go_at_call 23; refine (known_any _ _).mono ?_; rintro e w' ⟨rfl, rfl⟩; rw [HK.out])
  go_ret
  exact ⟨rfl, HB.out⟩
theorem masked_any (n : Int) (w : World) :
    Calls Try.prog 12 #[.int .i64 n] w fun e w' => e = .returned (.int .u32 (CM.mk n)) ∧ Below w.heap.size w w' := by
  by_cases h : n < 0 ∨ 11 < n
  · have : CM.mk n = 0 := if_pos h
    rw [this]; exact masked_out n w h
  · obtain ⟨k, rfl⟩ := Int.eq_ofNat_of_zero_le (a := n) (by omega)
    exact masked_in k w (by omega)
set_option maxHeartbeats 400000 in
theorem rmasked_any (n : Int) (w : World) :
    Calls Try.prog 13 #[.int .i64 n] w fun e w' => e = .returned (.int .u32 (CM.mk n)) ∧ w = w' := by
  have HM := Lib.hid (show CM.mk n = if n < 0 ∨ 11 < n then 0 else if n = 0 then 63 else if n = 1 then 31 else if n = 5 then 4294967232 else if n = 9 ∨ n = 10 then 7 else 4294967295 from rfl)
  generalize CM.mk n = m at HM ⊢
  by_cases h0 : n = 0
  · subst h0
    go_enter Try.func13, Try.ntmps13
    go_wp2
    go_ret
    exact ⟨ret_int HM.out.symm, rfl⟩
  by_cases h1 : n = 1
  · subst h1
    go_enter Try.func13, Try.ntmps13
    go_wp2
    go_ret
    exact ⟨ret_int HM.out.symm, rfl⟩
  by_cases h9 : n = 9
  · subst h9
    go_enter Try.func13, Try.ntmps13
    go_wp2
    go_ret
    exact ⟨ret_int HM.out.symm, rfl⟩
  by_cases h10 : n = 10
  · subst h10
    go_enter Try.func13, Try.ntmps13
    go_wp2
    go_ret
    exact ⟨ret_int HM.out.symm, rfl⟩
  by_cases h5 : n = 5
  · subst h5
    go_enter Try.func13, Try.ntmps13
    go_wp2
    go_ret
    exact ⟨ret_int HM.out.symm, rfl⟩
  have b0 : (n == 0) = false := by simpa using h0
  have b1 : (n == 1) = false := by simpa using h1
  have b9 : (n == 9) = false := by simpa using h9
  have b10 : (n == 10) = false := by simpa using h10
  have b5 : (n == 5) = false := by simpa using h5
  by_cases hl : n < 0
  · have HV : Hid (m = 0) := Lib.hid (HM.out.trans (if_pos (.inl hl)))
    clear HM h0 h1 h9 h10 h5
    go_enter Try.func13, Try.ntmps13
    go_wp2
    go_ret
    exact ⟨ret_int HV.out.symm, rfl⟩
  by_cases hg : 11 < n
  · have HV : Hid (m = 0) := Lib.hid (HM.out.trans (if_pos (.inr hg)))
    have d : decide (n < 0) = false := by simpa using hl
    clear HM h0 h1 h9 h10 h5
    go_enter Try.func13, Try.ntmps13
    go_wp2
    go_ret
    exact ⟨ret_int HV.out.symm, rfl⟩
  · have HV : Hid (m = 4294967295) := by
      show m = 4294967295
      rw [HM.out, if_neg (by omega), if_neg h0, if_neg h1, if_neg h5, if_neg (by omega)]
    have d : decide (n < 0) = false := by simpa using hl
    have d2 : decide (11 < n) = false := by simpa using hg
    clear HM h0 h1 h9 h10 h5
    go_enter Try.func13, Try.ntmps13
    go_wp2
    go_ret
    exact ⟨ret_int HV.out.symm, rfl⟩
end Go.Proofs.Ytiakoflgcpahgaa
