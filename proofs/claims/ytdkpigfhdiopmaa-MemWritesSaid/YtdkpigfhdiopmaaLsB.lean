/-
  The laws on reads and writes: they return true for every memory, location and number, and leave all that was in memory as it was.
-/
import Derived.Test.YtdkpigfhdiopmaaLsA
namespace Go.Proofs.Ytdkpigfhdiopmaa
open Go.RowKit Go.Maps S01
/-- A location laid in a block of its own. -/
theorem boxed (W : World) (x s : Int) : ∃ W1, W.alloc (.cells #[.int .u32 x, .int .i64 s] 25) = W1 ∧ Below W.heap.size W W1 ∧ W1.cell? ⟨W.heap.size, 0, none⟩ = some (.int .u32 x) ∧ W1.cell? ⟨W.heap.size, 1, none⟩ = some (.int .i64 s) :=
  ⟨_, rfl, below_one W _, cell_of (heap_alloc_new W _) rfl, cell_of (heap_alloc_new W _) rfl⟩
theorem same_yes {w : World} {x y : Value} {a : List UInt8} (ha : ByR w x a) (hb : ByR w y a) (h1 : a.length ≤ 1000000) : Calls Try.prog 18 #[x, y] w fun e w' => e = .returned (.bool true) ∧ Below w.heap.size w w' :=
  (same_by ha hb h1).mono fun _ _ ⟨h1, h2⟩ => ⟨by rw [h1]; simp, h2.below⟩
set_option maxHeartbeats 3200000 in
theorem reads_walk {W : World} {v : Value} {bs : List UInt8} (x s : Int) (hv : ByR W v bs) (hn : bs.length ≤ maxLen) (h0 : 0 ≤ x) (hx : x < 4294967296) :
    Calls Try.prog 4 #[v, .agg #[.int .u32 x, .int .i64 s]] W fun e w' => e = .returned (.bool true) ∧ Below W.heap.size W w' := by
  obtain ⟨A, c, rfl⟩ := by_form hv
  obtain ⟨n, hnn⟩ : ∃ n, bs.length = n := ⟨_, rfl⟩
  have H1 := Lib.hid (fun (w : World) (h : Below W.heap.size W w) => read_any x s (hv.below h) hn h0 hx)
  have H2 := Lib.hid (fun (w : World) (h : Below W.heap.size W w) => rread_any x s (hv.below h) hn h0 hx)
  rw [hnn] at hv hn H1 H2 ⊢
  have hm : n ≤ 9223372036854775807 := hn
  clear hv hnn hn
  generalize MM.rd bs x s = r at H1 H2
  generalize MM.ck n x s = k at H1 H2
  by_cases hbig : (20000 : Int) < n
  · go_enter Try.func4, Try.ntmps4
    go_wp2_with (go_at_call 8; refine (awake_any _).mono ?_; rintro e w1 ⟨rfl, hb1⟩; have HB1 := Lib.hid (below_then (below_one W _) hb1); clear hb1)
    go_ret
    exact ⟨rfl, HB1.out⟩
  · go_enter Try.func4, Try.ntmps4
    go_upto_region 1 with fail
    obtain ⟨W1, hW1, hb, c0, c1⟩ := boxed W x s
    have HB := Lib.hid hb
    rw [hW1]
    clear hW1 hb
    go_wp2_with (first
      | (go_at_call 14; refine (H1.out _ HB.out).mono ?_; rintro e w3 ⟨rfl, rfl⟩)
      | (go_at_call 15; refine (H2.out _ HB.out).mono ?_; rintro e w4 ⟨rfl, rfl⟩)
      | (go_at_call 8; refine (awake_any _).mono ?_; rintro e w1 ⟨rfl, hb1⟩; have HB1 := Lib.hid (HB.out.trans (hb1.mono HB.out.size)); clear hb1))
    go_ret
    exact ⟨rfl, HB1.out⟩
set_option maxHeartbeats 3200000 in
theorem writes_walk {W : World} {v : Value} {bs : List UInt8} (x s u : Int) (hv : ByR W v bs) (hn : bs.length ≤ maxLen) (h0 : 0 ≤ x) (hx : x < 4294967296) (hu0 : 0 ≤ u) (hu : u < 4294967296) :
    Calls Try.prog 5 #[v, .agg #[.int .u32 x, .int .i64 s], .int .u32 u] W fun e w' => e = .returned (.bool true) ∧ Below W.heap.size W w' := by
  obtain ⟨A, c, rfl⟩ := by_form hv
  obtain ⟨n, hnn⟩ : ∃ n, bs.length = n := ⟨_, rfl⟩
  obtain ⟨y, rfl⟩ : ∃ y : Nat, u = y := ⟨u.toNat, by omega⟩
  have HV := Lib.hid hv
  rw [hnn] at HV hn ⊢
  have hm : n ≤ 9223372036854775807 := hn
  have HNN := Lib.hid hnn
  clear hv hnn hn
  by_cases hbig : (3000 : Int) < n
  · go_enter Try.func5, Try.ntmps5
    go_wp2_with (go_at_call 8; refine (awake_any _).mono ?_; rintro e w1 ⟨rfl, hb1⟩; have HB1 := Lib.hid (below_then (below_one W _) hb1); clear hb1)
    go_ret
    exact ⟨rfl, HB1.out⟩
  · have hbl : bs.length ≤ 3000 := by have := HNN.out; omega
    have H1 := Lib.hid (fun (w : World) (h : Below W.heap.size W w) => write_any x s y (HV.out.below h) (by omega) h0 hx)
    have H2 := Lib.hid (fun (w : World) (h : Below W.heap.size W w) => rwrite_any x s y (HV.out.below h) (by omega) h0 hx (by omega))
    have HTL := Lib.hid (show (MM.wt bs x s y).length ≤ 1000000 by
      unfold MM.wt
      split
      · rename_i h
        obtain ⟨q1, q2⟩ := ck_open h
        rw [MM.wr_len _ (by omega)]; omega
      · simp)
    have HBL := Lib.hid (show bs.length ≤ 1000000 by omega)
    have HAL := Lib.hid (show 0 + bs.length ≤ 100000000 by omega)
    rw [HNN.out] at H1 H2
    generalize MM.wt bs x s y = T at *
    generalize MM.ck n x s = k at *
    clear hbl
    go_enter Try.func5, Try.ntmps5
    go_upto_region 1 with fail
    obtain ⟨W1, hW1, hb, c0, c1⟩ := boxed W x s
    have HB := Lib.hid hb
    have HC := Lib.hid (And.intro c0 c1)
    have HO := Lib.hid (own_new W1)
    have HV1 := Lib.hid ((HV.out.below hb).below (below_one W1 (.cells #[] 5)))
    rw [hW1]
    clear hW1 hb c0 c1
    go_upto_region 4 with (at_builtin; refine wpList_append_by (v := .slice (some ⟨W1.heap.size, 0, none⟩) 0 0) (x := .slice A n c) rfl (.tmp 16) (.tmp 17) rfl rfl rfl HO.out HV1.out HAL.out (by simp) ?_; intro v' w2 ho2 hg2 hv2; have HR := Lib.hid (copied ho2 hg2); clear ho2 hg2 hv2)
    have HW2 := Lib.hid (ByR.of_own HR.out.1)
    have HB2 := Lib.hid (below_then HB.out (HR.out.2))
    obtain ⟨c0, c1⟩ := And.intro (cell_below HR.out.2 HC.out.1) (cell_below HR.out.2 HC.out.2)
    have HC2 := Lib.hid (And.intro c0 c1)
    clear HR HO HV1 HC
    go_upto_region 5 with (go_at_call 16; refine (H1.out _ HB2.out).mono ?_; rintro e w3 ⟨v3, rfl, hy3, hb3⟩; have HY3 := Lib.hid hy3; have HB3 := Lib.hid hb3; clear hy3 hb3)
    clear c0 c1
    have HB4 := Lib.hid (below_then HB2.out HB3.out)
    have HW3 := Lib.hid (HW2.out.below HB3.out)
    obtain ⟨c0, c1⟩ := And.intro (cell_below HB3.out HC2.out.1) (cell_below HB3.out HC2.out.2)
    go_upto_region 6 with (go_at_call 17; refine (H2.out _ HB4.out).mono ?_; rintro e w4 ⟨v4, rfl, hy4, hb5⟩; have HY4 := Lib.hid hy4; have HB5 := Lib.hid hb5; clear hy4 hb5)
    clear c0 c1
    have HB6 := Lib.hid (below_then HB4.out HB5.out)
    have HY3' := Lib.hid (HY3.out.below HB5.out)
    have HW4 := Lib.hid (HW3.out.below HB5.out)
    go_wp2_with (first
      | (go_at_call 18; (with_reducible refine (same_yes HY3'.out HY4.out HTL.out).mono ?_); rintro e w5 ⟨rfl, hb7⟩; have HB7 := Lib.hid hb7; have HB8 := Lib.hid (below_then HB6.out hb7); clear hb7)
      | (go_at_call 18; (with_reducible refine (same_yes (HV.out.below HB8.out) (HW4.out.below HB7.out) HBL.out).mono ?_); rintro e w6 ⟨rfl, hb9⟩; have HB9 := Lib.hid (below_then HB8.out hb9); clear hb9)
      | (go_at_call 8; refine (awake_any _).mono ?_; rintro e w1 ⟨rfl, hb1⟩; have HB10 := Lib.hid (below_then HB9.out hb1); clear hb1))
    go_ret
    exact ⟨rfl, HB10.out⟩
end Go.Proofs.Ytdkpigfhdiopmaa
