/-
  Where an access goes: of package walk and of the reference. For every core and every slice of bytes.
-/
import Derived.Test.YtbeenmglgdhbjaaWalkC
namespace Go.Proofs.Ytbeenmglgdhbjaa
open Go.RowKit Go.Maps S01 S10 S11 S12
set_option maxHeartbeats 1600000 in
theorem trans_off {w : World} {v : Value} {bs : List UInt8} (f : Nat → Int) (h : Bool) (va a : Int) (hf : CM.Ok f) (hv : ByR w v bs) (_hn : bs.length ≤ maxLen) (_a0 : 0 ≤ va) (_a1 : va < 4294967296) (hp : WK.pg f = false) :
    Calls Try.prog 12 #[AR f h, v, .int .u32 va, .int .i64 a] w fun e w' => e = .returned (.tuple #[.int .u32 va, .int .i64 0]) ∧ Below w.heap.size w w' := by
  have HP := Lib.hid (fun W => paged_any f h W hf)
  rw [hp] at HP
  obtain ⟨A, cc, rfl⟩ := by_form hv
  have K0 := Lib.hid (Bk.new w f h)
  have R0 := Lib.hid (Bk.new w f h).range
  have B0 := Lib.hid (below_one w (.cells (AC f h).toArray 35))
  clear hv _hn hf hp
  unfold AR at HP ⊢
  go_enter Try.func12, Try.ntmps12
  go_upto_region 1 with fail
  generalize World.alloc w _ = W0 at K0 R0 B0 ⊢
  go_wp2_with (first | (refine wpList_load_mid rfl 35 _ rfl w.heap.size 0 rfl (AC f h) _ R0.out Try.underlying35 rfl (by kernel_rfl) ?_) | (go_at_call 14; (with_reducible refine (HP.out _).mono ?_); rintro e w1 ⟨rfl, hb⟩; have B1 := Lib.hid (below_then B0.out hb); have K1 := Lib.hid (K0.out.below hb); clear hb))
  go_ret2
  exact ⟨rfl, B1.out⟩
set_option maxHeartbeats 1600000 in
theorem trans_fail {w : World} {v : Value} {bs : List UInt8} (f : Nat → Int) (h : Bool) (va a : Int) (hf : CM.Ok f) (hv : ByR w v bs) (hn : bs.length ≤ maxLen) (a0 : 0 ≤ va) (a1 : va < 4294967296) (hp : WK.pg f = true) (ho : (WK.wk bs (f 22) va).ok = false) :
    Calls Try.prog 12 #[AR f h, v, .int .u32 va, .int .i64 a] w fun e w' => e = .returned (.tuple #[.int .u32 0, .int .i64 (WK.fl a)]) ∧ Below w.heap.size w w' := by
  have HP := Lib.hid (fun W => paged_any f h W hf)
  rw [hp] at HP
  obtain ⟨A, cc, rfl⟩ := by_form hv
  have K0 := Lib.hid (Bk.new w f h)
  have R0 := Lib.hid (Bk.new w f h).range
  have B0 := Lib.hid (below_one w (.cells (AC f h).toArray 35))
  have x := hf 22 (by decide)
  have HW := Lib.hid (fun (W : World) (hb : Below w.heap.size w W) => walk_any (w := W) (f 22) va (hv.below hb) hn x.1 x.2 a0 a1)
  have wb := WK.wk_bd (m := bs) (root := f 22) (va := va)
  unfold WkPost at HW
  rw [ho] at HW
  have HF := Lib.hid (fun W => fault_any a W)
  generalize WK.fl a = q at *
  clear ho
  generalize WK.wk bs (f 22) va = r at *
  obtain ⟨rb, rg, rl, ro⟩ := r
  clear hv hn hf hp
  unfold AR PV at *
  go_enter Try.func12, Try.ntmps12
  go_upto_region 1 with fail
  generalize World.alloc w _ = W0 at K0 R0 B0 ⊢
  go_upto_region 3 with (first | (refine wpList_load_mid rfl 35 _ rfl w.heap.size 0 rfl (AC f h) _ R0.out Try.underlying35 rfl (by kernel_rfl) ?_) | (go_at_call 14; (with_reducible refine (HP.out _).mono ?_); rintro e w1 ⟨rfl, hb⟩; have B1 := Lib.hid (below_then B0.out hb); have K1 := Lib.hid (K0.out.below hb); clear hb))
  have c22 := K1.out.cell (k := 22) (by decide)
  generalize f 22 = rt at *
  go_upto_region 4 with (go_at_call 9; (with_reducible refine (HW.out _ B1.out).mono ?_); rintro e w2 ⟨x', rfl, -, hb⟩; have B2 := Lib.hid (below_then B1.out hb); clear hb)
  have B3 := Lib.hid (below_then B2.out (below_one w2 (.cells #[.int .u32 rb, .int .i64 rg] 26)))
  generalize World.alloc w2 _ = W3 at B3 ⊢
  go_wp2_with (go_at_call 16; (with_reducible refine (HF.out _).mono ?_); rintro e w4 ⟨rfl, rfl⟩)
  go_ret2
  exact ⟨rfl, B3.out⟩
set_option maxHeartbeats 1600000 in
theorem trans_no {w : World} {v : Value} {bs : List UInt8} (f : Nat → Int) (h : Bool) (va a : Int) (hf : CM.Ok f) (hv : ByR w v bs) (hn : bs.length ≤ maxLen) (a0 : 0 ≤ va) (a1 : va < 4294967296) (hp : WK.pg f = true) (ho : (WK.wk bs (f 22) va).ok = true) (hl : PT.al (WK.wk bs (f 22) va).b a false = false) :
    Calls Try.prog 12 #[AR f h, v, .int .u32 va, .int .i64 a] w fun e w' => e = .returned (.tuple #[.int .u32 0, .int .i64 (WK.fl a)]) ∧ Below w.heap.size w w' := by
  have HP := Lib.hid (fun W => paged_any f h W hf)
  rw [hp] at HP
  obtain ⟨A, cc, rfl⟩ := by_form hv
  have K0 := Lib.hid (Bk.new w f h)
  have R0 := Lib.hid (Bk.new w f h).range
  have B0 := Lib.hid (below_one w (.cells (AC f h).toArray 35))
  have x := hf 22 (by decide)
  have HW := Lib.hid (fun (W : World) (hb : Below w.heap.size w W) => walk_any (w := W) (f 22) va (hv.below hb) hn x.1 x.2 a0 a1)
  have wb := WK.wk_bd (m := bs) (root := f 22) (va := va)
  unfold WkPost at HW
  have HA := Lib.hid (fun W => allows_any (WK.wk bs (f 22) va).b (WK.wk bs (f 22) va).g a false W wb.1 (by omega))
  rw [hl] at HA
  rw [ho] at HW
  have HF := Lib.hid (fun W => fault_any a W)
  generalize WK.fl a = q at *
  clear ho hl
  generalize WK.wk bs (f 22) va = r at *
  obtain ⟨rb, rg, rl, ro⟩ := r
  clear hv hn hf hp
  unfold AR PV at *
  go_enter Try.func12, Try.ntmps12
  go_upto_region 1 with fail
  generalize World.alloc w _ = W0 at K0 R0 B0 ⊢
  go_upto_region 3 with (first | (refine wpList_load_mid rfl 35 _ rfl w.heap.size 0 rfl (AC f h) _ R0.out Try.underlying35 rfl (by kernel_rfl) ?_) | (go_at_call 14; (with_reducible refine (HP.out _).mono ?_); rintro e w1 ⟨rfl, hb⟩; have B1 := Lib.hid (below_then B0.out hb); have K1 := Lib.hid (K0.out.below hb); clear hb))
  have c22 := K1.out.cell (k := 22) (by decide)
  generalize f 22 = rt at *
  go_upto_region 4 with (go_at_call 9; (with_reducible refine (HW.out _ B1.out).mono ?_); rintro e w2 ⟨x', rfl, -, hb⟩; have B2 := Lib.hid (below_then B1.out hb); clear hb)
  have L3 := Lib.hid (Pk.new w2 rb rg)
  have B3 := Lib.hid (below_then B2.out (below_one w2 (.cells #[.int .u32 rb, .int .i64 rg] 26)))
  generalize World.alloc w2 _ = W3 at L3 B3 ⊢
  generalize w2.heap.size = s at *
  have c0 := L3.out.c0
  have c1 := L3.out.c1
  clear c22 K0 R0 B0 B1 K1 B2 HW
  go_wp2_with (first | (go_at_call 31; (with_reducible refine (HA.out _).mono ?_); rintro e w4 ⟨rfl, hb⟩; have B4 := Lib.hid (below_then B3.out hb); have c2 := (L3.out.below hb).c0; have c3 := (L3.out.below hb).c1; clear hb) | (go_at_call 16; (with_reducible refine (HF.out _).mono ?_); rintro e w5 ⟨rfl, rfl⟩))
  go_ret2
  exact ⟨rfl, B4.out⟩
set_option maxHeartbeats 1600000 in
theorem trans_yes {w : World} {v : Value} {bs : List UInt8} (f : Nat → Int) (h : Bool) (va a : Int) (hf : CM.Ok f) (hv : ByR w v bs) (hn : bs.length ≤ maxLen) (a0 : 0 ≤ va) (a1 : va < 4294967296) (hp : WK.pg f = true) (ho : (WK.wk bs (f 22) va).ok = true) (hl : PT.al (WK.wk bs (f 22) va).b a false = true) :
    Calls Try.prog 12 #[AR f h, v, .int .u32 va, .int .i64 a] w fun e w' => e = .returned (.tuple #[.int .u32 (PT.ad (WK.wk bs (f 22) va).g va), .int .i64 0]) ∧ Below w.heap.size w w' := by
  have HP := Lib.hid (fun W => paged_any f h W hf)
  rw [hp] at HP
  obtain ⟨A, cc, rfl⟩ := by_form hv
  have K0 := Lib.hid (Bk.new w f h)
  have R0 := Lib.hid (Bk.new w f h).range
  have B0 := Lib.hid (below_one w (.cells (AC f h).toArray 35))
  have x := hf 22 (by decide)
  have HW := Lib.hid (fun (W : World) (hb : Below w.heap.size w W) => walk_any (w := W) (f 22) va (hv.below hb) hn x.1 x.2 a0 a1)
  have wb := WK.wk_bd (m := bs) (root := f 22) (va := va)
  unfold WkPost at HW
  have HA := Lib.hid (fun W => allows_any (WK.wk bs (f 22) va).b (WK.wk bs (f 22) va).g a false W wb.1 (by omega))
  rw [hl] at HA
  rw [ho] at HW
  have HD := Lib.hid (fun W => addr_any (WK.wk bs (f 22) va).b (WK.wk bs (f 22) va).g va W  a0 a1)
  generalize PT.ad _ va = q at *
  clear ho hl
  generalize WK.wk bs (f 22) va = r at *
  obtain ⟨rb, rg, rl, ro⟩ := r
  clear hv hn hf hp
  unfold AR PV at *
  go_enter Try.func12, Try.ntmps12
  go_upto_region 1 with fail
  generalize World.alloc w _ = W0 at K0 R0 B0 ⊢
  go_upto_region 3 with (first | (refine wpList_load_mid rfl 35 _ rfl w.heap.size 0 rfl (AC f h) _ R0.out Try.underlying35 rfl (by kernel_rfl) ?_) | (go_at_call 14; (with_reducible refine (HP.out _).mono ?_); rintro e w1 ⟨rfl, hb⟩; have B1 := Lib.hid (below_then B0.out hb); have K1 := Lib.hid (K0.out.below hb); clear hb))
  have c22 := K1.out.cell (k := 22) (by decide)
  generalize f 22 = rt at *
  go_upto_region 4 with (go_at_call 9; (with_reducible refine (HW.out _ B1.out).mono ?_); rintro e w2 ⟨x', rfl, -, hb⟩; have B2 := Lib.hid (below_then B1.out hb); clear hb)
  have L3 := Lib.hid (Pk.new w2 rb rg)
  have B3 := Lib.hid (below_then B2.out (below_one w2 (.cells #[.int .u32 rb, .int .i64 rg] 26)))
  generalize World.alloc w2 _ = W3 at L3 B3 ⊢
  generalize w2.heap.size = s at *
  have c0 := L3.out.c0
  have c1 := L3.out.c1
  clear c22 K0 R0 B0 B1 K1 B2 HW
  go_wp2_with (first | (go_at_call 31; (with_reducible refine (HA.out _).mono ?_); rintro e w4 ⟨rfl, hb⟩; have B4 := Lib.hid (below_then B3.out hb); have c2 := (L3.out.below hb).c0; have c3 := (L3.out.below hb).c1; clear hb) | (go_at_call 26; (with_reducible refine (HD.out _).mono ?_); rintro e w5 ⟨rfl, hb⟩; have B5 := Lib.hid (below_then B4.out hb); clear hb))
  go_ret2
  exact ⟨rfl, B5.out⟩
theorem trans_any {w : World} {v : Value} {bs : List UInt8} (f : Nat → Int) (h : Bool) (va a : Int) (hf : CM.Ok f) (hv : ByR w v bs) (hn : bs.length ≤ maxLen) (a0 : 0 ≤ va) (a1 : va < 4294967296) :
    Calls Try.prog 12 #[AR f h, v, .int .u32 va, .int .i64 a] w fun e w' => e = .returned (.tuple #[.int .u32 (WK.tr f bs va a).1, .int .i64 (WK.tr f bs va a).2]) ∧ Below w.heap.size w w' := by
  cases hp : WK.pg f
  · rw [WK.tr_off hp]; exact trans_off f h va a hf hv hn a0 a1 hp
  · cases ho : (WK.wk bs (f 22) va).ok
    · rw [WK.tr_no hp (by unfold WK.go; rw [ho]; rfl)]; exact trans_fail f h va a hf hv hn a0 a1 hp ho
    · cases hl : PT.al (WK.wk bs (f 22) va).b a false
      · rw [WK.tr_no hp (by unfold WK.go; rw [ho, hl]; rfl)]; exact trans_no f h va a hf hv hn a0 a1 hp ho hl
      · rw [WK.tr_yes hp (by unfold WK.go; rw [ho, hl]; rfl)]; exact trans_yes f h va a hf hv hn a0 a1 hp ho hl
set_option maxHeartbeats 1600000 in
theorem rtrans_off {w : World} {v : Value} {bs : List UInt8} (f : Nat → Int) (h : Bool) (va a : Int) (hf : CM.Ok f) (hv : ByR w v bs) (_hn : bs.length ≤ maxLen) (_a0 : 0 ≤ va) (_a1 : va < 4294967296) (hp : WK.pg f = false) :
    Calls Try.prog 13 #[AR f h, v, .int .u32 va, .int .i64 a] w fun e w' => e = .returned (.tuple #[.int .u32 va, .int .i64 0]) ∧ Below w.heap.size w w' := by
  have HP := Lib.hid (fun W => rpaged_any f h W hf)
  rw [hp] at HP
  obtain ⟨A, cc, rfl⟩ := by_form hv
  have K0 := Lib.hid (Bk.new w f h)
  have R0 := Lib.hid (Bk.new w f h).range
  have B0 := Lib.hid (below_one w (.cells (AC f h).toArray 35))
  clear hv _hn hf hp
  unfold AR at HP ⊢
  go_enter Try.func13, Try.ntmps13
  go_upto_region 1 with fail
  generalize World.alloc w _ = W0 at K0 R0 B0 ⊢
  go_wp2_with (first | (refine wpList_load_mid rfl 35 _ rfl w.heap.size 0 rfl (AC f h) _ R0.out Try.underlying35 rfl (by kernel_rfl) ?_) | (go_at_call 15; (with_reducible refine (HP.out _).mono ?_); rintro e w1 ⟨rfl, hb⟩; have B1 := Lib.hid (below_then B0.out hb); have K1 := Lib.hid (K0.out.below hb); clear hb))
  go_ret2
  exact ⟨rfl, B1.out⟩
set_option maxHeartbeats 1600000 in
theorem rtrans_wrong {w : World} {v : Value} {bs : List UInt8} (f : Nat → Int) (h : Bool) (va a : Int) (hf : CM.Ok f) (hv : ByR w v bs) (_hn : bs.length ≤ maxLen) (_a0 : 0 ≤ va) (_a1 : va < 4294967296) (hp : WK.pg f = true) (ha : ¬ (a = 1 ∨ a = 2 ∨ a = 3)) :
    Calls Try.prog 13 #[AR f h, v, .int .u32 va, .int .i64 a] w fun e w' => e = .returned (.tuple #[.int .u32 0, .int .i64 (WK.fl a)]) ∧ Below w.heap.size w w' := by
  have HP := Lib.hid (fun W => rpaged_any f h W hf)
  rw [hp] at HP
  obtain ⟨A, cc, rfl⟩ := by_form hv
  have K0 := Lib.hid (Bk.new w f h)
  have R0 := Lib.hid (Bk.new w f h).range
  have B0 := Lib.hid (below_one w (.cells (AC f h).toArray 35))
  have HF := Lib.hid (fun W => rfault_any a W)
  generalize WK.fl a = q at *
  clear hv _hn hf hp
  unfold AR at HP ⊢
  go_enter Try.func13, Try.ntmps13
  by_cases h1 : a < 1
  · have d1 : decide (a < 1) = true := by simpa using h1
    clear ha
    go_upto_region 1 with fail
    generalize World.alloc w _ = W0 at K0 R0 B0 ⊢
    go_wp2_with (first | (refine wpList_load_mid rfl 35 _ rfl w.heap.size 0 rfl (AC f h) _ R0.out Try.underlying35 rfl (by kernel_rfl) ?_) | (go_at_call 15; (with_reducible refine (HP.out _).mono ?_); rintro e w1 ⟨rfl, hb⟩; have B1 := Lib.hid (below_then B0.out hb); have K1 := Lib.hid (K0.out.below hb); clear hb) | (go_at_call 17; (with_reducible refine (HF.out _).mono ?_); rintro e w1 ⟨rfl, rfl⟩))
    go_ret2
    exact ⟨rfl, B1.out⟩
  · have d1 : decide (a < 1) = false := by simpa using h1
    have d2 : decide (3 < a) = true := by simp; omega
    have h2 : 3 < a := by omega
    clear ha
    go_upto_region 1 with fail
    generalize World.alloc w _ = W0 at K0 R0 B0 ⊢
    go_wp2_with (first | (refine wpList_load_mid rfl 35 _ rfl w.heap.size 0 rfl (AC f h) _ R0.out Try.underlying35 rfl (by kernel_rfl) ?_) | (go_at_call 15; (with_reducible refine (HP.out _).mono ?_); rintro e w1 ⟨rfl, hb⟩; have B1 := Lib.hid (below_then B0.out hb); have K1 := Lib.hid (K0.out.below hb); clear hb) | (go_at_call 17; (with_reducible refine (HF.out _).mono ?_); rintro e w1 ⟨rfl, rfl⟩))
    go_ret2
    exact ⟨rfl, B1.out⟩
set_option maxHeartbeats 1600000 in
theorem rtrans_fail {w : World} {v : Value} {bs : List UInt8} (f : Nat → Int) (h : Bool) (va a : Int) (hf : CM.Ok f) (hv : ByR w v bs) (hn : bs.length ≤ maxLen) (a0 : 0 ≤ va) (a1 : va < 4294967296) (hp : WK.pg f = true) (ha : a = 1 ∨ a = 2 ∨ a = 3) (ho : (WK.wk bs (f 22) va).ok = false) :
    Calls Try.prog 13 #[AR f h, v, .int .u32 va, .int .i64 a] w fun e w' => e = .returned (.tuple #[.int .u32 0, .int .i64 (WK.fl a)]) ∧ Below w.heap.size w w' := by
  have HP := Lib.hid (fun W => rpaged_any f h W hf)
  rw [hp] at HP
  obtain ⟨A, cc, rfl⟩ := by_form hv
  have K0 := Lib.hid (Bk.new w f h)
  have R0 := Lib.hid (Bk.new w f h).range
  have B0 := Lib.hid (below_one w (.cells (AC f h).toArray 35))
  have x := hf 22 (by decide)
  have HW := Lib.hid (fun (W : World) (hb : Below w.heap.size w W) => rwalk_any (w := W) (f 22) va (hv.below hb) hn x.1 x.2 a0 a1)
  have wb := WK.wk_bd (m := bs) (root := f 22) (va := va)
  unfold WkPost at HW
  have d1 : decide (a < 1) = false := by simp; omega
  have d2 : decide (3 < a) = false := by simp; omega
  have d3 : ¬ a < 1 := by omega
  have d4 : ¬ 3 < a := by omega
  clear ha
  rw [ho] at HW
  have HF := Lib.hid (fun W => rfault_any a W)
  generalize WK.fl a = q at *
  clear ho
  generalize WK.wk bs (f 22) va = r at *
  obtain ⟨rb, rg, rl, ro⟩ := r
  clear hv hn hf hp
  unfold AR PV at *
  go_enter Try.func13, Try.ntmps13
  go_upto_region 1 with fail
  generalize World.alloc w _ = W0 at K0 R0 B0 ⊢
  go_upto_region 5 with (first | (refine wpList_load_mid rfl 35 _ rfl w.heap.size 0 rfl (AC f h) _ R0.out Try.underlying35 rfl (by kernel_rfl) ?_) | (go_at_call 15; (with_reducible refine (HP.out _).mono ?_); rintro e w1 ⟨rfl, hb⟩; have B1 := Lib.hid (below_then B0.out hb); have K1 := Lib.hid (K0.out.below hb); clear hb))
  have c22 := K1.out.cell (k := 22) (by decide)
  generalize f 22 = rt at *
  go_upto_region 6 with (go_at_call 10; (with_reducible refine (HW.out _ B1.out).mono ?_); rintro e w2 ⟨x', rfl, -, hb⟩; have B2 := Lib.hid (below_then B1.out hb); clear hb)
  have B3 := Lib.hid (below_then B2.out (below_one w2 (.cells #[.int .u32 rb, .int .i64 rg] 26)))
  generalize World.alloc w2 _ = W3 at B3 ⊢
  go_wp2_with (go_at_call 17; (with_reducible refine (HF.out _).mono ?_); rintro e w4 ⟨rfl, rfl⟩)
  go_ret2
  exact ⟨rfl, B3.out⟩
set_option maxHeartbeats 1600000 in
theorem rtrans_no {w : World} {v : Value} {bs : List UInt8} (f : Nat → Int) (h : Bool) (va a : Int) (hf : CM.Ok f) (hv : ByR w v bs) (hn : bs.length ≤ maxLen) (a0 : 0 ≤ va) (a1 : va < 4294967296) (hp : WK.pg f = true) (ha : a = 1 ∨ a = 2 ∨ a = 3) (ho : (WK.wk bs (f 22) va).ok = true) (hl : PT.al (WK.wk bs (f 22) va).b a false = false) :
    Calls Try.prog 13 #[AR f h, v, .int .u32 va, .int .i64 a] w fun e w' => e = .returned (.tuple #[.int .u32 0, .int .i64 (WK.fl a)]) ∧ Below w.heap.size w w' := by
  have HP := Lib.hid (fun W => rpaged_any f h W hf)
  rw [hp] at HP
  obtain ⟨A, cc, rfl⟩ := by_form hv
  have K0 := Lib.hid (Bk.new w f h)
  have R0 := Lib.hid (Bk.new w f h).range
  have B0 := Lib.hid (below_one w (.cells (AC f h).toArray 35))
  have x := hf 22 (by decide)
  have HW := Lib.hid (fun (W : World) (hb : Below w.heap.size w W) => rwalk_any (w := W) (f 22) va (hv.below hb) hn x.1 x.2 a0 a1)
  have wb := WK.wk_bd (m := bs) (root := f 22) (va := va)
  unfold WkPost at HW
  have d1 : decide (a < 1) = false := by simp; omega
  have d2 : decide (3 < a) = false := by simp; omega
  have d3 : ¬ a < 1 := by omega
  have d4 : ¬ 3 < a := by omega
  clear ha
  have HA := Lib.hid (fun W => rallows_any (WK.wk bs (f 22) va).b (WK.wk bs (f 22) va).g a false W wb.1 (by omega))
  rw [hl] at HA
  rw [ho] at HW
  have HF := Lib.hid (fun W => rfault_any a W)
  generalize WK.fl a = q at *
  clear ho hl
  generalize WK.wk bs (f 22) va = r at *
  obtain ⟨rb, rg, rl, ro⟩ := r
  clear hv hn hf hp
  unfold AR PV at *
  go_enter Try.func13, Try.ntmps13
  go_upto_region 1 with fail
  generalize World.alloc w _ = W0 at K0 R0 B0 ⊢
  go_upto_region 5 with (first | (refine wpList_load_mid rfl 35 _ rfl w.heap.size 0 rfl (AC f h) _ R0.out Try.underlying35 rfl (by kernel_rfl) ?_) | (go_at_call 15; (with_reducible refine (HP.out _).mono ?_); rintro e w1 ⟨rfl, hb⟩; have B1 := Lib.hid (below_then B0.out hb); have K1 := Lib.hid (K0.out.below hb); clear hb))
  have c22 := K1.out.cell (k := 22) (by decide)
  generalize f 22 = rt at *
  go_upto_region 6 with (go_at_call 10; (with_reducible refine (HW.out _ B1.out).mono ?_); rintro e w2 ⟨x', rfl, -, hb⟩; have B2 := Lib.hid (below_then B1.out hb); clear hb)
  have L3 := Lib.hid (Pk.new w2 rb rg)
  have B3 := Lib.hid (below_then B2.out (below_one w2 (.cells #[.int .u32 rb, .int .i64 rg] 26)))
  generalize World.alloc w2 _ = W3 at L3 B3 ⊢
  generalize w2.heap.size = s at *
  have c0 := L3.out.c0
  have c1 := L3.out.c1
  clear c22 K0 R0 B0 B1 K1 B2 HW
  go_wp2_with (first | (go_at_call 32; (with_reducible refine (HA.out _).mono ?_); rintro e w4 ⟨rfl, hb⟩; have B4 := Lib.hid (below_then B3.out hb); have c2 := (L3.out.below hb).c0; have c3 := (L3.out.below hb).c1; clear hb) | (go_at_call 17; (with_reducible refine (HF.out _).mono ?_); rintro e w5 ⟨rfl, rfl⟩))
  go_ret2
  exact ⟨rfl, B4.out⟩
set_option maxHeartbeats 1600000 in
theorem rtrans_yes {w : World} {v : Value} {bs : List UInt8} (f : Nat → Int) (h : Bool) (va a : Int) (hf : CM.Ok f) (hv : ByR w v bs) (hn : bs.length ≤ maxLen) (a0 : 0 ≤ va) (a1 : va < 4294967296) (hp : WK.pg f = true) (ha : a = 1 ∨ a = 2 ∨ a = 3) (ho : (WK.wk bs (f 22) va).ok = true) (hl : PT.al (WK.wk bs (f 22) va).b a false = true) :
    Calls Try.prog 13 #[AR f h, v, .int .u32 va, .int .i64 a] w fun e w' => e = .returned (.tuple #[.int .u32 (PT.ad (WK.wk bs (f 22) va).g va), .int .i64 0]) ∧ Below w.heap.size w w' := by
  have HP := Lib.hid (fun W => rpaged_any f h W hf)
  rw [hp] at HP
  obtain ⟨A, cc, rfl⟩ := by_form hv
  have K0 := Lib.hid (Bk.new w f h)
  have R0 := Lib.hid (Bk.new w f h).range
  have B0 := Lib.hid (below_one w (.cells (AC f h).toArray 35))
  have x := hf 22 (by decide)
  have HW := Lib.hid (fun (W : World) (hb : Below w.heap.size w W) => rwalk_any (w := W) (f 22) va (hv.below hb) hn x.1 x.2 a0 a1)
  have wb := WK.wk_bd (m := bs) (root := f 22) (va := va)
  unfold WkPost at HW
  have d1 : decide (a < 1) = false := by simp; omega
  have d2 : decide (3 < a) = false := by simp; omega
  have d3 : ¬ a < 1 := by omega
  have d4 : ¬ 3 < a := by omega
  clear ha
  have HA := Lib.hid (fun W => rallows_any (WK.wk bs (f 22) va).b (WK.wk bs (f 22) va).g a false W wb.1 (by omega))
  rw [hl] at HA
  rw [ho] at HW
  have HD := Lib.hid (fun W => raddr_any (WK.wk bs (f 22) va).b (WK.wk bs (f 22) va).g va W (by omega) (by omega) a0 a1)
  generalize PT.ad _ va = q at *
  clear ho hl
  generalize WK.wk bs (f 22) va = r at *
  obtain ⟨rb, rg, rl, ro⟩ := r
  clear hv hn hf hp
  unfold AR PV at *
  go_enter Try.func13, Try.ntmps13
  go_upto_region 1 with fail
  generalize World.alloc w _ = W0 at K0 R0 B0 ⊢
  go_upto_region 5 with (first | (refine wpList_load_mid rfl 35 _ rfl w.heap.size 0 rfl (AC f h) _ R0.out Try.underlying35 rfl (by kernel_rfl) ?_) | (go_at_call 15; (with_reducible refine (HP.out _).mono ?_); rintro e w1 ⟨rfl, hb⟩; have B1 := Lib.hid (below_then B0.out hb); have K1 := Lib.hid (K0.out.below hb); clear hb))
  have c22 := K1.out.cell (k := 22) (by decide)
  generalize f 22 = rt at *
  go_upto_region 6 with (go_at_call 10; (with_reducible refine (HW.out _ B1.out).mono ?_); rintro e w2 ⟨x', rfl, -, hb⟩; have B2 := Lib.hid (below_then B1.out hb); clear hb)
  have L3 := Lib.hid (Pk.new w2 rb rg)
  have B3 := Lib.hid (below_then B2.out (below_one w2 (.cells #[.int .u32 rb, .int .i64 rg] 26)))
  generalize World.alloc w2 _ = W3 at L3 B3 ⊢
  generalize w2.heap.size = s at *
  have c0 := L3.out.c0
  have c1 := L3.out.c1
  clear c22 K0 R0 B0 B1 K1 B2 HW
  go_wp2_with (first | (go_at_call 32; (with_reducible refine (HA.out _).mono ?_); rintro e w4 ⟨rfl, hb⟩; have B4 := Lib.hid (below_then B3.out hb); have c2 := (L3.out.below hb).c0; have c3 := (L3.out.below hb).c1; clear hb) | (go_at_call 33; (with_reducible refine (HD.out _).mono ?_); rintro e w5 ⟨rfl, hb⟩; have B5 := Lib.hid (below_then B4.out hb); clear hb))
  go_ret2
  exact ⟨rfl, B5.out⟩
theorem rtrans_any {w : World} {v : Value} {bs : List UInt8} (f : Nat → Int) (h : Bool) (va a : Int) (hf : CM.Ok f) (hv : ByR w v bs) (hn : bs.length ≤ maxLen) (a0 : 0 ≤ va) (a1 : va < 4294967296) :
    Calls Try.prog 13 #[AR f h, v, .int .u32 va, .int .i64 a] w fun e w' => e = .returned (.tuple #[.int .u32 (WK.tr f bs va a).1, .int .i64 (WK.tr f bs va a).2]) ∧ Below w.heap.size w w' := by
  cases hp : WK.pg f
  · rw [WK.tr_off hp]; exact rtrans_off f h va a hf hv hn a0 a1 hp
  · by_cases ha : a = 1 ∨ a = 2 ∨ a = 3
    case neg => rw [WK.tr_wrong f bs va a ha hp]; exact rtrans_wrong f h va a hf hv hn a0 a1 hp ha
    cases ho : (WK.wk bs (f 22) va).ok
    · rw [WK.tr_no hp (by unfold WK.go; rw [ho]; rfl)]; exact rtrans_fail f h va a hf hv hn a0 a1 hp ha ho
    · cases hl : PT.al (WK.wk bs (f 22) va).b a false
      · rw [WK.tr_no hp (by unfold WK.go; rw [ho, hl]; rfl)]; exact rtrans_no f h va a hf hv hn a0 a1 hp ha ho hl
      · rw [WK.tr_yes hp (by unfold WK.go; rw [ho, hl]; rfl)]; exact rtrans_yes f h va a hf hv hn a0 a1 hp ha ho hl
end Go.Proofs.Ytbeenmglgdhbjaa
