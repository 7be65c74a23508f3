/-
  The law on pages: it returns true for every core, slice of bytes and access, and leaves all that was in memory as it was.
-/
import Derived.Test.YtbeenmglgdhbjaaLsB
namespace Go.Proofs.Ytbeenmglgdhbjaa
open Go.RowKit Go.Maps S01 S10 S11 S12
set_option maxHeartbeats 6400000 in
theorem page_walk {w : World} {v : Value} {bs : List UInt8} (f : Nat → Int) (h : Bool) (va a : Int) (hf : CM.Ok f) (hv : ByR w v bs) (hn : bs.length ≤ maxLen) (a0 : 0 ≤ va) (a1 : va < 4294967296) :
    Calls Try.prog 5 #[AR f h, v, QV va a] w fun e w' => e = .returned (.bool true) ∧ Below w.heap.size w w' := by
  have HA := Lib.hid awake_any
  have K0 := Lib.hid ((Bk.new w f h).below (below_one _ (.cells #[.int .u32 va, .int .i64 a] 37)))
  have Q0 := Lib.hid (show Qk ((w.alloc (.cells (AC f h).toArray 35)).alloc (.cells #[.int .u32 va, .int .i64 a] 37)) (w.heap.size + 1) va a by have e := Qk.new (w.alloc (.cells (AC f h).toArray 35)) va a; rwa [show (w.alloc (.cells (AC f h).toArray 35)).heap.size = w.heap.size + 1 by simp] at e)
  have B0 := Lib.hid (below_then (below_one w (.cells (AC f h).toArray 35)) (below_one _ (.cells #[.int .u32 va, .int .i64 a] 37)))
  by_cases hl : bs.length ≤ 4096
  · obtain ⟨q, hq⟩ : ∃ q, va - va % 64 = q := ⟨_, rfl⟩
    have HQ := Lib.hid hq
    have q0 : 0 ≤ q := by omega
    have q1 : q + 63 < 4294967296 := by omega
    have q2 : q % 64 = 0 := by omega
    have H0 := Lib.hid (fun (W : World) (hb : Below w.heap.size w W) => trans_any (w := W) f h q a hf (hv.below hb) hn q0 (by omega))
    have H1 := Lib.hid (fun (W : World) (hb : Below w.heap.size w W) (k : Nat) (hk : k < 64) => trans_any (w := W) f h (q + k) a hf (hv.below hb) hn (by omega) (by omega))
    have HP := fun (k : Nat) (hk : k < 64) => WK.tr_page f bs q k a q2 q0 q1 (by omega) (by omega)
    have rb := WK.tr_bd f bs q a q0 (by omega)
    have rb0 := rb.1
    have rb1 := rb.2.1
    clear q2 hq rb
    obtain ⟨A, cc, rfl⟩ := by_form hv
    have hd : decide (4096 < (bs.length : Int)) = false := by simp; omega
    by_cases hc : (WK.tr f bs q a).2 = 0
    · have H2 := Lib.hid (fun (W : World) (hb : Below w.heap.size w W) (k : Nat) (hk : k < 64) => by have e := H1.out W hb k hk; rw [(HP k hk).1, hc, ((HP k hk).2.1 hc).1] at e; exact e)
      have hm : (WK.tr f bs q a).1 + 63 < 4294967296 := ((HP 63 (by decide)).2.1 hc).2
      rw [hc] at H0
      clear H1 HP hc hv hn hf
      generalize (WK.tr f bs q a).1 = x at *
      generalize bs.length = n at *
      unfold AR QV at *
      go_enter Try.func5, Try.ntmps5
      go_upto_region 1 with fail
      generalize World.alloc _ _ = W0 at K0 Q0 B0 ⊢
      have R0 := Lib.hid K0.out.range
      go_upto_region 3 with fail
      generalize w.heap.size + 1 = t at *
      have c0 := Q0.out.c0
      have c1 := Q0.out.c1
      go_upto_region 4 with fail
      rw [HQ.out]
      go_upto_region 5 with (first | (refine wpList_load_mid rfl 35 _ rfl w.heap.size 0 rfl (AC f h) _ R0.out Try.underlying35 rfl (by kernel_rfl) ?_) | (go_at_call 12; (with_reducible refine (H0.out _ B0.out).mono ?_); rintro e w1 ⟨rfl, hb⟩; have B1 := Lib.hid (below_then B0.out hb); have K1 := Lib.hid (K0.out.below hb); have Q1 := Lib.hid (Q0.out.below hb); clear hb))
      have HK := Lib.hid (show KeptA w w.heap.size t f h va a w1 from ⟨K1.out, Q1.out, B1.out⟩)
      clear c0 c1 K0 Q0 B0 R0 K1 Q1 B1 H0
      go_wp2
      go_loopw [10] (fun i wr => ∃ k : Nat, k ≤ 64 ∧ i = .int .u32 k ∧ Hid (KeptA w w.heap.size t f h va a wr)) (fun i _ => (64 - intOf i).toNat)
      case atStart => exact ⟨0, by omega, rfl, HK⟩
      case round =>
        clear HK
        obtain ⟨k, hk, rfl, K⟩ := hrel
        by_cases hlt : k < 64
        · have HT := Lib.hid (fun W hb => H2.out W hb k hlt)
          have hd1 : decide ((k : Int) < 64) = true := by simp; omega
          have R := Lib.hid K.out.1.range
          have c1 := K.out.2.1.c1
          have KB : Hid (Below w.heap.size w wr) := Lib.hid K.out.2.2
          clear H2
          go_upto_region 9 with (first | (refine wpList_load_mid rfl 35 _ rfl w.heap.size 0 rfl (AC f h) _ R.out Try.underlying35 rfl (by kernel_rfl) ?_) | (go_at_call 12; (with_reducible refine (HT.out _ KB.out).mono ?_); rintro e w2 ⟨rfl, hb⟩; have K2 := Lib.hid (show KeptA w w.heap.size t f h va a w2 from ⟨K.out.1.below hb, K.out.2.1.below hb, below_then K.out.2.2 hb⟩); clear hb))
          clear K R c1 HT KB
          go_wp2
          go_roundw
          case rel => exact ⟨k + 1, by omega, by go_num, K2⟩
          case measure => simp [intOf]; omega
        · obtain rfl : k = 64 := by omega
          have HB := Lib.hid K.out.2.2
          clear K H2 hlt
          go_wp2_with (go_at_call 8; (with_reducible refine (HA.out _).mono ?_); rintro e w6 ⟨rfl, hb⟩; have B6 := Lib.hid (below_then HB.out hb); clear hb)
          go_ret
          exact ⟨rfl, B6.out⟩
    · have H2 := Lib.hid (fun (W : World) (hb : Below w.heap.size w W) (k : Nat) (hk : k < 64) => by have e := H1.out W hb k hk; rw [(HP k hk).1, (HP k hk).2.2 hc] at e; exact e)
      clear H1 HP hv hn hf
      generalize (WK.tr f bs q a).1 = x at *
      generalize (WK.tr f bs q a).2 = c at *
      generalize bs.length = n at *
      have hc0 : (c == 0) = false := by simpa using hc
      have hc1 : (c != 0) = true := by simpa using hc
      unfold AR QV at *
      go_enter Try.func5, Try.ntmps5
      go_upto_region 1 with fail
      generalize World.alloc _ _ = W0 at K0 Q0 B0 ⊢
      have R0 := Lib.hid K0.out.range
      go_upto_region 3 with fail
      generalize w.heap.size + 1 = t at *
      have c0 := Q0.out.c0
      have c1 := Q0.out.c1
      go_upto_region 4 with fail
      rw [HQ.out]
      go_upto_region 5 with (first | (refine wpList_load_mid rfl 35 _ rfl w.heap.size 0 rfl (AC f h) _ R0.out Try.underlying35 rfl (by kernel_rfl) ?_) | (go_at_call 12; (with_reducible refine (H0.out _ B0.out).mono ?_); rintro e w1 ⟨rfl, hb⟩; have B1 := Lib.hid (below_then B0.out hb); have K1 := Lib.hid (K0.out.below hb); have Q1 := Lib.hid (Q0.out.below hb); clear hb))
      have HK := Lib.hid (show KeptA w w.heap.size t f h va a w1 from ⟨K1.out, Q1.out, B1.out⟩)
      clear c0 c1 K0 Q0 B0 R0 K1 Q1 B1 H0
      go_wp2
      go_loopw [10] (fun i wr => ∃ k : Nat, k ≤ 64 ∧ i = .int .u32 k ∧ Hid (KeptA w w.heap.size t f h va a wr)) (fun i _ => (64 - intOf i).toNat)
      case atStart => exact ⟨0, by omega, rfl, HK⟩
      case round =>
        clear HK
        obtain ⟨k, hk, rfl, K⟩ := hrel
        by_cases hlt : k < 64
        · have HT := Lib.hid (fun W hb => H2.out W hb k hlt)
          have hd1 : decide ((k : Int) < 64) = true := by simp; omega
          have R := Lib.hid K.out.1.range
          have c1 := K.out.2.1.c1
          have KB : Hid (Below w.heap.size w wr) := Lib.hid K.out.2.2
          clear H2
          go_upto_region 9 with (first | (refine wpList_load_mid rfl 35 _ rfl w.heap.size 0 rfl (AC f h) _ R.out Try.underlying35 rfl (by kernel_rfl) ?_) | (go_at_call 12; (with_reducible refine (HT.out _ KB.out).mono ?_); rintro e w2 ⟨rfl, hb⟩; have K2 := Lib.hid (show KeptA w w.heap.size t f h va a w2 from ⟨K.out.1.below hb, K.out.2.1.below hb, below_then K.out.2.2 hb⟩); clear hb))
          clear K R c1 HT KB
          go_wp2
          go_roundw
          case rel => exact ⟨k + 1, by omega, by go_num, K2⟩
          case measure => simp [intOf]; omega
        · obtain rfl : k = 64 := by omega
          have HB := Lib.hid K.out.2.2
          clear K H2 hlt
          go_wp2_with (go_at_call 8; (with_reducible refine (HA.out _).mono ?_); rintro e w6 ⟨rfl, hb⟩; have B6 := Lib.hid (below_then HB.out hb); clear hb)
          go_ret
          exact ⟨rfl, B6.out⟩
  · obtain ⟨A, cc, rfl⟩ := by_form hv
    have hd : decide (4096 < (bs.length : Int)) = true := by simp; omega
    clear hv hn a0 a1 hf
    generalize bs.length = n at *
    unfold AR QV
    go_enter Try.func5, Try.ntmps5
    go_upto_region 1 with fail
    generalize World.alloc _ _ = W0 at K0 Q0 B0 ⊢
    go_wp2_with (go_at_call 8; (with_reducible refine (HA.out _).mono ?_); rintro e w6 ⟨rfl, hb⟩; have B6 := Lib.hid (below_then B0.out hb); clear hb)
    go_ret
    exact ⟨rfl, B6.out⟩
end Go.Proofs.Ytbeenmglgdhbjaa
