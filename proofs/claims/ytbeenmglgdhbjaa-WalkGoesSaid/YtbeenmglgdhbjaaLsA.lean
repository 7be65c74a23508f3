/-
  The laws on walks and on maps: each returns true for every slice of bytes, and leaves all that was in memory as it was.
-/
import Derived.Test.YtbeenmglgdhbjaaWalkH
import Derived.Test.YtbeenmglgdhbjaaWalkJ
namespace Go.Proofs.Ytbeenmglgdhbjaa
open Go.RowKit Go.Maps S01 S10 S11 S12
set_option maxHeartbeats 3200000 in
theorem goes_walk {w : World} {v : Value} {bs : List UInt8} (root va : Int) (hv : ByR w v bs) (hn : bs.length ≤ maxLen) (r0 : 0 ≤ root) (r1 : root < 4294967296) (a0 : 0 ≤ va) (a1 : va < 4294967296) :
    Calls Try.prog 3 #[v, .int .u32 root, .int .u32 va] w fun e w' => e = .returned (.bool true) ∧ Below w.heap.size w w' := by
  have HA := Lib.hid awake_any
  by_cases hl : bs.length ≤ 4096
  · have H1 := Lib.hid (fun (W : World) (hb : Below w.heap.size w W) => walk_any (w := W) root va (hv.below hb) hn r0 r1 a0 a1)
    have H2 := Lib.hid (fun (W : World) (hb : Below w.heap.size w W) => rwalk_any (w := W) root va (hv.below hb) hn r0 r1 a0 a1)
    have HL := Lib.hid ((WK.wk_bd (m := bs) (root := root) (va := va)).2.2.2.2.1)
    unfold WkPost PV at H1 H2
    generalize WK.wk bs root va = r at *
    obtain ⟨rb, rg, rl, ro⟩ := r
    dsimp only at H1 H2 HL
    obtain ⟨A, cc, rfl⟩ := by_form hv
    have hd : decide (4096 < (bs.length : Int)) = false := by simp; omega
    clear hv hn r0 r1 a0 a1
    generalize bs.length = n at *
    go_enter Try.func3, Try.ntmps3
    go_upto_region 4 with (go_at_call 9; (with_reducible refine (H1.out _ (Below.refl _ _)).mono ?_); rintro e w1 ⟨x, rfl, ho, hb⟩; have O1 := Lib.hid ho; have B1 := Lib.hid hb; clear ho hb)
    have hb := below_one w1 (.cells #[.int .u32 rb, .int .i64 rg] 26)
    have L2 := Lib.hid (Pk.new w1 rb rg)
    have B2 := Lib.hid (below_then B1.out hb)
    have O2 := Lib.hid (own_later O1.out hb)
    clear hb
    generalize World.alloc w1 _ = W2 at L2 B2 O2 ⊢
    generalize w1.heap.size = s at *
    clear O1 B1 H1
    go_upto_region 5 with (go_at_call 10; (with_reducible refine (H2.out _ B2.out).mono ?_); rintro e w3 ⟨y, rfl, ho, hb⟩; have P3 := Lib.hid ho; have B3 := Lib.hid (below_then B2.out hb); have L3 := Lib.hid (L2.out.below hb); have O3 := Lib.hid (own_later O2.out hb); clear ho hb)
    have hb := below_one w3 (.cells #[.int .u32 rb, .int .i64 rg] 26)
    have L4 := Lib.hid (L3.out.below hb)
    have M4 := Lib.hid (Pk.new w3 rb rg)
    have B4 := Lib.hid (below_then B3.out hb)
    have O4 := Lib.hid (own_later O3.out hb)
    have P4 := Lib.hid (own_later P3.out hb)
    clear hb
    generalize World.alloc w3 _ = W4 at L4 M4 B4 O4 P4 ⊢
    generalize w3.heap.size = s2 at *
    clear L2 B2 O2 H2 L3 B3 O3 P3
    have HW := Lib.hid (words_same O4.out P4.out (by have := HL.out; omega))
    have c0 := L4.out.c0
    have c1 := L4.out.c1
    have d0 := M4.out.c0
    have d1 := M4.out.c1
    clear O4 P4
    go_wp2_with (first | (go_at_call 11; (with_reducible refine HW.out.mono ?_); rintro e w5 ⟨rfl, hdr⟩; have B5 := Lib.hid (below_then B4.out (below_dr hdr)); clear hdr) | (go_at_call 8; (with_reducible refine (HA.out _).mono ?_); rintro e w6 ⟨rfl, hb⟩; have B6 := Lib.hid (below_then B5.out hb); clear hb))
    go_ret
    exact ⟨rfl, B6.out⟩
  · obtain ⟨A, cc, rfl⟩ := by_form hv
    have hd : decide (4096 < (bs.length : Int)) = true := by simp; omega
    clear hv hn r0 r1 a0 a1
    generalize bs.length = n at *
    go_enter Try.func3, Try.ntmps3
    go_wp2_with (go_at_call 8; (with_reducible refine (HA.out _).mono ?_); rintro e w6 ⟨rfl, hb⟩; have B6 := Lib.hid hb; clear hb)
    go_ret
    exact ⟨rfl, B6.out⟩
set_option maxHeartbeats 3200000 in
theorem maps_walk {w : World} {v : Value} {bs : List UInt8} (root : Int) (hv : ByR w v bs) (hn : bs.length ≤ maxLen) (r0 : 0 ≤ root) (r1 : root < 4294967296) :
    Calls Try.prog 7 #[v, .int .u32 root] w fun e w' => e = .returned (.bool true) ∧ Below w.heap.size w w' := by
  have HA := Lib.hid awake_any
  by_cases hl : bs.length ≤ 4096
  · have H1 := Lib.hid (fun (W : World) (hb : Below w.heap.size w W) => map_any (w := W) root (hv.below hb) hn r0 r1)
    have H2 := Lib.hid (fun (W : World) (hb : Below w.heap.size w W) => rmap_any (w := W) root (hv.below hb) hn r0 r1)
    have HL := Lib.hid (WK.nm_len bs root 256)
    generalize WK.nm bs root 256 = l at *
    obtain ⟨A, cc, rfl⟩ := by_form hv
    have hd : decide (4096 < (bs.length : Int)) = false := by simp; omega
    clear hv hn r0 r1
    generalize bs.length = n at *
    go_enter Try.func7, Try.ntmps7
    go_wp2_with (first
      | (go_at_call 19; (with_reducible refine (H1.out _ (Below.refl _ _)).mono ?_); rintro e w1 ⟨x, rfl, ho, hb⟩; have O1 := Lib.hid (NmR.of_own ho); have B1 := Lib.hid hb; clear ho hb)
      | (go_at_call 20; (with_reducible refine (H2.out _ B1.out).mono ?_); rintro e w2 ⟨y, rfl, ho, hb⟩; have O2 := Lib.hid (O1.out.below hb); have P2 := Lib.hid (NmR.of_own ho); have B2 := Lib.hid (below_then B1.out hb); clear ho hb)
      | (go_at_call 18; (with_reducible refine (names_same O2.out P2.out (by have := HL.out; omega)).mono ?_); rintro e w3 ⟨rfl, hdr⟩; have B3 := Lib.hid (below_then B2.out (below_dr hdr)); clear hdr)
      | (go_at_call 8; (with_reducible refine (HA.out _).mono ?_); rintro e w6 ⟨rfl, hb⟩; have B6 := Lib.hid (below_then B3.out hb); clear hb))
    go_ret
    exact ⟨rfl, B6.out⟩
  · obtain ⟨A, cc, rfl⟩ := by_form hv
    have hd : decide (4096 < (bs.length : Int)) = true := by simp; omega
    clear hv hn r0 r1
    generalize bs.length = n at *
    go_enter Try.func7, Try.ntmps7
    go_wp2_with (go_at_call 8; (with_reducible refine (HA.out _).mono ?_); rintro e w6 ⟨rfl, hb⟩; have B6 := Lib.hid hb; clear hb)
    go_ret
    exact ⟨rfl, B6.out⟩
end Go.Proofs.Ytbeenmglgdhbjaa
