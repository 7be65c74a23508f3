/-
  The chapter's examples hold.
-/
import Derived.Test.YtmjgjojmnjpaoaaWalkD
namespace Go.Proofs.Ytmjgjojmnjpaoaa
open Go.RowKit S01 S10 S11
set_option maxHeartbeats 800000 in
theorem awake_any (w : World) :
    Calls Try.prog 14 #[] w fun e w' => e = .returned (.bool true) ∧ Below w.heap.size w w' := by
  have H1 := Lib.hid (fun W => of_any 801 W (by omega) (by omega))
  have H2 := Lib.hid (fun W => index_any 8191 0 W (by omega) (by omega))
  have H3 := Lib.hid (fun W => index_any 8191 1 W (by omega) (by omega))
  have H4 := Lib.hid (fun W => word_any 33 3 W (by omega) (by omega))
  have H5 := Lib.hid (fun W => allows_any 127 0 3 false W (by omega) (by omega))
  rw [show PT.ix 8191 0 = 7 by decide] at H2
  rw [show PT.ix 8191 1 = 15 by decide] at H3
  rw [show PT.wd 33 3 = 801 by decide] at H4
  rw [show PT.al 127 3 false = true by decide] at H5
  rw [show (801 : Int) % 128 = 33 by decide, show (801 : Int) / 256 % 256 = 3 by decide] at H1
  unfold PV at *
  go_enter Try.func14, Try.ntmps14
  go_upto_region 2 with (first | (go_at_call 8; (with_reducible refine (H1.out _).mono ?_); rintro e w1 ⟨rfl, hb⟩; have B1 := Lib.hid hb; clear hb))
  have K0 := Lib.hid (Pk.new w1 33 3)
  have B0 := Lib.hid (below_then B1.out (below_one w1 (.cells #[.int .u32 33, .int .i64 3] 24)))
  generalize World.alloc w1 _ = W0 at K0 B0 ⊢
  generalize w1.heap.size = s at *
  clear B1 H1
  have c0 := K0.out.c0
  have c1 := K0.out.c1
  go_wp2_with (first | (go_at_call 17; (with_reducible refine (H2.out _).mono ?_); rintro e w2 ⟨rfl, hb⟩; have K2 := Lib.hid (K0.out.below hb); have B2 := Lib.hid (below_then B0.out hb); clear hb) | (go_at_call 17; (with_reducible refine (H3.out _).mono ?_); rintro e w3 ⟨rfl, hb⟩; have K3 := Lib.hid (K2.out.below hb); have B3 := Lib.hid (below_then B2.out hb); have c2 := K3.out.c0; have c3 := K3.out.c1; clear hb) | (go_at_call 10; (with_reducible refine (H4.out _).mono ?_); rintro e w4 ⟨rfl, hb⟩; have B4 := Lib.hid (below_then B3.out hb); clear hb) | (go_at_call 15; (with_reducible refine (H5.out _).mono ?_); rintro e w5 ⟨rfl, hb⟩; have B5 := Lib.hid (below_then B4.out hb); clear hb))
  go_ret
  exact ⟨rfl, B5.out⟩
end Go.Proofs.Ytmjgjojmnjpaoaa
