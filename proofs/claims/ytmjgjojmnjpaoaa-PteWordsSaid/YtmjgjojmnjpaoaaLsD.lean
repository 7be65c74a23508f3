/-
  The law on permissions: it returns true for every entry, word and access, and leaves all that was in memory as it was.
-/
import Derived.Test.YtmjgjojmnjpaoaaWalkD
import Derived.Test.YtmjgjojmnjpaoaaWalkF
namespace Go.Proofs.Ytmjgjojmnjpaoaa
open Go.RowKit S01 S10 S11
theorem Pk.set0 {w : World} {s : Nat} {b g : Int} (h : Pk w s b g) (c : Int) : Pk (w.setCell ⟨s, 0, none⟩ (.int .u32 c)) s c g := heap_set h
theorem Pk.other {w : World} {s t : Nat} {b g : Int} (h : Pk w s b g) (hs : s ≠ t) (k : Nat) (v : Value) : Pk (w.setCell ⟨t, k, none⟩ v) s b g := (heap_other hs).trans h
set_option maxHeartbeats 800000 in
theorem more_not (b g m a : Int) (w : World) (h0 : 0 ≤ b) (h1 : b < 4294967296) (ha : PT.al b a false = false) :
    Calls Try.prog 7 #[PV b g, .int .u32 m, .int .i64 a] w fun e w' => e = .returned (.bool true) ∧ Below w.heap.size w w' := by
  have H1 := Lib.hid (fun W => allows_any b g a false W h0 h1)
  have H2 := Lib.hid (fun W => allows_any b g a true W h0 h1)
  rw [ha] at H1
  have hu := PT.al_user b a ha
  have e := PT.bt_user b h0 h1
  generalize PT.al b a true = u at *
  generalize PT.bt b 4 = t at *
  have H7 := Lib.hid awake_any
  clear h0 h1 ha
  have K0 := Lib.hid (Pk.new w b g)
  have B0 := Lib.hid (below_one w (.cells #[.int .u32 b, .int .i64 g] 24))
  unfold PV at *
  cases u
  · clear hu e
    go_enter Try.func7, Try.ntmps7
    go_upto_region 1 with fail
    generalize World.alloc w _ = W0 at K0 B0 ⊢
    have c0 := K0.out.c0
    have c1 := K0.out.c1
    go_wp2_with (first | (go_at_call 15; (with_reducible refine (H1.out _).mono ?_); rintro e w1 ⟨rfl, hb⟩; have K1 := Lib.hid (K0.out.below hb); have B1 := Lib.hid (below_then B0.out hb); have d0 := K1.out.c0; have d1 := K1.out.c1; clear hb) | (go_at_call 15; (with_reducible refine (H2.out _).mono ?_); rintro e w2 ⟨rfl, hb⟩; have B2 := Lib.hid (below_then B1.out hb); clear hb) | (go_at_call 14; (with_reducible refine (H7.out _).mono ?_); rintro e w3 ⟨rfl, hb⟩; have B3 := Lib.hid (below_then B2.out hb); clear hb))
    go_ret
    exact ⟨rfl, B3.out⟩
  · obtain rfl : t = false := by simpa using hu
    have e' : (bits .and .u32 b 16 == 0) = true := e
    clear hu e
    go_enter Try.func7, Try.ntmps7
    go_upto_region 1 with fail
    generalize World.alloc w _ = W0 at K0 B0 ⊢
    have c0 := K0.out.c0
    have c1 := K0.out.c1
    go_wp2_with (first | (go_at_call 15; (with_reducible refine (H1.out _).mono ?_); rintro e w1 ⟨rfl, hb⟩; have K1 := Lib.hid (K0.out.below hb); have B1 := Lib.hid (below_then B0.out hb); have d0 := K1.out.c0; have d1 := K1.out.c1; clear hb) | (go_at_call 15; (with_reducible refine (H2.out _).mono ?_); rintro e w2 ⟨rfl, hb⟩; have K2 := Lib.hid (K1.out.below hb); have B2 := Lib.hid (below_then B1.out hb); have f0 := K2.out.c0; clear hb) | (go_at_call 14; (with_reducible refine (H7.out _).mono ?_); rintro e w3 ⟨rfl, hb⟩; have B3 := Lib.hid (below_then B2.out hb); clear hb))
    go_ret
    exact ⟨rfl, B3.out⟩
set_option maxHeartbeats 1600000 in
theorem more_yes (b g m a : Int) (w : World) (h0 : 0 ≤ b) (h1 : b < 4294967296) (m0 : 0 ≤ m) (m1 : m < 4294967296) (ha : PT.al b a false = true) :
    Calls Try.prog 7 #[PV b g, .int .u32 m, .int .i64 a] w fun e w' => e = .returned (.bool true) ∧ Below w.heap.size w w' := by
  have H1 := Lib.hid (fun W => allows_any b g a false W h0 h1)
  have H2 := Lib.hid (fun W => allows_any b g a true W h0 h1)
  obtain ⟨o0, o1⟩ := PT.or_bd b m h0 h1 m0 m1
  have H3 := Lib.hid (fun W => allows_any (bits .or .u32 b m) g a false W o0 o1)
  have H4 := Lib.hid (fun W => allows_any (bits .or .u32 b m) g a true W o0 o1)
  have H5 := Lib.hid (fun W => leaf_any b g W h0 h1)
  have H7 := Lib.hid awake_any
  rw [ha] at H1
  rw [PT.al_kernel b a ha] at H2
  rw [PT.al_more b m a false h0 h1 m0 m1 ha] at H3
  rw [PT.al_more b m a true h0 h1 m0 m1 (PT.al_kernel b a ha)] at H4
  rw [PT.al_leaf b a false ha] at H5
  obtain ⟨c, hc⟩ : ∃ c, bits .or .u32 b m = c := ⟨_, rfl⟩
  rw [hc] at H3 H4 o0 o1
  clear ha
  have K0 := Lib.hid (Pk.new w b g)
  have B0 := Lib.hid (below_one w (.cells #[.int .u32 b, .int .i64 g] 24))
  unfold PV at *
  go_enter Try.func7, Try.ntmps7
  go_upto_region 1 with fail
  generalize World.alloc w _ = W0 at K0 B0 ⊢
  have c0 := K0.out.c0
  have c1 := K0.out.c1
  go_upto_region 4 with (go_at_call 15; (with_reducible refine (H1.out _).mono ?_); rintro e w1 ⟨rfl, hb⟩; have K1 := Lib.hid (K0.out.below hb); have B1 := Lib.hid (below_then B0.out hb); have d0 := K1.out.c0; have d1 := K1.out.c1; clear hb)
  have hst : w.heap.size ≠ w1.heap.size := Nat.ne_of_lt K1.out.lt
  have hw1 : w.heap.size ≤ w1.heap.size := Nat.le_of_lt K1.out.lt
  have KP := Lib.hid (K1.out.below (below_one w1 (.cells #[.int .u32 b, .int .i64 g] 24)))
  have KQ := Lib.hid (Pk.new w1 b g)
  have B2 := Lib.hid (below_then B1.out (below_one w1 (.cells #[.int .u32 b, .int .i64 g] 24)))
  clear c0 c1 d0 d1 K0 B0 K1 B1 H1
  generalize World.alloc w1 _ = W2 at *
  generalize w1.heap.size = t at *
  have c0 := KQ.out.c0
  have f0 := KQ.out.free 0
  go_upto_region 5 with fail
  have LP := Lib.hid (KP.out.other hst 0 (.int .u32 c))
  have LQ := Lib.hid (KQ.out.set0 c)
  have B3 := Lib.hid (show Below w.heap.size w (W2.setCell ⟨t, 0, none⟩ (.int .u32 c)) from B2.out.setCell hw1 _)
  clear c0 f0 KP KQ B2 hc
  generalize World.setCell W2 _ _ = W3 at *
  have c0 := LQ.out.c0
  have c1 := LQ.out.c1
  go_wp2_with (first | (go_at_call 15; (with_reducible refine (H3.out _).mono ?_); rintro e w2 ⟨rfl, hb⟩; have P2 := Lib.hid (LP.out.below hb); have Q2 := Lib.hid (LQ.out.below hb); have B4 := Lib.hid (below_then B3.out hb); have d0 := P2.out.c0; have d1 := P2.out.c1; clear hb) | (go_at_call 15; (with_reducible refine (H2.out _).mono ?_); rintro e w3 ⟨rfl, hb⟩; have P3 := Lib.hid (P2.out.below hb); have Q3 := Lib.hid (Q2.out.below hb); have B5 := Lib.hid (below_then B4.out hb); have e0 := Q3.out.c0; have e1 := Q3.out.c1; clear hb) | (go_at_call 15; (with_reducible refine (H4.out _).mono ?_); rintro e w4 ⟨rfl, hb⟩; have P4 := Lib.hid (P3.out.below hb); have B6 := Lib.hid (below_then B5.out hb); have f0 := P4.out.c0; have f1 := P4.out.c1; clear hb) | (go_at_call 12; (with_reducible refine (H5.out _).mono ?_); rintro e w5 ⟨rfl, hb⟩; have B7 := Lib.hid (below_then B6.out hb); clear hb) | (go_at_call 14; (with_reducible refine (H7.out _).mono ?_); rintro e w6 ⟨rfl, hb⟩; have B8 := Lib.hid (below_then B7.out hb); clear hb))
  go_ret
  exact ⟨rfl, B8.out⟩
theorem more_walk (b g m a : Int) (w : World) (h0 : 0 ≤ b) (h1 : b < 4294967296) (m0 : 0 ≤ m) (m1 : m < 4294967296) :
    Calls Try.prog 7 #[PV b g, .int .u32 m, .int .i64 a] w fun e w' => e = .returned (.bool true) ∧ Below w.heap.size w w' := by
  by_cases ha : PT.al b a false = true
  · exact more_yes b g m a w h0 h1 m0 m1 ha
  · exact more_not b g m a w h0 h1 (by simpa using ha)
end Go.Proofs.Ytmjgjojmnjpaoaa
