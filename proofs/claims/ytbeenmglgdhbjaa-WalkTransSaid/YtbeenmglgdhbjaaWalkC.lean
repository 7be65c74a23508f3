/-
  The walk of a virtual address, of the reference. For every slice of bytes.
-/
import Derived.Test.YtbeenmglgdhbjaaWalkB
namespace Go.Proofs.Ytbeenmglgdhbjaa
open Go.RowKit Go.Maps S01 S10 S11 S12
set_option maxHeartbeats 1600000 in
theorem rwalk_far {w : World} {v : Value} {bs : List UInt8} (root va : Int) (hv : ByR w v bs) (_hn : bs.length ≤ maxLen) (_r0 : 0 ≤ root) (_r1 : root < 4294967296) (_a0 : 0 ≤ va) (_a1 : va < 4294967296) (h : 16384 ≤ va) :
    Calls Try.prog 10 #[v, .int .u32 root, .int .u32 va] w (WkPost w ⟨0, 0, [], false⟩) := by
  obtain ⟨A, cc, rfl⟩ := by_form hv
  have HB := Lib.hid (below_one w (.cells #[.int .u32 0, .int .i64 0] 26))
  clear hv _hn _r0 _r1
  have hva : decide (16384 ≤ va) = true := by simpa using h
  go_enter Try.func10, Try.ntmps10
  go_wp2
  exact bodyPost_ret (v := .tuple #[.agg #[.int .u32 0, .int .i64 0], .slice none 0 0, .bool false]) (by simp [results, Try.results10, go_sem]) rfl ⟨.slice none 0 0, rfl, World.ownsRow_nil _ _ _ _, HB.out⟩
set_option maxHeartbeats 3200000 in
theorem rwalk_no1 {w : World} {v : Value} {bs : List UInt8} (root va : Int) (hv : ByR w v bs) (hn : bs.length ≤ maxLen) (_r0 : 0 ≤ root) (_r1 : root < 4294967296) (a0 : 0 ≤ va) (h : va < 16384) (h1 : MM.ck bs.length (WK.pl root va 0) 4 = 9) :
    Calls Try.prog 10 #[v, .int .u32 root, .int .u32 va] w (WkPost w ⟨0, 0, [], false⟩) := by
  obtain ⟨p0, p1⟩ := WK.pl_bd root va 0
  have HX1 := Lib.hid (fun W => rindex_any va 0 W a0 (by omega))
  have HR1 := Lib.hid (fun (W : World) (hb : Below w.heap.size w W) => rread_any (w := W) (WK.pl root va 0) 4 (hv.below hb) hn p0 p1)
  rw [h1] at HR1
  have x1 := PT.ix_bd va 0
  have e1 : (root + 4 * PT.ix va 0) % 4294967296 = WK.pl root va 0 := rfl
  generalize WK.pl root va 0 = y1 at *
  generalize PT.ix va 0 = i1 at *
  obtain ⟨A, cc, rfl⟩ := by_form hv
  have HB := Lib.hid (below_one w (.cells #[.int .u32 0, .int .i64 0] 26))
  clear hv h1 hn
  have hva : decide (16384 ≤ va) = false := by simpa using h
  go_enter Try.func10, Try.ntmps10
  go_upto_region 1 with fail
  generalize hW : World.alloc w _ = W1
  have K0 := Lib.hid (show Pk W1 w.heap.size 0 0 from hW ▸ Pk.new w 0 0)
  rw [hW] at HB
  have HS := Lib.hid (show w.heap.size + 1 ≤ W1.heap.size by rw [← hW]; simp)
  clear hW
  have E1 := Lib.hid e1
  clear e1
  go_upto_region 4 with (go_at_call 27; first | (with_reducible refine (HX1.out _).mono ?_; rintro e w1 ⟨rfl, rfl⟩))
  rw [E1.out]
  generalize MM.rd bs y1 4 = v1 at *
  have K0' := Lib.hid K0.out
  have d0 := K0.out.c0
  have d1 := K0.out.c1
  have df := K0.out.free
  go_wp2_with (go_at_call 28; (with_reducible refine (HR1.out _ HB.out).mono ?_); rintro e w2 ⟨rfl, rfl⟩)
  exact bodyPost_ret (v := .tuple #[.agg #[.int .u32 0, .int .i64 0], .slice none 0 0, .bool false]) (by simp [results, Try.results10, go_sem, d0, d1]) rfl ⟨.slice none 0 0, rfl, World.ownsRow_nil _ _ _ _, (HB.out.setCell (Nat.le_refl _) _).setCell (Nat.le_refl _) _⟩
set_option maxHeartbeats 3200000 in
theorem rwalk_bad1v {w : World} {v : Value} {bs : List UInt8} (root va : Int) (hv : ByR w v bs) (hn : bs.length ≤ maxLen) (_r0 : 0 ≤ root) (_r1 : root < 4294967296) (a0 : 0 ≤ va) (h : va < 16384) (h1 : MM.ck bs.length (WK.pl root va 0) 4 = 0)
    (h2 : PT.bt (WK.w1 bs root va % 128) 0 = false) :
    Calls Try.prog 10 #[v, .int .u32 root, .int .u32 va] w (WkPost w ⟨0, 0, [WK.pl root va 0], false⟩) := by
  obtain ⟨p0, p1⟩ := WK.pl_bd root va 0
  have HX1 := Lib.hid (fun W => rindex_any va 0 W a0 (by omega))
  have HR1 := Lib.hid (fun (W : World) (hb : Below w.heap.size w W) => rread_any (w := W) (WK.pl root va 0) 4 (hv.below hb) hn p0 p1)
  rw [h1] at HR1
  have b := WK.w1_bd bs root va
  have HO1 := Lib.hid (fun W => rof_any (WK.w1 bs root va) W b.1 b.2)
  change Hid (∀ W : World, _ → Calls _ _ _ W fun e w' => e = .returned (.tuple #[.int .u32 (WK.w1 bs root va), _]) ∧ _) at HR1
  have x1 := PT.ix_bd va 0
  have b0 : 0 ≤ WK.w1 bs root va % 128 := by omega
  have b1 : WK.w1 bs root va % 128 < 4294967296 := by omega
  have g0 : 0 ≤ WK.w1 bs root va / 256 % 256 := by omega
  have g1 : WK.w1 bs root va / 256 % 256 < 256 := by omega
  have e1 : (root + 4 * PT.ix va 0) % 4294967296 = WK.pl root va 0 := rfl
  generalize WK.pl root va 0 = y1 at *
  generalize PT.ix va 0 = i1 at *
  generalize WK.w1 bs root va / 256 % 256 = gg1 at *
  generalize WK.w1 bs root va % 128 = bb1 at *
  generalize WK.w1 bs root va = v1 at *
  have HT1 := Lib.hid (show PT.bt bb1 0 = decide (bb1 / 2 ^ 0 % 2 = 1) from rfl)
  rw [h2] at HT1
  have z1 : bb1 % 2 = 0 := by have := HT1.out; simp at this; omega
  obtain ⟨A, cc, rfl⟩ := by_form hv
  have HB := Lib.hid (below_one w (.cells #[.int .u32 0, .int .i64 0] 26))
  clear hv b h1 h2 hn HT1
  unfold PV at *
  have hva : decide (16384 ≤ va) = false := by simpa using h
  go_enter Try.func10, Try.ntmps10
  go_upto_region 1 with fail
  generalize hW : World.alloc w _ = W1
  have K0 := Lib.hid (show Pk W1 w.heap.size 0 0 from hW ▸ Pk.new w 0 0)
  rw [hW] at HB
  have HS := Lib.hid (show w.heap.size + 1 ≤ W1.heap.size by rw [← hW]; simp)
  clear hW
  have E1 := Lib.hid e1
  clear e1
  go_upto_region 4 with (go_at_call 27; first | (with_reducible refine (HX1.out _).mono ?_; rintro e w1 ⟨rfl, rfl⟩))
  rw [E1.out]
  go_upto_region 8 with (first
    | (go_at_call 28; (with_reducible refine (HR1.out _ HB.out).mono ?_); rintro e w2 ⟨rfl, rfl⟩))
  have B2 := Lib.hid (below_then HB.out (below_one W1 (.cells #[.int .u32 y1] 23)))
  have K2 := Lib.hid (K0.out.below (below_one W1 (.cells #[.int .u32 y1] 23)))
  have O2 := Lib.hid (own_one W1 y1 HS.out)
  have T2 := Lib.hid (show W1.heap.size < (W1.alloc (.cells #[.int .u32 y1] 23)).heap.size by simp)
  have S2 := Lib.hid HS.out
  generalize World.alloc W1 _ = W2 at B2 K2 O2 T2 ⊢
  generalize W1.heap.size = s2 at *
  clear HB K0 HS HR1 HX1
  go_upto_region 9 with (go_at_call 29; (with_reducible refine (HO1.out _).mono ?_); rintro e w3 ⟨rfl, hb⟩; have B3 := Lib.hid (below_then B2.out hb); have K3 := Lib.hid (K2.out.below hb); have O3 := Lib.hid (own_later O2.out hb); have T3 := Lib.hid (Nat.lt_of_lt_of_le T2.out hb.size); clear hb)
  have hb := below_one w3 (.cells #[.int .u32 bb1, .int .i64 gg1] 26)
  have L4 := Lib.hid (Pk.new w3 bb1 gg1)
  have B4 := Lib.hid (below_then B3.out hb)
  have K4 := Lib.hid (K3.out.below hb)
  have O4 := Lib.hid (own_later O3.out hb)
  have T4 := Lib.hid (Nat.lt_of_lt_of_le T3.out hb.size)
  have T3' := Lib.hid T3.out
  clear hb
  generalize World.alloc w3 _ = W4 at L4 B4 K4 O4 T4 ⊢
  generalize w3.heap.size = s1 at *
  clear B2 K2 O2 T2 B3 K3 O3 T3 HO1
  have c0 := L4.out.c0
  have c1 := L4.out.c1
  go_upto_region 10 with fail
  clear c0 c1
  have d0 := K4.out.c0
  have d1 := K4.out.c1
  have df := K4.out.free
  go_wp2
  exact bodyPost_ret (v := .tuple #[.agg #[.int .u32 0, .int .i64 0], .slice (some ⟨s2, 0, none⟩) 1 1, .bool false]) (by simp [results, Try.results10, go_sem, d0, d1]) rfl ⟨_, rfl, own_base (own_other (own_other O4.out (Nat.lt_succ_self _)) (Nat.lt_succ_self _)) (Nat.le_succ _), (B4.out.setCell (Nat.le_refl _) _).setCell (Nat.le_refl _) _⟩
set_option maxHeartbeats 3200000 in
theorem rwalk_bad1l {w : World} {v : Value} {bs : List UInt8} (root va : Int) (hv : ByR w v bs) (hn : bs.length ≤ maxLen) (_r0 : 0 ≤ root) (_r1 : root < 4294967296) (a0 : 0 ≤ va) (h : va < 16384) (h1 : MM.ck bs.length (WK.pl root va 0) 4 = 0)
    (h2 : PT.bt (WK.w1 bs root va % 128) 0 = true) (h3 : PT.lf (WK.w1 bs root va % 128) = true) :
    Calls Try.prog 10 #[v, .int .u32 root, .int .u32 va] w (WkPost w ⟨0, 0, [WK.pl root va 0], false⟩) := by
  obtain ⟨p0, p1⟩ := WK.pl_bd root va 0
  have HX1 := Lib.hid (fun W => rindex_any va 0 W a0 (by omega))
  have HR1 := Lib.hid (fun (W : World) (hb : Below w.heap.size w W) => rread_any (w := W) (WK.pl root va 0) 4 (hv.below hb) hn p0 p1)
  rw [h1] at HR1
  have b := WK.w1_bd bs root va
  have HO1 := Lib.hid (fun W => rof_any (WK.w1 bs root va) W b.1 b.2)
  change Hid (∀ W : World, _ → Calls _ _ _ W fun e w' => e = .returned (.tuple #[.int .u32 (WK.w1 bs root va), _]) ∧ _) at HR1
  have x1 := PT.ix_bd va 0
  have b0 : 0 ≤ WK.w1 bs root va % 128 := by omega
  have b1 : WK.w1 bs root va % 128 < 4294967296 := by omega
  have g0 : 0 ≤ WK.w1 bs root va / 256 % 256 := by omega
  have g1 : WK.w1 bs root va / 256 % 256 < 256 := by omega
  have e1 : (root + 4 * PT.ix va 0) % 4294967296 = WK.pl root va 0 := rfl
  generalize WK.pl root va 0 = y1 at *
  generalize PT.ix va 0 = i1 at *
  generalize WK.w1 bs root va / 256 % 256 = gg1 at *
  generalize WK.w1 bs root va % 128 = bb1 at *
  generalize WK.w1 bs root va = v1 at *
  have HL1 := Lib.hid (fun W => rleaf_any bb1 gg1 W b0 b1)
  have HT1 := Lib.hid (show PT.bt bb1 0 = decide (bb1 / 2 ^ 0 % 2 = 1) from rfl)
  rw [h2] at HT1
  rw [h3] at HL1
  have z1 : bb1 % 2 = 1 := by have := HT1.out; simpa using this.symm
  obtain ⟨A, cc, rfl⟩ := by_form hv
  have HB := Lib.hid (below_one w (.cells #[.int .u32 0, .int .i64 0] 26))
  clear hv b h1 h2 h3 hn HT1
  unfold PV at *
  have hva : decide (16384 ≤ va) = false := by simpa using h
  go_enter Try.func10, Try.ntmps10
  go_upto_region 1 with fail
  generalize hW : World.alloc w _ = W1
  have K0 := Lib.hid (show Pk W1 w.heap.size 0 0 from hW ▸ Pk.new w 0 0)
  rw [hW] at HB
  have HS := Lib.hid (show w.heap.size + 1 ≤ W1.heap.size by rw [← hW]; simp)
  clear hW
  have E1 := Lib.hid e1
  clear e1
  go_upto_region 4 with (go_at_call 27; first | (with_reducible refine (HX1.out _).mono ?_; rintro e w1 ⟨rfl, rfl⟩))
  rw [E1.out]
  go_upto_region 8 with (first
    | (go_at_call 28; (with_reducible refine (HR1.out _ HB.out).mono ?_); rintro e w2 ⟨rfl, rfl⟩))
  have B2 := Lib.hid (below_then HB.out (below_one W1 (.cells #[.int .u32 y1] 23)))
  have K2 := Lib.hid (K0.out.below (below_one W1 (.cells #[.int .u32 y1] 23)))
  have O2 := Lib.hid (own_one W1 y1 HS.out)
  have T2 := Lib.hid (show W1.heap.size < (W1.alloc (.cells #[.int .u32 y1] 23)).heap.size by simp)
  have S2 := Lib.hid HS.out
  generalize World.alloc W1 _ = W2 at B2 K2 O2 T2 ⊢
  generalize W1.heap.size = s2 at *
  clear HB K0 HS HR1 HX1
  go_upto_region 9 with (go_at_call 29; (with_reducible refine (HO1.out _).mono ?_); rintro e w3 ⟨rfl, hb⟩; have B3 := Lib.hid (below_then B2.out hb); have K3 := Lib.hid (K2.out.below hb); have O3 := Lib.hid (own_later O2.out hb); have T3 := Lib.hid (Nat.lt_of_lt_of_le T2.out hb.size); clear hb)
  have hb := below_one w3 (.cells #[.int .u32 bb1, .int .i64 gg1] 26)
  have L4 := Lib.hid (Pk.new w3 bb1 gg1)
  have B4 := Lib.hid (below_then B3.out hb)
  have K4 := Lib.hid (K3.out.below hb)
  have O4 := Lib.hid (own_later O3.out hb)
  have T4 := Lib.hid (Nat.lt_of_lt_of_le T3.out hb.size)
  have T3' := Lib.hid T3.out
  clear hb
  generalize World.alloc w3 _ = W4 at L4 B4 K4 O4 T4 ⊢
  generalize w3.heap.size = s1 at *
  clear B2 K2 O2 T2 B3 K3 O3 T3 HO1
  have c0 := L4.out.c0
  have c1 := L4.out.c1
  go_upto_region 10 with (go_at_call 30; (with_reducible refine (HL1.out _).mono ?_); rintro e w6 ⟨rfl, hb⟩; have B6 := Lib.hid (below_then B4.out hb); have K6 := Lib.hid (K4.out.below hb); have L6 := Lib.hid (L4.out.below hb); have O6 := Lib.hid (own_later O4.out hb); have T6 := Lib.hid (Nat.lt_of_lt_of_le T4.out hb.size); clear hb)
  clear c0 c1 B4 K4 L4 O4 T4 HL1
  have d0 := K6.out.c0
  have d1 := K6.out.c1
  have df := K6.out.free
  go_wp2
  exact bodyPost_ret (v := .tuple #[.agg #[.int .u32 0, .int .i64 0], .slice (some ⟨s2, 0, none⟩) 1 1, .bool false]) (by simp [results, Try.results10, go_sem, d0, d1]) rfl ⟨_, rfl, own_base (own_other (own_other O6.out (Nat.lt_succ_self _)) (Nat.lt_succ_self _)) (Nat.le_succ _), (B6.out.setCell (Nat.le_refl _) _).setCell (Nat.le_refl _) _⟩
set_option maxHeartbeats 3200000 in
theorem rwalk_no2 {w : World} {v : Value} {bs : List UInt8} (root va : Int) (hv : ByR w v bs) (hn : bs.length ≤ maxLen) (_r0 : 0 ≤ root) (_r1 : root < 4294967296) (a0 : 0 ≤ va) (h : va < 16384) (h1 : MM.ck bs.length (WK.pl root va 0) 4 = 0)
    (h2 : (PT.bt (WK.w1 bs root va % 128) 0 && !PT.lf (WK.w1 bs root va % 128)) = true) (h3 : MM.ck bs.length (WK.p2 bs root va) 4 = 9) :
    Calls Try.prog 10 #[v, .int .u32 root, .int .u32 va] w (WkPost w ⟨0, 0, [WK.pl root va 0], false⟩) := by
  obtain ⟨p0, p1⟩ := WK.pl_bd root va 0
  have q := WK.pl_bd (PT.ad (WK.w1 bs root va / 256 % 256) 0) va 1
  have HX1 := Lib.hid (fun W => rindex_any va 0 W a0 (by omega))
  have HX2 := Lib.hid (fun W => rindex_any va 1 W a0 (by omega))
  have HR1 := Lib.hid (fun (W : World) (hb : Below w.heap.size w W) => rread_any (w := W) (WK.pl root va 0) 4 (hv.below hb) hn p0 p1)
  have HR2 := Lib.hid (fun (W : World) (hb : Below w.heap.size w W) => rread_any (w := W) (WK.p2 bs root va) 4 (hv.below hb) hn q.1 q.2)
  rw [h1] at HR1
  rw [h3] at HR2
  have b := WK.w1_bd bs root va
  have HO1 := Lib.hid (fun W => rof_any (WK.w1 bs root va) W b.1 b.2)
  change Hid (∀ W : World, _ → Calls _ _ _ W fun e w' => e = .returned (.tuple #[.int .u32 (WK.w1 bs root va), _]) ∧ _) at HR1
  change 0 ≤ WK.p2 bs root va ∧ WK.p2 bs root va < 4294967296 at q
  have x1 := PT.ix_bd va 0
  have x2 := PT.ix_bd va 1
  have b0 : 0 ≤ WK.w1 bs root va % 128 := by omega
  have b1 : WK.w1 bs root va % 128 < 4294967296 := by omega
  have g0 : 0 ≤ WK.w1 bs root va / 256 % 256 := by omega
  have g1 : WK.w1 bs root va / 256 % 256 < 256 := by omega
  have e1 : (root + 4 * PT.ix va 0) % 4294967296 = WK.pl root va 0 := rfl
  have e2 : 64 * (WK.w1 bs root va / 256 % 256) + 4 * PT.ix va 1 = WK.p2 bs root va := by unfold WK.p2 WK.pl PT.ad; omega
  generalize WK.p2 bs root va = y2 at *
  generalize WK.pl root va 0 = y1 at *
  generalize PT.ix va 0 = i1 at *
  generalize PT.ix va 1 = i2 at *
  generalize WK.w1 bs root va / 256 % 256 = gg1 at *
  generalize WK.w1 bs root va % 128 = bb1 at *
  generalize WK.w1 bs root va = v1 at *
  have HL1 := Lib.hid (fun W => rleaf_any bb1 gg1 W b0 b1)
  have HT1 := Lib.hid (show PT.bt bb1 0 = decide (bb1 / 2 ^ 0 % 2 = 1) from rfl)
  rw [Bool.and_eq_true] at h2
  rw [h2.1] at HT1
  rw [show PT.lf bb1 = false by simpa using h2.2] at HL1
  have z1 : bb1 % 2 = 1 := by have := HT1.out; simpa using this.symm
  obtain ⟨A, cc, rfl⟩ := by_form hv
  have HB := Lib.hid (below_one w (.cells #[.int .u32 0, .int .i64 0] 26))
  clear hv b h1 h2 h3 hn HT1
  unfold PV at *
  have hva : decide (16384 ≤ va) = false := by simpa using h
  go_enter Try.func10, Try.ntmps10
  go_upto_region 1 with fail
  generalize hW : World.alloc w _ = W1
  have K0 := Lib.hid (show Pk W1 w.heap.size 0 0 from hW ▸ Pk.new w 0 0)
  rw [hW] at HB
  have HS := Lib.hid (show w.heap.size + 1 ≤ W1.heap.size by rw [← hW]; simp)
  clear hW
  have E1 := Lib.hid e1
  have E2 := Lib.hid e2
  clear e1 e2
  go_upto_region 4 with (go_at_call 27; first | (with_reducible refine (HX1.out _).mono ?_; rintro e w1 ⟨rfl, rfl⟩))
  rw [E1.out]
  go_upto_region 8 with (first
    | (go_at_call 28; (with_reducible refine (HR1.out _ HB.out).mono ?_); rintro e w2 ⟨rfl, rfl⟩))
  have B2 := Lib.hid (below_then HB.out (below_one W1 (.cells #[.int .u32 y1] 23)))
  have K2 := Lib.hid (K0.out.below (below_one W1 (.cells #[.int .u32 y1] 23)))
  have O2 := Lib.hid (own_one W1 y1 HS.out)
  have T2 := Lib.hid (show W1.heap.size < (W1.alloc (.cells #[.int .u32 y1] 23)).heap.size by simp)
  have S2 := Lib.hid HS.out
  generalize World.alloc W1 _ = W2 at B2 K2 O2 T2 ⊢
  generalize W1.heap.size = s2 at *
  clear HB K0 HS HR1 HX1
  go_upto_region 9 with (go_at_call 29; (with_reducible refine (HO1.out _).mono ?_); rintro e w3 ⟨rfl, hb⟩; have B3 := Lib.hid (below_then B2.out hb); have K3 := Lib.hid (K2.out.below hb); have O3 := Lib.hid (own_later O2.out hb); have T3 := Lib.hid (Nat.lt_of_lt_of_le T2.out hb.size); clear hb)
  have hb := below_one w3 (.cells #[.int .u32 bb1, .int .i64 gg1] 26)
  have L4 := Lib.hid (Pk.new w3 bb1 gg1)
  have B4 := Lib.hid (below_then B3.out hb)
  have K4 := Lib.hid (K3.out.below hb)
  have O4 := Lib.hid (own_later O3.out hb)
  have T4 := Lib.hid (Nat.lt_of_lt_of_le T3.out hb.size)
  have T3' := Lib.hid T3.out
  clear hb
  generalize World.alloc w3 _ = W4 at L4 B4 K4 O4 T4 ⊢
  generalize w3.heap.size = s1 at *
  clear B2 K2 O2 T2 B3 K3 O3 T3 HO1
  have c0 := L4.out.c0
  have c1 := L4.out.c1
  go_upto_region 11 with (go_at_call 30; (with_reducible refine (HL1.out _).mono ?_); rintro e w6 ⟨rfl, hb⟩; have B6 := Lib.hid (below_then B4.out hb); have K6 := Lib.hid (K4.out.below hb); have L6 := Lib.hid (L4.out.below hb); have O6 := Lib.hid (own_later O4.out hb); have T6 := Lib.hid (Nat.lt_of_lt_of_le T4.out hb.size); clear hb)
  clear c0 c1 B4 K4 L4 O4 T4 HL1
  have GX := Lib.hid (fun v (hv : v = w6.drew) => (HX2.out v).mono (R' := fun e v' => e = .returned (.int .i64 i2) ∧ v' = w6.drew) fun _ _ ⟨he, hb⟩ => ⟨he, hb ▸ hv⟩)
  have q1 : IntKind.i64.wrap (64 * gg1) = 64 * gg1 := by rw [IntKind.wrap_i64]; omega
  have q2 : IntKind.u32.wrap (64 * gg1) = 64 * gg1 := by rw [IntKind.wrap_u32]; omega
  have q3 : IntKind.u32.wrap i2 = i2 := by rw [IntKind.wrap_u32]; omega
  have q4 : IntKind.u32.wrap (4 * i2) = 4 * i2 := by rw [IntKind.wrap_u32]; omega
  have q5 : IntKind.u32.wrap (64 * gg1 + 4 * i2) = y2 := by rw [IntKind.wrap_u32, E2.out]; omega
  refine wp_region_calm (fun v => v = w6.drew) (by kernel_rfl) (by kernel_rfl) rfl ?_
  refine wpq_val (v := ?vr0) (by rfl) ?yr0 ?rr0
  case yr0 => (intro W hW; go_simp; try rfl)
  simp only [Act.put, List.setIfInBounds_toArray, List.set_cons_zero, List.set_cons_succ]
  refine wpq_val (v := ?vr1) (by rfl) ?yr1 ?rr1
  case yr1 => (intro W hW; have d1 := L6.out.c1; go_simp; try rfl)
  simp only [Act.put, List.setIfInBounds_toArray, List.set_cons_zero, List.set_cons_succ]
  refine wpq_val (v := ?vr2) (by rfl) ?yr2 ?rr2
  case yr2 => (intro W hW; go_simp; try rfl)
  simp only [Act.put, List.setIfInBounds_toArray, List.set_cons_zero, List.set_cons_succ]
  refine wpq_val (v := ?vr3) (by rfl) ?yr3 ?rr3
  case yr3 => (intro W hW; go_simp; try rfl)
  simp only [Act.put, List.setIfInBounds_toArray, List.set_cons_zero, List.set_cons_succ]
  refine wpq_val (v := ?vr4) (by rfl) ?yr4 ?rr4
  case yr4 => (intro W hW; go_simp; try rfl)
  simp only [Act.put, List.setIfInBounds_toArray, List.set_cons_zero, List.set_cons_succ]
  refine wpq_call (by rfl) GX.out (fun W => by (go_simp; done)) ?_
  simp only [Act.put, List.setIfInBounds_toArray, List.set_cons_zero, List.set_cons_succ]
  refine wpq_val (v := ?vr6) (by rfl) ?yr6 ?rr6
  case yr6 => (intro W hW; go_simp; try rfl)
  simp only [Act.put, List.setIfInBounds_toArray, List.set_cons_zero, List.set_cons_succ]
  refine wpq_val (v := ?vr7) (by rfl) ?yr7 ?rr7
  case yr7 => (intro W hW; go_simp; try rfl)
  simp only [Act.put, List.setIfInBounds_toArray, List.set_cons_zero, List.set_cons_succ]
  refine wpq_val (v := ?vr8) (by rfl) ?yr8 ?rr8
  case yr8 => (intro W hW; go_simp; try rfl)
  simp only [Act.put, List.setIfInBounds_toArray, List.set_cons_zero, List.set_cons_succ]
  refine wpq_val (v := ?vr9) (by rfl) ?yr9 ?rr9
  case yr9 => (intro W hW; go_simp; try rfl)
  simp only [Act.put, List.setIfInBounds_toArray, List.set_cons_zero, List.set_cons_succ]
  refine wpQuiet_nil ?_
  rintro W7 rfl
  have B7 := Lib.hid B6.out.drew
  have K7 := Lib.hid K6.out.drew
  have L7 := Lib.hid L6.out.drew
  have O7 := Lib.hid (own_later O6.out (Below.refl _ _).drew)
  have T7 := Lib.hid (show s2 < w6.drew.heap.size from T6.out)
  generalize World.drew w6 = W7 at B7 K7 L7 O7 T7 ⊢
  clear B6 K6 L6 O6 T6 GX HX2 q1 q2 q3 q4 q5
  generalize MM.rd bs y2 4 = v2 at *
  have d0 := K7.out.c0
  have d1 := K7.out.c1
  have df := K7.out.free
  go_upto_region 14 with (go_at_call 28; (with_reducible refine (HR2.out _ B7.out).mono ?_); rintro e w8 ⟨rfl, rfl⟩)
  go_wp2
  exact bodyPost_ret (v := .tuple #[.agg #[.int .u32 0, .int .i64 0], .slice (some ⟨s2, 0, none⟩) 1 1, .bool false]) (by simp [results, Try.results10, go_sem, d0, d1]) rfl ⟨_, rfl, own_base (own_other (own_other O7.out (Nat.lt_succ_self _)) (Nat.lt_succ_self _)) (Nat.le_succ _), (B7.out.setCell (Nat.le_refl _) _).setCell (Nat.le_refl _) _⟩
set_option maxHeartbeats 3200000 in
theorem rwalk_bad2v {w : World} {v : Value} {bs : List UInt8} (root va : Int) (hv : ByR w v bs) (hn : bs.length ≤ maxLen) (_r0 : 0 ≤ root) (_r1 : root < 4294967296) (a0 : 0 ≤ va) (h : va < 16384) (h1 : MM.ck bs.length (WK.pl root va 0) 4 = 0)
    (h2 : (PT.bt (WK.w1 bs root va % 128) 0 && !PT.lf (WK.w1 bs root va % 128)) = true) (h3 : MM.ck bs.length (WK.p2 bs root va) 4 = 0) (h4 : PT.bt (WK.w2 bs root va % 128) 0 = false) :
    Calls Try.prog 10 #[v, .int .u32 root, .int .u32 va] w (WkPost w ⟨0, 0, [WK.pl root va 0, WK.p2 bs root va], false⟩) := by
  obtain ⟨i0, hi, hz0, hz1, hz2⟩ := info_parts info23
  have HI := Lib.hid (And.intro hi (And.intro hz0 (And.intro hz1 hz2)))
  clear hi hz0 hz1 hz2
  obtain ⟨p0, p1⟩ := WK.pl_bd root va 0
  have q := WK.pl_bd (PT.ad (WK.w1 bs root va / 256 % 256) 0) va 1
  have HX1 := Lib.hid (fun W => rindex_any va 0 W a0 (by omega))
  have HX2 := Lib.hid (fun W => rindex_any va 1 W a0 (by omega))
  have HR1 := Lib.hid (fun (W : World) (hb : Below w.heap.size w W) => rread_any (w := W) (WK.pl root va 0) 4 (hv.below hb) hn p0 p1)
  have HR2 := Lib.hid (fun (W : World) (hb : Below w.heap.size w W) => rread_any (w := W) (WK.p2 bs root va) 4 (hv.below hb) hn q.1 q.2)
  rw [h1] at HR1
  rw [h3] at HR2
  have b := WK.w1_bd bs root va
  have c := WK.w2_bd bs root va
  have HO1 := Lib.hid (fun W => rof_any (WK.w1 bs root va) W b.1 b.2)
  have HO2 := Lib.hid (fun W => rof_any (WK.w2 bs root va) W c.1 c.2)
  change Hid (∀ W : World, _ → Calls _ _ _ W fun e w' => e = .returned (.tuple #[.int .u32 (WK.w1 bs root va), _]) ∧ _) at HR1
  change Hid (∀ W : World, _ → Calls _ _ _ W fun e w' => e = .returned (.tuple #[.int .u32 (WK.w2 bs root va), _]) ∧ _) at HR2
  change 0 ≤ WK.p2 bs root va ∧ WK.p2 bs root va < 4294967296 at q
  have x1 := PT.ix_bd va 0
  have x2 := PT.ix_bd va 1
  have b0 : 0 ≤ WK.w1 bs root va % 128 := by omega
  have b1 : WK.w1 bs root va % 128 < 4294967296 := by omega
  have c0 : 0 ≤ WK.w2 bs root va % 128 := by omega
  have c1 : WK.w2 bs root va % 128 < 4294967296 := by omega
  have g0 : 0 ≤ WK.w1 bs root va / 256 % 256 := by omega
  have g1 : WK.w1 bs root va / 256 % 256 < 256 := by omega
  have e1 : (root + 4 * PT.ix va 0) % 4294967296 = WK.pl root va 0 := rfl
  have e2 : 64 * (WK.w1 bs root va / 256 % 256) + 4 * PT.ix va 1 = WK.p2 bs root va := by unfold WK.p2 WK.pl PT.ad; omega
  generalize WK.p2 bs root va = y2 at *
  generalize WK.pl root va 0 = y1 at *
  generalize PT.ix va 0 = i1 at *
  generalize PT.ix va 1 = i2 at *
  generalize WK.w1 bs root va / 256 % 256 = gg1 at *
  generalize WK.w2 bs root va / 256 % 256 = gg2 at *
  generalize WK.w1 bs root va % 128 = bb1 at *
  generalize WK.w2 bs root va % 128 = bb2 at *
  generalize WK.w1 bs root va = v1 at *
  generalize WK.w2 bs root va = v2 at *
  have HL1 := Lib.hid (fun W => rleaf_any bb1 gg1 W b0 b1)
  have HT1 := Lib.hid (show PT.bt bb1 0 = decide (bb1 / 2 ^ 0 % 2 = 1) from rfl)
  have HT2 := Lib.hid (show PT.bt bb2 0 = decide (bb2 / 2 ^ 0 % 2 = 1) from rfl)
  rw [Bool.and_eq_true] at h2
  rw [h2.1] at HT1
  rw [show PT.lf bb1 = false by simpa using h2.2] at HL1
  rw [h4] at HT2
  have z1 : bb1 % 2 = 1 := by have := HT1.out; simpa using this.symm
  have z2 : bb2 % 2 = 0 := by have := HT2.out; simp at this; omega
  obtain ⟨A, cc, rfl⟩ := by_form hv
  have HB := Lib.hid (below_one w (.cells #[.int .u32 0, .int .i64 0] 26))
  clear hv b c h1 h2 h3 h4 hn HT1 HT2
  unfold PV at *
  have hva : decide (16384 ≤ va) = false := by simpa using h
  go_enter Try.func10, Try.ntmps10
  go_upto_region 1 with fail
  generalize hW : World.alloc w _ = W1
  have K0 := Lib.hid (show Pk W1 w.heap.size 0 0 from hW ▸ Pk.new w 0 0)
  rw [hW] at HB
  have HS := Lib.hid (show w.heap.size + 1 ≤ W1.heap.size by rw [← hW]; simp)
  clear hW
  have E1 := Lib.hid e1
  have E2 := Lib.hid e2
  clear e1 e2
  go_upto_region 4 with (go_at_call 27; first | (with_reducible refine (HX1.out _).mono ?_; rintro e w1 ⟨rfl, rfl⟩))
  rw [E1.out]
  go_upto_region 8 with (first
    | (go_at_call 28; (with_reducible refine (HR1.out _ HB.out).mono ?_); rintro e w2 ⟨rfl, rfl⟩))
  have B2 := Lib.hid (below_then HB.out (below_one W1 (.cells #[.int .u32 y1] 23)))
  have K2 := Lib.hid (K0.out.below (below_one W1 (.cells #[.int .u32 y1] 23)))
  have O2 := Lib.hid (own_one W1 y1 HS.out)
  have T2 := Lib.hid (show W1.heap.size < (W1.alloc (.cells #[.int .u32 y1] 23)).heap.size by simp)
  have S2 := Lib.hid HS.out
  generalize World.alloc W1 _ = W2 at B2 K2 O2 T2 ⊢
  generalize W1.heap.size = s2 at *
  clear HB K0 HS HR1 HX1
  go_upto_region 9 with (go_at_call 29; (with_reducible refine (HO1.out _).mono ?_); rintro e w3 ⟨rfl, hb⟩; have B3 := Lib.hid (below_then B2.out hb); have K3 := Lib.hid (K2.out.below hb); have O3 := Lib.hid (own_later O2.out hb); have T3 := Lib.hid (Nat.lt_of_lt_of_le T2.out hb.size); clear hb)
  have hb := below_one w3 (.cells #[.int .u32 bb1, .int .i64 gg1] 26)
  have L4 := Lib.hid (Pk.new w3 bb1 gg1)
  have B4 := Lib.hid (below_then B3.out hb)
  have K4 := Lib.hid (K3.out.below hb)
  have O4 := Lib.hid (own_later O3.out hb)
  have T4 := Lib.hid (Nat.lt_of_lt_of_le T3.out hb.size)
  have T3' := Lib.hid T3.out
  clear hb
  generalize World.alloc w3 _ = W4 at L4 B4 K4 O4 T4 ⊢
  generalize w3.heap.size = s1 at *
  clear B2 K2 O2 T2 B3 K3 O3 T3 HO1
  have c0 := L4.out.c0
  have c1 := L4.out.c1
  go_upto_region 11 with (go_at_call 30; (with_reducible refine (HL1.out _).mono ?_); rintro e w6 ⟨rfl, hb⟩; have B6 := Lib.hid (below_then B4.out hb); have K6 := Lib.hid (K4.out.below hb); have L6 := Lib.hid (L4.out.below hb); have O6 := Lib.hid (own_later O4.out hb); have T6 := Lib.hid (Nat.lt_of_lt_of_le T4.out hb.size); clear hb)
  clear c0 c1 B4 K4 L4 O4 T4 HL1
  have GX := Lib.hid (fun v (hv : v = w6.drew) => (HX2.out v).mono (R' := fun e v' => e = .returned (.int .i64 i2) ∧ v' = w6.drew) fun _ _ ⟨he, hb⟩ => ⟨he, hb ▸ hv⟩)
  have q1 : IntKind.i64.wrap (64 * gg1) = 64 * gg1 := by rw [IntKind.wrap_i64]; omega
  have q2 : IntKind.u32.wrap (64 * gg1) = 64 * gg1 := by rw [IntKind.wrap_u32]; omega
  have q3 : IntKind.u32.wrap i2 = i2 := by rw [IntKind.wrap_u32]; omega
  have q4 : IntKind.u32.wrap (4 * i2) = 4 * i2 := by rw [IntKind.wrap_u32]; omega
  have q5 : IntKind.u32.wrap (64 * gg1 + 4 * i2) = y2 := by rw [IntKind.wrap_u32, E2.out]; omega
  refine wp_region_calm (fun v => v = w6.drew) (by kernel_rfl) (by kernel_rfl) rfl ?_
  refine wpq_val (v := ?vr0) (by rfl) ?yr0 ?rr0
  case yr0 => (intro W hW; go_simp; try rfl)
  simp only [Act.put, List.setIfInBounds_toArray, List.set_cons_zero, List.set_cons_succ]
  refine wpq_val (v := ?vr1) (by rfl) ?yr1 ?rr1
  case yr1 => (intro W hW; have d1 := L6.out.c1; go_simp; try rfl)
  simp only [Act.put, List.setIfInBounds_toArray, List.set_cons_zero, List.set_cons_succ]
  refine wpq_val (v := ?vr2) (by rfl) ?yr2 ?rr2
  case yr2 => (intro W hW; go_simp; try rfl)
  simp only [Act.put, List.setIfInBounds_toArray, List.set_cons_zero, List.set_cons_succ]
  refine wpq_val (v := ?vr3) (by rfl) ?yr3 ?rr3
  case yr3 => (intro W hW; go_simp; try rfl)
  simp only [Act.put, List.setIfInBounds_toArray, List.set_cons_zero, List.set_cons_succ]
  refine wpq_val (v := ?vr4) (by rfl) ?yr4 ?rr4
  case yr4 => (intro W hW; go_simp; try rfl)
  simp only [Act.put, List.setIfInBounds_toArray, List.set_cons_zero, List.set_cons_succ]
  refine wpq_call (by rfl) GX.out (fun W => by (go_simp; done)) ?_
  simp only [Act.put, List.setIfInBounds_toArray, List.set_cons_zero, List.set_cons_succ]
  refine wpq_val (v := ?vr6) (by rfl) ?yr6 ?rr6
  case yr6 => (intro W hW; go_simp; try rfl)
  simp only [Act.put, List.setIfInBounds_toArray, List.set_cons_zero, List.set_cons_succ]
  refine wpq_val (v := ?vr7) (by rfl) ?yr7 ?rr7
  case yr7 => (intro W hW; go_simp; try rfl)
  simp only [Act.put, List.setIfInBounds_toArray, List.set_cons_zero, List.set_cons_succ]
  refine wpq_val (v := ?vr8) (by rfl) ?yr8 ?rr8
  case yr8 => (intro W hW; go_simp; try rfl)
  simp only [Act.put, List.setIfInBounds_toArray, List.set_cons_zero, List.set_cons_succ]
  refine wpq_val (v := ?vr9) (by rfl) ?yr9 ?rr9
  case yr9 => (intro W hW; go_simp; try rfl)
  simp only [Act.put, List.setIfInBounds_toArray, List.set_cons_zero, List.set_cons_succ]
  refine wpQuiet_nil ?_
  rintro W7 rfl
  have B7 := Lib.hid B6.out.drew
  have K7 := Lib.hid K6.out.drew
  have L7 := Lib.hid L6.out.drew
  have O7 := Lib.hid (own_later O6.out (Below.refl _ _).drew)
  have T7 := Lib.hid (show s2 < w6.drew.heap.size from T6.out)
  generalize World.drew w6 = W7 at B7 K7 L7 O7 T7 ⊢
  clear B6 K6 L6 O6 T6 GX HX2 q1 q2 q3 q4 q5
  go_upto_region 15 with (go_at_call 28; (with_reducible refine (HR2.out _ B7.out).mono ?_); rintro e w8 ⟨rfl, rfl⟩)
  clear HR2
  have HM := Lib.hid (show w.heap.size + 1 ≤ (W7.alloc (.cells #[.int .u32 y2] 23)).heap.size by have := T7.out; have := S2.out; simp; omega)
  have HO := Lib.hid (O7.out.alloc (.cells #[.int .u32 y2] 23))
  have HN := Lib.hid (cell_one_new W7 (.int .u32 y2) 23)
  have HL := Lib.hid (show s1 < (W7.alloc (.cells #[.int .u32 y2] 23)).heap.size by have := L7.out.lt; simp; omega)
  go_upto_region 16 with (at_builtin; refine wpList_append_lies _ rfl _ _ 27 rfl (w.heap.size + 1) 23 i0 (.int .u32 0) 1 4 Try.underlying27 HI.out.1 HI.out.2.1 HI.out.2.2.1 HI.out.2.2.2 rfl (by decide) (.slice (some ⟨s2, 0, none⟩) 1 1) 1 [.int .u32 y1] rfl HO.out ⟨_, 0, none⟩ 1 1 [.int .u32 y2] rfl rfl HN.out ?c2 (by decide) (by decide) (by decide) HM.out _ rfl ?_)
  · intro u hu; simp at hu; subst hu; rfl
  intro G cap w11 hown' hgrow hwhere _
  have hb := below_one W7 (.cells #[.int .u32 y2] 23)
  have HG := Lib.hid (show G ≠ s1 by have := HL.out; have := T3'.out; have hw : s2 = G ∨ G = (W7.alloc (.cells #[.int .u32 y2] 23)).heap.size := by simpa [Value.ownBlock] using hwhere
                                     omega)
  have HG0 := Lib.hid (show w.heap.size + 1 ≤ G from (hown'.lt G rfl).1)
  have O11 := Lib.hid hown'
  have K11 := Lib.hid (pk_grown (K7.out.below hb) hgrow (by have := S2.out; simp [Value.ownBlock]; omega))
  have L11 := Lib.hid (pk_grown (L7.out.below hb) hgrow (by have := T3'.out; simp [Value.ownBlock]; omega))
  have B11 := Lib.hid ((below_then B7.out hb).grown hgrow (by have := HM.out; omega) (by intro k hk; simp [Value.ownBlock] at hk; have := S2.out; omega))
  have HS1 := Lib.hid (show w.heap.size < s1 by have := T3'.out; have := S2.out; omega)
  clear hown' hgrow hwhere hb B7 K7 O7 T7 L7 HM HO HN HL T3' S2
  go_upto_region 17 with (go_at_call 29; (with_reducible refine (HO2.out _).mono ?_); rintro e w12 ⟨rfl, hb⟩; have B12 := Lib.hid (below_then B11.out hb); have K12 := Lib.hid (K11.out.below hb); have L12 := Lib.hid (L11.out.below hb); have O12 := Lib.hid (own_later O11.out hb); have c0 := L12.out.c0; have c1 := L12.out.c1; have cf := L12.out.free; clear hb)
  have L13 := Lib.hid (pk_set L12.out bb2 gg2)
  have K13 := Lib.hid (pk_other (s' := s1) (pk_other (s' := s1) K12.out (by have := HS1.out; omega) 0 (.int .u32 bb2)) (by have := HS1.out; omega) 1 (.int .i64 gg2))
  have B13 := Lib.hid ((B12.out.setCell (p := ⟨s1, 0, none⟩) (Nat.le_of_lt HS1.out) (.int .u32 bb2)).setCell (p := ⟨s1, 1, none⟩) (Nat.le_of_lt HS1.out) (.int .i64 gg2))
  have O13 := Lib.hid (own_keep (own_keep (w' := w12.setCell ⟨s1, 0, none⟩ (.int .u32 bb2)) O12.out fun k hk => heap_other (by injection hk with hk; subst hk; exact HG.out)) (w' := (w12.setCell ⟨s1, 0, none⟩ (.int .u32 bb2)).setCell ⟨s1, 1, none⟩ (.int .i64 gg2)) fun k hk => heap_other (by injection hk with hk; subst hk; exact HG.out))
  clear c0 c1 cf B11 K11 L11 O11 B12 K12 L12 O12 HO2
  generalize World.setCell _ _ _ = W13 at L13 K13 B13 O13 ⊢
  have c0 := L13.out.c0
  have c1 := L13.out.c1
  go_upto_region 18 with fail
  clear c0 c1
  have d0 := K13.out.c0
  have d1 := K13.out.c1
  have df := K13.out.free
  go_wp2
  exact bodyPost_ret (v := .tuple #[.agg #[.int .u32 0, .int .i64 0], .slice (some ⟨G, 0, none⟩) 2 cap, .bool false]) (by simp [results, Try.results10, go_sem, d0, d1]) rfl ⟨_, rfl, own_base (own_other (own_other O13.out (Nat.lt_succ_self _)) (Nat.lt_succ_self _)) (Nat.le_succ _), (B13.out.setCell (Nat.le_refl _) _).setCell (Nat.le_refl _) _⟩
set_option maxHeartbeats 3200000 in
theorem rwalk_bad2l {w : World} {v : Value} {bs : List UInt8} (root va : Int) (hv : ByR w v bs) (hn : bs.length ≤ maxLen) (_r0 : 0 ≤ root) (_r1 : root < 4294967296) (a0 : 0 ≤ va) (h : va < 16384) (h1 : MM.ck bs.length (WK.pl root va 0) 4 = 0)
    (h2 : (PT.bt (WK.w1 bs root va % 128) 0 && !PT.lf (WK.w1 bs root va % 128)) = true) (h3 : MM.ck bs.length (WK.p2 bs root va) 4 = 0) (h4 : PT.bt (WK.w2 bs root va % 128) 0 = true) (h5 : PT.lf (WK.w2 bs root va % 128) = false) :
    Calls Try.prog 10 #[v, .int .u32 root, .int .u32 va] w (WkPost w ⟨0, 0, [WK.pl root va 0, WK.p2 bs root va], false⟩) := by
  obtain ⟨i0, hi, hz0, hz1, hz2⟩ := info_parts info23
  have HI := Lib.hid (And.intro hi (And.intro hz0 (And.intro hz1 hz2)))
  clear hi hz0 hz1 hz2
  obtain ⟨p0, p1⟩ := WK.pl_bd root va 0
  have q := WK.pl_bd (PT.ad (WK.w1 bs root va / 256 % 256) 0) va 1
  have HX1 := Lib.hid (fun W => rindex_any va 0 W a0 (by omega))
  have HX2 := Lib.hid (fun W => rindex_any va 1 W a0 (by omega))
  have HR1 := Lib.hid (fun (W : World) (hb : Below w.heap.size w W) => rread_any (w := W) (WK.pl root va 0) 4 (hv.below hb) hn p0 p1)
  have HR2 := Lib.hid (fun (W : World) (hb : Below w.heap.size w W) => rread_any (w := W) (WK.p2 bs root va) 4 (hv.below hb) hn q.1 q.2)
  rw [h1] at HR1
  rw [h3] at HR2
  have b := WK.w1_bd bs root va
  have c := WK.w2_bd bs root va
  have HO1 := Lib.hid (fun W => rof_any (WK.w1 bs root va) W b.1 b.2)
  have HO2 := Lib.hid (fun W => rof_any (WK.w2 bs root va) W c.1 c.2)
  change Hid (∀ W : World, _ → Calls _ _ _ W fun e w' => e = .returned (.tuple #[.int .u32 (WK.w1 bs root va), _]) ∧ _) at HR1
  change Hid (∀ W : World, _ → Calls _ _ _ W fun e w' => e = .returned (.tuple #[.int .u32 (WK.w2 bs root va), _]) ∧ _) at HR2
  change 0 ≤ WK.p2 bs root va ∧ WK.p2 bs root va < 4294967296 at q
  have x1 := PT.ix_bd va 0
  have x2 := PT.ix_bd va 1
  have b0 : 0 ≤ WK.w1 bs root va % 128 := by omega
  have b1 : WK.w1 bs root va % 128 < 4294967296 := by omega
  have c0 : 0 ≤ WK.w2 bs root va % 128 := by omega
  have c1 : WK.w2 bs root va % 128 < 4294967296 := by omega
  have g0 : 0 ≤ WK.w1 bs root va / 256 % 256 := by omega
  have g1 : WK.w1 bs root va / 256 % 256 < 256 := by omega
  have e1 : (root + 4 * PT.ix va 0) % 4294967296 = WK.pl root va 0 := rfl
  have e2 : 64 * (WK.w1 bs root va / 256 % 256) + 4 * PT.ix va 1 = WK.p2 bs root va := by unfold WK.p2 WK.pl PT.ad; omega
  generalize WK.p2 bs root va = y2 at *
  generalize WK.pl root va 0 = y1 at *
  generalize PT.ix va 0 = i1 at *
  generalize PT.ix va 1 = i2 at *
  generalize WK.w1 bs root va / 256 % 256 = gg1 at *
  generalize WK.w2 bs root va / 256 % 256 = gg2 at *
  generalize WK.w1 bs root va % 128 = bb1 at *
  generalize WK.w2 bs root va % 128 = bb2 at *
  generalize WK.w1 bs root va = v1 at *
  generalize WK.w2 bs root va = v2 at *
  have HL1 := Lib.hid (fun W => rleaf_any bb1 gg1 W b0 b1)
  have HL2 := Lib.hid (fun W => rleaf_any bb2 gg2 W c0 c1)
  have HT1 := Lib.hid (show PT.bt bb1 0 = decide (bb1 / 2 ^ 0 % 2 = 1) from rfl)
  have HT2 := Lib.hid (show PT.bt bb2 0 = decide (bb2 / 2 ^ 0 % 2 = 1) from rfl)
  rw [Bool.and_eq_true] at h2
  rw [h2.1] at HT1
  rw [show PT.lf bb1 = false by simpa using h2.2] at HL1
  rw [h4] at HT2
  rw [h5] at HL2
  have z1 : bb1 % 2 = 1 := by have := HT1.out; simpa using this.symm
  have z2 : bb2 % 2 = 1 := by have := HT2.out; simpa using this.symm
  obtain ⟨A, cc, rfl⟩ := by_form hv
  have HB := Lib.hid (below_one w (.cells #[.int .u32 0, .int .i64 0] 26))
  clear hv b c h1 h2 h3 h4 h5 hn HT1 HT2
  unfold PV at *
  have hva : decide (16384 ≤ va) = false := by simpa using h
  go_enter Try.func10, Try.ntmps10
  go_upto_region 1 with fail
  generalize hW : World.alloc w _ = W1
  have K0 := Lib.hid (show Pk W1 w.heap.size 0 0 from hW ▸ Pk.new w 0 0)
  rw [hW] at HB
  have HS := Lib.hid (show w.heap.size + 1 ≤ W1.heap.size by rw [← hW]; simp)
  clear hW
  have E1 := Lib.hid e1
  have E2 := Lib.hid e2
  clear e1 e2
  go_upto_region 4 with (go_at_call 27; first | (with_reducible refine (HX1.out _).mono ?_; rintro e w1 ⟨rfl, rfl⟩))
  rw [E1.out]
  go_upto_region 8 with (first
    | (go_at_call 28; (with_reducible refine (HR1.out _ HB.out).mono ?_); rintro e w2 ⟨rfl, rfl⟩))
  have B2 := Lib.hid (below_then HB.out (below_one W1 (.cells #[.int .u32 y1] 23)))
  have K2 := Lib.hid (K0.out.below (below_one W1 (.cells #[.int .u32 y1] 23)))
  have O2 := Lib.hid (own_one W1 y1 HS.out)
  have T2 := Lib.hid (show W1.heap.size < (W1.alloc (.cells #[.int .u32 y1] 23)).heap.size by simp)
  have S2 := Lib.hid HS.out
  generalize World.alloc W1 _ = W2 at B2 K2 O2 T2 ⊢
  generalize W1.heap.size = s2 at *
  clear HB K0 HS HR1 HX1
  go_upto_region 9 with (go_at_call 29; (with_reducible refine (HO1.out _).mono ?_); rintro e w3 ⟨rfl, hb⟩; have B3 := Lib.hid (below_then B2.out hb); have K3 := Lib.hid (K2.out.below hb); have O3 := Lib.hid (own_later O2.out hb); have T3 := Lib.hid (Nat.lt_of_lt_of_le T2.out hb.size); clear hb)
  have hb := below_one w3 (.cells #[.int .u32 bb1, .int .i64 gg1] 26)
  have L4 := Lib.hid (Pk.new w3 bb1 gg1)
  have B4 := Lib.hid (below_then B3.out hb)
  have K4 := Lib.hid (K3.out.below hb)
  have O4 := Lib.hid (own_later O3.out hb)
  have T4 := Lib.hid (Nat.lt_of_lt_of_le T3.out hb.size)
  have T3' := Lib.hid T3.out
  clear hb
  generalize World.alloc w3 _ = W4 at L4 B4 K4 O4 T4 ⊢
  generalize w3.heap.size = s1 at *
  clear B2 K2 O2 T2 B3 K3 O3 T3 HO1
  have c0 := L4.out.c0
  have c1 := L4.out.c1
  go_upto_region 11 with (go_at_call 30; (with_reducible refine (HL1.out _).mono ?_); rintro e w6 ⟨rfl, hb⟩; have B6 := Lib.hid (below_then B4.out hb); have K6 := Lib.hid (K4.out.below hb); have L6 := Lib.hid (L4.out.below hb); have O6 := Lib.hid (own_later O4.out hb); have T6 := Lib.hid (Nat.lt_of_lt_of_le T4.out hb.size); clear hb)
  clear c0 c1 B4 K4 L4 O4 T4 HL1
  have GX := Lib.hid (fun v (hv : v = w6.drew) => (HX2.out v).mono (R' := fun e v' => e = .returned (.int .i64 i2) ∧ v' = w6.drew) fun _ _ ⟨he, hb⟩ => ⟨he, hb ▸ hv⟩)
  have q1 : IntKind.i64.wrap (64 * gg1) = 64 * gg1 := by rw [IntKind.wrap_i64]; omega
  have q2 : IntKind.u32.wrap (64 * gg1) = 64 * gg1 := by rw [IntKind.wrap_u32]; omega
  have q3 : IntKind.u32.wrap i2 = i2 := by rw [IntKind.wrap_u32]; omega
  have q4 : IntKind.u32.wrap (4 * i2) = 4 * i2 := by rw [IntKind.wrap_u32]; omega
  have q5 : IntKind.u32.wrap (64 * gg1 + 4 * i2) = y2 := by rw [IntKind.wrap_u32, E2.out]; omega
  refine wp_region_calm (fun v => v = w6.drew) (by kernel_rfl) (by kernel_rfl) rfl ?_
  refine wpq_val (v := ?vr0) (by rfl) ?yr0 ?rr0
  case yr0 => (intro W hW; go_simp; try rfl)
  simp only [Act.put, List.setIfInBounds_toArray, List.set_cons_zero, List.set_cons_succ]
  refine wpq_val (v := ?vr1) (by rfl) ?yr1 ?rr1
  case yr1 => (intro W hW; have d1 := L6.out.c1; go_simp; try rfl)
  simp only [Act.put, List.setIfInBounds_toArray, List.set_cons_zero, List.set_cons_succ]
  refine wpq_val (v := ?vr2) (by rfl) ?yr2 ?rr2
  case yr2 => (intro W hW; go_simp; try rfl)
  simp only [Act.put, List.setIfInBounds_toArray, List.set_cons_zero, List.set_cons_succ]
  refine wpq_val (v := ?vr3) (by rfl) ?yr3 ?rr3
  case yr3 => (intro W hW; go_simp; try rfl)
  simp only [Act.put, List.setIfInBounds_toArray, List.set_cons_zero, List.set_cons_succ]
  refine wpq_val (v := ?vr4) (by rfl) ?yr4 ?rr4
  case yr4 => (intro W hW; go_simp; try rfl)
  simp only [Act.put, List.setIfInBounds_toArray, List.set_cons_zero, List.set_cons_succ]
  refine wpq_call (by rfl) GX.out (fun W => by (go_simp; done)) ?_
  simp only [Act.put, List.setIfInBounds_toArray, List.set_cons_zero, List.set_cons_succ]
  refine wpq_val (v := ?vr6) (by rfl) ?yr6 ?rr6
  case yr6 => (intro W hW; go_simp; try rfl)
  simp only [Act.put, List.setIfInBounds_toArray, List.set_cons_zero, List.set_cons_succ]
  refine wpq_val (v := ?vr7) (by rfl) ?yr7 ?rr7
  case yr7 => (intro W hW; go_simp; try rfl)
  simp only [Act.put, List.setIfInBounds_toArray, List.set_cons_zero, List.set_cons_succ]
  refine wpq_val (v := ?vr8) (by rfl) ?yr8 ?rr8
  case yr8 => (intro W hW; go_simp; try rfl)
  simp only [Act.put, List.setIfInBounds_toArray, List.set_cons_zero, List.set_cons_succ]
  refine wpq_val (v := ?vr9) (by rfl) ?yr9 ?rr9
  case yr9 => (intro W hW; go_simp; try rfl)
  simp only [Act.put, List.setIfInBounds_toArray, List.set_cons_zero, List.set_cons_succ]
  refine wpQuiet_nil ?_
  rintro W7 rfl
  have B7 := Lib.hid B6.out.drew
  have K7 := Lib.hid K6.out.drew
  have L7 := Lib.hid L6.out.drew
  have O7 := Lib.hid (own_later O6.out (Below.refl _ _).drew)
  have T7 := Lib.hid (show s2 < w6.drew.heap.size from T6.out)
  generalize World.drew w6 = W7 at B7 K7 L7 O7 T7 ⊢
  clear B6 K6 L6 O6 T6 GX HX2 q1 q2 q3 q4 q5
  go_upto_region 15 with (go_at_call 28; (with_reducible refine (HR2.out _ B7.out).mono ?_); rintro e w8 ⟨rfl, rfl⟩)
  clear HR2
  have HM := Lib.hid (show w.heap.size + 1 ≤ (W7.alloc (.cells #[.int .u32 y2] 23)).heap.size by have := T7.out; have := S2.out; simp; omega)
  have HO := Lib.hid (O7.out.alloc (.cells #[.int .u32 y2] 23))
  have HN := Lib.hid (cell_one_new W7 (.int .u32 y2) 23)
  have HL := Lib.hid (show s1 < (W7.alloc (.cells #[.int .u32 y2] 23)).heap.size by have := L7.out.lt; simp; omega)
  go_upto_region 16 with (at_builtin; refine wpList_append_lies _ rfl _ _ 27 rfl (w.heap.size + 1) 23 i0 (.int .u32 0) 1 4 Try.underlying27 HI.out.1 HI.out.2.1 HI.out.2.2.1 HI.out.2.2.2 rfl (by decide) (.slice (some ⟨s2, 0, none⟩) 1 1) 1 [.int .u32 y1] rfl HO.out ⟨_, 0, none⟩ 1 1 [.int .u32 y2] rfl rfl HN.out ?c2 (by decide) (by decide) (by decide) HM.out _ rfl ?_)
  · intro u hu; simp at hu; subst hu; rfl
  intro G cap w11 hown' hgrow hwhere _
  have hb := below_one W7 (.cells #[.int .u32 y2] 23)
  have HG := Lib.hid (show G ≠ s1 by have := HL.out; have := T3'.out; have hw : s2 = G ∨ G = (W7.alloc (.cells #[.int .u32 y2] 23)).heap.size := by simpa [Value.ownBlock] using hwhere
                                     omega)
  have HG0 := Lib.hid (show w.heap.size + 1 ≤ G from (hown'.lt G rfl).1)
  have O11 := Lib.hid hown'
  have K11 := Lib.hid (pk_grown (K7.out.below hb) hgrow (by have := S2.out; simp [Value.ownBlock]; omega))
  have L11 := Lib.hid (pk_grown (L7.out.below hb) hgrow (by have := T3'.out; simp [Value.ownBlock]; omega))
  have B11 := Lib.hid ((below_then B7.out hb).grown hgrow (by have := HM.out; omega) (by intro k hk; simp [Value.ownBlock] at hk; have := S2.out; omega))
  have HS1 := Lib.hid (show w.heap.size < s1 by have := T3'.out; have := S2.out; omega)
  clear hown' hgrow hwhere hb B7 K7 O7 T7 L7 HM HO HN HL T3' S2
  go_upto_region 17 with (go_at_call 29; (with_reducible refine (HO2.out _).mono ?_); rintro e w12 ⟨rfl, hb⟩; have B12 := Lib.hid (below_then B11.out hb); have K12 := Lib.hid (K11.out.below hb); have L12 := Lib.hid (L11.out.below hb); have O12 := Lib.hid (own_later O11.out hb); have c0 := L12.out.c0; have c1 := L12.out.c1; have cf := L12.out.free; clear hb)
  have L13 := Lib.hid (pk_set L12.out bb2 gg2)
  have K13 := Lib.hid (pk_other (s' := s1) (pk_other (s' := s1) K12.out (by have := HS1.out; omega) 0 (.int .u32 bb2)) (by have := HS1.out; omega) 1 (.int .i64 gg2))
  have B13 := Lib.hid ((B12.out.setCell (p := ⟨s1, 0, none⟩) (Nat.le_of_lt HS1.out) (.int .u32 bb2)).setCell (p := ⟨s1, 1, none⟩) (Nat.le_of_lt HS1.out) (.int .i64 gg2))
  have O13 := Lib.hid (own_keep (own_keep (w' := w12.setCell ⟨s1, 0, none⟩ (.int .u32 bb2)) O12.out fun k hk => heap_other (by injection hk with hk; subst hk; exact HG.out)) (w' := (w12.setCell ⟨s1, 0, none⟩ (.int .u32 bb2)).setCell ⟨s1, 1, none⟩ (.int .i64 gg2)) fun k hk => heap_other (by injection hk with hk; subst hk; exact HG.out))
  clear c0 c1 cf B11 K11 L11 O11 B12 K12 L12 O12 HO2
  generalize World.setCell _ _ _ = W13 at L13 K13 B13 O13 ⊢
  have c0 := L13.out.c0
  have c1 := L13.out.c1
  go_upto_region 18 with (go_at_call 30; (with_reducible refine (HL2.out _).mono ?_); rintro e w14 ⟨rfl, hb⟩; have B14 := Lib.hid (below_then B13.out hb); have K14 := Lib.hid (K13.out.below hb); have O14 := Lib.hid (own_later O13.out hb); clear hb)
  clear c0 c1 B13 K13 L13 O13 HL2
  have d0 := K14.out.c0
  have d1 := K14.out.c1
  have df := K14.out.free
  go_wp2
  exact bodyPost_ret (v := .tuple #[.agg #[.int .u32 0, .int .i64 0], .slice (some ⟨G, 0, none⟩) 2 cap, .bool false]) (by simp [results, Try.results10, go_sem, d0, d1]) rfl ⟨_, rfl, own_base (own_other (own_other O14.out (Nat.lt_succ_self _)) (Nat.lt_succ_self _)) (Nat.le_succ _), (B14.out.setCell (Nat.le_refl _) _).setCell (Nat.le_refl _) _⟩
set_option maxHeartbeats 3200000 in
theorem rwalk_good {w : World} {v : Value} {bs : List UInt8} (root va : Int) (hv : ByR w v bs) (hn : bs.length ≤ maxLen) (_r0 : 0 ≤ root) (_r1 : root < 4294967296) (a0 : 0 ≤ va) (h : va < 16384) (h1 : MM.ck bs.length (WK.pl root va 0) 4 = 0)
    (h2 : (PT.bt (WK.w1 bs root va % 128) 0 && !PT.lf (WK.w1 bs root va % 128)) = true) (h3 : MM.ck bs.length (WK.p2 bs root va) 4 = 0) (h4 : (PT.bt (WK.w2 bs root va % 128) 0 && PT.lf (WK.w2 bs root va % 128)) = true) :
    Calls Try.prog 10 #[v, .int .u32 root, .int .u32 va] w (WkPost w ⟨WK.w2 bs root va % 128, WK.w2 bs root va / 256 % 256, [WK.pl root va 0, WK.p2 bs root va], true⟩) := by
  obtain ⟨i0, hi, hz0, hz1, hz2⟩ := info_parts info23
  have HI := Lib.hid (And.intro hi (And.intro hz0 (And.intro hz1 hz2)))
  clear hi hz0 hz1 hz2
  obtain ⟨p0, p1⟩ := WK.pl_bd root va 0
  have q := WK.pl_bd (PT.ad (WK.w1 bs root va / 256 % 256) 0) va 1
  have HX1 := Lib.hid (fun W => rindex_any va 0 W a0 (by omega))
  have HX2 := Lib.hid (fun W => rindex_any va 1 W a0 (by omega))
  have HR1 := Lib.hid (fun (W : World) (hb : Below w.heap.size w W) => rread_any (w := W) (WK.pl root va 0) 4 (hv.below hb) hn p0 p1)
  have HR2 := Lib.hid (fun (W : World) (hb : Below w.heap.size w W) => rread_any (w := W) (WK.p2 bs root va) 4 (hv.below hb) hn q.1 q.2)
  rw [h1] at HR1
  rw [h3] at HR2
  have b := WK.w1_bd bs root va
  have c := WK.w2_bd bs root va
  have HO1 := Lib.hid (fun W => rof_any (WK.w1 bs root va) W b.1 b.2)
  have HO2 := Lib.hid (fun W => rof_any (WK.w2 bs root va) W c.1 c.2)
  change Hid (∀ W : World, _ → Calls _ _ _ W fun e w' => e = .returned (.tuple #[.int .u32 (WK.w1 bs root va), _]) ∧ _) at HR1
  change Hid (∀ W : World, _ → Calls _ _ _ W fun e w' => e = .returned (.tuple #[.int .u32 (WK.w2 bs root va), _]) ∧ _) at HR2
  change 0 ≤ WK.p2 bs root va ∧ WK.p2 bs root va < 4294967296 at q
  have x1 := PT.ix_bd va 0
  have x2 := PT.ix_bd va 1
  have b0 : 0 ≤ WK.w1 bs root va % 128 := by omega
  have b1 : WK.w1 bs root va % 128 < 4294967296 := by omega
  have c0 : 0 ≤ WK.w2 bs root va % 128 := by omega
  have c1 : WK.w2 bs root va % 128 < 4294967296 := by omega
  have g0 : 0 ≤ WK.w1 bs root va / 256 % 256 := by omega
  have g1 : WK.w1 bs root va / 256 % 256 < 256 := by omega
  have e1 : (root + 4 * PT.ix va 0) % 4294967296 = WK.pl root va 0 := rfl
  have e2 : 64 * (WK.w1 bs root va / 256 % 256) + 4 * PT.ix va 1 = WK.p2 bs root va := by unfold WK.p2 WK.pl PT.ad; omega
  generalize WK.p2 bs root va = y2 at *
  generalize WK.pl root va 0 = y1 at *
  generalize PT.ix va 0 = i1 at *
  generalize PT.ix va 1 = i2 at *
  generalize WK.w1 bs root va / 256 % 256 = gg1 at *
  generalize WK.w2 bs root va / 256 % 256 = gg2 at *
  generalize WK.w1 bs root va % 128 = bb1 at *
  generalize WK.w2 bs root va % 128 = bb2 at *
  generalize WK.w1 bs root va = v1 at *
  generalize WK.w2 bs root va = v2 at *
  have HL1 := Lib.hid (fun W => rleaf_any bb1 gg1 W b0 b1)
  have HL2 := Lib.hid (fun W => rleaf_any bb2 gg2 W c0 c1)
  have HT1 := Lib.hid (show PT.bt bb1 0 = decide (bb1 / 2 ^ 0 % 2 = 1) from rfl)
  have HT2 := Lib.hid (show PT.bt bb2 0 = decide (bb2 / 2 ^ 0 % 2 = 1) from rfl)
  rw [Bool.and_eq_true] at h2 h4
  rw [h2.1] at HT1
  rw [show PT.lf bb1 = false by simpa using h2.2] at HL1
  rw [h4.1] at HT2
  rw [h4.2] at HL2
  have z1 : bb1 % 2 = 1 := by have := HT1.out; simpa using this.symm
  have z2 : bb2 % 2 = 1 := by have := HT2.out; simpa using this.symm
  obtain ⟨A, cc, rfl⟩ := by_form hv
  have HB := Lib.hid (below_one w (.cells #[.int .u32 0, .int .i64 0] 26))
  clear hv b c h1 h2 h3 h4 hn HT1 HT2
  unfold PV at *
  have hva : decide (16384 ≤ va) = false := by simpa using h
  go_enter Try.func10, Try.ntmps10
  go_upto_region 1 with fail
  generalize hW : World.alloc w _ = W1
  have K0 := Lib.hid (show Pk W1 w.heap.size 0 0 from hW ▸ Pk.new w 0 0)
  rw [hW] at HB
  have HS := Lib.hid (show w.heap.size + 1 ≤ W1.heap.size by rw [← hW]; simp)
  clear hW
  have E1 := Lib.hid e1
  have E2 := Lib.hid e2
  clear e1 e2
  go_upto_region 4 with (go_at_call 27; first | (with_reducible refine (HX1.out _).mono ?_; rintro e w1 ⟨rfl, rfl⟩))
  rw [E1.out]
  go_upto_region 8 with (first
    | (go_at_call 28; (with_reducible refine (HR1.out _ HB.out).mono ?_); rintro e w2 ⟨rfl, rfl⟩))
  have B2 := Lib.hid (below_then HB.out (below_one W1 (.cells #[.int .u32 y1] 23)))
  have K2 := Lib.hid (K0.out.below (below_one W1 (.cells #[.int .u32 y1] 23)))
  have O2 := Lib.hid (own_one W1 y1 HS.out)
  have T2 := Lib.hid (show W1.heap.size < (W1.alloc (.cells #[.int .u32 y1] 23)).heap.size by simp)
  have S2 := Lib.hid HS.out
  generalize World.alloc W1 _ = W2 at B2 K2 O2 T2 ⊢
  generalize W1.heap.size = s2 at *
  clear HB K0 HS HR1 HX1
  go_upto_region 9 with (go_at_call 29; (with_reducible refine (HO1.out _).mono ?_); rintro e w3 ⟨rfl, hb⟩; have B3 := Lib.hid (below_then B2.out hb); have K3 := Lib.hid (K2.out.below hb); have O3 := Lib.hid (own_later O2.out hb); have T3 := Lib.hid (Nat.lt_of_lt_of_le T2.out hb.size); clear hb)
  have hb := below_one w3 (.cells #[.int .u32 bb1, .int .i64 gg1] 26)
  have L4 := Lib.hid (Pk.new w3 bb1 gg1)
  have B4 := Lib.hid (below_then B3.out hb)
  have K4 := Lib.hid (K3.out.below hb)
  have O4 := Lib.hid (own_later O3.out hb)
  have T4 := Lib.hid (Nat.lt_of_lt_of_le T3.out hb.size)
  have T3' := Lib.hid T3.out
  clear hb
  generalize World.alloc w3 _ = W4 at L4 B4 K4 O4 T4 ⊢
  generalize w3.heap.size = s1 at *
  clear B2 K2 O2 T2 B3 K3 O3 T3 HO1
  have c0 := L4.out.c0
  have c1 := L4.out.c1
  go_upto_region 11 with (go_at_call 30; (with_reducible refine (HL1.out _).mono ?_); rintro e w6 ⟨rfl, hb⟩; have B6 := Lib.hid (below_then B4.out hb); have K6 := Lib.hid (K4.out.below hb); have L6 := Lib.hid (L4.out.below hb); have O6 := Lib.hid (own_later O4.out hb); have T6 := Lib.hid (Nat.lt_of_lt_of_le T4.out hb.size); clear hb)
  clear c0 c1 B4 K4 L4 O4 T4 HL1
  have GX := Lib.hid (fun v (hv : v = w6.drew) => (HX2.out v).mono (R' := fun e v' => e = .returned (.int .i64 i2) ∧ v' = w6.drew) fun _ _ ⟨he, hb⟩ => ⟨he, hb ▸ hv⟩)
  have q1 : IntKind.i64.wrap (64 * gg1) = 64 * gg1 := by rw [IntKind.wrap_i64]; omega
  have q2 : IntKind.u32.wrap (64 * gg1) = 64 * gg1 := by rw [IntKind.wrap_u32]; omega
  have q3 : IntKind.u32.wrap i2 = i2 := by rw [IntKind.wrap_u32]; omega
  have q4 : IntKind.u32.wrap (4 * i2) = 4 * i2 := by rw [IntKind.wrap_u32]; omega
  have q5 : IntKind.u32.wrap (64 * gg1 + 4 * i2) = y2 := by rw [IntKind.wrap_u32, E2.out]; omega
  refine wp_region_calm (fun v => v = w6.drew) (by kernel_rfl) (by kernel_rfl) rfl ?_
  refine wpq_val (v := ?vr0) (by rfl) ?yr0 ?rr0
  case yr0 => (intro W hW; go_simp; try rfl)
  simp only [Act.put, List.setIfInBounds_toArray, List.set_cons_zero, List.set_cons_succ]
  refine wpq_val (v := ?vr1) (by rfl) ?yr1 ?rr1
  case yr1 => (intro W hW; have d1 := L6.out.c1; go_simp; try rfl)
  simp only [Act.put, List.setIfInBounds_toArray, List.set_cons_zero, List.set_cons_succ]
  refine wpq_val (v := ?vr2) (by rfl) ?yr2 ?rr2
  case yr2 => (intro W hW; go_simp; try rfl)
  simp only [Act.put, List.setIfInBounds_toArray, List.set_cons_zero, List.set_cons_succ]
  refine wpq_val (v := ?vr3) (by rfl) ?yr3 ?rr3
  case yr3 => (intro W hW; go_simp; try rfl)
  simp only [Act.put, List.setIfInBounds_toArray, List.set_cons_zero, List.set_cons_succ]
  refine wpq_val (v := ?vr4) (by rfl) ?yr4 ?rr4
  case yr4 => (intro W hW; go_simp; try rfl)
  simp only [Act.put, List.setIfInBounds_toArray, List.set_cons_zero, List.set_cons_succ]
  refine wpq_call (by rfl) GX.out (fun W => by (go_simp; done)) ?_
  simp only [Act.put, List.setIfInBounds_toArray, List.set_cons_zero, List.set_cons_succ]
  refine wpq_val (v := ?vr6) (by rfl) ?yr6 ?rr6
  case yr6 => (intro W hW; go_simp; try rfl)
  simp only [Act.put, List.setIfInBounds_toArray, List.set_cons_zero, List.set_cons_succ]
  refine wpq_val (v := ?vr7) (by rfl) ?yr7 ?rr7
  case yr7 => (intro W hW; go_simp; try rfl)
  simp only [Act.put, List.setIfInBounds_toArray, List.set_cons_zero, List.set_cons_succ]
  refine wpq_val (v := ?vr8) (by rfl) ?yr8 ?rr8
  case yr8 => (intro W hW; go_simp; try rfl)
  simp only [Act.put, List.setIfInBounds_toArray, List.set_cons_zero, List.set_cons_succ]
  refine wpq_val (v := ?vr9) (by rfl) ?yr9 ?rr9
  case yr9 => (intro W hW; go_simp; try rfl)
  simp only [Act.put, List.setIfInBounds_toArray, List.set_cons_zero, List.set_cons_succ]
  refine wpQuiet_nil ?_
  rintro W7 rfl
  have B7 := Lib.hid B6.out.drew
  have K7 := Lib.hid K6.out.drew
  have L7 := Lib.hid L6.out.drew
  have O7 := Lib.hid (own_later O6.out (Below.refl _ _).drew)
  have T7 := Lib.hid (show s2 < w6.drew.heap.size from T6.out)
  generalize World.drew w6 = W7 at B7 K7 L7 O7 T7 ⊢
  clear B6 K6 L6 O6 T6 GX HX2 q1 q2 q3 q4 q5
  go_upto_region 15 with (go_at_call 28; (with_reducible refine (HR2.out _ B7.out).mono ?_); rintro e w8 ⟨rfl, rfl⟩)
  clear HR2
  have HM := Lib.hid (show w.heap.size + 1 ≤ (W7.alloc (.cells #[.int .u32 y2] 23)).heap.size by have := T7.out; have := S2.out; simp; omega)
  have HO := Lib.hid (O7.out.alloc (.cells #[.int .u32 y2] 23))
  have HN := Lib.hid (cell_one_new W7 (.int .u32 y2) 23)
  have HL := Lib.hid (show s1 < (W7.alloc (.cells #[.int .u32 y2] 23)).heap.size by have := L7.out.lt; simp; omega)
  go_upto_region 16 with (at_builtin; refine wpList_append_lies _ rfl _ _ 27 rfl (w.heap.size + 1) 23 i0 (.int .u32 0) 1 4 Try.underlying27 HI.out.1 HI.out.2.1 HI.out.2.2.1 HI.out.2.2.2 rfl (by decide) (.slice (some ⟨s2, 0, none⟩) 1 1) 1 [.int .u32 y1] rfl HO.out ⟨_, 0, none⟩ 1 1 [.int .u32 y2] rfl rfl HN.out ?c2 (by decide) (by decide) (by decide) HM.out _ rfl ?_)
  · intro u hu; simp at hu; subst hu; rfl
  intro G cap w11 hown' hgrow hwhere _
  have hb := below_one W7 (.cells #[.int .u32 y2] 23)
  have HG := Lib.hid (show G ≠ s1 by have := HL.out; have := T3'.out; have hw : s2 = G ∨ G = (W7.alloc (.cells #[.int .u32 y2] 23)).heap.size := by simpa [Value.ownBlock] using hwhere
                                     omega)
  have HG0 := Lib.hid (show w.heap.size + 1 ≤ G from (hown'.lt G rfl).1)
  have O11 := Lib.hid hown'
  have K11 := Lib.hid (pk_grown (K7.out.below hb) hgrow (by have := S2.out; simp [Value.ownBlock]; omega))
  have L11 := Lib.hid (pk_grown (L7.out.below hb) hgrow (by have := T3'.out; simp [Value.ownBlock]; omega))
  have B11 := Lib.hid ((below_then B7.out hb).grown hgrow (by have := HM.out; omega) (by intro k hk; simp [Value.ownBlock] at hk; have := S2.out; omega))
  have HS1 := Lib.hid (show w.heap.size < s1 by have := T3'.out; have := S2.out; omega)
  clear hown' hgrow hwhere hb B7 K7 O7 T7 L7 HM HO HN HL T3' S2
  go_upto_region 17 with (go_at_call 29; (with_reducible refine (HO2.out _).mono ?_); rintro e w12 ⟨rfl, hb⟩; have B12 := Lib.hid (below_then B11.out hb); have K12 := Lib.hid (K11.out.below hb); have L12 := Lib.hid (L11.out.below hb); have O12 := Lib.hid (own_later O11.out hb); have c0 := L12.out.c0; have c1 := L12.out.c1; have cf := L12.out.free; clear hb)
  have L13 := Lib.hid (pk_set L12.out bb2 gg2)
  have K13 := Lib.hid (pk_other (s' := s1) (pk_other (s' := s1) K12.out (by have := HS1.out; omega) 0 (.int .u32 bb2)) (by have := HS1.out; omega) 1 (.int .i64 gg2))
  have B13 := Lib.hid ((B12.out.setCell (p := ⟨s1, 0, none⟩) (Nat.le_of_lt HS1.out) (.int .u32 bb2)).setCell (p := ⟨s1, 1, none⟩) (Nat.le_of_lt HS1.out) (.int .i64 gg2))
  have O13 := Lib.hid (own_keep (own_keep (w' := w12.setCell ⟨s1, 0, none⟩ (.int .u32 bb2)) O12.out fun k hk => heap_other (by injection hk with hk; subst hk; exact HG.out)) (w' := (w12.setCell ⟨s1, 0, none⟩ (.int .u32 bb2)).setCell ⟨s1, 1, none⟩ (.int .i64 gg2)) fun k hk => heap_other (by injection hk with hk; subst hk; exact HG.out))
  clear c0 c1 cf B11 K11 L11 O11 B12 K12 L12 O12 HO2
  generalize World.setCell _ _ _ = W13 at L13 K13 B13 O13 ⊢
  have c0 := L13.out.c0
  have c1 := L13.out.c1
  go_upto_region 19 with (go_at_call 30; (with_reducible refine (HL2.out _).mono ?_); rintro e w14 ⟨rfl, hb⟩; have B14 := Lib.hid (below_then B13.out hb); have K14 := Lib.hid (K13.out.below hb); have L14 := Lib.hid (L13.out.below hb); have O14 := Lib.hid (own_later O13.out hb); clear hb)
  clear c0 c1 B13 K13 L13 O13 HL2
  have c0 := L14.out.c0
  have c1 := L14.out.c1
  have d0 := K14.out.c0
  have d1 := K14.out.c1
  have df := K14.out.free
  go_wp2
  exact bodyPost_ret (v := .tuple #[.agg #[.int .u32 bb2, .int .i64 gg2], .slice (some ⟨G, 0, none⟩) 2 cap, .bool true]) (by simp [results, Try.results10, go_sem, d0, d1]) rfl ⟨_, rfl, own_base (own_other (own_other O14.out (Nat.lt_succ_self _)) (Nat.lt_succ_self _)) (Nat.le_succ _), (B14.out.setCell (Nat.le_refl _) _).setCell (Nat.le_refl _) _⟩
theorem rwalk_any {w : World} {v : Value} {bs : List UInt8} (root va : Int) (hv : ByR w v bs) (hn : bs.length ≤ maxLen) (r0 : 0 ≤ root) (r1 : root < 4294967296) (a0 : 0 ≤ va) (a1 : va < 4294967296) :
    Calls Try.prog 10 #[v, .int .u32 root, .int .u32 va] w (WkPost w (WK.wk bs root va)) := by
  refine WK.wk_ways (m := bs) (root := root) (va := va) (fun r => Calls Try.prog 10 #[v, .int .u32 root, .int .u32 va] w (WkPost w r)) ?_ ?_ ?_ ?_ ?_ ?_
  · exact fun h => rwalk_far root va hv hn r0 r1 a0 a1 h
  · exact fun h h1 => rwalk_no1 root va hv hn r0 r1 a0 h h1
  · intro h h1 h2
    cases h3 : PT.bt (WK.w1 bs root va % 128) 0
    · exact rwalk_bad1v root va hv hn r0 r1 a0 h h1 h3
    · exact rwalk_bad1l root va hv hn r0 r1 a0 h h1 h3 (by rw [h3] at h2; simpa using h2)
  · exact fun h h1 h2 h3 => rwalk_no2 root va hv hn r0 r1 a0 h h1 h2 h3
  · intro h h1 h2 h3 h4
    cases h5 : PT.bt (WK.w2 bs root va % 128) 0
    · exact rwalk_bad2v root va hv hn r0 r1 a0 h h1 h2 h3 h5
    · exact rwalk_bad2l root va hv hn r0 r1 a0 h h1 h2 h3 h5 (by rw [h5] at h4; simpa using h4)
  · exact fun h h1 h2 h3 h4 => rwalk_good root va hv hn r0 r1 a0 h h1 h2 h3 h4
end Go.Proofs.Ytbeenmglgdhbjaa
