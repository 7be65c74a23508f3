/-
  The walk of a virtual address. For every slice of bytes.
-/
import Derived.Test.YtbeenmglgdhbjaaBase
namespace Go.Proofs.Ytbeenmglgdhbjaa
open Go.RowKit Go.Maps S01 S10 S11 S12
/-- What a walk leaves. -/
def WkPost (w : World) (r : WK.R) (e : Ending) (w' : World) : Prop := ∃ x, e = .returned (.tuple #[PV r.b r.g, x, .bool r.ok]) ∧ w'.ownsRow w.heap.size 23 1 x r.L.length (wC r.L) ∧ Below w.heap.size w w'
set_option maxHeartbeats 1600000 in
theorem walk_far {w : World} {v : Value} {bs : List UInt8} (root va : Int) (hv : ByR w v bs) (_hn : bs.length ≤ maxLen) (_r0 : 0 ≤ root) (_r1 : root < 4294967296) (_a0 : 0 ≤ va) (_a1 : va < 4294967296) (h : 16384 ≤ va) :
    Calls Try.prog 9 #[v, .int .u32 root, .int .u32 va] w (WkPost w ⟨0, 0, [], false⟩) := by
  obtain ⟨A, cc, rfl⟩ := by_form hv
  have HB := Lib.hid (below_one w (.cells #[.int .u32 0, .int .i64 0] 26))
  have K0 := (Pk.new w 0 0)
  have d0 := K0.c0
  have d1 := K0.c1
  have df := K0.free
  clear K0 hv _hn _r0 _r1
  have hva : decide (16384 ≤ va) = true := by simpa using h
  go_enter Try.func9, Try.ntmps9
  go_wp2
  exact bodyPost_ret (v := .tuple #[.agg #[.int .u32 0, .int .i64 0], .slice none 0 0, .bool false]) (by simp [results, Try.results9, go_sem]) rfl ⟨.slice none 0 0, rfl, World.ownsRow_nil _ _ _ _, HB.out⟩
set_option maxHeartbeats 1600000 in
theorem walk_no1 {w : World} {v : Value} {bs : List UInt8} (root va : Int) (hv : ByR w v bs) (hn : bs.length ≤ maxLen) (r0 : 0 ≤ root) (r1 : root < 4294967296) (a0 : 0 ≤ va) (h : va < 16384) (h1 : MM.ck bs.length (WK.pl root va 0) 4 = 9) :
    Calls Try.prog 9 #[v, .int .u32 root, .int .u32 va] w (WkPost w ⟨0, 0, [], false⟩) := by
  have HP1 := Lib.hid (fun W => place_any root va 0 W r0 r1 a0 (by omega))
  obtain ⟨p0, p1⟩ := WK.pl_bd root va 0
  have HE1 := Lib.hid (fun (W : World) (hb : Below w.heap.size w W) => entry_no (w := W) (WK.pl root va 0) (hv.below hb) hn p0 p1 h1)
  generalize WK.pl root va 0 = y1 at *
  obtain ⟨A, cc, rfl⟩ := by_form hv
  have HB := Lib.hid (below_one w (.cells #[.int .u32 0, .int .i64 0] 26))
  clear hv h1 r0 r1 hn
  unfold PV at *
  have hva : decide (16384 ≤ va) = false := by simpa using h
  go_enter Try.func9, Try.ntmps9
  go_upto_region 1 with fail
  generalize hW : World.alloc w _ = W1
  have K0 := Lib.hid (show Pk W1 w.heap.size 0 0 from hW ▸ Pk.new w 0 0)
  rw [hW] at HB
  clear hW
  go_upto_region 5 with (first
    | (go_at_call 22; (with_reducible refine (HP1.out _).mono ?_); rintro e w1 ⟨rfl, hb⟩; have B1 := Lib.hid (below_then HB.out hb); have K1 := Lib.hid (K0.out.below hb); clear hb)
    | (go_at_call 23; (with_reducible refine (HE1.out _ B1.out).mono ?_); rintro e w2 ⟨rfl, hb⟩; have B2 := Lib.hid (below_then B1.out hb); have K2 := Lib.hid (K1.out.below hb); clear hb))
  have B3 := Lib.hid (below_then B2.out (below_one w2 (.cells #[.int .u32 0, .int .i64 0] 26)))
  have K3 := Lib.hid (K2.out.below (below_one w2 (.cells #[.int .u32 0, .int .i64 0] 26)))
  generalize World.alloc w2 _ = W3 at B3 K3 ⊢
  clear HB K0 B1 K1 B2 K2 HP1 HE1
  have d0 := K3.out.c0
  have d1 := K3.out.c1
  have df := K3.out.free
  go_wp2
  exact bodyPost_ret (v := .tuple #[.agg #[.int .u32 0, .int .i64 0], .slice none 0 0, .bool false]) (by simp [results, Try.results9, go_sem, d0, d1]) rfl ⟨.slice none 0 0, rfl, World.ownsRow_nil _ _ _ _, (B3.out.setCell (Nat.le_refl _) _).setCell (Nat.le_refl _) _⟩
set_option maxHeartbeats 3200000 in
theorem walk_bad1 {w : World} {v : Value} {bs : List UInt8} (root va : Int) (hv : ByR w v bs) (hn : bs.length ≤ maxLen) (r0 : 0 ≤ root) (r1 : root < 4294967296) (a0 : 0 ≤ va) (h : va < 16384) (h1 : MM.ck bs.length (WK.pl root va 0) 4 = 0) (h2 : (PT.bt (WK.w1 bs root va % 128) 0 && !PT.lf (WK.w1 bs root va % 128)) = false) :
    Calls Try.prog 9 #[v, .int .u32 root, .int .u32 va] w (WkPost w ⟨0, 0, [WK.pl root va 0], false⟩) := by
  have HP1 := Lib.hid (fun W => place_any root va 0 W r0 r1 a0 (by omega))
  obtain ⟨p0, p1⟩ := WK.pl_bd root va 0
  have HE1 := Lib.hid (fun (W : World) (hb : Below w.heap.size w W) => entry_ok (w := W) (WK.pl root va 0) (hv.below hb) hn p0 p1 h1)
  have b := WK.w1_bd bs root va
  change Hid (∀ W : World, _ → Calls _ _ _ W fun e w' => e = .returned (.tuple #[PV (WK.w1 bs root va % 128) (WK.w1 bs root va / 256 % 256), _]) ∧ _) at HE1
  generalize WK.pl root va 0 = y1 at *
  have b0 : 0 ≤ WK.w1 bs root va % 128 := by omega
  have b1 : WK.w1 bs root va % 128 < 4294967296 := by omega
  have g0 : 0 ≤ WK.w1 bs root va / 256 % 256 := by omega
  have g1 : WK.w1 bs root va / 256 % 256 < 256 := by omega
  generalize WK.w1 bs root va / 256 % 256 = gg1 at *
  generalize WK.w1 bs root va % 128 = bb1 at *
  have HV1 := Lib.hid (fun W => valid_any bb1 gg1 W b0 b1)
  have HL1 := Lib.hid (fun W => leaf_any bb1 gg1 W b0 b1)
  obtain ⟨A, cc, rfl⟩ := by_form hv
  have HB := Lib.hid (below_one w (.cells #[.int .u32 0, .int .i64 0] 26))
  clear hv b b0 b1 g0 g1 h1 r0 r1 hn
  unfold PV at *
  have hva : decide (16384 ≤ va) = false := by simpa using h
  generalize PT.bt bb1 0 = va1 at *
  generalize PT.lf bb1 = lf1 at *
  cases va1
  · clear h2
    go_enter Try.func9, Try.ntmps9
    go_upto_region 1 with fail
    generalize hW : World.alloc w _ = W1
    have K0 := Lib.hid (show Pk W1 w.heap.size 0 0 from hW ▸ Pk.new w 0 0)
    rw [hW] at HB
    have HS := Lib.hid (show w.heap.size + 1 ≤ W1.heap.size by rw [← hW]; simp)
    clear hW
    go_upto_region 5 with (first
      | (go_at_call 22; (with_reducible refine (HP1.out _).mono ?_); rintro e w1 ⟨rfl, hb⟩; have B1 := Lib.hid (below_then HB.out hb); have K1 := Lib.hid (K0.out.below hb); have S1 := Lib.hid (Nat.le_trans HS.out hb.size); clear hb)
      | (go_at_call 23; (with_reducible refine (HE1.out _ B1.out).mono ?_); rintro e w2 ⟨rfl, hb⟩; have B2 := Lib.hid (below_then B1.out hb); have K2 := Lib.hid (K1.out.below hb); have S2 := Lib.hid (Nat.le_trans S1.out hb.size); clear hb))
    have L3 := Lib.hid (Pk.new w2 bb1 gg1)
    have B3 := Lib.hid (below_then B2.out (below_one w2 (.cells #[.int .u32 bb1, .int .i64 gg1] 26)))
    have K3 := Lib.hid (K2.out.below (below_one w2 (.cells #[.int .u32 bb1, .int .i64 gg1] 26)))
    have S3 := Lib.hid (show w.heap.size + 1 ≤ (w2.alloc (.cells #[.int .u32 bb1, .int .i64 gg1] 26)).heap.size by have := S2.out; simp; omega)
    generalize World.alloc w2 _ = W3 at L3 B3 K3 S3 ⊢
    generalize w2.heap.size = s1 at *
    clear HB K0 HS B1 K1 S1 B2 K2 S2 HP1 HE1
    go_upto_region 8 with fail
    have L4 := Lib.hid (L3.out.below (below_one W3 (.cells #[.int .u32 y1] 23)))
    have B4 := Lib.hid (below_then B3.out (below_one W3 (.cells #[.int .u32 y1] 23)))
    have K4 := Lib.hid (K3.out.below (below_one W3 (.cells #[.int .u32 y1] 23)))
    have O4 := Lib.hid (own_one W3 y1 S3.out)
    have S4 := Lib.hid (show W3.heap.size < (W3.alloc (.cells #[.int .u32 y1] 23)).heap.size by simp)
    generalize World.alloc W3 _ = W4 at L4 B4 K4 O4 S4 ⊢
    have S5 := Lib.hid S3.out
    generalize W3.heap.size = s2 at *
    clear L3 B3 K3 S3
    have c0 := L4.out.c0
    have c1 := L4.out.c1
    go_upto_region 9 with (go_at_call 24; (with_reducible refine (HV1.out _).mono ?_); rintro e w5 ⟨rfl, hb⟩; have B5 := Lib.hid (below_then B4.out hb); have K5 := Lib.hid (K4.out.below hb); have L5 := Lib.hid (L4.out.below hb); have O5 := Lib.hid (own_later O4.out hb); have c2 := L5.out.c0; have c3 := L5.out.c1; clear hb)
    clear c2 c3
    clear c0 c1
    have d0 := K5.out.c0
    have d1 := K5.out.c1
    have df := K5.out.free
    go_wp2
    exact bodyPost_ret (v := .tuple #[.agg #[.int .u32 0, .int .i64 0], .slice (some ⟨s2, 0, none⟩) 1 1, .bool false]) (by simp [results, Try.results9, go_sem, d0, d1]) rfl ⟨_, rfl, own_base (own_other (own_other O5.out (Nat.lt_succ_self _)) (Nat.lt_succ_self _)) (Nat.le_succ _), (B5.out.setCell (Nat.le_refl _) _).setCell (Nat.le_refl _) _⟩
  · obtain rfl : lf1 = true := by simpa using h2
    clear h2
    go_enter Try.func9, Try.ntmps9
    go_upto_region 1 with fail
    generalize hW : World.alloc w _ = W1
    have K0 := Lib.hid (show Pk W1 w.heap.size 0 0 from hW ▸ Pk.new w 0 0)
    rw [hW] at HB
    have HS := Lib.hid (show w.heap.size + 1 ≤ W1.heap.size by rw [← hW]; simp)
    clear hW
    go_upto_region 5 with (first
      | (go_at_call 22; (with_reducible refine (HP1.out _).mono ?_); rintro e w1 ⟨rfl, hb⟩; have B1 := Lib.hid (below_then HB.out hb); have K1 := Lib.hid (K0.out.below hb); have S1 := Lib.hid (Nat.le_trans HS.out hb.size); clear hb)
      | (go_at_call 23; (with_reducible refine (HE1.out _ B1.out).mono ?_); rintro e w2 ⟨rfl, hb⟩; have B2 := Lib.hid (below_then B1.out hb); have K2 := Lib.hid (K1.out.below hb); have S2 := Lib.hid (Nat.le_trans S1.out hb.size); clear hb))
    have L3 := Lib.hid (Pk.new w2 bb1 gg1)
    have B3 := Lib.hid (below_then B2.out (below_one w2 (.cells #[.int .u32 bb1, .int .i64 gg1] 26)))
    have K3 := Lib.hid (K2.out.below (below_one w2 (.cells #[.int .u32 bb1, .int .i64 gg1] 26)))
    have S3 := Lib.hid (show w.heap.size + 1 ≤ (w2.alloc (.cells #[.int .u32 bb1, .int .i64 gg1] 26)).heap.size by have := S2.out; simp; omega)
    generalize World.alloc w2 _ = W3 at L3 B3 K3 S3 ⊢
    generalize w2.heap.size = s1 at *
    clear HB K0 HS B1 K1 S1 B2 K2 S2 HP1 HE1
    go_upto_region 8 with fail
    have L4 := Lib.hid (L3.out.below (below_one W3 (.cells #[.int .u32 y1] 23)))
    have B4 := Lib.hid (below_then B3.out (below_one W3 (.cells #[.int .u32 y1] 23)))
    have K4 := Lib.hid (K3.out.below (below_one W3 (.cells #[.int .u32 y1] 23)))
    have O4 := Lib.hid (own_one W3 y1 S3.out)
    have S4 := Lib.hid (show W3.heap.size < (W3.alloc (.cells #[.int .u32 y1] 23)).heap.size by simp)
    generalize World.alloc W3 _ = W4 at L4 B4 K4 O4 S4 ⊢
    have S5 := Lib.hid S3.out
    generalize W3.heap.size = s2 at *
    clear L3 B3 K3 S3
    have c0 := L4.out.c0
    have c1 := L4.out.c1
    go_upto_region 9 with (first | (go_at_call 24; (with_reducible refine (HV1.out _).mono ?_); rintro e w5 ⟨rfl, hb⟩; have B5 := Lib.hid (below_then B4.out hb); have K5 := Lib.hid (K4.out.below hb); have L5 := Lib.hid (L4.out.below hb); have O5 := Lib.hid (own_later O4.out hb); have c2 := L5.out.c0; have c3 := L5.out.c1; clear hb) | (go_at_call 25; (with_reducible refine (HL1.out _).mono ?_); rintro e w6 ⟨rfl, hb⟩; have B6 := Lib.hid (below_then B5.out hb); have K6 := Lib.hid (K5.out.below hb); have O6 := Lib.hid (own_later O5.out hb); clear hb))
    clear c2 c3
    clear c0 c1
    have d0 := K6.out.c0
    have d1 := K6.out.c1
    have df := K6.out.free
    go_wp2
    exact bodyPost_ret (v := .tuple #[.agg #[.int .u32 0, .int .i64 0], .slice (some ⟨s2, 0, none⟩) 1 1, .bool false]) (by simp [results, Try.results9, go_sem, d0, d1]) rfl ⟨_, rfl, own_base (own_other (own_other O6.out (Nat.lt_succ_self _)) (Nat.lt_succ_self _)) (Nat.le_succ _), (B6.out.setCell (Nat.le_refl _) _).setCell (Nat.le_refl _) _⟩
set_option maxHeartbeats 3200000 in
theorem walk_no2 {w : World} {v : Value} {bs : List UInt8} (root va : Int) (hv : ByR w v bs) (hn : bs.length ≤ maxLen) (r0 : 0 ≤ root) (r1 : root < 4294967296) (a0 : 0 ≤ va) (h : va < 16384) (h1 : MM.ck bs.length (WK.pl root va 0) 4 = 0)
    (h2 : (PT.bt (WK.w1 bs root va % 128) 0 && !PT.lf (WK.w1 bs root va % 128)) = true) (h3 : MM.ck bs.length (WK.p2 bs root va) 4 = 9) :
    Calls Try.prog 9 #[v, .int .u32 root, .int .u32 va] w (WkPost w ⟨0, 0, [WK.pl root va 0], false⟩) := by
  have HP1 := Lib.hid (fun W => place_any root va 0 W r0 r1 a0 (by omega))
  obtain ⟨p0, p1⟩ := WK.pl_bd root va 0
  have HE1 := Lib.hid (fun (W : World) (hb : Below w.heap.size w W) => entry_ok (w := W) (WK.pl root va 0) (hv.below hb) hn p0 p1 h1)
  have q := WK.pl_bd (PT.ad (WK.w1 bs root va / 256 % 256) 0) va 1
  have HE2 := Lib.hid (fun (W : World) (hb : Below w.heap.size w W) => entry_no (w := W) (WK.p2 bs root va) (hv.below hb) hn q.1 q.2 h3)
  have t := PT.ad_bd (WK.w1 bs root va / 256 % 256) 0
  have HP2 := Lib.hid (fun W => place_any (PT.ad (WK.w1 bs root va / 256 % 256) 0) va 1 W t.1 (by omega) a0 (by omega))
  have b := WK.w1_bd bs root va
  change Hid (∀ W, Calls _ _ _ W fun e w' => e = .returned (.int .u32 (WK.p2 bs root va)) ∧ _) at HP2
  change Hid (∀ W : World, _ → Calls _ _ _ W fun e w' => e = .returned (.tuple #[PV (WK.w1 bs root va % 128) (WK.w1 bs root va / 256 % 256), _]) ∧ _) at HE1
  change 0 ≤ WK.p2 bs root va ∧ WK.p2 bs root va < 4294967296 at q
  generalize WK.p2 bs root va = y2 at *
  generalize WK.pl root va 0 = y1 at *
  have b0 : 0 ≤ WK.w1 bs root va % 128 := by omega
  have b1 : WK.w1 bs root va % 128 < 4294967296 := by omega
  have g0 : 0 ≤ WK.w1 bs root va / 256 % 256 := by omega
  have g1 : WK.w1 bs root va / 256 % 256 < 256 := by omega
  generalize WK.w1 bs root va / 256 % 256 = gg1 at *
  generalize WK.w1 bs root va % 128 = bb1 at *
  have HV1 := Lib.hid (fun W => valid_any bb1 gg1 W b0 b1)
  have HL1 := Lib.hid (fun W => leaf_any bb1 gg1 W b0 b1)
  have HA := Lib.hid (fun W => addr_any bb1 gg1 0 W (by decide) (by decide))
  generalize PT.ad gg1 0 = ad1 at *
  rw [Bool.and_eq_true] at h2
  rw [h2.1] at HV1
  rw [show PT.lf bb1 = false by simpa using h2.2] at HL1
  obtain ⟨A, cc, rfl⟩ := by_form hv
  have HB := Lib.hid (below_one w (.cells #[.int .u32 0, .int .i64 0] 26))
  clear hv b b0 b1 g0 g1 h1 h2 h3 r0 r1 hn
  unfold PV at *
  have hva : decide (16384 ≤ va) = false := by simpa using h
  go_enter Try.func9, Try.ntmps9
  go_upto_region 1 with fail
  generalize hW : World.alloc w _ = W1
  have K0 := Lib.hid (show Pk W1 w.heap.size 0 0 from hW ▸ Pk.new w 0 0)
  rw [hW] at HB
  have HS := Lib.hid (show w.heap.size + 1 ≤ W1.heap.size by rw [← hW]; simp)
  clear hW
  go_upto_region 5 with (first
    | (go_at_call 22; (with_reducible refine (HP1.out _).mono ?_); rintro e w1 ⟨rfl, hb⟩; have B1 := Lib.hid (below_then HB.out hb); have K1 := Lib.hid (K0.out.below hb); have S1 := Lib.hid (Nat.le_trans HS.out hb.size); clear hb)
    | (go_at_call 23; (with_reducible refine (HE1.out _ B1.out).mono ?_); rintro e w2 ⟨rfl, hb⟩; have B2 := Lib.hid (below_then B1.out hb); have K2 := Lib.hid (K1.out.below hb); have S2 := Lib.hid (Nat.le_trans S1.out hb.size); clear hb))
  have L3 := Lib.hid (Pk.new w2 bb1 gg1)
  have B3 := Lib.hid (below_then B2.out (below_one w2 (.cells #[.int .u32 bb1, .int .i64 gg1] 26)))
  have K3 := Lib.hid (K2.out.below (below_one w2 (.cells #[.int .u32 bb1, .int .i64 gg1] 26)))
  have S3 := Lib.hid (show w.heap.size + 1 ≤ (w2.alloc (.cells #[.int .u32 bb1, .int .i64 gg1] 26)).heap.size by have := S2.out; simp; omega)
  generalize World.alloc w2 _ = W3 at L3 B3 K3 S3 ⊢
  generalize w2.heap.size = s1 at *
  clear HB K0 HS B1 K1 S1 B2 K2 S2 HP1 HE1
  go_upto_region 8 with fail
  have L4 := Lib.hid (L3.out.below (below_one W3 (.cells #[.int .u32 y1] 23)))
  have B4 := Lib.hid (below_then B3.out (below_one W3 (.cells #[.int .u32 y1] 23)))
  have K4 := Lib.hid (K3.out.below (below_one W3 (.cells #[.int .u32 y1] 23)))
  have O4 := Lib.hid (own_one W3 y1 S3.out)
  have S4 := Lib.hid (show W3.heap.size < (W3.alloc (.cells #[.int .u32 y1] 23)).heap.size by simp)
  generalize World.alloc W3 _ = W4 at L4 B4 K4 O4 S4 ⊢
  have S5 := Lib.hid S3.out
  generalize W3.heap.size = s2 at *
  clear L3 B3 K3 S3
  have c0 := L4.out.c0
  have c1 := L4.out.c1
  go_upto_region 11 with (first
    | (go_at_call 24; (with_reducible refine (HV1.out _).mono ?_); rintro e w5 ⟨rfl, hb⟩; have B5 := Lib.hid (below_then B4.out hb); have K5 := Lib.hid (K4.out.below hb); have L5 := Lib.hid (L4.out.below hb); have O5 := Lib.hid (own_later O4.out hb); have T5 := Lib.hid (Nat.lt_of_lt_of_le S4.out hb.size); have c2 := L5.out.c0; have c3 := L5.out.c1; clear hb)
    | (go_at_call 25; (with_reducible refine (HL1.out _).mono ?_); rintro e w6 ⟨rfl, hb⟩; have B6 := Lib.hid (below_then B5.out hb); have K6 := Lib.hid (K5.out.below hb); have L6 := Lib.hid (L5.out.below hb); have O6 := Lib.hid (own_later O5.out hb); have T6 := Lib.hid (Nat.lt_of_lt_of_le T5.out hb.size); have c4 := L6.out.c0; have c5 := L6.out.c1; clear hb)
    | (go_at_call 26; (with_reducible refine (HA.out _).mono ?_); rintro e w7 ⟨rfl, hb⟩; have B7 := Lib.hid (below_then B6.out hb); have K7 := Lib.hid (K6.out.below hb); have O7 := Lib.hid (own_later O6.out hb); have T7 := Lib.hid (Nat.lt_of_lt_of_le T6.out hb.size); clear hb)
    | (go_at_call 22; (with_reducible refine (HP2.out _).mono ?_); rintro e w8 ⟨rfl, hb⟩; have B8 := Lib.hid (below_then B7.out hb); have K8 := Lib.hid (K7.out.below hb); have O8 := Lib.hid (own_later O7.out hb); have T8 := Lib.hid (Nat.lt_of_lt_of_le T7.out hb.size); clear hb))
  clear c0 c1 c2 c3 c4 c5 B4 K4 L4 O4 S4 B5 K5 L5 O5 T5 B6 K6 L6 O6 T6 B7 K7 O7 T7 HV1 HL1 HA HP2
  go_upto_region 12 with (go_at_call 23; (with_reducible refine (HE2.out _ B8.out).mono ?_); rintro e w9 ⟨rfl, hb⟩; have B9 := Lib.hid (below_then B8.out hb); have K9 := Lib.hid (K8.out.below hb); have O9 := Lib.hid (own_later O8.out hb); have T9 := Lib.hid (Nat.lt_of_lt_of_le T8.out hb.size); clear hb)
  have hb := below_one w9 (.cells #[.int .u32 0, .int .i64 0] 26)
  have B10 := Lib.hid (below_then B9.out hb)
  have K10 := Lib.hid (K9.out.below hb)
  have O10 := Lib.hid (own_later O9.out hb)
  clear hb
  generalize World.alloc w9 _ = W10 at B10 K10 O10 ⊢
  clear B8 K8 O8 T8 B9 K9 O9 T9 HE2
  have d0 := K10.out.c0
  have d1 := K10.out.c1
  have df := K10.out.free
  go_wp2
  exact bodyPost_ret (v := .tuple #[.agg #[.int .u32 0, .int .i64 0], .slice (some ⟨s2, 0, none⟩) 1 1, .bool false]) (by simp [results, Try.results9, go_sem, d0, d1]) rfl ⟨_, rfl, own_base (own_other (own_other O10.out (Nat.lt_succ_self _)) (Nat.lt_succ_self _)) (Nat.le_succ _), (B10.out.setCell (Nat.le_refl _) _).setCell (Nat.le_refl _) _⟩
set_option maxHeartbeats 3200000 in
theorem walk_bad2v {w : World} {v : Value} {bs : List UInt8} (root va : Int) (hv : ByR w v bs) (hn : bs.length ≤ maxLen) (r0 : 0 ≤ root) (r1 : root < 4294967296) (a0 : 0 ≤ va) (h : va < 16384) (h1 : MM.ck bs.length (WK.pl root va 0) 4 = 0)
    (h2 : (PT.bt (WK.w1 bs root va % 128) 0 && !PT.lf (WK.w1 bs root va % 128)) = true) (h3 : MM.ck bs.length (WK.p2 bs root va) 4 = 0) (h4 : PT.bt (WK.w2 bs root va % 128) 0 = false) :
    Calls Try.prog 9 #[v, .int .u32 root, .int .u32 va] w (WkPost w ⟨0, 0, [WK.pl root va 0, WK.p2 bs root va], false⟩) := by
  obtain ⟨i0, hi, hz0, hz1, hz2⟩ := info_parts info23
  have HI := Lib.hid (And.intro hi (And.intro hz0 (And.intro hz1 hz2)))
  clear hi hz0 hz1 hz2
  have HP1 := Lib.hid (fun W => place_any root va 0 W r0 r1 a0 (by omega))
  obtain ⟨p0, p1⟩ := WK.pl_bd root va 0
  have HE1 := Lib.hid (fun (W : World) (hb : Below w.heap.size w W) => entry_ok (w := W) (WK.pl root va 0) (hv.below hb) hn p0 p1 h1)
  have q := WK.pl_bd (PT.ad (WK.w1 bs root va / 256 % 256) 0) va 1
  have HE2 := Lib.hid (fun (W : World) (hb : Below w.heap.size w W) => entry_ok (w := W) (WK.p2 bs root va) (hv.below hb) hn q.1 q.2 h3)
  have t := PT.ad_bd (WK.w1 bs root va / 256 % 256) 0
  have HP2 := Lib.hid (fun W => place_any (PT.ad (WK.w1 bs root va / 256 % 256) 0) va 1 W t.1 (by omega) a0 (by omega))
  have b := WK.w1_bd bs root va
  have c := WK.w2_bd bs root va
  change Hid (∀ W, Calls _ _ _ W fun e w' => e = .returned (.int .u32 (WK.p2 bs root va)) ∧ _) at HP2
  change Hid (∀ W : World, _ → Calls _ _ _ W fun e w' => e = .returned (.tuple #[PV (WK.w1 bs root va % 128) (WK.w1 bs root va / 256 % 256), _]) ∧ _) at HE1
  change Hid (∀ W : World, _ → Calls _ _ _ W fun e w' => e = .returned (.tuple #[PV (WK.w2 bs root va % 128) (WK.w2 bs root va / 256 % 256), _]) ∧ _) at HE2
  change 0 ≤ WK.p2 bs root va ∧ WK.p2 bs root va < 4294967296 at q
  generalize WK.p2 bs root va = y2 at *
  generalize WK.pl root va 0 = y1 at *
  have b0 : 0 ≤ WK.w1 bs root va % 128 := by omega
  have b1 : WK.w1 bs root va % 128 < 4294967296 := by omega
  have c0 : 0 ≤ WK.w2 bs root va % 128 := by omega
  have c1 : WK.w2 bs root va % 128 < 4294967296 := by omega
  have g0 : 0 ≤ WK.w1 bs root va / 256 % 256 := by omega
  have g1 : WK.w1 bs root va / 256 % 256 < 256 := by omega
  generalize WK.w1 bs root va / 256 % 256 = gg1 at *
  generalize WK.w2 bs root va / 256 % 256 = gg2 at *
  generalize WK.w1 bs root va % 128 = bb1 at *
  generalize WK.w2 bs root va % 128 = bb2 at *
  have HV1 := Lib.hid (fun W => valid_any bb1 gg1 W b0 b1)
  have HL1 := Lib.hid (fun W => leaf_any bb1 gg1 W b0 b1)
  have HV2 := Lib.hid (fun W => valid_any bb2 gg2 W c0 c1)
  have HL2 := Lib.hid (fun W => leaf_any bb2 gg2 W c0 c1)
  have HA := Lib.hid (fun W => addr_any bb1 gg1 0 W (by decide) (by decide))
  generalize PT.ad gg1 0 = ad1 at *
  rw [Bool.and_eq_true] at h2
  rw [h2.1] at HV1
  rw [show PT.lf bb1 = false by simpa using h2.2] at HL1
  rw [h4] at HV2
  clear HL2
  obtain ⟨A, cc, rfl⟩ := by_form hv
  have HB := Lib.hid (below_one w (.cells #[.int .u32 0, .int .i64 0] 26))
  clear hv b c b0 b1 c0 c1 g0 g1 h1 h2 h3 h4 r0 r1 hn
  unfold PV at *
  have hva : decide (16384 ≤ va) = false := by simpa using h
  go_enter Try.func9, Try.ntmps9
  go_upto_region 1 with fail
  generalize hW : World.alloc w _ = W1
  have K0 := Lib.hid (show Pk W1 w.heap.size 0 0 from hW ▸ Pk.new w 0 0)
  rw [hW] at HB
  have HS := Lib.hid (show w.heap.size + 1 ≤ W1.heap.size by rw [← hW]; simp)
  clear hW
  go_upto_region 5 with (first
    | (go_at_call 22; (with_reducible refine (HP1.out _).mono ?_); rintro e w1 ⟨rfl, hb⟩; have B1 := Lib.hid (below_then HB.out hb); have K1 := Lib.hid (K0.out.below hb); have S1 := Lib.hid (Nat.le_trans HS.out hb.size); clear hb)
    | (go_at_call 23; (with_reducible refine (HE1.out _ B1.out).mono ?_); rintro e w2 ⟨rfl, hb⟩; have B2 := Lib.hid (below_then B1.out hb); have K2 := Lib.hid (K1.out.below hb); have S2 := Lib.hid (Nat.le_trans S1.out hb.size); clear hb))
  have L3 := Lib.hid (Pk.new w2 bb1 gg1)
  have B3 := Lib.hid (below_then B2.out (below_one w2 (.cells #[.int .u32 bb1, .int .i64 gg1] 26)))
  have K3 := Lib.hid (K2.out.below (below_one w2 (.cells #[.int .u32 bb1, .int .i64 gg1] 26)))
  have S3 := Lib.hid (show w.heap.size + 1 ≤ (w2.alloc (.cells #[.int .u32 bb1, .int .i64 gg1] 26)).heap.size by have := S2.out; simp; omega)
  generalize World.alloc w2 _ = W3 at L3 B3 K3 S3 ⊢
  generalize w2.heap.size = s1 at *
  clear HB K0 HS B1 K1 S1 B2 K2 S2 HP1 HE1
  go_upto_region 8 with fail
  have L4 := Lib.hid (L3.out.below (below_one W3 (.cells #[.int .u32 y1] 23)))
  have B4 := Lib.hid (below_then B3.out (below_one W3 (.cells #[.int .u32 y1] 23)))
  have K4 := Lib.hid (K3.out.below (below_one W3 (.cells #[.int .u32 y1] 23)))
  have O4 := Lib.hid (own_one W3 y1 S3.out)
  have S4 := Lib.hid (show W3.heap.size < (W3.alloc (.cells #[.int .u32 y1] 23)).heap.size by simp)
  generalize World.alloc W3 _ = W4 at L4 B4 K4 O4 S4 ⊢
  have S5 := Lib.hid S3.out
  generalize W3.heap.size = s2 at *
  clear L3 B3 K3 S3
  have c0 := L4.out.c0
  have c1 := L4.out.c1
  go_upto_region 11 with (first
    | (go_at_call 24; (with_reducible refine (HV1.out _).mono ?_); rintro e w5 ⟨rfl, hb⟩; have B5 := Lib.hid (below_then B4.out hb); have K5 := Lib.hid (K4.out.below hb); have L5 := Lib.hid (L4.out.below hb); have O5 := Lib.hid (own_later O4.out hb); have T5 := Lib.hid (Nat.lt_of_lt_of_le S4.out hb.size); have c2 := L5.out.c0; have c3 := L5.out.c1; clear hb)
    | (go_at_call 25; (with_reducible refine (HL1.out _).mono ?_); rintro e w6 ⟨rfl, hb⟩; have B6 := Lib.hid (below_then B5.out hb); have K6 := Lib.hid (K5.out.below hb); have L6 := Lib.hid (L5.out.below hb); have O6 := Lib.hid (own_later O5.out hb); have T6 := Lib.hid (Nat.lt_of_lt_of_le T5.out hb.size); have c4 := L6.out.c0; have c5 := L6.out.c1; clear hb)
    | (go_at_call 26; (with_reducible refine (HA.out _).mono ?_); rintro e w7 ⟨rfl, hb⟩; have B7 := Lib.hid (below_then B6.out hb); have K7 := Lib.hid (K6.out.below hb); have O7 := Lib.hid (own_later O6.out hb); have T7 := Lib.hid (Nat.lt_of_lt_of_le T6.out hb.size); clear hb)
    | (go_at_call 22; (with_reducible refine (HP2.out _).mono ?_); rintro e w8 ⟨rfl, hb⟩; have B8 := Lib.hid (below_then B7.out hb); have K8 := Lib.hid (K7.out.below hb); have O8 := Lib.hid (own_later O7.out hb); have T8 := Lib.hid (Nat.lt_of_lt_of_le T7.out hb.size); clear hb))
  clear c0 c1 c2 c3 c4 c5 B4 K4 L4 O4 S4 B5 K5 L5 O5 T5 B6 K6 L6 O6 T6 B7 K7 O7 T7 HV1 HL1 HA HP2
  go_upto_region 12 with (go_at_call 23; (with_reducible refine (HE2.out _ B8.out).mono ?_); rintro e w9 ⟨rfl, hb⟩; have B9 := Lib.hid (below_then B8.out hb); have K9 := Lib.hid (K8.out.below hb); have O9 := Lib.hid (own_later O8.out hb); have T9 := Lib.hid (Nat.lt_of_lt_of_le T8.out hb.size); clear hb)
  have L10 := Lib.hid (Pk.new w9 bb2 gg2)
  have hb := below_one w9 (.cells #[.int .u32 bb2, .int .i64 gg2] 26)
  have B10 := Lib.hid (below_then B9.out hb)
  have K10 := Lib.hid (K9.out.below hb)
  have O10 := Lib.hid (own_later O9.out hb)
  have T10 := Lib.hid (Nat.lt_of_lt_of_le T9.out hb.size)
  clear hb
  generalize World.alloc w9 _ = W10 at L10 B10 K10 O10 T10 ⊢
  have T9' := Lib.hid T9.out
  generalize w9.heap.size = s3 at *
  clear B8 K8 O8 T8 B9 K9 O9 T9 HE2
  have HM := Lib.hid (show w.heap.size + 1 ≤ (W10.alloc (.cells #[.int .u32 y2] 23)).heap.size by have := T10.out; have := S5.out; simp; omega)
  have HO := Lib.hid (O10.out.alloc (.cells #[.int .u32 y2] 23))
  have HN := Lib.hid (cell_one_new W10 (.int .u32 y2) 23)
  go_upto_region 15 with (at_builtin; refine wpList_append_own _ rfl _ _ 27 rfl (w.heap.size + 1) 23 i0 (.int .u32 0) 1 4 Try.underlying27 HI.out.1 HI.out.2.1 HI.out.2.2.1 HI.out.2.2.2 rfl (by decide) (.slice (some ⟨s2, 0, none⟩) 1 1) 1 [.int .u32 y1] rfl HO.out ⟨_, 0, none⟩ 1 1 [.int .u32 y2] rfl rfl HN.out ?c2 (by decide) (by decide) HM.out ?_)
  · intro u hu; simp at hu; subst hu; rfl
  intro x' w11 hown' hgrow _
  have hb := below_one W10 (.cells #[.int .u32 y2] 23)
  have O11 := Lib.hid hown'
  have K11 := Lib.hid (pk_grown (K10.out.below hb) hgrow (by have := S5.out; simp [Value.ownBlock]; omega))
  have L11 := Lib.hid (pk_grown (L10.out.below hb) hgrow (by have := T9'.out; simp [Value.ownBlock]; omega))
  have B11 := Lib.hid ((below_then B10.out hb).grown hgrow (by have := HM.out; omega) (by intro k hk; simp [Value.ownBlock] at hk; have := S5.out; omega))
  clear hown' hgrow hb B10 K10 O10 T10 T9' L10 HM HO HN
  have c0 := L11.out.c0
  have c1 := L11.out.c1
  go_upto_region 16 with (go_at_call 24; (with_reducible refine (HV2.out _).mono ?_); rintro e w12 ⟨rfl, hb⟩; have B12 := Lib.hid (below_then B11.out hb); have K12 := Lib.hid (K11.out.below hb); have L12 := Lib.hid (L11.out.below hb); have O12 := Lib.hid (own_later O11.out hb); have c2 := L12.out.c0; have c3 := L12.out.c1; clear hb)
  clear c0 c1 c2 c3 B11 K11 L11 O11 HV2
  have d0 := K12.out.c0
  have d1 := K12.out.c1
  have df := K12.out.free
  go_wp2
  exact bodyPost_ret (v := .tuple #[.agg #[.int .u32 0, .int .i64 0], x', .bool false]) (by simp [results, Try.results9, go_sem, d0, d1]) rfl ⟨x', rfl, own_base (own_other (own_other O12.out (Nat.lt_succ_self _)) (Nat.lt_succ_self _)) (Nat.le_succ _), (B12.out.setCell (Nat.le_refl _) _).setCell (Nat.le_refl _) _⟩
set_option maxHeartbeats 3200000 in
theorem walk_bad2l {w : World} {v : Value} {bs : List UInt8} (root va : Int) (hv : ByR w v bs) (hn : bs.length ≤ maxLen) (r0 : 0 ≤ root) (r1 : root < 4294967296) (a0 : 0 ≤ va) (h : va < 16384) (h1 : MM.ck bs.length (WK.pl root va 0) 4 = 0)
    (h2 : (PT.bt (WK.w1 bs root va % 128) 0 && !PT.lf (WK.w1 bs root va % 128)) = true) (h3 : MM.ck bs.length (WK.p2 bs root va) 4 = 0) (h4 : PT.bt (WK.w2 bs root va % 128) 0 = true) (h5 : PT.lf (WK.w2 bs root va % 128) = false) :
    Calls Try.prog 9 #[v, .int .u32 root, .int .u32 va] w (WkPost w ⟨0, 0, [WK.pl root va 0, WK.p2 bs root va], false⟩) := by
  obtain ⟨i0, hi, hz0, hz1, hz2⟩ := info_parts info23
  have HI := Lib.hid (And.intro hi (And.intro hz0 (And.intro hz1 hz2)))
  clear hi hz0 hz1 hz2
  have HP1 := Lib.hid (fun W => place_any root va 0 W r0 r1 a0 (by omega))
  obtain ⟨p0, p1⟩ := WK.pl_bd root va 0
  have HE1 := Lib.hid (fun (W : World) (hb : Below w.heap.size w W) => entry_ok (w := W) (WK.pl root va 0) (hv.below hb) hn p0 p1 h1)
  have q := WK.pl_bd (PT.ad (WK.w1 bs root va / 256 % 256) 0) va 1
  have HE2 := Lib.hid (fun (W : World) (hb : Below w.heap.size w W) => entry_ok (w := W) (WK.p2 bs root va) (hv.below hb) hn q.1 q.2 h3)
  have t := PT.ad_bd (WK.w1 bs root va / 256 % 256) 0
  have HP2 := Lib.hid (fun W => place_any (PT.ad (WK.w1 bs root va / 256 % 256) 0) va 1 W t.1 (by omega) a0 (by omega))
  have b := WK.w1_bd bs root va
  have c := WK.w2_bd bs root va
  change Hid (∀ W, Calls _ _ _ W fun e w' => e = .returned (.int .u32 (WK.p2 bs root va)) ∧ _) at HP2
  change Hid (∀ W : World, _ → Calls _ _ _ W fun e w' => e = .returned (.tuple #[PV (WK.w1 bs root va % 128) (WK.w1 bs root va / 256 % 256), _]) ∧ _) at HE1
  change Hid (∀ W : World, _ → Calls _ _ _ W fun e w' => e = .returned (.tuple #[PV (WK.w2 bs root va % 128) (WK.w2 bs root va / 256 % 256), _]) ∧ _) at HE2
  change 0 ≤ WK.p2 bs root va ∧ WK.p2 bs root va < 4294967296 at q
  generalize WK.p2 bs root va = y2 at *
  generalize WK.pl root va 0 = y1 at *
  have b0 : 0 ≤ WK.w1 bs root va % 128 := by omega
  have b1 : WK.w1 bs root va % 128 < 4294967296 := by omega
  have c0 : 0 ≤ WK.w2 bs root va % 128 := by omega
  have c1 : WK.w2 bs root va % 128 < 4294967296 := by omega
  have g0 : 0 ≤ WK.w1 bs root va / 256 % 256 := by omega
  have g1 : WK.w1 bs root va / 256 % 256 < 256 := by omega
  generalize WK.w1 bs root va / 256 % 256 = gg1 at *
  generalize WK.w2 bs root va / 256 % 256 = gg2 at *
  generalize WK.w1 bs root va % 128 = bb1 at *
  generalize WK.w2 bs root va % 128 = bb2 at *
  have HV1 := Lib.hid (fun W => valid_any bb1 gg1 W b0 b1)
  have HL1 := Lib.hid (fun W => leaf_any bb1 gg1 W b0 b1)
  have HV2 := Lib.hid (fun W => valid_any bb2 gg2 W c0 c1)
  have HL2 := Lib.hid (fun W => leaf_any bb2 gg2 W c0 c1)
  have HA := Lib.hid (fun W => addr_any bb1 gg1 0 W (by decide) (by decide))
  generalize PT.ad gg1 0 = ad1 at *
  rw [Bool.and_eq_true] at h2
  rw [h2.1] at HV1
  rw [show PT.lf bb1 = false by simpa using h2.2] at HL1
  rw [h4] at HV2
  rw [h5] at HL2
  obtain ⟨A, cc, rfl⟩ := by_form hv
  have HB := Lib.hid (below_one w (.cells #[.int .u32 0, .int .i64 0] 26))
  clear hv b c b0 b1 c0 c1 g0 g1 h1 h2 h3 h4 h5 r0 r1 hn
  unfold PV at *
  have hva : decide (16384 ≤ va) = false := by simpa using h
  go_enter Try.func9, Try.ntmps9
  go_upto_region 1 with fail
  generalize hW : World.alloc w _ = W1
  have K0 := Lib.hid (show Pk W1 w.heap.size 0 0 from hW ▸ Pk.new w 0 0)
  rw [hW] at HB
  have HS := Lib.hid (show w.heap.size + 1 ≤ W1.heap.size by rw [← hW]; simp)
  clear hW
  go_upto_region 5 with (first
    | (go_at_call 22; (with_reducible refine (HP1.out _).mono ?_); rintro e w1 ⟨rfl, hb⟩; have B1 := Lib.hid (below_then HB.out hb); have K1 := Lib.hid (K0.out.below hb); have S1 := Lib.hid (Nat.le_trans HS.out hb.size); clear hb)
    | (go_at_call 23; (with_reducible refine (HE1.out _ B1.out).mono ?_); rintro e w2 ⟨rfl, hb⟩; have B2 := Lib.hid (below_then B1.out hb); have K2 := Lib.hid (K1.out.below hb); have S2 := Lib.hid (Nat.le_trans S1.out hb.size); clear hb))
  have L3 := Lib.hid (Pk.new w2 bb1 gg1)
  have B3 := Lib.hid (below_then B2.out (below_one w2 (.cells #[.int .u32 bb1, .int .i64 gg1] 26)))
  have K3 := Lib.hid (K2.out.below (below_one w2 (.cells #[.int .u32 bb1, .int .i64 gg1] 26)))
  have S3 := Lib.hid (show w.heap.size + 1 ≤ (w2.alloc (.cells #[.int .u32 bb1, .int .i64 gg1] 26)).heap.size by have := S2.out; simp; omega)
  generalize World.alloc w2 _ = W3 at L3 B3 K3 S3 ⊢
  generalize w2.heap.size = s1 at *
  clear HB K0 HS B1 K1 S1 B2 K2 S2 HP1 HE1
  go_upto_region 8 with fail
  have L4 := Lib.hid (L3.out.below (below_one W3 (.cells #[.int .u32 y1] 23)))
  have B4 := Lib.hid (below_then B3.out (below_one W3 (.cells #[.int .u32 y1] 23)))
  have K4 := Lib.hid (K3.out.below (below_one W3 (.cells #[.int .u32 y1] 23)))
  have O4 := Lib.hid (own_one W3 y1 S3.out)
  have S4 := Lib.hid (show W3.heap.size < (W3.alloc (.cells #[.int .u32 y1] 23)).heap.size by simp)
  generalize World.alloc W3 _ = W4 at L4 B4 K4 O4 S4 ⊢
  have S5 := Lib.hid S3.out
  generalize W3.heap.size = s2 at *
  clear L3 B3 K3 S3
  have c0 := L4.out.c0
  have c1 := L4.out.c1
  go_upto_region 11 with (first
    | (go_at_call 24; (with_reducible refine (HV1.out _).mono ?_); rintro e w5 ⟨rfl, hb⟩; have B5 := Lib.hid (below_then B4.out hb); have K5 := Lib.hid (K4.out.below hb); have L5 := Lib.hid (L4.out.below hb); have O5 := Lib.hid (own_later O4.out hb); have T5 := Lib.hid (Nat.lt_of_lt_of_le S4.out hb.size); have c2 := L5.out.c0; have c3 := L5.out.c1; clear hb)
    | (go_at_call 25; (with_reducible refine (HL1.out _).mono ?_); rintro e w6 ⟨rfl, hb⟩; have B6 := Lib.hid (below_then B5.out hb); have K6 := Lib.hid (K5.out.below hb); have L6 := Lib.hid (L5.out.below hb); have O6 := Lib.hid (own_later O5.out hb); have T6 := Lib.hid (Nat.lt_of_lt_of_le T5.out hb.size); have c4 := L6.out.c0; have c5 := L6.out.c1; clear hb)
    | (go_at_call 26; (with_reducible refine (HA.out _).mono ?_); rintro e w7 ⟨rfl, hb⟩; have B7 := Lib.hid (below_then B6.out hb); have K7 := Lib.hid (K6.out.below hb); have O7 := Lib.hid (own_later O6.out hb); have T7 := Lib.hid (Nat.lt_of_lt_of_le T6.out hb.size); clear hb)
    | (go_at_call 22; (with_reducible refine (HP2.out _).mono ?_); rintro e w8 ⟨rfl, hb⟩; have B8 := Lib.hid (below_then B7.out hb); have K8 := Lib.hid (K7.out.below hb); have O8 := Lib.hid (own_later O7.out hb); have T8 := Lib.hid (Nat.lt_of_lt_of_le T7.out hb.size); clear hb))
  clear c0 c1 c2 c3 c4 c5 B4 K4 L4 O4 S4 B5 K5 L5 O5 T5 B6 K6 L6 O6 T6 B7 K7 O7 T7 HV1 HL1 HA HP2
  go_upto_region 12 with (go_at_call 23; (with_reducible refine (HE2.out _ B8.out).mono ?_); rintro e w9 ⟨rfl, hb⟩; have B9 := Lib.hid (below_then B8.out hb); have K9 := Lib.hid (K8.out.below hb); have O9 := Lib.hid (own_later O8.out hb); have T9 := Lib.hid (Nat.lt_of_lt_of_le T8.out hb.size); clear hb)
  have L10 := Lib.hid (Pk.new w9 bb2 gg2)
  have hb := below_one w9 (.cells #[.int .u32 bb2, .int .i64 gg2] 26)
  have B10 := Lib.hid (below_then B9.out hb)
  have K10 := Lib.hid (K9.out.below hb)
  have O10 := Lib.hid (own_later O9.out hb)
  have T10 := Lib.hid (Nat.lt_of_lt_of_le T9.out hb.size)
  clear hb
  generalize World.alloc w9 _ = W10 at L10 B10 K10 O10 T10 ⊢
  have T9' := Lib.hid T9.out
  generalize w9.heap.size = s3 at *
  clear B8 K8 O8 T8 B9 K9 O9 T9 HE2
  have HM := Lib.hid (show w.heap.size + 1 ≤ (W10.alloc (.cells #[.int .u32 y2] 23)).heap.size by have := T10.out; have := S5.out; simp; omega)
  have HO := Lib.hid (O10.out.alloc (.cells #[.int .u32 y2] 23))
  have HN := Lib.hid (cell_one_new W10 (.int .u32 y2) 23)
  go_upto_region 15 with (at_builtin; refine wpList_append_own _ rfl _ _ 27 rfl (w.heap.size + 1) 23 i0 (.int .u32 0) 1 4 Try.underlying27 HI.out.1 HI.out.2.1 HI.out.2.2.1 HI.out.2.2.2 rfl (by decide) (.slice (some ⟨s2, 0, none⟩) 1 1) 1 [.int .u32 y1] rfl HO.out ⟨_, 0, none⟩ 1 1 [.int .u32 y2] rfl rfl HN.out ?c2 (by decide) (by decide) HM.out ?_)
  · intro u hu; simp at hu; subst hu; rfl
  intro x' w11 hown' hgrow _
  have hb := below_one W10 (.cells #[.int .u32 y2] 23)
  have O11 := Lib.hid hown'
  have K11 := Lib.hid (pk_grown (K10.out.below hb) hgrow (by have := S5.out; simp [Value.ownBlock]; omega))
  have L11 := Lib.hid (pk_grown (L10.out.below hb) hgrow (by have := T9'.out; simp [Value.ownBlock]; omega))
  have B11 := Lib.hid ((below_then B10.out hb).grown hgrow (by have := HM.out; omega) (by intro k hk; simp [Value.ownBlock] at hk; have := S5.out; omega))
  clear hown' hgrow hb B10 K10 O10 T10 T9' L10 HM HO HN
  have c0 := L11.out.c0
  have c1 := L11.out.c1
  go_upto_region 16 with (first
    | (go_at_call 24; (with_reducible refine (HV2.out _).mono ?_); rintro e w12 ⟨rfl, hb⟩; have B12 := Lib.hid (below_then B11.out hb); have K12 := Lib.hid (K11.out.below hb); have L12 := Lib.hid (L11.out.below hb); have O12 := Lib.hid (own_later O11.out hb); have c2 := L12.out.c0; have c3 := L12.out.c1; clear hb)
    | (go_at_call 25; (with_reducible refine (HL2.out _).mono ?_); rintro e w13 ⟨rfl, hb⟩; have B13 := Lib.hid (below_then B12.out hb); have K13 := Lib.hid (K12.out.below hb); have L13 := Lib.hid (L12.out.below hb); have O13 := Lib.hid (own_later O12.out hb); clear hb))
  clear c0 c1 c2 c3 B11 K11 L11 O11 B12 K12 L12 O12 HV2 HL2
  have d0 := K13.out.c0
  have d1 := K13.out.c1
  have df := K13.out.free
  go_wp2
  exact bodyPost_ret (v := .tuple #[.agg #[.int .u32 0, .int .i64 0], x', .bool false]) (by simp [results, Try.results9, go_sem, d0, d1]) rfl ⟨x', rfl, own_base (own_other (own_other O13.out (Nat.lt_succ_self _)) (Nat.lt_succ_self _)) (Nat.le_succ _), (B13.out.setCell (Nat.le_refl _) _).setCell (Nat.le_refl _) _⟩
set_option maxHeartbeats 3200000 in
theorem walk_good {w : World} {v : Value} {bs : List UInt8} (root va : Int) (hv : ByR w v bs) (hn : bs.length ≤ maxLen) (r0 : 0 ≤ root) (r1 : root < 4294967296) (a0 : 0 ≤ va) (h : va < 16384) (h1 : MM.ck bs.length (WK.pl root va 0) 4 = 0)
    (h2 : (PT.bt (WK.w1 bs root va % 128) 0 && !PT.lf (WK.w1 bs root va % 128)) = true) (h3 : MM.ck bs.length (WK.p2 bs root va) 4 = 0) (h4 : (PT.bt (WK.w2 bs root va % 128) 0 && PT.lf (WK.w2 bs root va % 128)) = true) :
    Calls Try.prog 9 #[v, .int .u32 root, .int .u32 va] w (WkPost w ⟨WK.w2 bs root va % 128, WK.w2 bs root va / 256 % 256, [WK.pl root va 0, WK.p2 bs root va], true⟩) := by
  obtain ⟨i0, hi, hz0, hz1, hz2⟩ := info_parts info23
  have HI := Lib.hid (And.intro hi (And.intro hz0 (And.intro hz1 hz2)))
  clear hi hz0 hz1 hz2
  have HP1 := Lib.hid (fun W => place_any root va 0 W r0 r1 a0 (by omega))
  obtain ⟨p0, p1⟩ := WK.pl_bd root va 0
  have HE1 := Lib.hid (fun (W : World) (hb : Below w.heap.size w W) => entry_ok (w := W) (WK.pl root va 0) (hv.below hb) hn p0 p1 h1)
  have q := WK.pl_bd (PT.ad (WK.w1 bs root va / 256 % 256) 0) va 1
  have HE2 := Lib.hid (fun (W : World) (hb : Below w.heap.size w W) => entry_ok (w := W) (WK.p2 bs root va) (hv.below hb) hn q.1 q.2 h3)
  have t := PT.ad_bd (WK.w1 bs root va / 256 % 256) 0
  have HP2 := Lib.hid (fun W => place_any (PT.ad (WK.w1 bs root va / 256 % 256) 0) va 1 W t.1 (by omega) a0 (by omega))
  have b := WK.w1_bd bs root va
  have c := WK.w2_bd bs root va
  change Hid (∀ W, Calls _ _ _ W fun e w' => e = .returned (.int .u32 (WK.p2 bs root va)) ∧ _) at HP2
  change Hid (∀ W : World, _ → Calls _ _ _ W fun e w' => e = .returned (.tuple #[PV (WK.w1 bs root va % 128) (WK.w1 bs root va / 256 % 256), _]) ∧ _) at HE1
  change Hid (∀ W : World, _ → Calls _ _ _ W fun e w' => e = .returned (.tuple #[PV (WK.w2 bs root va % 128) (WK.w2 bs root va / 256 % 256), _]) ∧ _) at HE2
  change 0 ≤ WK.p2 bs root va ∧ WK.p2 bs root va < 4294967296 at q
  generalize WK.p2 bs root va = y2 at *
  generalize WK.pl root va 0 = y1 at *
  have b0 : 0 ≤ WK.w1 bs root va % 128 := by omega
  have b1 : WK.w1 bs root va % 128 < 4294967296 := by omega
  have c0 : 0 ≤ WK.w2 bs root va % 128 := by omega
  have c1 : WK.w2 bs root va % 128 < 4294967296 := by omega
  have g0 : 0 ≤ WK.w1 bs root va / 256 % 256 := by omega
  have g1 : WK.w1 bs root va / 256 % 256 < 256 := by omega
  generalize WK.w1 bs root va / 256 % 256 = gg1 at *
  generalize WK.w2 bs root va / 256 % 256 = gg2 at *
  generalize WK.w1 bs root va % 128 = bb1 at *
  generalize WK.w2 bs root va % 128 = bb2 at *
  have HV1 := Lib.hid (fun W => valid_any bb1 gg1 W b0 b1)
  have HL1 := Lib.hid (fun W => leaf_any bb1 gg1 W b0 b1)
  have HV2 := Lib.hid (fun W => valid_any bb2 gg2 W c0 c1)
  have HL2 := Lib.hid (fun W => leaf_any bb2 gg2 W c0 c1)
  have HA := Lib.hid (fun W => addr_any bb1 gg1 0 W (by decide) (by decide))
  generalize PT.ad gg1 0 = ad1 at *
  rw [Bool.and_eq_true] at h2 h4
  rw [h2.1] at HV1
  rw [show PT.lf bb1 = false by simpa using h2.2] at HL1
  rw [h4.1] at HV2
  rw [h4.2] at HL2
  obtain ⟨A, cc, rfl⟩ := by_form hv
  have HB := Lib.hid (below_one w (.cells #[.int .u32 0, .int .i64 0] 26))
  clear hv b c b0 b1 c0 c1 g0 g1 h1 h2 h3 h4 r0 r1 hn
  unfold PV at *
  have hva : decide (16384 ≤ va) = false := by simpa using h
  go_enter Try.func9, Try.ntmps9
  go_upto_region 1 with fail
  generalize hW : World.alloc w _ = W1
  have K0 := Lib.hid (show Pk W1 w.heap.size 0 0 from hW ▸ Pk.new w 0 0)
  rw [hW] at HB
  have HS := Lib.hid (show w.heap.size + 1 ≤ W1.heap.size by rw [← hW]; simp)
  clear hW
  go_upto_region 5 with (first
    | (go_at_call 22; (with_reducible refine (HP1.out _).mono ?_); rintro e w1 ⟨rfl, hb⟩; have B1 := Lib.hid (below_then HB.out hb); have K1 := Lib.hid (K0.out.below hb); have S1 := Lib.hid (Nat.le_trans HS.out hb.size); clear hb)
    | (go_at_call 23; (with_reducible refine (HE1.out _ B1.out).mono ?_); rintro e w2 ⟨rfl, hb⟩; have B2 := Lib.hid (below_then B1.out hb); have K2 := Lib.hid (K1.out.below hb); have S2 := Lib.hid (Nat.le_trans S1.out hb.size); clear hb))
  have L3 := Lib.hid (Pk.new w2 bb1 gg1)
  have B3 := Lib.hid (below_then B2.out (below_one w2 (.cells #[.int .u32 bb1, .int .i64 gg1] 26)))
  have K3 := Lib.hid (K2.out.below (below_one w2 (.cells #[.int .u32 bb1, .int .i64 gg1] 26)))
  have S3 := Lib.hid (show w.heap.size + 1 ≤ (w2.alloc (.cells #[.int .u32 bb1, .int .i64 gg1] 26)).heap.size by have := S2.out; simp; omega)
  generalize World.alloc w2 _ = W3 at L3 B3 K3 S3 ⊢
  generalize w2.heap.size = s1 at *
  clear HB K0 HS B1 K1 S1 B2 K2 S2 HP1 HE1
  go_upto_region 8 with fail
  have L4 := Lib.hid (L3.out.below (below_one W3 (.cells #[.int .u32 y1] 23)))
  have B4 := Lib.hid (below_then B3.out (below_one W3 (.cells #[.int .u32 y1] 23)))
  have K4 := Lib.hid (K3.out.below (below_one W3 (.cells #[.int .u32 y1] 23)))
  have O4 := Lib.hid (own_one W3 y1 S3.out)
  have S4 := Lib.hid (show W3.heap.size < (W3.alloc (.cells #[.int .u32 y1] 23)).heap.size by simp)
  generalize World.alloc W3 _ = W4 at L4 B4 K4 O4 S4 ⊢
  have S5 := Lib.hid S3.out
  generalize W3.heap.size = s2 at *
  clear L3 B3 K3 S3
  have c0 := L4.out.c0
  have c1 := L4.out.c1
  go_upto_region 11 with (first
    | (go_at_call 24; (with_reducible refine (HV1.out _).mono ?_); rintro e w5 ⟨rfl, hb⟩; have B5 := Lib.hid (below_then B4.out hb); have K5 := Lib.hid (K4.out.below hb); have L5 := Lib.hid (L4.out.below hb); have O5 := Lib.hid (own_later O4.out hb); have T5 := Lib.hid (Nat.lt_of_lt_of_le S4.out hb.size); have c2 := L5.out.c0; have c3 := L5.out.c1; clear hb)
    | (go_at_call 25; (with_reducible refine (HL1.out _).mono ?_); rintro e w6 ⟨rfl, hb⟩; have B6 := Lib.hid (below_then B5.out hb); have K6 := Lib.hid (K5.out.below hb); have L6 := Lib.hid (L5.out.below hb); have O6 := Lib.hid (own_later O5.out hb); have T6 := Lib.hid (Nat.lt_of_lt_of_le T5.out hb.size); have c4 := L6.out.c0; have c5 := L6.out.c1; clear hb)
    | (go_at_call 26; (with_reducible refine (HA.out _).mono ?_); rintro e w7 ⟨rfl, hb⟩; have B7 := Lib.hid (below_then B6.out hb); have K7 := Lib.hid (K6.out.below hb); have O7 := Lib.hid (own_later O6.out hb); have T7 := Lib.hid (Nat.lt_of_lt_of_le T6.out hb.size); clear hb)
    | (go_at_call 22; (with_reducible refine (HP2.out _).mono ?_); rintro e w8 ⟨rfl, hb⟩; have B8 := Lib.hid (below_then B7.out hb); have K8 := Lib.hid (K7.out.below hb); have O8 := Lib.hid (own_later O7.out hb); have T8 := Lib.hid (Nat.lt_of_lt_of_le T7.out hb.size); clear hb))
  clear c0 c1 c2 c3 c4 c5 B4 K4 L4 O4 S4 B5 K5 L5 O5 T5 B6 K6 L6 O6 T6 B7 K7 O7 T7 HV1 HL1 HA HP2
  go_upto_region 12 with (go_at_call 23; (with_reducible refine (HE2.out _ B8.out).mono ?_); rintro e w9 ⟨rfl, hb⟩; have B9 := Lib.hid (below_then B8.out hb); have K9 := Lib.hid (K8.out.below hb); have O9 := Lib.hid (own_later O8.out hb); have T9 := Lib.hid (Nat.lt_of_lt_of_le T8.out hb.size); clear hb)
  have L10 := Lib.hid (Pk.new w9 bb2 gg2)
  have hb := below_one w9 (.cells #[.int .u32 bb2, .int .i64 gg2] 26)
  have B10 := Lib.hid (below_then B9.out hb)
  have K10 := Lib.hid (K9.out.below hb)
  have O10 := Lib.hid (own_later O9.out hb)
  have T10 := Lib.hid (Nat.lt_of_lt_of_le T9.out hb.size)
  clear hb
  generalize World.alloc w9 _ = W10 at L10 B10 K10 O10 T10 ⊢
  have T9' := Lib.hid T9.out
  generalize w9.heap.size = s3 at *
  clear B8 K8 O8 T8 B9 K9 O9 T9 HE2
  have HM := Lib.hid (show w.heap.size + 1 ≤ (W10.alloc (.cells #[.int .u32 y2] 23)).heap.size by have := T10.out; have := S5.out; simp; omega)
  have HO := Lib.hid (O10.out.alloc (.cells #[.int .u32 y2] 23))
  have HN := Lib.hid (cell_one_new W10 (.int .u32 y2) 23)
  go_upto_region 15 with (at_builtin; refine wpList_append_own _ rfl _ _ 27 rfl (w.heap.size + 1) 23 i0 (.int .u32 0) 1 4 Try.underlying27 HI.out.1 HI.out.2.1 HI.out.2.2.1 HI.out.2.2.2 rfl (by decide) (.slice (some ⟨s2, 0, none⟩) 1 1) 1 [.int .u32 y1] rfl HO.out ⟨_, 0, none⟩ 1 1 [.int .u32 y2] rfl rfl HN.out ?c2 (by decide) (by decide) HM.out ?_)
  · intro u hu; simp at hu; subst hu; rfl
  intro x' w11 hown' hgrow _
  have hb := below_one W10 (.cells #[.int .u32 y2] 23)
  have O11 := Lib.hid hown'
  have K11 := Lib.hid (pk_grown (K10.out.below hb) hgrow (by have := S5.out; simp [Value.ownBlock]; omega))
  have L11 := Lib.hid (pk_grown (L10.out.below hb) hgrow (by have := T9'.out; simp [Value.ownBlock]; omega))
  have B11 := Lib.hid ((below_then B10.out hb).grown hgrow (by have := HM.out; omega) (by intro k hk; simp [Value.ownBlock] at hk; have := S5.out; omega))
  clear hown' hgrow hb B10 K10 O10 T10 T9' L10 HM HO HN
  have c0 := L11.out.c0
  have c1 := L11.out.c1
  go_upto_region 17 with (first
    | (go_at_call 24; (with_reducible refine (HV2.out _).mono ?_); rintro e w12 ⟨rfl, hb⟩; have B12 := Lib.hid (below_then B11.out hb); have K12 := Lib.hid (K11.out.below hb); have L12 := Lib.hid (L11.out.below hb); have O12 := Lib.hid (own_later O11.out hb); have c2 := L12.out.c0; have c3 := L12.out.c1; clear hb)
    | (go_at_call 25; (with_reducible refine (HL2.out _).mono ?_); rintro e w13 ⟨rfl, hb⟩; have B13 := Lib.hid (below_then B12.out hb); have K13 := Lib.hid (K12.out.below hb); have L13 := Lib.hid (L12.out.below hb); have O13 := Lib.hid (own_later O12.out hb); have c4 := L13.out.c0; have c5 := L13.out.c1; clear hb))
  clear c0 c1 c2 c3 B11 K11 L11 O11 B12 K12 L12 O12 HV2 HL2
  have d0 := K13.out.c0
  have d1 := K13.out.c1
  have df := K13.out.free
  go_wp2
  exact bodyPost_ret (v := .tuple #[.agg #[.int .u32 bb2, .int .i64 gg2], x', .bool true]) (by simp [results, Try.results9, go_sem, d0, d1]) rfl ⟨x', rfl, own_base (own_other (own_other O13.out (Nat.lt_succ_self _)) (Nat.lt_succ_self _)) (Nat.le_succ _), (B13.out.setCell (Nat.le_refl _) _).setCell (Nat.le_refl _) _⟩
theorem walk_any {w : World} {v : Value} {bs : List UInt8} (root va : Int) (hv : ByR w v bs) (hn : bs.length ≤ maxLen) (r0 : 0 ≤ root) (r1 : root < 4294967296) (a0 : 0 ≤ va) (a1 : va < 4294967296) :
    Calls Try.prog 9 #[v, .int .u32 root, .int .u32 va] w (WkPost w (WK.wk bs root va)) := by
  refine WK.wk_ways (m := bs) (root := root) (va := va) (fun r => Calls Try.prog 9 #[v, .int .u32 root, .int .u32 va] w (WkPost w r)) ?_ ?_ ?_ ?_ ?_ ?_
  · exact fun h => walk_far root va hv hn r0 r1 a0 a1 h
  · exact fun h h1 => walk_no1 root va hv hn r0 r1 a0 h h1
  · exact fun h h1 h2 => walk_bad1 root va hv hn r0 r1 a0 h h1 h2
  · exact fun h h1 h2 h3 => walk_no2 root va hv hn r0 r1 a0 h h1 h2 h3
  · intro h h1 h2 h3 h4
    cases h5 : PT.bt (WK.w2 bs root va % 128) 0
    · exact walk_bad2v root va hv hn r0 r1 a0 h h1 h2 h3 h5
    · exact walk_bad2l root va hv hn r0 r1 a0 h h1 h2 h3 h5 (by rw [h5] at h4; simpa using h4)
  · exact fun h h1 h2 h3 h4 => walk_good root va hv hn r0 r1 a0 h h1 h2 h3 h4
end Go.Proofs.Ytbeenmglgdhbjaa
