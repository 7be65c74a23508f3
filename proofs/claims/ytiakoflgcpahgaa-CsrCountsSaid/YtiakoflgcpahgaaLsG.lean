/-
  The law on what control registers keep: one act in the loop, and the law.
-/
import Derived.Test.YtiakoflgcpahgaaLsF
namespace Go.Proofs.Ytiakoflgcpahgaa
open Go.RowKit S01 S10
set_option maxHeartbeats 6400000 in
theorem keeps_good (f : Nat → Int) (h : Bool) (A : Option Addr) (n c : Nat) (L : Nat → Int) (w : World) (hn : (n : Int) ≤ 40) (hf : CM.Ok f) (hb : CM.bq f) (hL : Acts w A n L) :
    Calls Try.prog 7 #[AR f h, .slice A n c] w fun e w' => e = .returned (.bool true) ∧ Below w.heap.size w w' := by
  have H1 := Lib.hid (fun W => bits_any f h true W hf ⟨fun _ => hb, fun _ => rfl⟩)
  have HF := Lib.hid (And.intro hf hb)
  have HL := Lib.hid hL
  have d : decide (40 < (n : Int)) = false := by simpa using hn
  clear hb hf hL
  unfold AR at H1 ⊢
  go_enter Try.func7, Try.ntmps7
  go_upto_region 1 with fail
  have K0 := Lib.hid (Bk.new w f h)
  have R0 := Lib.hid (Bk.new w f h).range
  have B0 := Lib.hid (below_one w (.cells (AC f h).toArray 26))
  generalize World.alloc w _ = W0 at K0 R0 B0 ⊢
  go_upto_region 3 with (first | (refine wpList_load_wanted rfl 26 _ rfl w.heap.size 0 rfl (AC f h) _ R0.out Try.underlying26 rfl (by kernel_rfl) ?_) | (go_at_call 21; (with_reducible refine (H1.out _).mono ?_); rintro e w3 ⟨rfl, hb⟩; have B3 := Lib.hid (below_then B0.out hb); have K3 := Lib.hid (K0.out.below hb); clear hb))
  clear K0 R0 B0 H1 d
  go_wp2
  go_loopw [5] (fun ci wr => ∃ (k : Nat) (f' : Nat → Int), (k : Int) ≤ n ∧ ci = .int .i64 k ∧ Hid (Bk wr w.heap.size f' h) ∧ Hid (Below w.heap.size w wr) ∧ Hid (CM.Ok f' ∧ CM.bq f')) (fun ci _ => (n - intOf ci).toNat)
  case atStart => exact ⟨0, f, by omega, rfl, K3, B3, HF⟩
  case round =>
    obtain ⟨k, f', hk, rfl, K, B, F⟩ := hrel
    by_cases hlt : (k : Int) < n
    · obtain ⟨g, o, rfl, hc, hx0, hx1⟩ := HL.out k (by omega)
      have hc1 := cell_below B.out hc
      have C := Lib.hid hc
      have c10 := K.out.cell (k := 27) (by omega)
      obtain ⟨p0, p1⟩ := F.out.1 27 (by omega)
      clear hc HF HL K3 B3
      generalize L k = x at *
      have q0 : 0 ≤ x % 16 := by omega
      have q1 : x % 16 < 16 := by omega
      by_cases h14 : 14 ≤ x % 16
      · have HG : Hid (CM.Ok (CM.rs f' x) ∧ CM.bq (CM.rs f' x) ∧ (x % 16 ≠ 10 → CM.an (CM.rs f' x 27) (f' 27) = f' 27)) := Lib.hid ⟨CM.rs_ok F.out.1 x, CM.rs_bq F.out.1 F.out.2 x, fun _ => CM.rs_keep F.out.1 x⟩
        have HA := Lib.hid (fun W => raise_any f' h x W F.out.1 ⟨hx0, hx1⟩)
        unfold AR at HA
        go_upto_region 9 with fail
        refine wp_region_still_tail 6 (by kernel_rfl) (by kernel_rfl) ?_
        change wpStill _ _ wr.drew (fun a' => wpList _ _ _ _ a' wr.drew) _ _
        have K2 := Lib.hid K.out.drew
        have R2 := Lib.hid K.out.drew.range
        have B2 := Lib.hid B.out.drew
        have c12 := cell_below B2.out C.out
        clear c10 hc1
        generalize wr.drew = W2 at *
        simp only [List.take_succ_cons, List.take_zero, List.drop_succ_cons, List.drop_zero]
        refine wps_load (by rfl) 26 _ rfl w.heap.size 0 rfl (AC f' h) _ (R2.out) Try.underlying26 rfl (by kernel_rfl) ?_
        simp only [Act.put, List.setIfInBounds_toArray, List.set_cons_zero, List.set_cons_succ]
        refine wps_val (v := ?v1) (by rfl) ?y1 ?r1
        case y1 => (go_simp; try rfl)
        simp only [Act.put, List.setIfInBounds_toArray, List.set_cons_zero, List.set_cons_succ]
        refine wps_val (v := ?v2) (by rfl) ?y2 ?r2
        case y2 => (go_simp; try rfl)
        simp only [Act.put, List.setIfInBounds_toArray, List.set_cons_zero, List.set_cons_succ]
        refine wps_val (v := ?v3) (by rfl) ?y3 ?r3
        case y3 => (go_simp; try rfl)
        simp only [Act.put, List.setIfInBounds_toArray, List.set_cons_zero, List.set_cons_succ]
        refine wps_val (v := ?v4) (by rfl) ?y4 ?r4
        case y4 => (go_simp; try rfl)
        simp only [Act.put, List.setIfInBounds_toArray, List.set_cons_zero, List.set_cons_succ]
        refine wps_val (v := ?v5) (by rfl) ?y5 ?r5
        case y5 => (go_simp; try rfl)
        simp only [Act.put, List.setIfInBounds_toArray, List.set_cons_zero, List.set_cons_succ]
        refine wpStill_nil ?_
        clear c12
        go_upto_region 15 with (first | (go_at_call 19; (with_reducible refine (HA.out _).mono ?_); rintro e w4 ⟨rfl, hb⟩; have K4 := Lib.hid (K2.out.below hb); have B4 := Lib.hid (below_then B2.out hb); clear hb) | (refine wpList_store_mid rfl 26 _ _ rfl w.heap.size 0 (AC (CM.rs f' x) h).toArray rfl rfl (K4.out.there' _ _) (AC_size _ _) (AC_all _ _) ?_))
        have K5 := Lib.hid (K4.out.store (CM.rs f' x) h)
        have B5 := Lib.hid (below_setCells (Nat.le_refl _) (AC (CM.rs f' x) h) 0 _ B4.out)
        clear K4 B4 K2 B2 R2 HA K B
        generalize World.setCells w4 _ _ _ = W5 at K5 B5 ⊢
        have R5 := Lib.hid K5.out.range
        go_wp2_with (refine wpList_load_mid rfl 26 _ rfl w.heap.size 0 rfl (AC (CM.rs f' x) h) _ R5.out Try.underlying26 rfl (by kernel_rfl) ?_)
        refine (bits_any (CM.rs f' x) h true _ HG.out.1 ⟨fun _ => HG.out.2.1, fun _ => rfl⟩).mono ?_
        rintro e w6 ⟨rfl, hb⟩
        have K6 := Lib.hid (K5.out.below hb)
        have B6 := Lib.hid (below_then B5.out hb)
        clear hb K5 B5 R5
        have c11 := K6.out.cell (k := 27) (by omega)
        have e5 := (and_an ((CM.rs f' x) 27) (f' 27) (HG.out.1 27 (by omega)) ⟨p0, p1⟩).trans (HG.out.2.2 (by omega))
        have z10 : (x % 16 != 10) = true := by simpa using (by omega : ¬ x % 16 = 10)
        have z11 : ¬ x % 16 = 10 := by omega
        have HH := Lib.hid HG.out.2.1
        have HO := Lib.hid HG.out.1
        clear HG
        generalize CM.rs f' x = gg at *
        go_wp2
        go_roundw
        case rel => exact ⟨k + 1, gg, by omega, by go_num, K6, B6, Lib.hid ⟨HO.out, HH.out⟩⟩
        case measure => simp [intOf]; omega
      · by_cases h12 : 12 ≤ x % 16
        · have HG : Hid (CM.Ok (CM.ct f') ∧ CM.bq (CM.ct f') ∧ (x % 16 ≠ 10 → CM.an (CM.ct f' 27) (f' 27) = f' 27)) := Lib.hid ⟨CM.ct_ok F.out.1, CM.ct_bq F.out.1 F.out.2, fun _ => CM.ct_keep F.out.1⟩
          have HA := Lib.hid (fun W => count_any f' h W F.out.1)
          unfold AR at HA
          have R2 := Lib.hid K.out.range
          have d14 : decide (14 ≤ x % 16) = false := by simpa using h14
          go_upto_region 11 with fail
          clear c10 hc1
          go_upto_region 15 with (first | (refine wpList_load_mid rfl 26 _ rfl w.heap.size 0 rfl (AC f' h) _ R2.out Try.underlying26 rfl (by kernel_rfl) ?_) | (go_at_call 17; (with_reducible refine (HA.out _).mono ?_); rintro e w4 ⟨rfl, hb⟩; have K4 := Lib.hid (K.out.below hb); have B4 := Lib.hid (below_then B.out hb); clear hb) | (refine wpList_store_mid rfl 26 _ _ rfl w.heap.size 0 (AC (CM.ct f') h).toArray rfl rfl (K4.out.there' _ _) (AC_size _ _) (AC_all _ _) ?_))
          have K5 := Lib.hid (K4.out.store (CM.ct f') h)
          have B5 := Lib.hid (below_setCells (Nat.le_refl _) (AC (CM.ct f') h) 0 _ B4.out)
          clear K4 B4 R2 HA K B
          generalize World.setCells w4 _ _ _ = W5 at K5 B5 ⊢
          have R5 := Lib.hid K5.out.range
          go_wp2_with (refine wpList_load_mid rfl 26 _ rfl w.heap.size 0 rfl (AC (CM.ct f') h) _ R5.out Try.underlying26 rfl (by kernel_rfl) ?_)
          refine (bits_any (CM.ct f') h true _ HG.out.1 ⟨fun _ => HG.out.2.1, fun _ => rfl⟩).mono ?_
          rintro e w6 ⟨rfl, hb⟩
          have K6 := Lib.hid (K5.out.below hb)
          have B6 := Lib.hid (below_then B5.out hb)
          clear hb K5 B5 R5
          have c11 := K6.out.cell (k := 27) (by omega)
          have e5 := (and_an ((CM.ct f') 27) (f' 27) (HG.out.1 27 (by omega)) ⟨p0, p1⟩).trans (HG.out.2.2 (by omega))
          have z10 : (x % 16 != 10) = true := by simpa using (by omega : ¬ x % 16 = 10)
          have z11 : ¬ x % 16 = 10 := by omega
          have HH := Lib.hid HG.out.2.1
          have HO := Lib.hid HG.out.1
          clear HG
          generalize CM.ct f' = gg at *
          go_wp2
          go_roundw
          case rel => exact ⟨k + 1, gg, by omega, by go_num, K6, B6, Lib.hid ⟨HO.out, HH.out⟩⟩
          case measure => simp [intOf]; omega
        · have d14 : decide (14 ≤ x % 16) = false := by simpa using h14
          have d12 : decide (12 ≤ x % 16) = false := by simpa using h12
          go_upto_region 12 with fail
          have HA := Lib.hid (fun W => write_any f' h (x % 16) (x * 2654435769 % 4294967296) W F.out.1 ⟨by omega, by omega⟩)
          unfold AR at HA
          have hwr : IntKind.u32.wrap (x * 2654435769) = x * 2654435769 % 4294967296 := IntKind.wrap_u32' _
          generalize hgg : CM.wf f' (x % 16) (x * 2654435769 % 4294967296) = g1 at HA
          generalize hgh : CM.wh f' h (x % 16) = h1 at HA
          generalize hks : CM.ks f' (x % 16) = ks at HA
          have HG1 := Lib.hid hgg
          have HG2 := Lib.hid hgh
          have HG3 := Lib.hid hks
          clear hgg hgh hks
          go_cut [8, 9] from 19 to 78 (fun s8 s9 wx => ∃ b : Nat, s8 = .pointer (some ⟨b, 0, none⟩) ∧ s9 = .int .i64 ks ∧ Hid (Held w w.heap.size f' h ⟨g, o + k * 2 + 1, none⟩ (.int .u32 x) wx) ∧ Hid (Bk wx b g1 h1))
          case first =>
            have hS2 : Held w w.heap.size f' h ⟨g, o + k * 2 + 1, none⟩ (.int .u32 x) wr.drew := ⟨K.out.drew, cell_below B.out.drew C.out, B.out.drew⟩
            clear c10 hc1 K B C
            refine wp_region_held (S := Held w w.heap.size f' h ⟨g, o + k * 2 + 1, none⟩ (.int .u32 x)) (by kernel_rfl) ?_
            change wpAnyH _ _ _ _ _ _ _ _ wr.drew
            generalize wr.drew = W2 at *
            refine wpAnyH_take (i := 0) (v := _) rfl (by kernel_rfl) (by kernel_rfl) (by kernel_rfl) (fun _ _ _ h => h) (yieldsIf_load_mid (by rfl) 26 _ rfl w.heap.size 0 rfl (AC f' h) _ (fun W hW => hW.1.range) Try.underlying26 rfl (by kernel_rfl)) hS2 ?r0
            simp only [Act.put, List.getElem_toArray, List.getElem_cons_zero, List.setIfInBounds_toArray, List.set_cons_zero, List.set_cons_succ]
            refine wpAnyH_take (i := 1) (v := ?vt1) rfl (by kernel_rfl) (by kernel_rfl) (by kernel_rfl) (fun _ _ _ h => h) (Or.inl ⟨by rfl, ?yt1⟩) hS2 ?rt1
            case yt1 => (intro W hW; have hW1 := hW.2.1; clear hW; go_simp; try rfl)
            simp only [Act.put, List.getElem_toArray, List.getElem_cons_succ, List.getElem_cons_zero, List.setIfInBounds_toArray, List.set_cons_zero, List.set_cons_succ]
            refine wpAnyH_take (i := 2) (v := ?vt2) rfl (by kernel_rfl) (by kernel_rfl) (by kernel_rfl) (fun _ _ _ h => h) (Or.inl ⟨by rfl, ?yt2⟩) hS2 ?rt2
            case yt2 => (intro W hW; have hW1 := hW.2.1; clear hW; go_simp; try rfl)
            simp only [Act.put, List.getElem_toArray, List.getElem_cons_succ, List.getElem_cons_zero, List.setIfInBounds_toArray, List.set_cons_zero, List.set_cons_succ]
            refine wpAnyH_take (i := 3) (v := ?vt3) rfl (by kernel_rfl) (by kernel_rfl) (by kernel_rfl) (fun _ _ _ h => h) (Or.inl ⟨by rfl, ?yt3⟩) hS2 ?rt3
            case yt3 => (intro W hW; have hW1 := hW.2.1; clear hW; go_simp; try rfl)
            simp only [Act.put, List.getElem_toArray, List.getElem_cons_succ, List.getElem_cons_zero, List.setIfInBounds_toArray, List.set_cons_zero, List.set_cons_succ]
            refine wpAnyH_take (i := 4) (v := ?vt4) rfl (by kernel_rfl) (by kernel_rfl) (by kernel_rfl) (fun _ _ _ h => h) (Or.inl ⟨by rfl, ?yt4⟩) hS2 ?rt4
            case yt4 => (intro W hW; have hW1 := hW.2.1; clear hW; go_simp; try rfl)
            simp only [Act.put, List.getElem_toArray, List.getElem_cons_succ, List.getElem_cons_zero, List.setIfInBounds_toArray, List.set_cons_zero, List.set_cons_succ]
            refine wpAnyH_take (i := 5) (v := ?vt5) rfl (by kernel_rfl) (by kernel_rfl) (by kernel_rfl) (fun _ _ _ h => h) (Or.inl ⟨by rfl, ?yt5⟩) hS2 ?rt5
            case yt5 => (intro W hW; have hW1 := hW.2.1; clear hW; go_simp; try rfl)
            simp only [Act.put, List.getElem_toArray, List.getElem_cons_succ, List.getElem_cons_zero, List.setIfInBounds_toArray, List.set_cons_zero, List.set_cons_succ]
            refine wpAnyH_take (i := 6) (v := ?vt6) rfl (by kernel_rfl) (by kernel_rfl) (by kernel_rfl) (fun _ _ _ h => h) (Or.inl ⟨by rfl, ?yt6⟩) hS2 ?rt6
            case yt6 => (intro W hW; have hW1 := hW.2.1; clear hW; go_simp; try rfl)
            simp only [Act.put, List.getElem_toArray, List.getElem_cons_succ, List.getElem_cons_zero, List.setIfInBounds_toArray, List.set_cons_zero, List.set_cons_succ]
            refine wpAnyH_take (i := 7) (v := ?vt7) rfl (by kernel_rfl) (by kernel_rfl) (by kernel_rfl) (fun _ _ _ h => h) (Or.inl ⟨by rfl, ?yt7⟩) hS2 ?rt7
            case yt7 => (intro W hW; have hW1 := hW.2.1; clear hW; go_simp; try rfl)
            simp only [Act.put, List.getElem_toArray, List.getElem_cons_succ, List.getElem_cons_zero, List.setIfInBounds_toArray, List.set_cons_zero, List.set_cons_succ]
            refine wpAnyH_all (rs := [8, 12]) (by kernel_rfl) (by decide) (fun i hi => ?_)
            have hii : i = 8 ∨ i = 12 := by simpa using hi
            rcases hii with rfl | rfl
            · refine wpOp_step rfl (fun K' hK => ?_)
              rw [if_pos (by rfl)]
              simp only [List.getElem_toArray, List.getElem_cons_succ, List.getElem_cons_zero]
              refine wp_of_enter (HA.out W2) (by (go_simp; done)) (fun W3 hb => hK _ _ ⟨hS2.below hb, ?_⟩)
              have hS3 := hS2.below hb
              clear hi hK K' hb hS2
              simp only [Act.put, List.setIfInBounds_toArray, List.set_cons_zero, List.set_cons_succ]
              refine wpAnyH_take (i := 9) (v := ?vt8) rfl (by kernel_rfl) (by kernel_rfl) (by kernel_rfl) (fun _ _ _ h => h) (Or.inl ⟨by rfl, ?yt8⟩) hS3 ?rt8
              case yt8 => (intro W hW; have hW1 := hW.2.1; clear hW; go_simp; try rfl)
              simp only [Act.put, List.getElem_toArray, List.getElem_cons_succ, List.getElem_cons_zero, List.setIfInBounds_toArray, List.set_cons_zero, List.set_cons_succ]
              refine wpAnyH_take (i := 10) (v := ?vt9) rfl (by kernel_rfl) (by kernel_rfl) (by kernel_rfl) (fun _ _ _ h => h) (Or.inl ⟨by rfl, ?yt9⟩) hS3 ?rt9
              case yt9 => (intro W hW; have hW1 := hW.2.1; clear hW; go_simp; try rfl)
              simp only [Act.put, List.getElem_toArray, List.getElem_cons_succ, List.getElem_cons_zero, List.setIfInBounds_toArray, List.set_cons_zero, List.set_cons_succ]
              refine wpAnyH_take (i := 11) (v := ?vt10) rfl (by kernel_rfl) (by kernel_rfl) (by kernel_rfl) (fun _ _ _ h => h) (Or.inl ⟨by rfl, ?yt10⟩) hS3 ?rt10
              case yt10 => (intro W hW; have hW1 := hW.2.1; clear hW; go_simp; try rfl)
              simp only [Act.put, List.getElem_toArray, List.getElem_cons_succ, List.getElem_cons_zero, List.setIfInBounds_toArray, List.set_cons_zero, List.set_cons_succ]
              refine wpAnyH_all (rs := [12]) (by kernel_rfl) (by decide) (fun i hi => ?_)
              obtain rfl : i = 12 := by simpa using hi
              refine wpOp_step rfl (fun K' hK => ?_)
              rw [if_pos (by rfl)]
              simp only [List.getElem_toArray, List.getElem_cons_succ, List.getElem_cons_zero]
              refine wp_of_val (v := .pointer (some ⟨W3.heap.size, 0, none⟩)) (w' := W3.alloc (.cells (AC (fun _ => 0) false).toArray 26)) (by rw [zero_core]; (go_simp; done)) (hK _ _ ⟨hS3.below (below_one W3 _), ?_⟩)
              clear hi hK K'
              have hS4 := hS3.below (below_one W3 (.cells (AC (fun _ => 0) false).toArray 26))
              have K4 := Bk.new W3 (fun _ => 0) false
              have n4 : w.heap.size ≠ W3.heap.size := Nat.ne_of_lt hS3.1.lt
              have b4 : w.heap.size ≤ W3.heap.size := Nat.le_of_lt hS3.1.lt
              have m4 : (⟨g, o + k * 2 + 1, none⟩ : Addr).block ≠ W3.heap.size := Nat.ne_of_lt (World.block_lt_of_cell? _ _ hS3.2.1)
              generalize World.alloc W3 _ = W4 at *
              generalize W3.heap.size = b at *
              simp only [Act.put, List.setIfInBounds_toArray, List.set_cons_zero, List.set_cons_succ]
              refine wpAnyH_all (rs := [13]) (by kernel_rfl) (by decide) (fun i hi => ?_)
              obtain rfl : i = 13 := by simpa using hi
              refine wpOp_step rfl (fun K' hK => ?_)
              rw [if_pos (by rfl)]
              simp only [List.getElem_toArray, List.getElem_cons_succ, List.getElem_cons_zero]
              refine wp_store_mid 26 _ _ rfl b 0 (AC g1 h1).toArray rfl rfl (K4.there' _ _) (AC_size _ _) (AC_all _ _) (hK _ _ ⟨hS4.stored n4 b4 m4 g1 h1, ?_⟩)
              have hS5 := hS4.stored n4 b4 m4 g1 h1
              have K5 := K4.store g1 h1
              clear hi hK K' hS4 hS3 K4
              generalize World.setCells W4 _ _ _ = W5 at *
              simp only [Act.put]
              refine wpAnyH_take (i := 14) (v := ?vt11) rfl (by kernel_rfl) (by kernel_rfl) (by kernel_rfl) (fun _ _ _ h => h) (Or.inl ⟨by rfl, ?yt11⟩) hS5 ?rt11
              case yt11 => (intro W hW; have hW1 := hW.2.1; clear hW; go_simp; try rfl)
              simp only [Act.put, List.getElem_toArray, List.getElem_cons_succ, List.getElem_cons_zero, List.setIfInBounds_toArray, List.set_cons_zero, List.set_cons_succ]
              refine wpAnyH_done (by kernel_rfl) ?_ _
              go_wp2_with fail
              go_meet
              case rel => exact ⟨b, rfl, rfl, Lib.hid hS5, Lib.hid K5⟩
            · refine wpOp_step rfl (fun K' hK => ?_)
              rw [if_pos (by rfl)]
              simp only [List.getElem_toArray, List.getElem_cons_succ, List.getElem_cons_zero]
              refine wp_of_val (v := .pointer (some ⟨W2.heap.size, 0, none⟩)) (w' := W2.alloc (.cells (AC (fun _ => 0) false).toArray 26)) (by rw [zero_core]; (go_simp; done)) (hK _ _ ⟨hS2.below (below_one W2 _), ?_⟩)
              clear hi hK K'
              have hS3 := hS2.below (below_one W2 (.cells (AC (fun _ => 0) false).toArray 26))
              have K3 := Bk.new W2 (fun _ => 0) false
              have n4 : w.heap.size ≠ W2.heap.size := Nat.ne_of_lt hS2.1.lt
              have b4 : w.heap.size ≤ W2.heap.size := Nat.le_of_lt hS2.1.lt
              have m4 : (⟨g, o + k * 2 + 1, none⟩ : Addr).block ≠ W2.heap.size := Nat.ne_of_lt (World.block_lt_of_cell? _ _ hS2.2.1)
              clear hS2
              generalize World.alloc W2 _ = W3 at *
              generalize W2.heap.size = b at *
              simp only [Act.put, List.setIfInBounds_toArray, List.set_cons_zero, List.set_cons_succ]
              refine wpAnyH_all (rs := [8]) (by kernel_rfl) (by decide) (fun i hi => ?_)
              obtain rfl : i = 8 := by simpa using hi
              refine wpOp_step rfl (fun K' hK => ?_)
              rw [if_pos (by rfl)]
              simp only [List.getElem_toArray, List.getElem_cons_succ, List.getElem_cons_zero]
              refine wp_of_enter (HA.out W3) (by (go_simp; done)) (fun W4 hb => hK _ _ ⟨hS3.below hb, ?_⟩)
              have hS4 := hS3.below hb
              have K4 := K3.below hb
              clear hi hK K' hb hS3 K3
              simp only [Act.put, List.setIfInBounds_toArray, List.set_cons_zero, List.set_cons_succ]
              refine wpAnyH_take (i := 9) (v := ?vt12) rfl (by kernel_rfl) (by kernel_rfl) (by kernel_rfl) (fun _ _ _ h => h) (Or.inl ⟨by rfl, ?yt12⟩) hS4 ?rt12
              case yt12 => (intro W hW; have hW1 := hW.2.1; clear hW; go_simp; try rfl)
              simp only [Act.put, List.getElem_toArray, List.getElem_cons_succ, List.getElem_cons_zero, List.setIfInBounds_toArray, List.set_cons_zero, List.set_cons_succ]
              refine wpAnyH_take (i := 10) (v := ?vt13) rfl (by kernel_rfl) (by kernel_rfl) (by kernel_rfl) (fun _ _ _ h => h) (Or.inl ⟨by rfl, ?yt13⟩) hS4 ?rt13
              case yt13 => (intro W hW; have hW1 := hW.2.1; clear hW; go_simp; try rfl)
              simp only [Act.put, List.getElem_toArray, List.getElem_cons_succ, List.getElem_cons_zero, List.setIfInBounds_toArray, List.set_cons_zero, List.set_cons_succ]
              refine wpAnyH_take (i := 11) (v := ?vt14) rfl (by kernel_rfl) (by kernel_rfl) (by kernel_rfl) (fun _ _ _ h => h) (Or.inl ⟨by rfl, ?yt14⟩) hS4 ?rt14
              case yt14 => (intro W hW; have hW1 := hW.2.1; clear hW; go_simp; try rfl)
              simp only [Act.put, List.getElem_toArray, List.getElem_cons_succ, List.getElem_cons_zero, List.setIfInBounds_toArray, List.set_cons_zero, List.set_cons_succ]
              refine wpAnyH_all (rs := [13]) (by kernel_rfl) (by decide) (fun i hi => ?_)
              obtain rfl : i = 13 := by simpa using hi
              refine wpOp_step rfl (fun K' hK => ?_)
              rw [if_pos (by rfl)]
              simp only [List.getElem_toArray, List.getElem_cons_succ, List.getElem_cons_zero]
              refine wp_store_mid 26 _ _ rfl b 0 (AC g1 h1).toArray rfl rfl (K4.there' _ _) (AC_size _ _) (AC_all _ _) (hK _ _ ⟨hS4.stored n4 b4 m4 g1 h1, ?_⟩)
              have hS5 := hS4.stored n4 b4 m4 g1 h1
              have K5 := K4.store g1 h1
              clear hi hK K' hS4 K4
              generalize World.setCells W4 _ _ _ = W5 at *
              simp only [Act.put]
              refine wpAnyH_take (i := 14) (v := ?vt15) rfl (by kernel_rfl) (by kernel_rfl) (by kernel_rfl) (fun _ _ _ h => h) (Or.inl ⟨by rfl, ?yt15⟩) hS5 ?rt15
              case yt15 => (intro W hW; have hW1 := hW.2.1; clear hW; go_simp; try rfl)
              simp only [Act.put, List.getElem_toArray, List.getElem_cons_succ, List.getElem_cons_zero, List.setIfInBounds_toArray, List.set_cons_zero, List.set_cons_succ]
              refine wpAnyH_done (by kernel_rfl) ?_ _
              go_wp2_with fail
              go_meet
              case rel => exact ⟨b, rfl, rfl, Lib.hid hS5, Lib.hid K5⟩
          case rest =>
            obtain ⟨b, rfl, rfl, HD, HK⟩ := hcut
            clear hwr HA K B c10 hc1 C
            by_cases hk0 : ks = 0
            · subst hk0
              obtain rfl : h1 = h := by rw [← HG2.out]; exact if_pos HG3.out
              have HG : Hid (CM.Ok g1 ∧ CM.bq g1 ∧ (x % 16 ≠ 10 → CM.an (g1 27) (f' 27) = f' 27)) := HG1.out ▸ Lib.hid ⟨CM.wf_ok F.out.1 _ _ ⟨by omega, by omega⟩, CM.wf_bq F.out.2 _ _ ⟨by omega, by omega⟩ HG3.out, fun h10 => CM.wf_keep F.out.1 _ _ HG3.out h10⟩
              clear HG1 HG2 HG3
              have RD := Lib.hid HK.out.range
              have KD := Lib.hid HD.out.1
              have BD := Lib.hid HD.out.2.2
              go_upto_region 15 with (first | (refine wpList_load_mid rfl 26 _ rfl b 0 rfl (AC g1 h1) _ RD.out Try.underlying26 rfl (by kernel_rfl) ?_) | (refine wpList_store_mid rfl 26 _ _ rfl w.heap.size 0 (AC g1 h1).toArray rfl rfl (KD.out.there' _ _) (AC_size _ _) (AC_all _ _) ?_))
              have K5 := Lib.hid (KD.out.store g1 h1)
              have B5 := Lib.hid (below_setCells (Nat.le_refl _) (AC g1 h1) 0 _ BD.out)
              clear KD BD RD HD HK
              generalize World.setCells wc _ _ _ = W5 at K5 B5 ⊢
              by_cases t10 : x % 16 = 10
              · have R5 := Lib.hid K5.out.range
                go_wp2_with (refine wpList_load_mid rfl 26 _ rfl w.heap.size 0 rfl (AC (g1) h1) _ R5.out Try.underlying26 rfl (by kernel_rfl) ?_)
                refine (bits_any (g1) h1 true _ HG.out.1 ⟨fun _ => HG.out.2.1, fun _ => rfl⟩).mono ?_
                rintro e w6 ⟨rfl, hb⟩
                have K6 := Lib.hid (K5.out.below hb)
                have B6 := Lib.hid (below_then B5.out hb)
                clear hb K5 B5 R5
                have HH := Lib.hid HG.out.2.1
                have HO := Lib.hid HG.out.1
                clear HG
                have z10 : (x % 16 != 10) = false := by rw [t10]; rfl
                go_wp2
                go_roundw
                case rel => exact ⟨k + 1, g1, by omega, by go_num, K6, B6, Lib.hid ⟨HO.out, HH.out⟩⟩
                case measure => simp [intOf]; omega
              · have R5 := Lib.hid K5.out.range
                go_wp2_with (refine wpList_load_mid rfl 26 _ rfl w.heap.size 0 rfl (AC (g1) h1) _ R5.out Try.underlying26 rfl (by kernel_rfl) ?_)
                refine (bits_any (g1) h1 true _ HG.out.1 ⟨fun _ => HG.out.2.1, fun _ => rfl⟩).mono ?_
                rintro e w6 ⟨rfl, hb⟩
                have K6 := Lib.hid (K5.out.below hb)
                have B6 := Lib.hid (below_then B5.out hb)
                clear hb K5 B5 R5
                have c11 := K6.out.cell (k := 27) (by omega)
                have e5 := (and_an ((g1) 27) (f' 27) (HG.out.1 27 (by omega)) ⟨p0, p1⟩).trans (HG.out.2.2 (by omega))
                have z10 : (x % 16 != 10) = true := by simpa using t10
                have z11 : ¬ x % 16 = 10 := by omega
                have HH := Lib.hid HG.out.2.1
                have HO := Lib.hid HG.out.1
                clear HG
                go_wp2
                go_roundw
                case rel => exact ⟨k + 1, g1, by omega, by go_num, K6, B6, Lib.hid ⟨HO.out, HH.out⟩⟩
                case measure => simp [intOf]; omega
            · have zk : (ks == 0) = false := by simpa using hk0
              have HG : Hid (CM.Ok f' ∧ CM.bq f' ∧ (x % 16 ≠ 10 → CM.an (f' 27) (f' 27) = f' 27)) := Lib.hid ⟨F.out.1, F.out.2, fun _ => CM.an_self _ (F.out.1 27 (by omega))⟩
              clear HG1 HG2 HG3
              have K5 := Lib.hid HD.out.1
              have B5 := Lib.hid HD.out.2.2
              clear HD HK
              go_upto_region 15 with fail
              by_cases t10 : x % 16 = 10
              · have R5 := Lib.hid K5.out.range
                go_wp2_with (refine wpList_load_mid rfl 26 _ rfl w.heap.size 0 rfl (AC (f') h) _ R5.out Try.underlying26 rfl (by kernel_rfl) ?_)
                refine (bits_any (f') h true _ HG.out.1 ⟨fun _ => HG.out.2.1, fun _ => rfl⟩).mono ?_
                rintro e w6 ⟨rfl, hb⟩
                have K6 := Lib.hid (K5.out.below hb)
                have B6 := Lib.hid (below_then B5.out hb)
                clear hb K5 B5 R5
                have HH := Lib.hid HG.out.2.1
                have HO := Lib.hid HG.out.1
                clear HG
                have z10 : (x % 16 != 10) = false := by rw [t10]; rfl
                go_wp2
                go_roundw
                case rel => exact ⟨k + 1, f', by omega, by go_num, K6, B6, Lib.hid ⟨HO.out, HH.out⟩⟩
                case measure => simp [intOf]; omega
              · have R5 := Lib.hid K5.out.range
                go_wp2_with (refine wpList_load_mid rfl 26 _ rfl w.heap.size 0 rfl (AC (f') h) _ R5.out Try.underlying26 rfl (by kernel_rfl) ?_)
                refine (bits_any (f') h true _ HG.out.1 ⟨fun _ => HG.out.2.1, fun _ => rfl⟩).mono ?_
                rintro e w6 ⟨rfl, hb⟩
                have K6 := Lib.hid (K5.out.below hb)
                have B6 := Lib.hid (below_then B5.out hb)
                clear hb K5 B5 R5
                have c11 := K6.out.cell (k := 27) (by omega)
                have e5 := (and_an ((f') 27) (f' 27) (HG.out.1 27 (by omega)) ⟨p0, p1⟩).trans (HG.out.2.2 (by omega))
                have z10 : (x % 16 != 10) = true := by simpa using t10
                have z11 : ¬ x % 16 = 10 := by omega
                have HH := Lib.hid HG.out.2.1
                have HO := Lib.hid HG.out.1
                clear HG
                go_wp2
                go_roundw
                case rel => exact ⟨k + 1, f', by omega, by go_num, K6, B6, Lib.hid ⟨HO.out, HH.out⟩⟩
                case measure => simp [intOf]; omega
    · obtain rfl : k = n := by omega
      clear hk hlt HL HF K3 B3 F
      go_wp2_with (go_at_call 14; refine (awake_any _).mono ?_; rintro e w4 ⟨rfl, hb⟩; have HB4 := Lib.hid (below_then B.out hb); clear hb)
      go_ret
      exact ⟨rfl, HB4.out⟩
end Go.Proofs.Ytiakoflgcpahgaa
