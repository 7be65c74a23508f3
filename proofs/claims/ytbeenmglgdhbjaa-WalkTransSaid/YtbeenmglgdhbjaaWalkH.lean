/-
  The names of the pages that a table maps, of the reference. For slices of bytes of a bounded length.
-/
import Derived.Test.YtbeenmglgdhbjaaWalkG
namespace Go.Proofs.Ytbeenmglgdhbjaa
open Go.RowKit Go.Maps S01 S10 S11 S12
theorem lt_size (b : Int) (k : Nat) (c : UInt8) : (if PT.bt b k then (⟨#[c]⟩ : ByteArray) else ⟨#[45]⟩).size = 1 := by
  split <;> rfl
theorem letters (b : Int) : (((((if PT.bt b 1 then (⟨#[114]⟩ : ByteArray) else ⟨#[45]⟩) ++ (if PT.bt b 2 then (⟨#[119]⟩ : ByteArray) else ⟨#[45]⟩)) ++ (if PT.bt b 3 then (⟨#[120]⟩ : ByteArray) else ⟨#[45]⟩)) ++ (if PT.bt b 4 then (⟨#[117]⟩ : ByteArray) else ⟨#[45]⟩)) ++ (if PT.bt b 5 then (⟨#[116]⟩ : ByteArray) else ⟨#[45]⟩)) ++ (if PT.bt b 6 then (⟨#[100]⟩ : ByteArray) else ⟨#[45]⟩) = ⟨(WK.fs b).toArray⟩ := by
  rw [WK.fs_eq]
  apply ByteArray.ext
  simp only [ByteArray.data_append]
  cases PT.bt b 1 <;> cases PT.bt b 2 <;> cases PT.bt b 3 <;> cases PT.bt b 4 <;> cases PT.bt b 5 <;> cases PT.bt b 6 <;> rfl
set_option maxRecDepth 100000 in
set_option maxHeartbeats 6400000 in
theorem rmap_any {w : World} {v : Value} {bs : List UInt8} (root : Int) (hv : ByR w v bs) (hn : bs.length ≤ maxLen) (r0 : 0 ≤ root) (r1 : root < 4294967296) :
    Calls Try.prog 20 #[v, .int .u32 root] w fun e w' => ∃ x, e = .returned x ∧ Mp w w' x (WK.nm bs root 256) := by
  obtain ⟨i0, hi, hz0, hz1, hz2⟩ := info_parts info59
  have HI := Lib.hid (And.intro hi (And.intro hz0 (And.intro hz1 hz2)))
  clear hi hz0 hz1 hz2
  have HW := Lib.hid (fun (W : World) (hb : Below w.heap.size w W) (k : Nat) (hk : k < 256) => rwalk_any (w := W) root (64 * (k : Int)) (hv.below hb) hn r0 r1 (by omega) (by omega))
  unfold WkPost at HW
  obtain ⟨A, cc, rfl⟩ := by_form hv
  clear hv hn
  go_enter Try.func20, Try.ntmps20
  go_wp2
  go_loopw [5, 6] (fun x i wr => ∃ k : Nat, k ≤ 256 ∧ i = .int .u32 (k : Int) ∧ Hid (Mp w wr x (WK.nm bs root k))) (fun _ i _ => (256 - intOf i).toNat)
  case atStart => exact ⟨0, by omega, rfl, Lib.hid (Mp.start w)⟩
  case round =>
    obtain ⟨k, hk, rfl, hM⟩ := hrel
    by_cases hlt : k < 256
    · have hd : decide ((k : Int) < 256) = true := by simp; omega
      have HK := Lib.hid (HW.out wr hM.out.2 k hlt)
      have wb := WK.wk_bd (m := bs) (root := root) (va := 64 * (k : Int))
      have HON := Lib.hid (fun h => WK.nm_on (m := bs) (root := root) (n := k) h)
      have HOF := Lib.hid (fun h => WK.nm_off (m := bs) (root := root) (n := k) h)
      have HLN := Lib.hid (WK.nm_len bs root k)
      have b0 := wb.1
      have b1 := wb.2.1
      have g0 := wb.2.2.1
      have g1 := wb.2.2.2.1
      clear wb
      generalize WK.nm bs root k = l at *
      generalize WK.wk bs root (64 * (k : Int)) = r at *
      obtain ⟨rb, rg, rl, ro⟩ := r
      unfold PV at HK
      simp only [] at b0 b1 g0 g1
      go_upto_region 6 with (go_at_call 10; (with_reducible refine HK.out.mono ?_); rintro e w1 ⟨x', rfl, -, hb⟩; have M1 := Lib.hid (hM.out.below hb); clear hb)
      have M2 := Lib.hid (M1.out.below (below_one w1 (.cells #[.int .u32 rb, .int .i64 rg] 26)))
      have L2 := Lib.hid (Pk.new w1 rb rg)
      have HKS := Lib.hid (fun k hk => (M1.out.1.lt k hk).2)
      generalize World.alloc w1 _ = W2 at M2 L2 ⊢
      generalize w1.heap.size = s at *
      clear M1 hM HK
      cases ro
      · have HN := Lib.hid (HOF.out rfl)
        clear HON HOF
        go_wp2
        go_roundw
        case rel => exact ⟨k + 1, by omega, by go_num, by rw [HN.out]; exact M2⟩
        case measure => simp [intOf]; omega
      · have HN := Lib.hid (HON.out rfl)
        clear HON HOF
        have HST := Lib.hid (letters rb)
        have HTV := Lib.hid (show tv (WK.fs rb) = .string ⟨(WK.fs rb).toArray⟩ from rfl)
        have F1 := fun W => rletter_any rb 2 1 ⟨#[114]⟩ W rfl (by omega) b0 (by omega)
        have F2 := fun W => rletter_any rb 4 2 ⟨#[119]⟩ W rfl (by omega) b0 (by omega)
        have F3 := fun W => rletter_any rb 8 3 ⟨#[120]⟩ W rfl (by omega) b0 (by omega)
        have F4 := fun W => rletter_any rb 16 4 ⟨#[117]⟩ W rfl (by omega) b0 (by omega)
        have F5 := fun W => rletter_any rb 32 5 ⟨#[116]⟩ W rfl (by omega) b0 (by omega)
        have F6 := fun W => rletter_any rb 64 6 ⟨#[100]⟩ W rfl (by omega) b0 (by omega)
        have s1 := lt_size rb 1 114
        generalize (if PT.bt rb 1 then (⟨#[114]⟩ : ByteArray) else ⟨#[45]⟩) = t1 at *
        have s2 := lt_size rb 2 119
        generalize (if PT.bt rb 2 then (⟨#[119]⟩ : ByteArray) else ⟨#[45]⟩) = t2 at *
        have s3 := lt_size rb 3 120
        generalize (if PT.bt rb 3 then (⟨#[120]⟩ : ByteArray) else ⟨#[45]⟩) = t3 at *
        have s4 := lt_size rb 4 117
        generalize (if PT.bt rb 4 then (⟨#[117]⟩ : ByteArray) else ⟨#[45]⟩) = t4 at *
        have s5 := lt_size rb 5 116
        generalize (if PT.bt rb 5 then (⟨#[116]⟩ : ByteArray) else ⟨#[45]⟩) = t5 at *
        have s6 := lt_size rb 6 100
        generalize (if PT.bt rb 6 then (⟨#[100]⟩ : ByteArray) else ⟨#[45]⟩) = t6 at *
        generalize WK.fs rb = st at *
        obtain ⟨xa, xc, rfl⟩ := M2.out.form
        obtain ⟨n, hn⟩ : ∃ n, l.length = n := ⟨_, rfl⟩
        have HNN := Lib.hid hn
        have HLB := Lib.hid (show n ≤ 256 by rw [← hn]; have := HLN.out; omega)
        rw [hn] at M2 HKS ⊢
        clear hn
        go_upto_region 7 with fail
        have G1 := Lib.hid (fun v (hv : v = W2.drew) => (F1 v).mono (R' := fun e v' => e = .returned (.string t1) ∧ v' = W2.drew) fun _ _ ⟨he, hb⟩ => ⟨he, hb ▸ hv⟩)
        clear F1
        have G2 := Lib.hid (fun v (hv : v = W2.drew) => (F2 v).mono (R' := fun e v' => e = .returned (.string t2) ∧ v' = W2.drew) fun _ _ ⟨he, hb⟩ => ⟨he, hb ▸ hv⟩)
        clear F2
        have G3 := Lib.hid (fun v (hv : v = W2.drew) => (F3 v).mono (R' := fun e v' => e = .returned (.string t3) ∧ v' = W2.drew) fun _ _ ⟨he, hb⟩ => ⟨he, hb ▸ hv⟩)
        clear F3
        have G4 := Lib.hid (fun v (hv : v = W2.drew) => (F4 v).mono (R' := fun e v' => e = .returned (.string t4) ∧ v' = W2.drew) fun _ _ ⟨he, hb⟩ => ⟨he, hb ▸ hv⟩)
        clear F4
        have G5 := Lib.hid (fun v (hv : v = W2.drew) => (F5 v).mono (R' := fun e v' => e = .returned (.string t5) ∧ v' = W2.drew) fun _ _ ⟨he, hb⟩ => ⟨he, hb ▸ hv⟩)
        clear F5
        have G6 := Lib.hid (fun v (hv : v = W2.drew) => (F6 v).mono (R' := fun e v' => e = .returned (.string t6) ∧ v' = W2.drew) fun _ _ ⟨he, hb⟩ => ⟨he, hb ▸ hv⟩)
        clear F6
        refine wp_region_calm (fun v => v = W2.drew) (by kernel_rfl) (by kernel_rfl) rfl ?_
        refine wpq_val (v := ?vr0) (by rfl) ?yr0 ?rr0
        case yr0 => (intro W hW; go_simp; try rfl)
        simp only [Act.put, List.setIfInBounds_toArray, List.set_cons_zero, List.set_cons_succ]
        refine wpq_val (v := ?vr1) (by rfl) ?yr1 ?rr1
        case yr1 => (intro W hW; have c0 := L2.out.c0; go_simp; try rfl)
        simp only [Act.put, List.setIfInBounds_toArray, List.set_cons_zero, List.set_cons_succ]
        refine wpq_call (by rfl) G1.out (fun W => by (go_simp; done)) ?_
        simp only [Act.put, List.setIfInBounds_toArray, List.set_cons_zero, List.set_cons_succ]
        refine wpq_val (v := ?vr3) (by rfl) ?yr3 ?rr3
        case yr3 => (intro W hW; go_simp; try rfl)
        simp only [Act.put, List.setIfInBounds_toArray, List.set_cons_zero, List.set_cons_succ]
        refine wpq_val (v := ?vr4) (by rfl) ?yr4 ?rr4
        case yr4 => (intro W hW; have c0 := L2.out.c0; go_simp; try rfl)
        simp only [Act.put, List.setIfInBounds_toArray, List.set_cons_zero, List.set_cons_succ]
        refine wpq_call (by rfl) G2.out (fun W => by (go_simp; done)) ?_
        simp only [Act.put, List.setIfInBounds_toArray, List.set_cons_zero, List.set_cons_succ]
        refine wpq_val (v := ?vr6) (by rfl) ?yr6 ?rr6
        case yr6 => (intro W hW; go_simp; try rfl)
        simp only [Act.put, List.setIfInBounds_toArray, List.set_cons_zero, List.set_cons_succ]
        refine wpq_val (v := ?vr7) (by rfl) ?yr7 ?rr7
        case yr7 => (intro W hW; go_simp; try rfl)
        simp only [Act.put, List.setIfInBounds_toArray, List.set_cons_zero, List.set_cons_succ]
        refine wpq_val (v := ?vr8) (by rfl) ?yr8 ?rr8
        case yr8 => (intro W hW; have c0 := L2.out.c0; go_simp; try rfl)
        simp only [Act.put, List.setIfInBounds_toArray, List.set_cons_zero, List.set_cons_succ]
        refine wpq_call (by rfl) G3.out (fun W => by (go_simp; done)) ?_
        simp only [Act.put, List.setIfInBounds_toArray, List.set_cons_zero, List.set_cons_succ]
        refine wpq_val (v := ?vr10) (by rfl) ?yr10 ?rr10
        case yr10 => (intro W hW; go_simp; try rfl)
        simp only [Act.put, List.setIfInBounds_toArray, List.set_cons_zero, List.set_cons_succ]
        refine wpq_val (v := ?vr11) (by rfl) ?yr11 ?rr11
        case yr11 => (intro W hW; go_simp; try rfl)
        simp only [Act.put, List.setIfInBounds_toArray, List.set_cons_zero, List.set_cons_succ]
        refine wpq_val (v := ?vr12) (by rfl) ?yr12 ?rr12
        case yr12 => (intro W hW; have c0 := L2.out.c0; go_simp; try rfl)
        simp only [Act.put, List.setIfInBounds_toArray, List.set_cons_zero, List.set_cons_succ]
        refine wpq_call (by rfl) G4.out (fun W => by (go_simp; done)) ?_
        simp only [Act.put, List.setIfInBounds_toArray, List.set_cons_zero, List.set_cons_succ]
        refine wpq_val (v := ?vr14) (by rfl) ?yr14 ?rr14
        case yr14 => (intro W hW; go_simp; try rfl)
        simp only [Act.put, List.setIfInBounds_toArray, List.set_cons_zero, List.set_cons_succ]
        refine wpq_val (v := ?vr15) (by rfl) ?yr15 ?rr15
        case yr15 => (intro W hW; go_simp; try rfl)
        simp only [Act.put, List.setIfInBounds_toArray, List.set_cons_zero, List.set_cons_succ]
        refine wpq_val (v := ?vr16) (by rfl) ?yr16 ?rr16
        case yr16 => (intro W hW; have c0 := L2.out.c0; go_simp; try rfl)
        simp only [Act.put, List.setIfInBounds_toArray, List.set_cons_zero, List.set_cons_succ]
        refine wpq_call (by rfl) G5.out (fun W => by (go_simp; done)) ?_
        simp only [Act.put, List.setIfInBounds_toArray, List.set_cons_zero, List.set_cons_succ]
        refine wpq_val (v := ?vr18) (by rfl) ?yr18 ?rr18
        case yr18 => (intro W hW; go_simp; try rfl)
        simp only [Act.put, List.setIfInBounds_toArray, List.set_cons_zero, List.set_cons_succ]
        refine wpq_val (v := ?vr19) (by rfl) ?yr19 ?rr19
        case yr19 => (intro W hW; go_simp; try rfl)
        simp only [Act.put, List.setIfInBounds_toArray, List.set_cons_zero, List.set_cons_succ]
        refine wpq_val (v := ?vr20) (by rfl) ?yr20 ?rr20
        case yr20 => (intro W hW; have c0 := L2.out.c0; go_simp; try rfl)
        simp only [Act.put, List.setIfInBounds_toArray, List.set_cons_zero, List.set_cons_succ]
        refine wpq_call (by rfl) G6.out (fun W => by (go_simp; done)) ?_
        simp only [Act.put, List.setIfInBounds_toArray, List.set_cons_zero, List.set_cons_succ]
        refine wpq_val (v := ?vr22) (by rfl) ?yr22 ?rr22
        case yr22 => (intro W hW; go_simp; try rfl)
        simp only [Act.put, List.setIfInBounds_toArray, List.set_cons_zero, List.set_cons_succ]
        refine wpq_val (v := ?vr23) (by rfl) ?yr23 ?rr23
        case yr23 => (intro W hW; go_simp; try rfl)
        simp only [Act.put, List.setIfInBounds_toArray, List.set_cons_zero, List.set_cons_succ]
        refine wpQuiet_nil ?_
        rintro W3 rfl
        have M3 := Lib.hid (M2.out.below (Below.refl _ _).drew)
        have L3 := Lib.hid L2.out.drew
        generalize World.drew W2 = W3 at M3 L3 ⊢
        clear M2 L2 G1 G2 G3 G4 G5 G6
        have HMO := Lib.hid (fun (w5 : World) (G' cap' : Nat) (o : Obj) (hg : (W3.alloc o).grownBy w5 (Value.slice xa n xc).ownBlock) (ho : w5.ownsRow w.heap.size 59 2 (.slice (some ⟨G', 0, none⟩) (n + 1) cap') (n + 1) (nmC l ++ [.string ⟨st.toArray⟩, .int .u32 (65536 * (k : Int) + rg)])) =>
          (show Mp w w5 (.slice (some ⟨G', 0, none⟩) (n + 1) cap') (l ++ [(st, k * 65536 + rg.toNat)]) by
            refine Mp.more M3.out hg ?_
            rw [HNN.out]
            have eu : ((k * 65536 + rg.toNat : Nat) : Int) = 65536 * (k : Int) + rg := by omega
            rw [eu]
            exact ho))
        rw [HST.out]
        clear HST s1 s2 s3 s4 s5 s6
        have c1 := L3.out.c1
        have e1 : 65536 * (k : Int) < 4294967296 := by omega
        have e2 : 65536 * (k : Int) + rg < 4294967296 := by omega
        have HT := Lib.hid (two_new W3 (.string ⟨st.toArray⟩) (.int .u32 (65536 * (k : Int) + rg)) 59)
        have HOW := Lib.hid (M3.out.1.alloc (.cells #[.string ⟨st.toArray⟩, .int .u32 (65536 * (k : Int) + rg)] 59))
        rw [HNN.out] at HOW
        have HBS := Lib.hid (show w.heap.size ≤ (W3.alloc (.cells #[.string ⟨st.toArray⟩, .int .u32 (65536 * (k : Int) + rg)] 59)).heap.size by have := M3.out.2.size; simp; omega)
        go_wp2_with (at_builtin; refine wpList_append_lies _ rfl _ _ 45 rfl w.heap.size 59 i0 (.agg #[.string ⟨#[]⟩, .int .u32 0]) 2 24 Try.underlying45 HI.out.1 HI.out.2.1 HI.out.2.2.1 HI.out.2.2.2 rfl (by decide) (.slice xa n xc) n (nmC l) rfl HOW.out ⟨W3.heap.size, 0, none⟩ 1 1 [.string ⟨st.toArray⟩, .int .u32 (65536 * (k : Int) + rg)] rfl rfl HT.out (two_one _ _) (by decide) (by have := HLB.out; unfold maxLen; omega) (by have := HLB.out; omega) HBS.out _ rfl ?_; intro G' cap' w5 ho hg _ _; have HX := Lib.hid (HMO.out w5 G' cap' _ hg ho); clear ho hg)
        go_roundw
        case rel => exact ⟨k + 1, by omega, by go_num, by rw [HN.out]; exact HX⟩
        case measure => simp [intOf]; omega
    · obtain rfl : k = 256 := by omega
      have HX := Lib.hid hM.out
      clear hM hlt
      go_wp2
      go_ret
      exact ⟨_, rfl, HX.out⟩
end Go.Proofs.Ytbeenmglgdhbjaa
