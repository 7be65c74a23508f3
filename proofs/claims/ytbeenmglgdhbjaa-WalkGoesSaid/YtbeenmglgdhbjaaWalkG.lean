/-
  The names of the pages that a table maps. For slices of bytes of a bounded length.
-/
import Derived.Test.YtbeenmglgdhbjaaWalkF
import Derived.Test.YtbeenmglgdhbjaaWalkC
import Derived.Test.YtbeenmglgdhbjaaS11Calm
import Derived.OrdersHeld
namespace Go.Proofs.Ytbeenmglgdhbjaa
open Go.RowKit Go.Maps S01 S10 S11 S12
theorem info59 : (Try.prog.info? 59).map (fun i => (i.zero, i.size, i.bytes)) = some (some (.agg #[.string ⟨#[]⟩, .int .u32 0]), 2, 24) := by kernel_rfl
theorem two_new (w : World) (x y : Value) (t : TypeId) : ∀ j u, [x, y][j]? = some u → (w.alloc (.cells #[x, y] t)).cell? ((⟨w.heap.size, 0, none⟩ : Addr).add j) = some u := by
  intro j u h
  rw [S10.add_plain, Nat.zero_add]
  refine cell_of (heap_alloc_new w _) ?_
  rw [List.getElem?_toArray]
  exact h
theorem two_one (s : ByteArray) (x : Int) : ∀ u ∈ [Value.string s, .int .u32 x], u.oneCell' = true := by
  intro u hu
  simp at hu
  rcases hu with rfl | rfl <;> rfl
/-- What a loop over pages keeps. -/
def Mp (w wr : World) (x : Value) (l : List (List UInt8 × Nat)) : Prop := wr.ownsRow w.heap.size 59 2 x l.length (nmC l) ∧ Below w.heap.size w wr
theorem Mp.start (w : World) : Mp w w (.slice none 0 0) [] := ⟨World.ownsRow_nil _ _ _ _, Below.refl _ _⟩
theorem Mp.below {w wr w1 : World} {x : Value} {l : List (List UInt8 × Nat)} (h : Mp w wr x l) (hb : Below wr.heap.size wr w1) : Mp w w1 x l := ⟨own_later h.1 hb, below_then h.2 hb⟩
theorem Mp.more {w wr w1 : World} {x x' : Value} {l : List (List UInt8 × Nat)} {s : List UInt8} {u : Nat} {o : Obj} (h : Mp w wr x l) (hg : (wr.alloc o).grownBy w1 x.ownBlock) (ho : w1.ownsRow w.heap.size 59 2 x' (l.length + 1) (nmC l ++ [tv s, .int .u32 u])) : Mp w w1 x' (l ++ [(s, u)]) := by
  refine ⟨?_, (h.2.alloc h.2.size o).grown hg (Nat.le_trans h.2.size (by simp)) fun j hj => (h.1.lt j hj).1⟩
  rw [List.length_append, List.length_singleton, nmC_snoc]
  exact ho
theorem Mp.form {w wr : World} {x : Value} {l : List (List UInt8 × Nat)} (h : Mp w wr x l) : ∃ a c, x = .slice a l.length c := by
  rcases h.1.2 with ⟨e, h0⟩ | ⟨g, cap, cur, rfl, -⟩
  · rw [h0]; exact ⟨none, 0, e⟩
  · exact ⟨_, cap, rfl⟩
set_option maxRecDepth 100000 in
set_option maxHeartbeats 6400000 in
theorem map_any {w : World} {v : Value} {bs : List UInt8} (root : Int) (hv : ByR w v bs) (hn : bs.length ≤ maxLen) (r0 : 0 ≤ root) (r1 : root < 4294967296) :
    Calls Try.prog 19 #[v, .int .u32 root] w fun e w' => ∃ x, e = .returned x ∧ Mp w w' x (WK.nm bs root 256) := by
  obtain ⟨i0, hi, hz0, hz1, hz2⟩ := info_parts info59
  have HI := Lib.hid (And.intro hi (And.intro hz0 (And.intro hz1 hz2)))
  clear hi hz0 hz1 hz2
  have HW := Lib.hid (fun (W : World) (hb : Below w.heap.size w W) (k : Nat) (hk : k < 256) => walk_any (w := W) root (64 * (k : Int)) (hv.below hb) hn r0 r1 (by omega) (by omega))
  unfold WkPost at HW
  obtain ⟨A, cc, rfl⟩ := by_form hv
  clear hv hn
  go_enter Try.func19, Try.ntmps19
  go_wp2
  go_loopw [5, 6] (fun x i wr => ∃ k : Nat, k ≤ 256 ∧ i = .int .u32 (64 * (k : Int)) ∧ Hid (Mp w wr x (WK.nm bs root k))) (fun _ i _ => (256 - (intOf i) / 64).toNat)
  case atStart => exact ⟨0, by omega, rfl, Lib.hid (Mp.start w)⟩
  case round =>
    obtain ⟨k, hk, rfl, hM⟩ := hrel
    by_cases hlt : k < 256
    · have hd : decide (64 * (k : Int) < 16384) = true := by simp; omega
      have HK := Lib.hid (HW.out wr hM.out.2 k hlt)
      have wb := WK.wk_bd (m := bs) (root := root) (va := 64 * (k : Int))
      have HON := Lib.hid (fun h => WK.nm_on (m := bs) (root := root) (n := k) h)
      have HOF := Lib.hid (fun h => WK.nm_off (m := bs) (root := root) (n := k) h)
      have HLN := Lib.hid (WK.nm_len bs root k)
      have b0 := wb.1
      have b1 := wb.2.1
      have g0 := wb.2.2.1
      have g1 := wb.2.2.2.1
      clear wb
      generalize WK.nm bs root k = l at *
      generalize WK.wk bs root (64 * (k : Int)) = r at *
      obtain ⟨rb, rg, rl, ro⟩ := r
      unfold PV at HK
      simp only [] at b0 b1 g0 g1
      go_upto_region 6 with (go_at_call 9; (with_reducible refine HK.out.mono ?_); rintro e w1 ⟨x', rfl, -, hb⟩; have M1 := Lib.hid (hM.out.below hb); clear hb)
      have M2 := Lib.hid (M1.out.below (below_one w1 (.cells #[.int .u32 rb, .int .i64 rg] 26)))
      have L2 := Lib.hid (Pk.new w1 rb rg)
      have HKS := Lib.hid (fun k hk => (M1.out.1.lt k hk).2)
      generalize World.alloc w1 _ = W2 at M2 L2 ⊢
      generalize w1.heap.size = s at *
      clear M1 hM HK
      cases ro
      · have HN := Lib.hid (HOF.out rfl)
        clear HON HOF
        go_wp2
        go_roundw
        case rel => exact ⟨k + 1, by omega, by go_num, by rw [HN.out]; exact M2⟩
        case measure => simp [intOf]; omega
      · have HN := Lib.hid (HON.out rfl)
        clear HON HOF
        have HF := Lib.hid (fun W => flags_any rb rg W b0 (by omega))
        unfold tv PV at HF
        have HTV := Lib.hid (show tv (WK.fs rb) = .string ⟨(WK.fs rb).toArray⟩ from rfl)
        generalize WK.fs rb = st at *
        obtain ⟨xa, xc, rfl⟩ := M2.out.form
        obtain ⟨n, hn⟩ : ∃ n, l.length = n := ⟨_, rfl⟩
        have HNN := Lib.hid hn
        have HLB := Lib.hid (show n ≤ 256 by rw [← hn]; have := HLN.out; omega)
        rw [hn] at M2 HKS ⊢
        clear hn
        go_upto_region 7 with fail
        refine wp_region_held (S := fun W => Pk W s rb rg) (by kernel_rfl) ?_
        change wpAnyH _ _ _ _ _ _ _ _ W2.drew
        have M3 := Lib.hid (M2.out.below (Below.refl _ _).drew)
        have hS3 : Pk W2.drew s rb rg := L2.out.drew
        generalize World.drew W2 = W3 at M3 hS3 ⊢
        clear M2 L2
        have q1 : 64 * (k : Int) / 64 = k := by omega
        have q2 : (64 * (k : Int)).tdiv 64 = k := by rw [Int.tdiv_eq_ediv_of_nonneg (by omega)]; omega
        have q3 : IntKind.u32.wrap (k : Int) = k := by rw [IntKind.wrap_u32]; omega
        have q4 : IntKind.u32.wrap ((k : Int) * 65536) = k * 65536 := by rw [IntKind.wrap_u32]; omega
        have q5 : IntKind.u32.wrap rg = rg := by rw [IntKind.wrap_u32]; omega
        have q6 : IntKind.u32.wrap ((k : Int) * 65536 + rg) = k * 65536 + rg := by rw [IntKind.wrap_u32]; omega
        refine wpAnyH_take (i := 0) (v := ?vt0) rfl (by kernel_rfl) (by kernel_rfl) (by kernel_rfl) (fun _ _ _ h => h) (Or.inl ⟨by rfl, ?yt0⟩) hS3 ?rt0
        case yt0 => (intro W hW; go_simp; try rfl)
        simp only [Act.put, List.getElem_toArray, List.getElem_cons_zero, List.setIfInBounds_toArray, List.set_cons_zero, List.set_cons_succ]
        refine wpAnyH_take (i := 1) (v := _) rfl (by kernel_rfl) (by kernel_rfl) (by kernel_rfl) (fun _ _ _ h => h) (yieldsIf_load_mid (by rfl) 26 _ rfl s 0 rfl ([.int .u32 rb, .int .i64 rg]) _ (fun W hW => hW.range) Try.underlying26 rfl (by kernel_rfl)) hS3 ?rt1
        simp only [Act.put, List.getElem_toArray, List.getElem_cons_succ, List.getElem_cons_zero, List.setIfInBounds_toArray, List.set_cons_zero, List.set_cons_succ]
        refine wpAnyH_take (i := 3) (v := ?vt3) rfl (by kernel_rfl) (by kernel_rfl) (by kernel_rfl) (fun _ _ _ h => h) (Or.inl ⟨by rfl, ?yt3⟩) hS3 ?rt3
        case yt3 => (intro W hW; go_simp; try rfl)
        simp only [Act.put, List.getElem_toArray, List.getElem_cons_succ, List.getElem_cons_zero, List.setIfInBounds_toArray, List.set_cons_zero, List.set_cons_succ]
        refine wpAnyH_take (i := 4) (v := ?vt4) rfl (by kernel_rfl) (by kernel_rfl) (by kernel_rfl) (fun _ _ _ h => h) (Or.inl ⟨by rfl, ?yt4⟩) hS3 ?rt4
        case yt4 => (intro W hW; go_simp; try rfl)
        simp only [Act.put, List.getElem_toArray, List.getElem_cons_succ, List.getElem_cons_zero, List.setIfInBounds_toArray, List.set_cons_zero, List.set_cons_succ]
        refine wpAnyH_take (i := 5) (v := ?vt5) rfl (by kernel_rfl) (by kernel_rfl) (by kernel_rfl) (fun _ _ _ h => h) (Or.inl ⟨by rfl, ?yt5⟩) hS3 ?rt5
        case yt5 => (intro W hW; go_simp; try rfl)
        simp only [Act.put, List.getElem_toArray, List.getElem_cons_succ, List.getElem_cons_zero, List.setIfInBounds_toArray, List.set_cons_zero, List.set_cons_succ]
        refine wpAnyH_take (i := 6) (v := ?vt6) rfl (by kernel_rfl) (by kernel_rfl) (by kernel_rfl) (fun _ _ _ h => h) (Or.inl ⟨by rfl, ?yt6⟩) hS3 ?rt6
        case yt6 => (intro W hW; go_simp; try rfl)
        simp only [Act.put, List.getElem_toArray, List.getElem_cons_succ, List.getElem_cons_zero, List.setIfInBounds_toArray, List.set_cons_zero, List.set_cons_succ]
        refine wpAnyH_take (i := 7) (v := ?vt7) rfl (by kernel_rfl) (by kernel_rfl) (by kernel_rfl) (fun _ _ _ h => h) (Or.inl ⟨by rfl, ?yt7⟩) hS3 ?rt7
        case yt7 => (intro W hW; have c1 := Pk.c1 hW; go_simp; try rfl)
        simp only [Act.put, List.getElem_toArray, List.getElem_cons_succ, List.getElem_cons_zero, List.setIfInBounds_toArray, List.set_cons_zero, List.set_cons_succ]
        refine wpAnyH_take (i := 8) (v := ?vt8) rfl (by kernel_rfl) (by kernel_rfl) (by kernel_rfl) (fun _ _ _ h => h) (Or.inl ⟨by rfl, ?yt8⟩) hS3 ?rt8
        case yt8 => (intro W hW; go_simp; try rfl)
        simp only [Act.put, List.getElem_toArray, List.getElem_cons_succ, List.getElem_cons_zero, List.setIfInBounds_toArray, List.set_cons_zero, List.set_cons_succ]
        refine wpAnyH_take (i := 9) (v := ?vt9) rfl (by kernel_rfl) (by kernel_rfl) (by kernel_rfl) (fun _ _ _ h => h) (Or.inl ⟨by rfl, ?yt9⟩) hS3 ?rt9
        case yt9 => (intro W hW; go_simp; try rfl)
        simp only [Act.put, List.getElem_toArray, List.getElem_cons_succ, List.getElem_cons_zero, List.setIfInBounds_toArray, List.set_cons_zero, List.set_cons_succ]
        refine wpAnyH_all (rs := [2]) (by kernel_rfl) (by decide) (fun i hi => ?_)
        obtain rfl : i = 2 := by simpa using hi
        refine wpOp_step rfl (fun K' hK => ?_)
        rw [if_pos (by rfl)]
        simp only [List.getElem_toArray, List.getElem_cons_succ, List.getElem_cons_zero]
        refine wp_of_enter (HF.out W3) (by (go_simp; done)) (fun W4 hb => hK _ _ ⟨hS3.below hb, ?_⟩)
        have hS4 := hS3.below hb
        have M4 := Lib.hid (M3.out.below hb)
        clear hi hK K' hb hS3 M3 HF
        simp only [Act.put, List.setIfInBounds_toArray, List.set_cons_zero, List.set_cons_succ]
        refine wpAnyH_take (i := 10) (v := ?vt10) rfl (by kernel_rfl) (by kernel_rfl) (by kernel_rfl) (fun _ _ _ h => h) (Or.inl ⟨by rfl, ?yt10⟩) hS4 ?rt10
        case yt10 => (intro W hW; go_simp; try rfl)
        simp only [Act.put, List.getElem_toArray, List.getElem_cons_succ, List.getElem_cons_zero, List.setIfInBounds_toArray, List.set_cons_zero, List.set_cons_succ]
        refine wpAnyH_all (rs := [11]) (by kernel_rfl) (by decide) (fun i hi => ?_)
        obtain rfl : i = 11 := by simpa using hi
        refine wpOp_step rfl (fun K' hK => ?_)
        rw [if_pos (by rfl)]
        simp only [List.getElem_toArray, List.getElem_cons_succ, List.getElem_cons_zero]
        refine wp_of_val (v := .slice (some ⟨W4.heap.size, 0, none⟩) 1 1) (w' := W4.alloc (.cells #[.string ⟨st.toArray⟩, .int .u32 ((k : Int) * 65536 + rg)] 59)) (by (go_simp; done)) (hK _ _ ⟨hS4.below (below_one W4 _), ?_⟩)
        clear hi hK K'
        simp only [Act.put, List.setIfInBounds_toArray, List.set_cons_zero, List.set_cons_succ]
        have HT := Lib.hid (two_new W4 (.string ⟨st.toArray⟩) (.int .u32 ((k : Int) * 65536 + rg)) 59)
        have HOW := Lib.hid (M4.out.1.alloc (.cells #[.string ⟨st.toArray⟩, .int .u32 ((k : Int) * 65536 + rg)] 59))
        rw [HNN.out] at HOW
        have HBS := Lib.hid (show w.heap.size ≤ (W4.alloc (.cells #[.string ⟨st.toArray⟩, .int .u32 ((k : Int) * 65536 + rg)] 59)).heap.size by have := M4.out.2.size; simp; omega)
        have HS5 := Lib.hid (hS4.below (below_one W4 (.cells #[.string ⟨st.toArray⟩, .int .u32 ((k : Int) * 65536 + rg)] 59)))
        refine wpAnyH_all (rs := [12]) (by kernel_rfl) (by decide) (fun i hi => ?_)
        obtain rfl : i = 12 := by simpa using hi
        refine wpOp_step rfl (fun K' hK => ?_)
        rw [if_pos (by rfl)]
        simp only [List.getElem_toArray, List.getElem_cons_succ, List.getElem_cons_zero]
        refine wp_append_lies _ (.tmp 23) (.tmp 34) 45 rfl w.heap.size 59 i0 (.agg #[.string ⟨#[]⟩, .int .u32 0]) 2 24 Try.underlying45 HI.out.1 HI.out.2.1 HI.out.2.2.1 HI.out.2.2.2 rfl (by decide) (.slice xa n xc) n (nmC l) (by simp [Act.eval]) HOW.out ⟨W4.heap.size, 0, none⟩ 1 1 [.string ⟨st.toArray⟩, .int .u32 ((k : Int) * 65536 + rg)] (by simp [Act.eval]) rfl HT.out (two_one _ _) (by decide) (by have := HLB.out; unfold maxLen; omega) (by have := HLB.out; omega) HBS.out _ rfl ?_
        intro G' cap' w5 ho hg _ _
        refine hK _ _ ⟨pk_grown HS5.out hg (fun e => Nat.lt_irrefl _ (HKS.out _ e.symm)), ?_⟩
        have HX := Lib.hid (show Mp w w5 (.slice (some ⟨G', 0, none⟩) (n + 1) cap') (WK.nm bs root (k + 1)) by
          rw [HN.out]
          refine Mp.more M4.out hg ?_
          rw [HNN.out]
          have eu : ((k * 65536 + rg.toNat : Nat) : Int) = (k : Int) * 65536 + rg := by omega
          rw [eu]
          exact ho)
        have HS6 := pk_grown HS5.out hg (fun e => Nat.lt_irrefl _ (HKS.out _ e.symm))
        clear hi hK K' ho hg HS5 HBS HOW HT hS4 M4 HKS
        simp only [Act.put, List.setIfInBounds_toArray, List.set_cons_zero, List.set_cons_succ]
        refine wpAnyH_take (i := 13) (v := ?vt13) rfl (by kernel_rfl) (by kernel_rfl) (by kernel_rfl) (fun _ _ _ h => h) (Or.inl ⟨by rfl, ?yt13⟩) HS6 ?rt13
        case yt13 => (intro W hW; go_simp; try rfl)
        simp only [Act.put, List.getElem_toArray, List.getElem_cons_succ, List.getElem_cons_zero, List.setIfInBounds_toArray, List.set_cons_zero, List.set_cons_succ]
        refine wpAnyH_done (by kernel_rfl) ?_ _
        go_wp2
        go_roundw
        case rel => exact ⟨k + 1, by omega, by go_num, HX⟩
        case measure => simp [intOf]; omega
    · obtain rfl : k = 256 := by omega
      have HX := Lib.hid hM.out
      clear hM hlt
      go_wp2
      go_ret
      exact ⟨_, rfl, HX.out⟩
end Go.Proofs.Ytbeenmglgdhbjaa
