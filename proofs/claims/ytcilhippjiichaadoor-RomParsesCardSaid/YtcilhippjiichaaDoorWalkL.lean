/-
  What the reference's Load answers: the same memory. No condition but lengths.
-/
import Derived.Test.YtcilhippjiichaaDoorWalkK
namespace Go.Proofs.YtcilhippjiichaaDoor
open Go.RowKit Go.Maps S02
theorem mC_set {n : Nat} {f : Nat → UInt8} {i : Nat} (b : UInt8) (h : i < n) : (mC n f).toArray.setIfInBounds i (.int .u8 b.toNat) = (mC n (fun q => if q = i then b else f q)).toArray := by
  apply Array.ext'
  apply List.ext_getElem?
  intro q
  rw [Array.toList_setIfInBounds]
  simp only [List.getElem?_set]
  show (if i = q then (if i < (mC n f).length then some (Value.int .u8 b.toNat) else none) else (mC n f)[q]?) = (mC n (fun q => if q = i then b else f q))[q]?
  rcases Nat.lt_or_ge q n with hq | hq
  · have hr : (mC n (fun q => if q = i then b else f q))[q]? = some (.int .u8 (if q = i then b else f q).toNat) := mC_at hq
    rw [hr]
    by_cases e : i = q
    · subst e
      rw [if_pos rfl, if_pos (by rw [mC_len]; exact h), if_pos rfl]
    · rw [if_neg e, if_neg (fun h => e h.symm), mC_at hq]
  · rw [if_neg (by omega), List.getElem?_eq_none (by rw [mC_len]; exact hq), List.getElem?_eq_none (by rw [mC_len]; exact hq)]
/-- A segment of which the first bytes have been stored. -/
def pt (f : Nat → UInt8) (a : Nat) (bs : List UInt8) (j : Nat) (q : Nat) : UInt8 := if a ≤ q ∧ q < a + j then bs.getD (q - a) 0 else f q
theorem pt_zero (f : Nat → UInt8) (a : Nat) (bs : List UInt8) : pt f a bs 0 = f := by funext q; unfold pt; rw [if_neg (by omega)]
theorem pt_step (f : Nat → UInt8) (a : Nat) (bs : List UInt8) (j : Nat) : (fun q => if q = a + j then bs.getD j 0 else pt f a bs j q) = pt f a bs (j + 1) := by
  funext q
  unfold pt
  by_cases h : q = a + j
  · subst h; rw [if_pos rfl, if_pos (by omega), Nat.add_sub_cancel_left]
  · rw [if_neg h]
    by_cases h2 : a ≤ q ∧ q < a + j
    · rw [if_pos h2, if_pos (by omega)]
    · rw [if_neg h2, if_neg (by omega)]
set_option maxHeartbeats 8000000 in
theorem rload_any {w : World} {st size : Int} {sv : Value} {l : List (Nat × List UInt8)} (hs : SgR w sv l) (hn : l.length ≤ 1000000) (hd : ∀ p ∈ l, p.1 < 4294967296 ∧ p.2.length ≤ 1000000) :
    Calls Tryd.prog 12 #[.int .i64 size, .agg #[.int .u32 st, sv]] w (LdPost w size l) := by
  have HR := Lib.hid (fun (W : World) (hb : Below w.heap.size w W) => rright_any (st := st) (hs.below hb) hn hd)
  obtain ⟨n, hnn⟩ : ∃ n, l.length = n := ⟨_, rfl⟩
  obtain ⟨sa, sc, rfl⟩ := sv_form hs
  rw [hnn] at hs HR hn ⊢
  have HG := Lib.hid hs
  have HD := Lib.hid hd
  have HN := Lib.hid hnn
  obtain ⟨W0, hW0⟩ : ∃ W0, w.alloc (.cells #[.int .u32 st, .slice sa n sc] 25) = W0 := ⟨_, rfl⟩
  have HB0 := Lib.hid (show Below w.heap.size w W0 from hW0 ▸ below_one w _)
  have HI0 := Lib.hid (show W0.heap[w.heap.size]? = some (.cells #[.int .u32 st, .slice sa n sc] 25 (0, 0)) from hW0 ▸ heap_alloc_new w _)
  clear hs hd hnn
  by_cases h1 : size < 64
  · have HE := Lib.hid (show RM.ldE size l = 1 by unfold RM.ldE; rw [if_pos (.inl h1)])
    go_enter Tryd.func12, Tryd.ntmps12
    go_upto_region 1 with fail
    clear hW0
    go_wp2
    go_ret2
    exact LdPost.bad HE.out (by decide) HB0.out
  · by_cases h2 : 16384 < size
    · have HE := Lib.hid (show RM.ldE size l = 1 by unfold RM.ldE; rw [if_pos (.inr (.inl h2))])
      go_enter Tryd.func12, Tryd.ntmps12
      go_upto_region 1 with fail
      clear hW0
      go_wp2
      go_ret2
      exact LdPost.bad HE.out (by decide) HB0.out
    · by_cases h3 : size % 64 = 0
      · have h3' : (size % 64 == 0) = true := by simpa using h3
        have h3'' : (size % 64 != 0) = false := by simpa using h3
        have HLD := Lib.hid (show RM.ldE size l = if RM.rt l ≠ 0 then RM.rt l else if l.all (fun p => decide (((p.1 + p.2.length : Nat) : Int) ≤ size)) = true then 0 else 3 by
          unfold RM.ldE; rw [if_neg (by rintro (h | h | h); exact h1 h; exact h2 h; exact h h3)])
        clear h3
        by_cases h4 : RM.rt l = 0
        · have HRO := Lib.hid (RM.rt_open h4)
          have HLE := Lib.hid (HLD.out.trans (if_neg (fun h => h h4)))
          rw [h4] at HR
          obtain ⟨z, rfl⟩ : ∃ z : Nat, size = z := ⟨size.toNat, by omega⟩
          have hz1 : 64 ≤ z := by omega
          have hz2 : z ≤ 16384 := by omega
          have HM := fun W => run_make_row' (P := Tryd.prog) 28 5 (.int .u8 0) 1 Tryd.underlying28 u8_info rfl .i64 .i64 z (by omega) (by omega) W
          simp only [mC_zero] at HM
          clear h4
          go_enter Tryd.func12, Tryd.ntmps12
          go_upto_region 1 with fail
          have c0 := cell_of (o := 0) HI0.out rfl
          have c1 := cell_of (o := 1) HI0.out rfl
          clear hW0
          go_upto_region 6 with (go_at_call 15; refine (HR.out _ HB0.out).mono ?_; rintro e w2 ⟨rfl, hb2⟩; have HB2 := Lib.hid (HB0.out.trans (hb2.mono HB0.out.size)); have HI2 := Lib.hid ((hb2.block _ (lt_of_heap HI0.out)).trans HI0.out); clear hb2)
          have HB3 := Lib.hid (HB2.out.alloc HB2.out.size (.cells (mC z (RM.mby (l.take 0))).toArray 5))
          have HI3 := Lib.hid ((Below.heap_alloc w2 (.cells (mC z (RM.mby (l.take 0))).toArray 5) _ (lt_of_heap HI2.out)).trans HI2.out)
          have HK := Lib.hid (heap_alloc_new w2 (.cells (mC z (RM.mby (l.take 0))).toArray 5))
          have HSZ := Lib.hid (lt_of_heap HI2.out)
          clear c0 c1
          go_upto_region 7 with fail
          clear HM
          obtain ⟨M, hM⟩ : ∃ M, w2.heap.size = M := ⟨_, rfl⟩
          obtain ⟨W3, hW3⟩ : ∃ W3, w2.alloc (.cells (mC z (RM.mby (l.take 0))).toArray 5) = W3 := ⟨_, rfl⟩
          change Code.wp _ _ _ _ (w2.alloc (.cells (mC z (RM.mby (l.take 0))).toArray 5))
          rw [hW3] at HB3 HI3 HK ⊢
          rw [hM] at HK HSZ ⊢
          clear hM hW3
          go_wp2
          go_loopw [8] (fun i wr => ∃ k : Nat, k ≤ n ∧ i = .int .i64 k ∧ Hid ((l.take k).all (fun p => decide (((p.1 + p.2.length : Nat) : Int) ≤ z)) = true) ∧ Hid (wr.heap[M]? = some (.cells (mC z (RM.mby (l.take k))).toArray 5 (0, 0))) ∧ Hid (wr.heap[w.heap.size]? = some (.cells #[.int .u32 st, .slice sa n sc] 25 (0, 0))) ∧ Hid (Below w.heap.size w wr)) (fun i _ => n - (intOf i).toNat)
          case atStart => exact ⟨0, by omega, rfl, Lib.hid rfl, HK, HI3, HB3⟩
          case round =>
            clear HK HB3 HI3 HI2 HI0 HR
            obtain ⟨k, hk, rfl, hA, hK, hI, hB⟩ := hrel
            have c1 := cell_of (o := 1) hI.out rfl
            by_cases hlt : k < n
            · have hkl : k < l.length := by rw [HN.out]; exact hlt
              obtain ⟨⟨a, bs⟩, hp⟩ : ∃ p, l[k]? = some p := ⟨_, List.getElem?_eq_getElem hkl⟩
              obtain ⟨hb0, hbl⟩ := HRO.out.2.2 (a, bs) (List.mem_of_getElem? hp)
              simp only [] at hb0 hbl
              have HMEM := Lib.hid (List.mem_of_getElem? hp)
              have HTK := Lib.hid (take_more hp)
              obtain ⟨g, o, rfl, z1, da, dc, z2, z3⟩ := sg_at HG.out hp
              obtain ⟨m, hm⟩ : ∃ m, bs.length = m := ⟨_, rfl⟩
              have hm0 : 0 < m := by rw [← hm]; exact List.length_pos_iff.mpr hb0
              have HMM := Lib.hid hm
              rw [hm] at z2 z3 hbl
              have HZ2 := Lib.hid z2
              obtain ⟨g2, o2, rfl, -, hc1, hc2, hcell⟩ := by_at z3 (j := 0) (by rw [hm]; exact hm0)
              have HCE := Lib.hid hcell
              have y1 := cell_below hB.out z1
              have y2 := cell_below hB.out z2
              clear z1 z2 z3 hm hp hkl hb0 hc1 hc2 hcell
              by_cases hfit : ((a + m : Nat) : Int) ≤ z
              · have HA2 := Lib.hid (show (l.take (k + 1)).all (fun p => decide (((p.1 + p.2.length : Nat) : Int) ≤ z)) = true by
                  rw [HTK.out, List.all_append, hA.out]; simp only [List.all_cons, List.all_nil, HMM.out]; simpa using hfit)
                have hfit' : (a : Int) + m ≤ z := by omega
                have HPT := Lib.hid (show pt (RM.mby (l.take k)) a bs m = RM.mby (l.take (k + 1)) by
                  funext i
                  rw [HTK.out, RM.mby_snoc, ← HMM.out]
                  rfl)
                have HK2 := Lib.hid (show wr.heap[M]? = some (.cells (mC z (pt (RM.mby (l.take k)) a bs 0)).toArray 5 (0, 0)) by rw [pt_zero]; exact hK.out)
                generalize RM.mby (l.take k) = f at *
                clear hK
                go_upto_region 13 with fail
                clear c1 y1 y2
                go_wp2
                go_loopw [10] (fun q wx => ∃ j : Nat, j ≤ m ∧ q = .int .i64 j ∧ Hid (wx.heap[M]? = some (.cells (mC z (pt f a bs j)).toArray 5 (0, 0))) ∧ Hid (wx.heap[w.heap.size]? = some (.cells #[.int .u32 st, .slice (some ⟨g, o, none⟩) n sc] 25 (0, 0))) ∧ Hid (Below w.heap.size w wx)) (fun q _ => m - (intOf q).toNat)
                case atStart => exact ⟨0, by omega, rfl, HK2, hI, hB⟩
                case round =>
                  clear HK2 hI hB
                  obtain ⟨j, hj, rfl, hK, hI, hB⟩ := hrel
                  have c1 := cell_of (o := 1) hI.out rfl
                  have y2 := cell_below hB.out HZ2.out
                  by_cases hjm : j < m
                  · have hjb : j < bs.length := by rw [HMM.out]; exact hjm
                    have hx := cell_below hB.out (HCE.out j hjb)
                    have haj : (a + j : Nat) < z := by omega
                    have m0 := cell_of (o := a + j) hK.out (by rw [List.getElem?_toArray]; exact mC_at haj)
                    have mf : wr.frozen? ⟨M, a + j, none⟩ = false := unfrozen hK.out
                    have HK3 := Lib.hid (show (wr.setCell ⟨M, a + j, none⟩ (.int .u8 (bs.getD j 0).toNat)).heap[M]? = some (.cells (mC z (pt f a bs (j + 1))).toArray 5 (0, 0)) by
                      rw [heap_set hK.out, mC_set _ haj, pt_step])
                    have HI3 := Lib.hid (show (wr.setCell ⟨M, a + j, none⟩ (.int .u8 (bs.getD j 0).toNat)).heap[w.heap.size]? = _ from (heap_other (by have := HSZ.out; omega)).trans hI.out)
                    have HB3 := Lib.hid (show Below w.heap.size w (wr.setCell ⟨M, a + j, none⟩ (.int .u8 (bs.getD j 0).toNat)) from hB.out.setCell (by have := HSZ.out; show w.heap.size ≤ M; omega) _)
                    have htn : ((a : Int) + j).toNat = a + j := by omega
                    have hin : (a : Int) + j < z := by omega
                    clear hjb
                    go_wp2
                    go_roundw
                    case rel => exact ⟨j + 1, by omega, by go_num, HK3, HI3, HB3⟩
                    case measure => simp [intOf]; omega
                  · have hjm' : decide (j < m) = false := by simpa using hjm
                    obtain rfl : j = m := by omega
                    rw [HPT.out] at hK
                    clear hjm
                    go_wp2
                    go_roundw
                    case rel => exact ⟨k + 1, by omega, by go_num, HA2, hK, hI, hB⟩
                    case measure => simp [intOf]; omega
              · have HE := Lib.hid (show RM.ldE z l = 3 by
                  rw [HLE.out, if_neg]
                  rw [Bool.not_eq_true, List.all_eq_false]
                  exact ⟨_, HMEM.out, by simp only [HMM.out]; simpa using hfit⟩)
                have hfit' : (z : Int) < (a : Int) + m := by omega
                go_wp2
                go_ret2
                exact LdPost.bad HE.out (by decide) hB.out
            · have hlt' : decide (k < n) = false := by simpa using hlt
              obtain rfl : k = n := by omega
              have HF := Lib.hid (show l.take k = l by rw [← HN.out, List.take_length])
              rw [HF.out] at hA hK
              have HE := Lib.hid (HLE.out.trans (if_pos hA.out))
              clear hlt
              go_wp2
              go_ret2
              exact ⟨.slice (some ⟨M, 0, none⟩) z z, by rw [HE.out]; rfl, by unfold ldB; rw [if_pos HE.out]; exact ByR.mem hK.out (by omega) (by omega), hB.out⟩
        · have HE := Lib.hid (HLD.out.trans (if_pos h4))
          have h4' : (RM.rt l == 0) = false := by simpa using h4
          have h4'' : (RM.rt l != 0) = true := by simpa using h4
          have HNE := Lib.hid h4
          generalize RM.rt l = E at *
          clear h4
          go_enter Tryd.func12, Tryd.ntmps12
          go_upto_region 1 with fail
          have c0 := cell_of (o := 0) HI0.out rfl
          have c1 := cell_of (o := 1) HI0.out rfl
          clear hW0
          go_wp2_with (go_at_call 15; refine (HR.out _ HB0.out).mono ?_; rintro e w2 ⟨rfl, hb2⟩; have HB2 := Lib.hid (HB0.out.trans (hb2.mono HB0.out.size)); clear hb2)
          go_ret2
          exact LdPost.bad HE.out HNE.out HB2.out
      · have h3' : (size % 64 == 0) = false := by simpa using h3
        have h3'' : (size % 64 != 0) = true := by simpa using h3
        have HE := Lib.hid (show RM.ldE size l = 1 by unfold RM.ldE; rw [if_pos (.inr (.inr h3))])
        clear h3
        go_enter Tryd.func12, Tryd.ntmps12
        go_upto_region 1 with fail
        clear hW0
        go_wp2
        go_ret2
        exact LdPost.bad HE.out (by decide) HB0.out
end Go.Proofs.YtcilhippjiichaaDoor
