/-
  What Load answers: memory that holds an image. No condition but lengths.
-/
import Derived.Test.YtcilhippjiichaaDoorWalkH
import Derived.Laws.CopyOwn
import Derived.Deep.OwnRows
import Derived.Deep.RegionLaw
namespace Go.Proofs.YtcilhippjiichaaDoor
open Go.RowKit Go.Maps S02
/-- The cells of memory of a size. -/
def mC (n : Nat) (f : Nat → UInt8) : List Value := (List.range n).map fun i => .int .u8 (f i).toNat
theorem mC_len (n : Nat) (f : Nat → UInt8) : (mC n f).length = n := by simp [mC]
theorem mC_at {n : Nat} {f : Nat → UInt8} {i : Nat} (h : i < n) : (mC n f)[i]? = some (.int .u8 (f i).toNat) := by simp [mC, h]
theorem mC_put {n : Nat} {f : Nat → UInt8} {a : Nat} {bs : List UInt8} (h : a + bs.length ≤ n) : splice (mC n f) a (byC bs) = mC n (fun i => if a ≤ i ∧ i < a + bs.length then bs.getD (i - a) 0 else f i) := by
  apply List.ext_getElem?
  intro i
  unfold splice
  rcases Nat.lt_or_ge i n with hi | hi
  · rw [mC_at hi]
    rcases Nat.lt_or_ge i a with h1 | h1
    · rw [List.getElem?_append_left (by rw [List.length_take, mC_len]; omega), List.getElem?_take, if_pos h1, mC_at hi, if_neg (by omega)]
    · have e1 : ((mC n f).take a).length = a := by rw [List.length_take, mC_len]; omega
      rw [List.getElem?_append_right (by omega), e1]
      rcases Nat.lt_or_ge i (a + bs.length) with h2 | h2
      · rw [List.getElem?_append_left (by rw [byC_len]; omega), if_pos ⟨h1, h2⟩, byC, List.getElem?_map, getD_some (by omega)]
        rfl
      · rw [List.getElem?_append_right (by rw [byC_len]; omega), byC_len, List.getElem?_drop, show a + bs.length + (i - a - bs.length) = i by omega, mC_at hi, if_neg (by omega)]
  · rw [List.getElem?_eq_none (by simp [byC_len, mC_len]; omega), List.getElem?_eq_none (by rw [mC_len]; exact hi)]
theorem mC_zero (n : Nat) : madeCells #[.int .u8 0] n = (mC n (RM.mby [])).toArray := by
  apply Array.ext'
  rw [toList_madeCells_one]
  apply List.ext_getElem?
  intro i
  rcases Nat.lt_or_ge i n with hi | hi
  · rw [List.getElem?_replicate, if_pos hi]
    show _ = (mC n (RM.mby []))[i]?
    rw [mC_at hi]
    rfl
  · rw [List.getElem?_eq_none (by simpa using hi), List.getElem?_eq_none (by simp [mC_len]; exact hi)]
/-- The bytes that are loaded. -/
def ldB (size : Int) (l : List (Nat × List UInt8)) : List UInt8 := if RM.ldE size l = 0 then (List.range size.toNat).map (RM.mby l) else []
theorem ByR.mem {w : World} {M n : Nat} {f : Nat → UInt8} (h : w.heap[M]? = some (.cells (mC n f).toArray 5 (0, 0))) (h0 : 0 < n) (hn : n ≤ 1000000) : ByR w (.slice (some ⟨M, 0, none⟩) n n) ((List.range n).map f) := by
  have hl : ((List.range n).map f).length = n := by simp
  refine .inr ⟨fun e => by rw [e] at hl; simp at hl; omega, M, 0, n, by rw [hl], by rw [hl]; exact Nat.le_refl _, by unfold maxLen; omega, fun j hj => ?_⟩
  rw [hl] at hj
  rw [Nat.zero_add]
  refine cell_of h ?_
  rw [List.getElem?_toArray, mC_at hj, List.getD_eq_getElem?_getD, List.getElem?_map, List.getElem?_range hj]
  rfl
/-- What loading leaves. -/
def LdPost (w : World) (size : Int) (l : List (Nat × List UInt8)) (e : Ending) (w' : World) : Prop := ∃ v, e = .returned (.tuple #[v, .int .i64 (RM.ldE size l)]) ∧ ByR w' v (ldB size l) ∧ Below w.heap.size w w'
theorem LdPost.bad {w w' : World} {size E : Int} {l : List (Nat × List UInt8)} (hE : RM.ldE size l = E) (h0 : E ≠ 0) (hb : Below w.heap.size w w') : LdPost w size l (.returned (.tuple #[.slice none 0 0, .int .i64 E])) w' :=
  ⟨_, by rw [hE], .inl ⟨by unfold ldB; rw [if_neg (by rw [hE]; exact h0)], _, _, rfl⟩, hb⟩
set_option maxHeartbeats 4000000 in
theorem load_any {w : World} {st size : Int} {sv : Value} {l : List (Nat × List UInt8)} (hs : SgR w sv l) (hn : l.length ≤ 1000000) (hd : ∀ p ∈ l, p.1 < 4294967296 ∧ p.2.length ≤ 1000000) :
    Calls Tryd.prog 11 #[.int .i64 size, .agg #[.int .u32 st, sv]] w (LdPost w size l) := by
  have HR := Lib.hid (fun (W : World) (hb : Below w.heap.size w W) => right_any (st := st) (hs.below hb) hn hd)
  obtain ⟨n, hnn⟩ : ∃ n, l.length = n := ⟨_, rfl⟩
  obtain ⟨sa, sc, rfl⟩ := sv_form hs
  rw [hnn] at hs HR hn ⊢
  have HG := Lib.hid hs
  have HD := Lib.hid hd
  have HN := Lib.hid hnn
  obtain ⟨W0, hW0⟩ : ∃ W0, w.alloc (.cells #[.int .u32 st, .slice sa n sc] 25) = W0 := ⟨_, rfl⟩
  have HB0 := Lib.hid (show Below w.heap.size w W0 from hW0 ▸ below_one w _)
  have HI0 := Lib.hid (show W0.heap[w.heap.size]? = some (.cells #[.int .u32 st, .slice sa n sc] 25 (0, 0)) from hW0 ▸ heap_alloc_new w _)
  clear hs hd hnn
  by_cases h1 : size < 64
  · have HE := Lib.hid (show RM.ldE size l = 1 by unfold RM.ldE; rw [if_pos (.inl h1)])
    go_enter Tryd.func11, Tryd.ntmps11
    go_upto_region 1 with fail
    clear hW0
    go_wp2
    go_ret2
    exact LdPost.bad HE.out (by decide) HB0.out
  · by_cases h2 : 16384 < size
    · have HE := Lib.hid (show RM.ldE size l = 1 by unfold RM.ldE; rw [if_pos (.inr (.inl h2))])
      go_enter Tryd.func11, Tryd.ntmps11
      go_upto_region 1 with fail
      clear hW0
      go_wp2
      go_ret2
      exact LdPost.bad HE.out (by decide) HB0.out
    · by_cases h3 : size % 64 = 0
      · have h3' : (size % 64 == 0) = true := by simpa using h3
        have h3'' : (size % 64 != 0) = false := by simpa using h3
        have HLD := Lib.hid (show RM.ldE size l = if RM.rt l ≠ 0 then RM.rt l else if l.all (fun p => decide (((p.1 + p.2.length : Nat) : Int) ≤ size)) = true then 0 else 3 by
          unfold RM.ldE; rw [if_neg (by rintro (h | h | h); exact h1 h; exact h2 h; exact h h3)])
        clear h3
        by_cases h4 : RM.rt l = 0
        · have HRO := Lib.hid (RM.rt_open h4)
          have HLE := Lib.hid (HLD.out.trans (if_neg (fun h => h h4)))
          rw [h4] at HR
          obtain ⟨z, rfl⟩ : ∃ z : Nat, size = z := ⟨size.toNat, by omega⟩
          have hz1 : 64 ≤ z := by omega
          have hz2 : z ≤ 16384 := by omega
          have HM := fun W => run_make_row' (P := Tryd.prog) 28 5 (.int .u8 0) 1 Tryd.underlying28 u8_info rfl .i64 .i64 z (by omega) (by omega) W
          simp only [mC_zero] at HM
          clear h4
          go_enter Tryd.func11, Tryd.ntmps11
          go_upto_region 1 with fail
          have c0 := cell_of (o := 0) HI0.out rfl
          have c1 := cell_of (o := 1) HI0.out rfl
          clear hW0
          go_upto_region 6 with (go_at_call 14; refine (HR.out _ HB0.out).mono ?_; rintro e w2 ⟨rfl, hb2⟩; have HB2 := Lib.hid (HB0.out.trans (hb2.mono HB0.out.size)); have HI2 := Lib.hid ((hb2.block _ (lt_of_heap HI0.out)).trans HI0.out); clear hb2)
          have HB3 := Lib.hid (HB2.out.alloc HB2.out.size (.cells (mC z (RM.mby (l.take 0))).toArray 5))
          have HI3 := Lib.hid ((Below.heap_alloc w2 (.cells (mC z (RM.mby (l.take 0))).toArray 5) _ (lt_of_heap HI2.out)).trans HI2.out)
          have HK := Lib.hid (heap_alloc_new w2 (.cells (mC z (RM.mby (l.take 0))).toArray 5))
          have HSZ := Lib.hid HB2.out.size
          clear c0 c1
          go_upto_region 7 with fail
          clear HM
          obtain ⟨M, hM⟩ : ∃ M, w2.heap.size = M := ⟨_, rfl⟩
          obtain ⟨W3, hW3⟩ : ∃ W3, w2.alloc (.cells (mC z (RM.mby (l.take 0))).toArray 5) = W3 := ⟨_, rfl⟩
          change Code.wp _ _ _ _ (w2.alloc (.cells (mC z (RM.mby (l.take 0))).toArray 5))
          rw [hW3] at HB3 HI3 HK ⊢
          rw [hM] at HK HSZ ⊢
          clear hM hW3
          have c0 := cell_of (o := 0) HI3.out rfl
          have c1 := cell_of (o := 1) HI3.out rfl
          go_wp2
          clear c0 c1
          go_loopw [31] (fun i wr => ∃ k : Nat, k ≤ n ∧ i = .int .i64 k ∧ Hid ((l.take k).all (fun p => decide (((p.1 + p.2.length : Nat) : Int) ≤ z)) = true) ∧ Hid (wr.heap[M]? = some (.cells (mC z (RM.mby (l.take k))).toArray 5 (0, 0))) ∧ Hid (Below w.heap.size w wr)) (fun i _ => n - (intOf i).toNat)
          case atStart => exact ⟨0, by omega, rfl, Lib.hid rfl, HK, HB3⟩
          case round =>
            clear HK HB3 HI3
            obtain ⟨k, hk, rfl, hA, hK, hB⟩ := hrel
            by_cases hlt : k < n
            · have hkl : k < l.length := by rw [HN.out]; exact hlt
              obtain ⟨⟨a, bs⟩, hp⟩ : ∃ p, l[k]? = some p := ⟨_, List.getElem?_eq_getElem hkl⟩
              obtain ⟨hb0, hbl⟩ := HRO.out.2.2 (a, bs) (List.mem_of_getElem? hp)
              simp only [] at hb0 hbl
              have HMEM := Lib.hid (List.mem_of_getElem? hp)
              have HTK := Lib.hid (take_more hp)
              obtain ⟨g, o, rfl, z1, da, dc, z2, z3⟩ := sg_at HG.out hp
              obtain ⟨m, hm⟩ : ∃ m, bs.length = m := ⟨_, rfl⟩
              have hm0 : 0 < m := by rw [← hm]; exact List.length_pos_iff.mpr hb0
              have HMM := Lib.hid hm
              rw [hm] at z2 z3 hbl
              have HZ3 := Lib.hid z3
              replace z1 := cell_below hB.out z1
              replace z2 := cell_below hB.out z2
              have HS2 := Lib.hid (heap_alloc_new wr (.cells #[.int .u32 a, .slice da m dc] 51))
              have HB2 := Lib.hid (hB.out.alloc hB.out.size (.cells #[.int .u32 a, .slice da m dc] 51))
              have HK2 := Lib.hid ((Below.heap_alloc wr (.cells #[.int .u32 a, .slice da m dc] 51) _ (lt_of_heap hK.out)).trans hK.out)
              clear z3 hm hp hkl hb0 hB hK
              go_upto_region 10 with fail
              obtain ⟨S, hS⟩ : ∃ S, wr.heap.size = S := ⟨_, rfl⟩
              obtain ⟨W1, hW1⟩ : ∃ W1, wr.alloc (.cells #[.int .u32 a, .slice da m dc] 51) = W1 := ⟨_, rfl⟩
              rw [hW1] at HS2 HB2 HK2 ⊢
              rw [hS] at HS2 ⊢
              clear z1 z2 hS hW1
              have s0 := cell_of (o := 0) HS2.out rfl
              have s1 := cell_of (o := 1) HS2.out rfl
              by_cases hfit : ((a + m : Nat) : Int) ≤ z
              · have HA2 := Lib.hid (show (l.take (k + 1)).all (fun p => decide (((p.1 + p.2.length : Nat) : Int) ≤ z)) = true by
                  rw [HTK.out, List.all_append, hA.out]; simp only [List.all_cons, List.all_nil, HMM.out]; simpa using hfit)
                go_upto_region 12 with (go_at_call 24; refine (end_any _ _ _ _ _ (by omega) (by omega)).mono ?_; rintro e w4 ⟨rfl, hb4⟩; have HB4 := Lib.hid (HB2.out.trans (hb4.mono HB2.out.size)); have HS4 := Lib.hid ((hb4.block S (lt_of_heap HS2.out)).trans HS2.out); have HK4 := Lib.hid ((hb4.block M (lt_of_heap HK2.out)).trans HK2.out); clear hb4)
                clear s0 s1
                have s0 := cell_of (o := 0) HS4.out rfl
                have s1 := cell_of (o := 1) HS4.out rfl
                obtain ⟨g2, o2, rfl, -, hc1, hc2, hcell⟩ := by_at HZ3.out (j := 0) (by rw [HMM.out]; exact hm0)
                have HCE := Lib.hid (fun (j : Nat) (v : Value) (h : (byC bs)[j]? = some v) => show w4.cell? ((⟨g2, o2, none⟩ : Addr).add j) = some v by
                  obtain ⟨hj, rfl⟩ := byC_get h
                  rw [Lib.add_plain]
                  exact cell_below HB4.out (hcell j hj))
                have hza : ¬ z = a := by omega
                have haz : a ≤ z := by omega
                have HLN := Lib.hid (show (byC bs).length = Nat.min m (z - a) by rw [byC_len, HMM.out]; exact (Nat.min_eq_left (by omega)).symm)
                have HFI := Lib.hid (show a + (byC bs).length ≤ (mC z (RM.mby (l.take k))).length by rw [byC_len, HMM.out, mC_len]; omega)
                have HPU := Lib.hid (show splice (mC z (RM.mby (l.take k))) a (byC bs) = mC z (RM.mby (l.take (k + 1))) by
                  rw [mC_put (by rw [HMM.out]; omega)]
                  congr 1
                  funext i
                  rw [HTK.out, RM.mby_snoc])
                clear hcell hc1 hc2
                go_region_law (refine step_copy_splice rfl (.tmp 42) (.tmp 44) 28 28 rfl 5 Tryd.underlying28 (by kernel_rfl) (some ⟨M, a, none⟩) (some ⟨g2, o2, none⟩) (z - a) (z - a) m dc (by simp [Act.eval, Act.put]) (by simp [Act.eval, Act.put]) M a (mC z (RM.mby (l.take k))) 5 HK4.out (byC bs) HLN.out (fun _ => ⟨rfl, _, rfl, HCE.out⟩) HFI.out (byC_one bs) w.heap.size w HB4.out.drew HSZ.out ?_; intro w5 hK5 hB5; have HB5 := Lib.hid hB5; clear hB5)
                all_goals
                  rw [HPU.out] at hK5
                  go_wp2
                  go_roundw
                  case rel => exact ⟨k + 1, by omega, by go_num, HA2, hK5, HB5⟩
                  case measure => simp [intOf]; omega
              · have HE := Lib.hid (show RM.ldE z l = 3 by
                  rw [HLE.out, if_neg]
                  rw [Bool.not_eq_true, List.all_eq_false]
                  exact ⟨_, HMEM.out, by simp only [HMM.out]; simpa using hfit⟩)
                have hfit' : (z : Int) < ((a + m : Nat) : Int) := by omega
                go_wp2_with (go_at_call 24; refine (end_any _ _ _ _ _ (by omega) (by omega)).mono ?_; rintro e w4 ⟨rfl, hb4⟩; have HB4 := Lib.hid (HB2.out.trans (hb4.mono HB2.out.size)); clear hb4)
                go_ret2
                exact LdPost.bad HE.out (by decide) HB4.out
            · have hlt' : decide (k < n) = false := by simpa using hlt
              obtain rfl : k = n := by omega
              have HF := Lib.hid (show l.take k = l by rw [← HN.out, List.take_length])
              rw [HF.out] at hA hK
              have HE := Lib.hid (HLE.out.trans (if_pos hA.out))
              clear hlt
              go_wp2
              go_ret2
              exact ⟨.slice (some ⟨M, 0, none⟩) z z, by rw [HE.out]; rfl, by unfold ldB; rw [if_pos HE.out]; exact ByR.mem hK.out (by omega) (by omega), hB.out⟩
        · have HE := Lib.hid (HLD.out.trans (if_pos h4))
          have h4' : (RM.rt l == 0) = false := by simpa using h4
          have h4'' : (RM.rt l != 0) = true := by simpa using h4
          have HNE := Lib.hid h4
          generalize RM.rt l = E at *
          clear h4
          go_enter Tryd.func11, Tryd.ntmps11
          go_upto_region 1 with fail
          have c0 := cell_of (o := 0) HI0.out rfl
          have c1 := cell_of (o := 1) HI0.out rfl
          clear hW0
          go_wp2_with (go_at_call 14; refine (HR.out _ HB0.out).mono ?_; rintro e w2 ⟨rfl, hb2⟩; have HB2 := Lib.hid (HB0.out.trans (hb2.mono HB0.out.size)); clear hb2)
          go_ret2
          exact LdPost.bad HE.out HNE.out HB2.out
      · have h3' : (size % 64 == 0) = false := by simpa using h3
        have h3'' : (size % 64 != 0) = true := by simpa using h3
        have HE := Lib.hid (show RM.ldE size l = 1 by unfold RM.ldE; rw [if_pos (.inr (.inr h3))])
        clear h3
        go_enter Tryd.func11, Tryd.ntmps11
        go_upto_region 1 with fail
        clear hW0
        go_wp2
        go_ret2
        exact LdPost.bad HE.out (by decide) HB0.out
end Go.Proofs.YtcilhippjiichaaDoor
