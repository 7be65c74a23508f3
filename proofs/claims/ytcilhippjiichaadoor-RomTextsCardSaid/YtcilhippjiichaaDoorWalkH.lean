/-
  What Text answers: the lines of an image. No condition but lengths, and that the library's table is as its text lays it.
-/
import Derived.Test.YtcilhippjiichaaDoorGg
import Derived.StillTailTactics
namespace Go.Proofs.YtcilhippjiichaaDoor
open Go.RowKit Go.Maps S02
namespace RM
/-- What a valid image's segments are like. -/
theorem rtA_open : ∀ {l : List (Nat × List UInt8)} {f : Nat}, rtA f l = 0 → ∀ p ∈ l, p.2 ≠ [] ∧ p.1 + p.2.length ≤ 16384 ∧ f ≤ p.1
  | [], _, _, p, hp => by simp at hp
  | q :: r, f, h, p, hp => by
    rw [rtA] at h
    split at h
    · cases h
    · rename_i h1
      split at h
      · cases h
      · rename_i h2
        split at h
        · cases h
        · rename_i h3
          rcases List.mem_cons.1 hp with rfl | hp
          · exact ⟨h1, by omega, by omega⟩
          · obtain ⟨i1, i2, i3⟩ := rtA_open h p hp
            exact ⟨i1, i2, by omega⟩
theorem rt_open {l : List (Nat × List UInt8)} (h : rt l = 0) : l.length ≤ 64 ∧ rtA 0 l = 0 ∧ ∀ p ∈ l, p.2 ≠ [] ∧ p.1 + p.2.length ≤ 16384 := by
  unfold rt at h
  split at h
  · cases h
  · exact ⟨by omega, h, fun p hp => ⟨(rtA_open h p hp).1, (rtA_open h p hp).2.1⟩⟩
theorem px_len (w : List UInt8) (a : Nat) (bs : List UInt8) (s : Nat) : (px w a bs s).length ≤ w.length + 13 + 2 * bs.length := by
  unfold px
  split
  · simp only [List.length_append, NM.hxs_len, List.length_singleton, List.length_nil]; omega
  · simp only [List.length_append, NM.hxs_len, List.length_singleton, dg_len]; omega
theorem line_len (w : List UInt8) (a : Nat) (bs : List UInt8) (hw : w.length ≤ 5) (hb : bs.length ≤ 16) : (line w a bs).length ≤ 51 := by
  unfold line
  have := px_len w a bs (sm a bs)
  rw [List.length_append, List.length_singleton]
  omega
theorem tx1_len (a : Nat) (bs : List UInt8) : ∀ j, (tx1 a bs j).length ≤ 51 * j
  | 0 => by simp [tx1]
  | j + 1 => by
    have h1 := tx1_len a bs j
    have h2 := line_len (if j = 0 then wSeg else wAnd) (a + 16 * j) ((bs.drop (16 * j)).take 16) (by split <;> decide) (by rw [List.length_take]; omega)
    rw [tx1, List.length_append]
    omega
theorem txs_len : ∀ (l : List (Nat × List UInt8)), (∀ p ∈ l, p.2.length ≤ 16384) → (txs l).length ≤ 53000 * l.length
  | [], _ => by simp [txs]
  | p :: r, h => by
    have h1 := txs_len r fun q hq => h q (List.mem_cons_of_mem _ hq)
    have h2 := tx1_len p.1 p.2 ((p.2.length + 15) / 16)
    have h3 := h p (by simp)
    rw [txs, List.length_append, List.length_cons]
    omega
end RM
theorem by_cut {w : World} {g o c m f t : Nat} {bs : List UInt8} (hc : ∀ i, i < bs.length → w.cell? ⟨g, o + i, none⟩ = some (.int .u8 (bs.getD i 0).toNat)) (hm : bs.length = m) (h1 : m ≤ c) (h2 : c ≤ maxLen) (hf : f < m) (ht : t = min (f + 16) m) :
    ByR w (.slice (some ⟨g, o + f, none⟩) (t - f) (c - f)) ((bs.drop f).take 16) := by
  have hl : ((bs.drop f).take 16).length = t - f := by rw [List.length_take, List.length_drop]; omega
  refine .inr ⟨fun e => by rw [e] at hl; simp at hl; omega, g, o + f, c - f, by rw [hl], by rw [hl]; omega, by unfold maxLen at *; omega, fun i hi => ?_⟩
  rw [hl] at hi
  rw [Nat.add_assoc, hc (f + i) (by omega), List.getD_eq_getElem?_getD, List.getD_eq_getElem?_getD, List.getElem?_take, if_pos (by omega), List.getElem?_drop]
set_option maxHeartbeats 2000000 in
theorem text_no {w : World} {st : Int} {sv : Value} {l : List (Nat × List UInt8)} (hs : SgR w sv l) (hn : l.length ≤ 1000000) (hd : ∀ p ∈ l, p.1 < 4294967296 ∧ p.2.length ≤ 1000000) (h : RM.rt l ≠ 0) :
    Calls Tryd.prog 16 #[.agg #[.int .u32 st, sv]] w fun e w' => e = .returned (.string ⟨#[]⟩) ∧ Below w.heap.size w w' := by
  have HR := Lib.hid (fun (W : World) (hb : Below w.heap.size w W) => right_any (st := st) (hs.below hb) hn hd)
  have h' : (RM.rt l == 0) = false := by simpa using h
  generalize RM.rt l = E at *
  obtain ⟨sa, sc, rfl⟩ := sv_form hs
  obtain ⟨n, hnn⟩ : ∃ n, l.length = n := ⟨_, rfl⟩
  rw [hnn] at hs HR ⊢
  obtain ⟨W0, hW0⟩ : ∃ W0, w.alloc (.cells #[.int .u32 st, .slice sa n sc] 25) = W0 := ⟨_, rfl⟩
  have HB0 := Lib.hid (show Below w.heap.size w W0 from hW0 ▸ below_one w _)
  have HI0 := Lib.hid (show W0.heap[w.heap.size]? = some (.cells #[.int .u32 st, .slice sa n sc] 25 (0, 0)) from hW0 ▸ heap_alloc_new w _)
  clear hs hn hd hnn h
  go_enter Tryd.func16, Tryd.ntmps16
  go_upto_region 1 with fail
  have c0 := cell_of (o := 0) HI0.out rfl
  have c1 := cell_of (o := 1) HI0.out rfl
  clear hW0
  go_wp2_with (go_at_call 14; refine (HR.out _ HB0.out).mono ?_; rintro e w2 ⟨rfl, hb2⟩; have HB2 := Lib.hid (HB0.out.trans (hb2.mono HB0.out.size)); clear hb2)
  go_ret
  exact ⟨rfl, HB2.out⟩
/-- Lines that are being written: the builder, the image's box. -/
structure TJ (w wr : World) (b : Nat) (st : Int) (sv : Value) (acc : List UInt8) : Prop where
  bd : Lib.IsBuilderF 55 5 b b (Lib.byteCells acc) wr
  im : wr.heap[w.heap.size]? = some (.cells #[.int .u32 st, sv] 25 (0, 0))
  old : Below w.heap.size w wr
  lt : w.heap.size < b
theorem TJ.below {w wr w' : World} {b : Nat} {st : Int} {sv : Value} {acc : List UInt8} (h : TJ w wr b st sv acc) (hb : Below wr.heap.size wr w') : TJ w w' b st sv acc :=
  ⟨bdF_keep h.bd hb, (hb.block _ (lt_of_heap h.im)).trans h.im, h.old.trans (hb.mono h.old.size), h.lt⟩
theorem bdF_heap {T e B b : Nat} {bs : List Value} {w : World} (h : Lib.IsBuilderF T e B b bs w) : ∃ c, w.heap[b]? = some (.cells c T (0, 0)) := by
  rcases h with ⟨_, v, h, _⟩ | ⟨_, v, h, _⟩
  · exact ⟨_, h⟩
  · exact ⟨_, h⟩
theorem TJ.wrote {w wr w' : World} {b S : Nat} {st : Int} {sv : Value} {acc acc' : List UInt8} {cs : Array Value} (h : TJ w wr b st sv acc) (h1 : Lib.IsBuilderF 55 5 b b (Lib.byteCells acc') w') (h2 : Below b wr w') (h3 : Lib.OthersKept 5 (some b) wr w') (hS : wr.heap[S]? = some (.cells cs 51 (0, 0))) :
    TJ w w' b st sv acc' ∧ w'.heap[S]? = some (.cells cs 51 (0, 0)) := by
  have hl := h.lt
  refine ⟨⟨h1, (h2.block _ hl).trans h.im, h.old.trans (h2.mono (by omega)), hl⟩, h3 S _ hS (fun e => ?_) (fun c fz e => ?_)⟩
  · injection e with e
    obtain ⟨c, hc⟩ := bdF_heap h.bd
    exact kind_ne hS hc (by decide) e
  · injection e with _ e2
    cases e2
set_option maxRecDepth 100000 in
set_option maxHeartbeats 8000000 in
theorem text_yes {w : World} {st : Nat} {sv : Value} {l : List (Nat × List UInt8)} (hs : SgR w sv l) (hst : st < 4294967296) (h : RM.rt l = 0) (ht : Tabs w) :
    Calls Tryd.prog 16 #[.agg #[.int .u32 st, sv]] w fun e w' => e = .returned (.string ⟨(RM.tx st l).toArray⟩) ∧ Below w.heap.size w w' := by
  obtain ⟨hn, -, hd⟩ := RM.rt_open h
  have HR := Lib.hid (fun (W : World) (hb : Below w.heap.size w W) => right_any (st := st) (hs.below hb) (by omega) (fun p hp => ⟨by have := (hd p hp).2; omega, by have := (hd p hp).2; omega⟩))
  rw [h] at HR
  obtain ⟨sa, sc, rfl⟩ := sv_form hs
  obtain ⟨n, hnn⟩ : ∃ n, l.length = n := ⟨_, rfl⟩
  rw [hnn] at hs HR hn ⊢
  have HG := Lib.hid hs
  have HD := Lib.hid hd
  have HN := Lib.hid hnn
  have HT := Lib.hid ht
  obtain ⟨W0, hW0⟩ : ∃ W0, w.alloc (.cells #[.int .u32 st, .slice sa n sc] 25) = W0 := ⟨_, rfl⟩
  have HB0 := Lib.hid (show Below w.heap.size w W0 from hW0 ▸ below_one w _)
  have HI0 := Lib.hid (show W0.heap[w.heap.size]? = some (.cells #[.int .u32 st, .slice sa n sc] 25 (0, 0)) from hW0 ▸ heap_alloc_new w _)
  clear hs hd hnn h ht
  go_enter Tryd.func16, Tryd.ntmps16
  go_upto_region 1 with fail
  have c0 := cell_of (o := 0) HI0.out rfl
  have c1 := cell_of (o := 1) HI0.out rfl
  clear hW0
  go_upto_region 3 with (go_at_call 14; refine (HR.out _ HB0.out).mono ?_; rintro e w2 ⟨rfl, hb2⟩; have HB2 := Lib.hid (HB0.out.trans (hb2.mono HB0.out.size)); have HI2 := Lib.hid ((hb2.block _ (lt_of_heap HI0.out)).trans HI0.out); clear hb2)
  clear c0 c1
  have HS := Lib.hid (Bd.new w2)
  have HB3 := Lib.hid (HB2.out.alloc HB2.out.size (.cells #[.pointer none, .slice none 0 0] 55))
  have HI3 := Lib.hid ((Below.heap_alloc w2 (.cells #[.pointer none, .slice none 0 0] 55) _ (lt_of_heap HI2.out)).trans HI2.out)
  have HBN := Lib.hid HB2.out.size
  have HIL := Lib.hid (lt_of_heap HI2.out)
  go_upto_region 4 with fail
  obtain ⟨b, hb⟩ : ∃ b, w2.heap.size = b := ⟨_, rfl⟩
  obtain ⟨W3, hW3⟩ : ∃ W3, w2.alloc (.cells #[.pointer none, .slice none 0 0] 55) = W3 := ⟨_, rfl⟩
  rw [hW3] at HS HB3 HI3 ⊢
  rw [hb] at HS HBN HIL ⊢
  have HK := Lib.hid (show TJ w W3 b st (.slice sa n sc) (RM.txs (l.take 0)) from ⟨HS.out.1, HI3.out, HB3.out, HIL.out⟩)
  clear hb hW3 HS HI3 HB3 HB0 HI0 HB2 HI2 HBN HIL HR
  have c0 := cell_of (o := 0) HK.out.im rfl
  have c1 := cell_of (o := 1) HK.out.im rfl
  go_wp2
  clear c0 c1
  go_loopw [15] (fun i wr => ∃ k : Nat, k ≤ n ∧ i = .int .i64 k ∧ Hid (TJ w wr b st (.slice sa n sc) (RM.txs (l.take k)))) (fun i _ => n - (intOf i).toNat)
  case atStart => exact ⟨0, by omega, rfl, HK⟩
  case round =>
    obtain ⟨k, hk, rfl, hR⟩ := hrel
    clear HK
    by_cases hlt : k < n
    · have hkl : k < l.length := by rw [HN.out]; exact hlt
      obtain ⟨⟨a, bs⟩, hp⟩ : ∃ p, l[k]? = some p := ⟨_, List.getElem?_eq_getElem hkl⟩
      obtain ⟨hb0, hbl⟩ := HD.out (a, bs) (List.mem_of_getElem? hp)
      simp only [] at hb0 hbl
      have HTK := Lib.hid (take_more hp)
      obtain ⟨g, o, rfl, z1, da, dc, z2, z3⟩ := sg_at HG.out hp
      obtain ⟨m, hm⟩ : ∃ m, bs.length = m := ⟨_, rfl⟩
      have hm0 : 0 < m := by rw [← hm]; exact List.length_pos_iff.mpr hb0
      have HM := Lib.hid hm
      rw [hm] at z2 z3 hbl
      have HZ3 := Lib.hid z3
      replace z1 := cell_below hR.out.old z1
      replace z2 := cell_below hR.out.old z2
      have HS2 := Lib.hid (heap_alloc_new wr (.cells #[.int .u32 a, .slice da m dc] 51))
      have HR2 := Lib.hid (hR.out.below (below_one wr (.cells #[.int .u32 a, .slice da m dc] 51)))
      clear z3 hm hp hkl hb0 hR
      go_upto_region 7 with fail
      obtain ⟨S, hS⟩ : ∃ S, wr.heap.size = S := ⟨_, rfl⟩
      obtain ⟨W1, hW1⟩ : ∃ W1, wr.alloc (.cells #[.int .u32 a, .slice da m dc] 51) = W1 := ⟨_, rfl⟩
      rw [hW1] at HS2 HR2 ⊢
      rw [hS] at HS2 ⊢
      clear z1 z2 hS hW1
      obtain ⟨A0, hA0⟩ : ∃ A0, RM.txs (l.take k) = A0 := ⟨_, rfl⟩
      rw [hA0] at HR2
      have HA0 := Lib.hid hA0
      have hA0n : A0.length ≤ 3500000 := by
        rw [← hA0]
        have h1 := RM.txs_len (l.take k) (fun p hp => by have := (HD.out p (List.mem_of_mem_take hp)).2; omega)
        rw [List.length_take, HN.out] at h1
        have : min k n ≤ 64 := by omega
        omega
      clear hA0
      go_wp2
      go_loopw [6, 7] (fun wd f wx => ∃ (j f' : Nat) (Wd : ByteArray), Hid (f' = 16 * j) ∧ f' < m + 16 ∧ f = .int .i64 f' ∧ wd = .string Wd ∧ Hid (Wd.data.toList = if j = 0 then RM.wSeg else RM.wAnd) ∧ Wd.size ≤ 3 ∧ Hid (TJ w wx b st (.slice (some ⟨g, o, none⟩) n sc) (A0 ++ RM.tx1 a bs j)) ∧ Hid (wx.heap[S]? = some (.cells #[.int .u32 a, .slice da m dc] 51 (0, 0)))) (fun _ f _ => m + 16 - (intOf f).toNat)
      case atStart => exact ⟨0, 0, _, rfl, by omega, rfl, rfl, Lib.hid rfl, by decide, by rw [show A0 ++ RM.tx1 a bs 0 = A0 from List.append_nil _]; exact HR2, HS2⟩
      case round =>
        obtain ⟨j, f, Wd, hj, hf, rfl, rfl, hW, hWs, hR, hS⟩ := hrel
        clear HR2 HS2
        have s0 := cell_of (o := 0) hS.out rfl
        have s1 := cell_of (o := 1) hS.out rfl
        by_cases hlf : (f : Int) < m
        · have hfm : f < bs.length := by rw [HM.out]; omega
          obtain ⟨g2, o2, rfl, -, hc1, hc2, hcell⟩ := by_at HZ3.out hfm
          rw [HM.out] at hc1
          clear hfm
          go_upto_region 12 with fail
          obtain ⟨t, ht⟩ : ∃ t : Nat, min ((f : Int) + 16) m = t := ⟨min (f + 16) m, by omega⟩
          rw [ht]
          have ht1 : f < t := by omega
          have ht2 : t ≤ m := by omega
          have ht3 : f ≤ t := by omega
          have ht4 : t ≤ dc := by omega
          have hcf : ¬ dc = f := by omega
          have HCU := Lib.hid (by_cut hcell HM.out hc1 hc2 (show f < m by omega) (show t = min (f + 16) m by omega))
          unfold maxLen at hc2
          have HAI := Lib.hid (show IntKind.u32.wrap ((a : Int) + IntKind.u32.wrap f) = ((a + f : Nat) : Int) by rw [IntKind.wrap_u32, IntKind.wrap_u32]; omega)
          have HWR := Lib.hid (fun (W : World) (hb : Below w.heap.size w W) => written_any Wd (a + f) (HCU.out.below hb) (by omega) (by omega) (by rw [List.length_take]; omega) (HT.out.on hb))
          have HL := Lib.hid (show RM.tx1 a bs (j + 1) = RM.tx1 a bs j ++ RM.line Wd.data.toList (a + f) ((bs.drop f).take 16) by rw [RM.tx1, ← hj.out, hW.out])
          obtain ⟨Y, hY, hY1, hY2⟩ := bt_of (RM.line Wd.data.toList (a + f) ((bs.drop f).take 16))
          have hY3 : Y.size ≤ 60 := by
            rw [hY2]
            have := RM.line_len Wd.data.toList (a + f) ((bs.drop f).take 16) (by rw [NM.len_eq]; omega) (by rw [List.length_take]; omega)
            omega
          rw [hY] at HWR
          rw [← hY1] at HL
          have HAL := Lib.hid (show (A0 ++ RM.tx1 a bs j).length ≤ 4500000 by
            have := RM.tx1_len a bs j
            have h2 := hj.out
            rw [List.length_append]; omega)
          clear hcell hY hY1 hY2 ht
          go_still_tail 12, (by kernel_rfl)
          change wpList _ _ _ _ _ wr.drew
          have HR3 := Lib.hid (show TJ w wr.drew b st (.slice (some ⟨g, o, none⟩) n sc) (A0 ++ RM.tx1 a bs j) from hR.out.below (Below.refl _ _).drew)
          have HS3 := Lib.hid (show wr.drew.heap[S]? = some (.cells #[.int .u32 a, .slice (some ⟨g2, o2, none⟩) m dc] 51 (0, 0)) from hS.out)
          clear hR hS s0 s1
          generalize wr.drew = W5 at *
          go_wp2_with (first
            | (go_at_call 26; rw [HAI.out]; refine (HWR.out _ HR3.out.old).mono ?_; rintro e w6 ⟨rfl, hb6⟩; have HR6 := Lib.hid (HR3.out.below hb6); have HS6 := Lib.hid ((hb6.block _ (lt_of_heap HS3.out)).trans HS3.out); clear hb6)
            | (go_at_call 25; refine (bd_write _ HR6.out.bd (by have := HAL.out; omega)).mono ?_; rintro e w7 ⟨rfl, h71, h72, h73⟩; obtain ⟨q1, q2⟩ := HR6.out.wrote h71 h72 h73 HS6.out; have HR7 := Lib.hid q1; have HS7 := Lib.hid q2; clear h71 h72 h73 q1 q2))
          rw [List.append_assoc, ← HL.out] at HR7
          go_roundw
          case rel => exact ⟨j + 1, f + 16, _, Lib.hid (by have := hj.out; omega), by omega, by go_num, rfl, Lib.hid (by rw [if_neg (by omega)]; rfl), by decide, HR7, HS7⟩
          case measure => simp [intOf]; omega
        · have hlf' : decide (f < m) = false := by simp; omega
          have HF := Lib.hid (show RM.txs (l.take (k + 1)) = A0 ++ RM.tx1 a bs j by
            rw [HTK.out, RM.txs_snoc, HA0.out]
            simp only [HM.out]
            rw [show (m + 15) / 16 = j by have := hj.out; omega])
          clear hlf
          go_wp2
          go_roundw
          case rel => exact ⟨k + 1, by omega, by go_num, by rw [HF.out]; exact hR⟩
          case measure => simp [intOf]; omega
    · have hlt' : decide (k < n) = false := by simpa using hlt
      obtain rfl : k = n := by omega
      have HF := Lib.hid (show RM.tx st l = RM.txs (l.take k) ++ RM.line RM.wStart st [] by rw [List.take_of_length_le (by rw [HN.out]; omega)]; rfl)
      have HA0n := Lib.hid (show (RM.txs (l.take k)).length ≤ 3500000 by
        have h1 := RM.txs_len (l.take k) (fun p hp => by have := (HD.out p (List.mem_of_mem_take hp)).2; omega)
        rw [List.length_take, HN.out] at h1
        have : min k k ≤ 64 := by omega
        omega)
      have c0 := cell_of (o := 0) hR.out.im rfl
      have c1 := cell_of (o := 1) hR.out.im rfl
      obtain ⟨Y, hY, hY1, hY2⟩ := bt_of (RM.line RM.wStart st [])
      have hY3 : Y.size ≤ 60 := by
        rw [hY2]
        have := RM.line_len RM.wStart st [] (by decide) (by simp)
        omega
      have HWR := Lib.hid (fun (W : World) (hb : Below w.heap.size w W) => written_any (w := W) (v := .slice none 0 0) (bs := []) ⟨#[115, 116, 97, 114, 116]⟩ st (.inl ⟨rfl, _, _, rfl⟩) (by decide) hst (by simp) (HT.out.on hb))
      change Hid (∀ (W : World) (hb : Below w.heap.size w W), Calls Tryd.prog 26 _ W fun e w' => e = .returned (.string ⟨(RM.line RM.wStart st []).toArray⟩) ∧ Below W.heap.size W w') at HWR
      rw [hY] at HWR
      rw [← hY1] at HF
      generalize RM.txs (l.take k) = A0 at *
      clear hlt hY hY1 hY2
      go_wp2_with (first
        | (go_at_call 26; refine (HWR.out _ hR.out.old).mono ?_; rintro e w6 ⟨rfl, hb6⟩; have HR6 := Lib.hid (hR.out.below hb6); clear hb6)
        | (go_at_call 25; refine (bd_write _ HR6.out.bd (by have := HA0n.out; omega)).mono ?_; rintro e w7 ⟨rfl, h71, h72, -⟩; have HR7 := Lib.hid h71; have HB7 := Lib.hid (HR6.out.old.trans (h72.mono (by have := HR6.out.lt; omega))); clear h71 h72)
        | (go_at_call 27; refine (bd_string HR7.out).mono ?_; rintro e w8 ⟨rfl, hb8⟩; have HB8 := Lib.hid (HB7.out.trans (hb8.mono (by have := HR6.out.lt; omega))); clear hb8))
      go_ret
      exact ⟨S02.ret_str (by rw [HF.out]), HB8.out⟩
end Go.Proofs.YtcilhippjiichaaDoor
