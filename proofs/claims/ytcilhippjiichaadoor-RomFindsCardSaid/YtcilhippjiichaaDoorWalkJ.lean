/-
  What the reference's Text answers: the same lines. No condition but lengths.
-/
import Derived.Test.YtcilhippjiichaaDoorWalkI
import Derived.Deep.RegionHeld3
namespace Go.Proofs.YtcilhippjiichaaDoor
open Go.RowKit Go.Maps S02
theorem bx_drew {w v : World} {N k : Nat} {x y : Value} (h : v.cell? ⟨k, 0, none⟩ = some x ∧ v.cell? ⟨k, 1, none⟩ = some y ∧ k < v.heap.size ∧ N ≤ v.heap.size ∧ Hid (Below N w v)) : v.drew.cell? ⟨k, 0, none⟩ = some x ∧ v.drew.cell? ⟨k, 1, none⟩ = some y ∧ k < v.drew.heap.size ∧ N ≤ v.drew.heap.size ∧ Hid (Below N w v.drew) := by
  obtain ⟨c0, c1, hk, hN, hB⟩ := h
  exact ⟨c0, c1, hk, hN, Lib.hid hB.out.drew⟩
theorem bx_call {w v v' : World} {N k : Nat} {x y : Value} (h : v.cell? ⟨k, 0, none⟩ = some x ∧ v.cell? ⟨k, 1, none⟩ = some y ∧ k < v.heap.size ∧ N ≤ v.heap.size ∧ Hid (Below N w v)) (hb : Below v.heap.size v v') : v'.cell? ⟨k, 0, none⟩ = some x ∧ v'.cell? ⟨k, 1, none⟩ = some y ∧ k < v'.heap.size ∧ N ≤ v'.heap.size ∧ Hid (Below N w v') := by
  obtain ⟨c0, c1, hk, hN, hB⟩ := h
  exact ⟨(hb.cell hk).trans c0, (hb.cell hk).trans c1, Nat.lt_of_lt_of_le hk hb.size, Nat.le_trans hN hb.size, Lib.hid (hB.out.trans (hb.mono hN))⟩
theorem bx_end {w v : World} {N k : Nat} {x y : Value} (h : v.cell? ⟨k, 0, none⟩ = some x ∧ v.cell? ⟨k, 1, none⟩ = some y ∧ k < v.heap.size ∧ N ≤ v.heap.size ∧ Hid (Below N w v)) : Below N w v := h.2.2.2.2.out
theorem bx_of {w v : World} {N k : Nat} {x y : Value} {t : TypeId} (h : v.heap[k]? = some (.cells #[x, y] t (0, 0))) (hN : N ≤ v.heap.size) (hb : Below N w v) : v.cell? ⟨k, 0, none⟩ = some x ∧ v.cell? ⟨k, 1, none⟩ = some y ∧ k < v.heap.size ∧ N ≤ v.heap.size ∧ Hid (Below N w v) :=
  ⟨cell_of h rfl, cell_of h rfl, lt_of_heap h, hN, Lib.hid hb⟩
theorem sq_drew {w v : World} {N : Nat} {q : Addr} {x y u : Value} {t : TypeId} (h : v.cell? ⟨N, 1, none⟩ = some y ∧ v.cell? q = some u ∧ N ≤ v.heap.size ∧ Hid (v.heap[N]? = some (.cells #[x, y] t (0, 0))) ∧ Hid (Below N w v)) : v.drew.cell? ⟨N, 1, none⟩ = some y ∧ v.drew.cell? q = some u ∧ N ≤ v.drew.heap.size ∧ Hid (v.drew.heap[N]? = some (.cells #[x, y] t (0, 0))) ∧ Hid (Below N w v.drew) := by
  obtain ⟨c0, c1, hN, hI, hB⟩ := h
  exact ⟨c0, c1, hN, hI, Lib.hid hB.out.drew⟩
theorem sq_call {w v v' : World} {N : Nat} {q : Addr} {x y u : Value} {t : TypeId} (h : v.cell? ⟨N, 1, none⟩ = some y ∧ v.cell? q = some u ∧ N ≤ v.heap.size ∧ Hid (v.heap[N]? = some (.cells #[x, y] t (0, 0))) ∧ Hid (Below N w v)) (hb : Below v.heap.size v v') : v'.cell? ⟨N, 1, none⟩ = some y ∧ v'.cell? q = some u ∧ N ≤ v'.heap.size ∧ Hid (v'.heap[N]? = some (.cells #[x, y] t (0, 0))) ∧ Hid (Below N w v') := by
  obtain ⟨c0, c1, hN, hI, hB⟩ := h
  exact ⟨cell_below hb c0, cell_below hb c1, Nat.le_trans hN hb.size, Lib.hid ((hb.block _ (lt_of_heap hI.out)).trans hI.out), Lib.hid (hB.out.trans (hb.mono hN))⟩
theorem sq_end {w v : World} {N : Nat} {q : Addr} {x y u : Value} {t : TypeId} (h : v.cell? ⟨N, 1, none⟩ = some y ∧ v.cell? q = some u ∧ N ≤ v.heap.size ∧ Hid (v.heap[N]? = some (.cells #[x, y] t (0, 0))) ∧ Hid (Below N w v)) : v.heap[N]? = some (.cells #[x, y] t (0, 0)) ∧ Below N w v := ⟨h.2.2.2.1.out, h.2.2.2.2.out⟩
set_option maxHeartbeats 2000000 in
theorem rtext_no {w : World} {st : Int} {sv : Value} {l : List (Nat × List UInt8)} (hs : SgR w sv l) (hn : l.length ≤ 1000000) (hd : ∀ p ∈ l, p.1 < 4294967296 ∧ p.2.length ≤ 1000000) (h : RM.rt l ≠ 0) :
    Calls Tryd.prog 17 #[.agg #[.int .u32 st, sv]] w fun e w' => e = .returned (.string ⟨#[]⟩) ∧ Below w.heap.size w w' := by
  have HR := Lib.hid (fun (W : World) (hb : Below w.heap.size w W) => rright_any (st := st) (hs.below hb) hn hd)
  have h' : (RM.rt l == 0) = false := by simpa using h
  generalize RM.rt l = E at *
  obtain ⟨sa, sc, rfl⟩ := sv_form hs
  obtain ⟨n, hnn⟩ : ∃ n, l.length = n := ⟨_, rfl⟩
  rw [hnn] at hs HR ⊢
  obtain ⟨W0, hW0⟩ : ∃ W0, w.alloc (.cells #[.int .u32 st, .slice sa n sc] 25) = W0 := ⟨_, rfl⟩
  have HB0 := Lib.hid (show Below w.heap.size w W0 from hW0 ▸ below_one w _)
  have HI0 := Lib.hid (show W0.heap[w.heap.size]? = some (.cells #[.int .u32 st, .slice sa n sc] 25 (0, 0)) from hW0 ▸ heap_alloc_new w _)
  clear hs hn hd hnn h
  go_enter Tryd.func17, Tryd.ntmps17
  go_upto_region 1 with fail
  have c0 := cell_of (o := 0) HI0.out rfl
  have c1 := cell_of (o := 1) HI0.out rfl
  clear hW0
  go_wp2_with (go_at_call 15; refine (HR.out _ HB0.out).mono ?_; rintro e w2 ⟨rfl, hb2⟩; have HB2 := Lib.hid (HB0.out.trans (hb2.mono HB0.out.size)); clear hb2)
  go_ret
  exact ⟨rfl, HB2.out⟩
set_option maxRecDepth 100000 in
set_option maxHeartbeats 8000000 in
theorem rtext_yes {w : World} {st : Nat} {sv : Value} {l : List (Nat × List UInt8)} (hs : SgR w sv l) (hst : st < 4294967296) (h : RM.rt l = 0) :
    Calls Tryd.prog 17 #[.agg #[.int .u32 st, sv]] w fun e w' => e = .returned (.string ⟨(RM.tx st l).toArray⟩) ∧ Below w.heap.size w w' := by
  obtain ⟨hn, -, hd⟩ := RM.rt_open h
  have HR := Lib.hid (fun (W : World) (hb : Below w.heap.size w W) => rright_any (st := st) (hs.below hb) (by omega) (fun p hp => ⟨by have := (hd p hp).2; omega, by have := (hd p hp).2; omega⟩))
  rw [h] at HR
  obtain ⟨sa, sc, rfl⟩ := sv_form hs
  obtain ⟨n, hnn⟩ : ∃ n, l.length = n := ⟨_, rfl⟩
  rw [hnn] at hs HR hn ⊢
  have HG := Lib.hid hs
  have HD := Lib.hid hd
  have HN := Lib.hid hnn
  obtain ⟨W0, hW0⟩ : ∃ W0, w.alloc (.cells #[.int .u32 st, .slice sa n sc] 25) = W0 := ⟨_, rfl⟩
  have HB0 := Lib.hid (show Below w.heap.size w W0 from hW0 ▸ below_one w _)
  have HI0 := Lib.hid (show W0.heap[w.heap.size]? = some (.cells #[.int .u32 st, .slice sa n sc] 25 (0, 0)) from hW0 ▸ heap_alloc_new w _)
  clear hs hd hnn h
  go_enter Tryd.func17, Tryd.ntmps17
  go_upto_region 1 with fail
  have c0 := cell_of (o := 0) HI0.out rfl
  have c1 := cell_of (o := 1) HI0.out rfl
  clear hW0
  go_upto_region 3 with (go_at_call 15; refine (HR.out _ HB0.out).mono ?_; rintro e w2 ⟨rfl, hb2⟩; have HB2 := Lib.hid (HB0.out.trans (hb2.mono HB0.out.size)); have HI2 := Lib.hid ((hb2.block _ (lt_of_heap HI0.out)).trans HI0.out); clear hb2)
  clear c0 c1 HR HB0 HI0
  go_wp2
  go_loopw [3, 4] (fun ov i wr => ∃ (k : Nat) (T : ByteArray), k ≤ n ∧ i = .int .i64 k ∧ ov = .string T ∧ T.size ≤ 3500000 ∧ Hid (T.data.toList = RM.txs (l.take k)) ∧ Hid (Below w.heap.size w wr) ∧ Hid (wr.heap[w.heap.size]? = some (.cells #[.int .u32 st, .slice sa n sc] 25 (0, 0)))) (fun _ i _ => n - (intOf i).toNat)
  case atStart => exact ⟨0, _, by omega, rfl, rfl, by decide, Lib.hid rfl, HB2, HI2⟩
  case round =>
    obtain ⟨k, T, hk, rfl, rfl, hTs, hT, hB, hI⟩ := hrel
    clear HB2 HI2
    have c1 := cell_of (o := 1) hI.out rfl
    by_cases hlt : k < n
    · have hkl : k < l.length := by rw [HN.out]; exact hlt
      obtain ⟨⟨a, bs⟩, hp⟩ : ∃ p, l[k]? = some p := ⟨_, List.getElem?_eq_getElem hkl⟩
      obtain ⟨hb0, hbl⟩ := HD.out (a, bs) (List.mem_of_getElem? hp)
      simp only [] at hb0 hbl
      have HTK := Lib.hid (take_more hp)
      obtain ⟨g, o, rfl, z1, da, dc, z2, z3⟩ := sg_at HG.out hp
      obtain ⟨m, hm⟩ : ∃ m, bs.length = m := ⟨_, rfl⟩
      have hm0 : 0 < m := by rw [← hm]; exact List.length_pos_iff.mpr hb0
      have HM := Lib.hid hm
      rw [hm] at z2 z3 hbl
      have HZ3 := Lib.hid z3
      have HZ1 := Lib.hid z1
      have y2 := cell_below hB.out z2
      clear z1 z2 z3 hm hp hkl hb0
      have HA0n := Lib.hid (show (RM.txs (l.take k)).length ≤ 3500000 by rw [← hT.out, NM.len_eq]; exact hTs)
      have HLIM := Lib.hid (show (RM.txs (l.take (k + 1))).length ≤ 3500000 by
        have h1 := RM.txs_len (l.take (k + 1)) (fun p hp => by have := (HD.out p (List.mem_of_mem_take hp)).2; omega)
        rw [List.length_take, HN.out] at h1
        have : min (k + 1) n ≤ 64 := by omega
        omega)
      obtain ⟨A0, hA0⟩ : ∃ A0, RM.txs (l.take k) = A0 := ⟨_, rfl⟩
      rw [hA0] at hT HA0n
      have HA0 := Lib.hid hA0
      clear hA0
      go_wp2
      clear c1 y2
      go_loopw [3, 6] (fun ov f wx => ∃ (j f' : Nat) (T : ByteArray), Hid (f' = 16 * j) ∧ f' < m + 16 ∧ f = .int .i64 f' ∧ ov = .string T ∧ T.size ≤ 4500000 ∧ Hid (T.data.toList = A0 ++ RM.tx1 a bs j) ∧ Hid (Below w.heap.size w wx) ∧ Hid (wx.heap[w.heap.size]? = some (.cells #[.int .u32 st, .slice (some ⟨g, o, none⟩) n sc] 25 (0, 0)))) (fun _ f _ => m + 16 - (intOf f).toNat)
      case atStart => exact ⟨0, 0, T, Lib.hid rfl, by omega, rfl, rfl, by omega, by rw [show A0 ++ RM.tx1 a bs 0 = A0 from List.append_nil _]; exact hT, hB, hI⟩
      case round =>
        clear hT hB hI hTs
        obtain ⟨j, f, T', hj, hf, rfl, rfl, hTs, hT, hB, hI⟩ := hrel
        have c1 := cell_of (o := 1) hI.out rfl
        have y1 := cell_below hB.out HZ1.out
        by_cases hlf : (f : Int) < m
        · have hfm : f < bs.length := by rw [HM.out]; omega
          obtain ⟨g2, o2, rfl, -, hc1, hc2, hcell⟩ := by_at HZ3.out hfm
          rw [HM.out] at hc1
          clear hfm
          obtain ⟨t, ht⟩ : ∃ t : Nat, min (f + 16) m = t := ⟨_, rfl⟩
          have ht1 : f < t := by omega
          have ht2 : t ≤ m := by omega
          have ht3 : f ≤ t := by omega
          have ht4 : t ≤ dc := by omega
          have hcf : ¬ dc = f := by omega
          have HCU := Lib.hid (by_cut hcell HM.out hc1 hc2 (show f < m by omega) ht.symm)
          unfold maxLen at hc2
          have HAI := Lib.hid (show IntKind.u32.wrap ((a : Int) + IntKind.u32.wrap f) = ((a + f : Nat) : Int) by rw [IntKind.wrap_u32, IntKind.wrap_u32]; omega)
          have hcut0 : (bs.drop f).take 16 ≠ [] := fun e => by
            have := congrArg List.length e
            rw [List.length_take, List.length_drop, HM.out] at this
            simp at this
            omega
          have HWR := Lib.hid (fun (W : World) (hb : Below w.heap.size w W) (Wd : ByteArray) (hw : Wd.size ≤ 3) => rline_any Wd (a + f) (HCU.out.below hb) hcut0 (by omega) (by omega) (by rw [List.length_take]; omega))
          have HLN := Lib.hid (show (A0 ++ RM.tx1 a bs (j + 1)).length ≤ 4500000 by
            have := RM.tx1_len a bs (j + 1)
            have h1 := HA0n.out
            have h2 := hj.out
            rw [List.length_append]; omega)
          have hWd : ∃ Wd : ByteArray, ((j = 0 ∧ Wd = ⟨#[115, 101, 103]⟩) ∨ (¬ j = 0 ∧ Wd = ⟨#[97, 110, 100]⟩)) ∧ Wd.size ≤ 3 ∧ Wd.data.toList = if j = 0 then RM.wSeg else RM.wAnd := by
            by_cases h : j = 0
            · exact ⟨_, .inl ⟨h, rfl⟩, by decide, by rw [if_pos h]; rfl⟩
            · exact ⟨_, .inr ⟨h, rfl⟩, by decide, by rw [if_neg h]; rfl⟩
          obtain ⟨Wd, hcase, hWs, hWL⟩ := hWd
          have HL := Lib.hid (show RM.tx1 a bs (j + 1) = RM.tx1 a bs j ++ RM.line Wd.data.toList (a + f) ((bs.drop f).take 16) by rw [RM.tx1, ← hj.out, hWL])
          obtain ⟨Y, hY, hY1, hY2⟩ := bt_of (RM.line Wd.data.toList (a + f) ((bs.drop f).take 16))
          have HW2 := Lib.hid (fun (W : World) (hb : Below w.heap.size w W) => HWR.out W hb Wd hWs)
          rw [hY] at HW2
          rw [← hY1] at HL
          have hY3 : Y.size ≤ 60 := by
            rw [hY2]
            have := RM.line_len Wd.data.toList (a + f) ((bs.drop f).take 16) (by rw [NM.len_eq]; omega) (by rw [List.length_take]; omega)
            omega
          have HC2 := Lib.hid (cat_eq hT.out (show Y.data.toList = Y.data.toList from rfl))
          have HSZ := Lib.hid (show (T' ++ Y).size ≤ 4500000 by
            rw [← NM.len_eq, HC2.out, List.append_assoc, ← HL.out]; exact HLN.out)
          have hf0 : ∀ _ : j = 0, ((f : Int) == 0) = true := fun h => by have := hj.out; simp; omega
          have hf1 : ∀ _ : ¬ j = 0, ((f : Int) == 0) = false := fun h => by have := hj.out; simp; omega
          clear hcell hY hY1 hY2 HWR hWs hWL hcut0
          rcases hcase with ⟨hj0, rfl⟩ | ⟨hj0, rfl⟩
          · have hf0 := hf0 hj0
            clear hf1 hj0
            by_cases hmn : (m : Int) < f + 16
            · have HTM := Lib.hid (show (Value.int .i64 (m : Int)) = .int .i64 (t : Int) from congrArg _ (by omega))
              clear ht
              have HSQ := Lib.hid (show wr.cell? ⟨w.heap.size, 1, none⟩ = some (.slice (some ⟨g, o, none⟩) n sc) ∧ wr.cell? ⟨g, o + k * 2, none⟩ = some (.int .u32 a) ∧ w.heap.size ≤ wr.heap.size ∧ Hid (wr.heap[w.heap.size]? = some (.cells #[.int .u32 st, .slice (some ⟨g, o, none⟩) n sc] 25 (0, 0))) ∧ Hid (Below w.heap.size w wr) from ⟨c1, y1, hB.out.size, hI, hB⟩)
              have hcat : ¬ 9223372036854775807 < T'.size + Y.size := by omega
              go_upto_region 17 with fail
              rw [HTM.out]
              clear hB hI c1 y1
              go_region_held3 (fun v => v.cell? ⟨w.heap.size, 1, none⟩ = some (.slice (some ⟨g, o, none⟩) n sc) ∧ v.cell? ⟨g, o + k * 2, none⟩ = some (.int .u32 a) ∧ w.heap.size ≤ v.heap.size ∧ Hid (v.heap[w.heap.size]? = some (.cells #[.int .u32 st, .slice (some ⟨g, o, none⟩) n sc] 25 (0, 0))) ∧ Hid (Below w.heap.size w v)) (first | exact sq_drew HSQ.out | (exact sq_call (sq_drew HSQ.out) hb4))
                (first | (go_at_call 28; rw [HAI.out]; refine (HW2.out _ (sq_end (sq_drew HSQ.out)).2).mono ?_; rintro e w4 ⟨rfl, hb4⟩))
              rename_i hHeld
              obtain ⟨q1, q2⟩ := sq_end hHeld
              have HQ1 := Lib.hid q1
              have HQ2 := Lib.hid q2
              clear q1 q2 hHeld hb4
              go_wp2
              go_roundw
              case rel => exact ⟨j + 1, f + 16, _, Lib.hid (by have := hj.out; omega), by omega, by go_num, rfl, HSZ.out, Lib.hid (by rw [HC2.out, List.append_assoc, ← HL.out]), HQ2, HQ1⟩
              case measure => simp [intOf]; omega
            · have HTM := Lib.hid (show (Value.int .i64 ((f : Int) + 16)) = .int .i64 (t : Int) from congrArg _ (by omega))
              clear ht
              have HSQ := Lib.hid (show wr.cell? ⟨w.heap.size, 1, none⟩ = some (.slice (some ⟨g, o, none⟩) n sc) ∧ wr.cell? ⟨g, o + k * 2, none⟩ = some (.int .u32 a) ∧ w.heap.size ≤ wr.heap.size ∧ Hid (wr.heap[w.heap.size]? = some (.cells #[.int .u32 st, .slice (some ⟨g, o, none⟩) n sc] 25 (0, 0))) ∧ Hid (Below w.heap.size w wr) from ⟨c1, y1, hB.out.size, hI, hB⟩)
              have hcat : ¬ 9223372036854775807 < T'.size + Y.size := by omega
              go_upto_region 17 with fail
              rw [HTM.out]
              clear hB hI c1 y1
              go_region_held3 (fun v => v.cell? ⟨w.heap.size, 1, none⟩ = some (.slice (some ⟨g, o, none⟩) n sc) ∧ v.cell? ⟨g, o + k * 2, none⟩ = some (.int .u32 a) ∧ w.heap.size ≤ v.heap.size ∧ Hid (v.heap[w.heap.size]? = some (.cells #[.int .u32 st, .slice (some ⟨g, o, none⟩) n sc] 25 (0, 0))) ∧ Hid (Below w.heap.size w v)) (first | exact sq_drew HSQ.out | (exact sq_call (sq_drew HSQ.out) hb4))
                (first | (go_at_call 28; rw [HAI.out]; refine (HW2.out _ (sq_end (sq_drew HSQ.out)).2).mono ?_; rintro e w4 ⟨rfl, hb4⟩))
              rename_i hHeld
              obtain ⟨q1, q2⟩ := sq_end hHeld
              have HQ1 := Lib.hid q1
              have HQ2 := Lib.hid q2
              clear q1 q2 hHeld hb4
              go_wp2
              go_roundw
              case rel => exact ⟨j + 1, f + 16, _, Lib.hid (by have := hj.out; omega), by omega, by go_num, rfl, HSZ.out, Lib.hid (by rw [HC2.out, List.append_assoc, ← HL.out]), HQ2, HQ1⟩
              case measure => simp [intOf]; omega
          · have hf1 := hf1 hj0
            clear hf0 hj0
            by_cases hmn : (m : Int) < f + 16
            · have HTM := Lib.hid (show (Value.int .i64 (m : Int)) = .int .i64 (t : Int) from congrArg _ (by omega))
              clear ht
              have HSQ := Lib.hid (show wr.cell? ⟨w.heap.size, 1, none⟩ = some (.slice (some ⟨g, o, none⟩) n sc) ∧ wr.cell? ⟨g, o + k * 2, none⟩ = some (.int .u32 a) ∧ w.heap.size ≤ wr.heap.size ∧ Hid (wr.heap[w.heap.size]? = some (.cells #[.int .u32 st, .slice (some ⟨g, o, none⟩) n sc] 25 (0, 0))) ∧ Hid (Below w.heap.size w wr) from ⟨c1, y1, hB.out.size, hI, hB⟩)
              have hcat : ¬ 9223372036854775807 < T'.size + Y.size := by omega
              go_upto_region 17 with fail
              rw [HTM.out]
              clear hB hI c1 y1
              go_region_held3 (fun v => v.cell? ⟨w.heap.size, 1, none⟩ = some (.slice (some ⟨g, o, none⟩) n sc) ∧ v.cell? ⟨g, o + k * 2, none⟩ = some (.int .u32 a) ∧ w.heap.size ≤ v.heap.size ∧ Hid (v.heap[w.heap.size]? = some (.cells #[.int .u32 st, .slice (some ⟨g, o, none⟩) n sc] 25 (0, 0))) ∧ Hid (Below w.heap.size w v)) (first | exact sq_drew HSQ.out | (exact sq_call (sq_drew HSQ.out) hb4))
                (first | (go_at_call 28; rw [HAI.out]; refine (HW2.out _ (sq_end (sq_drew HSQ.out)).2).mono ?_; rintro e w4 ⟨rfl, hb4⟩))
              rename_i hHeld
              obtain ⟨q1, q2⟩ := sq_end hHeld
              have HQ1 := Lib.hid q1
              have HQ2 := Lib.hid q2
              clear q1 q2 hHeld hb4
              go_wp2
              go_roundw
              case rel => exact ⟨j + 1, f + 16, _, Lib.hid (by have := hj.out; omega), by omega, by go_num, rfl, HSZ.out, Lib.hid (by rw [HC2.out, List.append_assoc, ← HL.out]), HQ2, HQ1⟩
              case measure => simp [intOf]; omega
            · have HTM := Lib.hid (show (Value.int .i64 ((f : Int) + 16)) = .int .i64 (t : Int) from congrArg _ (by omega))
              clear ht
              have HSQ := Lib.hid (show wr.cell? ⟨w.heap.size, 1, none⟩ = some (.slice (some ⟨g, o, none⟩) n sc) ∧ wr.cell? ⟨g, o + k * 2, none⟩ = some (.int .u32 a) ∧ w.heap.size ≤ wr.heap.size ∧ Hid (wr.heap[w.heap.size]? = some (.cells #[.int .u32 st, .slice (some ⟨g, o, none⟩) n sc] 25 (0, 0))) ∧ Hid (Below w.heap.size w wr) from ⟨c1, y1, hB.out.size, hI, hB⟩)
              have hcat : ¬ 9223372036854775807 < T'.size + Y.size := by omega
              go_upto_region 17 with fail
              rw [HTM.out]
              clear hB hI c1 y1
              go_region_held3 (fun v => v.cell? ⟨w.heap.size, 1, none⟩ = some (.slice (some ⟨g, o, none⟩) n sc) ∧ v.cell? ⟨g, o + k * 2, none⟩ = some (.int .u32 a) ∧ w.heap.size ≤ v.heap.size ∧ Hid (v.heap[w.heap.size]? = some (.cells #[.int .u32 st, .slice (some ⟨g, o, none⟩) n sc] 25 (0, 0))) ∧ Hid (Below w.heap.size w v)) (first | exact sq_drew HSQ.out | (exact sq_call (sq_drew HSQ.out) hb4))
                (first | (go_at_call 28; rw [HAI.out]; refine (HW2.out _ (sq_end (sq_drew HSQ.out)).2).mono ?_; rintro e w4 ⟨rfl, hb4⟩))
              rename_i hHeld
              obtain ⟨q1, q2⟩ := sq_end hHeld
              have HQ1 := Lib.hid q1
              have HQ2 := Lib.hid q2
              clear q1 q2 hHeld hb4
              go_wp2
              go_roundw
              case rel => exact ⟨j + 1, f + 16, _, Lib.hid (by have := hj.out; omega), by omega, by go_num, rfl, HSZ.out, Lib.hid (by rw [HC2.out, List.append_assoc, ← HL.out]), HQ2, HQ1⟩
              case measure => simp [intOf]; omega
        · have hlf' : decide (f < m) = false := by simp; omega
          have HF := Lib.hid (show RM.txs (l.take (k + 1)) = A0 ++ RM.tx1 a bs j by
            rw [HTK.out, RM.txs_snoc, HA0.out]
            simp only [HM.out]
            rw [show (m + 15) / 16 = j by have := hj.out; omega])
          have HSZ := Lib.hid (show T'.size ≤ 3500000 by rw [← NM.len_eq, hT.out, ← HF.out]; exact HLIM.out)
          clear hlf y1
          go_wp2
          go_roundw
          case rel => exact ⟨k + 1, _, by omega, by go_num, rfl, HSZ.out, by rw [HF.out]; exact hT, hB, hI⟩
          case measure => simp [intOf]; omega
    · have hlt' : decide (k < n) = false := by simpa using hlt
      obtain rfl : k = n := by omega
      have HF := Lib.hid (show RM.tx st l = RM.txs (l.take k) ++ RM.line RM.wStart st [] by rw [List.take_of_length_le (by rw [HN.out]; omega)]; rfl)
      have HBX := Lib.hid (bx_of hI.out hB.out.size hB.out)
      have hsm := RM.sm_lt st []
      obtain ⟨X, hX, hX1, hX2⟩ := bt_of (NM.hxs st 8)
      obtain ⟨S, hS, hS1, hS2⟩ := bt_of (NM.hxs (RM.sm st []) 2)
      rw [NM.hxs_len] at hX2 hS2
      have HHX := Lib.hid (fun W => rhexs_any st W hst)
      have HSO := Lib.hid (fun (W : World) => rsumOf_any (w := W) (a := st) (v := .slice none 0 0) (bs := []) (.inl ⟨rfl, _, _, rfl⟩) hst (by simp))
      have HTW := Lib.hid (fun W => two_any (RM.sm st []) W hsm)
      rw [hX] at HHX
      rw [hS] at HTW
      have hXs : X.size ≤ 8 := by omega
      have hSs : S.size ≤ 2 := by omega
      have HL := Lib.hid (show RM.line RM.wStart st [] = [115, 116, 97, 114, 116, 32] ++ (NM.hxs st 8 ++ ([32] ++ (NM.hxs (RM.sm st []) 2 ++ [10]))) by unfold RM.line RM.px RM.wStart; rw [if_pos rfl]; simp only [List.append_assoc, List.nil_append, List.cons_append])
      have HX1 := Lib.hid hX1
      have HS1 := Lib.hid hS1
      clear hX hX1 hX2 hS hS1 hS2 hsm hlt
      generalize RM.sm st [] = sum at *
      have hq1 : ¬ 9223372036854775807 < T.size + 6 := by omega
      have hq2 : ¬ 9223372036854775807 < T.size + 6 + X.size := by omega
      have hq3 : ¬ 9223372036854775807 < T.size + 6 + X.size + 1 := by omega
      have hq4 : ¬ 9223372036854775807 < T.size + 6 + X.size + 1 + S.size := by omega
      have hq5 : ¬ 9223372036854775807 < T.size + 6 + X.size + 1 + S.size + 1 := by omega
      go_wp2_with fail
      clear c1
      clear hB hI
      go_region_held3 (fun v => v.cell? ⟨w.heap.size, 0, none⟩ = some (.int .u32 st) ∧ v.cell? ⟨w.heap.size, 1, none⟩ = some (.slice sa k sc) ∧ w.heap.size < v.heap.size ∧ w.heap.size ≤ v.heap.size ∧ Hid (Below w.heap.size w v)) (first | exact bx_drew HBX.out | (refine bx_call ?_ hb7; first | assumption | exact bx_drew HBX.out) | (refine bx_call ?_ hb6; first | assumption | exact bx_drew HBX.out) | (refine bx_call ?_ hb5; first | assumption | exact bx_drew HBX.out))
        (first | (go_at_call 29; refine (HHX.out _).mono ?_; rintro e w5 ⟨rfl, hb5⟩) | (go_at_call 31; refine (HSO.out _).mono ?_; rintro e w6 ⟨rfl, hb6⟩) | (go_at_call 30; refine (HTW.out _).mono ?_; rintro e w7 ⟨rfl, hb7⟩))
      all_goals
        rename_i hHeld
        have HE := Lib.hid (bx_end hHeld)
        clear hHeld
        go_wp2
        go_ret
        exact ⟨S02.ret_str (by rw [HF.out, HL.out]; simp only [NM.data_app, hT.out, HX1.out, HS1.out, List.append_assoc]), HE.out⟩
end Go.Proofs.YtcilhippjiichaaDoor
