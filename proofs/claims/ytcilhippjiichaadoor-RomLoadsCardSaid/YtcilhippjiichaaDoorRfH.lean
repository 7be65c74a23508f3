/-
  What the reference's Parse answers. No condition but the text's length.
-/
import Derived.Test.YtcilhippjiichaaDoorGi
namespace Go.Proofs.YtcilhippjiichaaDoor
open Go.RowKit Go.Maps S02
set_option maxHeartbeats 16000000 in
set_option maxRecDepth 100000 in
theorem rparse_good (s : ByteArray) (w : World) (hs : s.size ≤ 1000000) (he : NM.lE s.data.toList = 0) : Calls Tryd.prog 21 #[.string s] w (PsPost w s.data.toList) := by
  have HP := Lib.hid (show RM.PA s.data.toList = RM.PL (NM.lL s.data.toList) 0 0 0 0 [] 0 by unfold RM.PA; rw [if_pos he])
  have HL := Lib.hid (fun W => rlines_any s W hs)
  rw [he] at HL
  obtain ⟨-, hal, hax⟩ := RM.lL_short he
  have HQ0 := Lib.hid (show ∃ s2, QP s.data.toList (NM.lL s.data.toList) 0 [] 0 0 0 0 [] s2 from ⟨⟨#[]⟩, HP.out, rfl, rfl, RM.PI.new⟩)
  obtain ⟨acc, hacc⟩ : ∃ acc, NM.lL s.data.toList = acc := ⟨_, rfl⟩
  rw [hacc] at HL HQ0 hal hax
  have HX := Lib.hid hax
  clear hacc hax HP he hs
  have HR := Lib.hid (show (w.alloc (.cells #[.int .u32 0, .slice none 0 0] 25)).heap[w.heap.size]? = some (.cells #[.int .u32 0, .slice none 0 0] 25 (0, 0)) from heap_alloc_new w _)
  have HB := Lib.hid (below_one w (.cells #[.int .u32 0, .slice none 0 0] 25))
  obtain ⟨W0, hW0⟩ : ∃ W0, w.alloc (.cells #[.int .u32 0, .slice none 0 0] 25) = W0 := ⟨_, rfl⟩
  rw [hW0] at HR HB
  obtain ⟨ti, HI⟩ := info_parts seg_info
  have HI := Lib.hid HI
  go_enter Tryd.func21, Tryd.ntmps21
  go_upto_region 1 with fail
  clear hW0
  go_upto_region 2 with (go_at_call 35; refine (HL.out _).mono ?_; rintro e w2 ⟨rv, rfl, hr2⟩; have HRW := Lib.hid hr2; clear hr2)
  have HZ0 := Lib.hid (RZ.new HR.out HB.out HRW.out)
  obtain ⟨A, c, hrv⟩ := own_form HRW.out.1
  subst hrv
  clear HRW HR HL
  obtain ⟨I, hI⟩ : ∃ I, w2.heap.size = I := ⟨_, rfl⟩
  rw [hI] at HZ0
  have HII := Lib.hid hI
  clear hI
  go_upto_region 6 with fail
  rw [HII.out]
  obtain ⟨W4, hW4⟩ : ∃ W4, (w2.alloc (.cells #[.int .u32 0, .slice none 0 0] 25)).alloc (.cells #[.int .i64 0, .int .u32 0, .slice none 0 0, .int .u8 0] 77) = W4 := ⟨_, rfl⟩
  rw [hW4] at HZ0 ⊢
  clear hW4
  obtain ⟨n, hn⟩ : ∃ n, acc.length = n := ⟨_, rfl⟩
  rw [hn] at hal
  have HN := Lib.hid hn
  rw [hn]
  clear hn
  go_wp2
  go_loopw [9] (fun i wr => ∃ (k kl al nl st : Nat) (l : List (Nat × List UInt8)) (sv : Value) (ps : List (Nat × Value × List UInt8)) (A2 : Option Addr) (c2 m2 : Nat), k ≤ n ∧ i = .int .i64 k ∧ Hid (RZ w wr w.heap.size I (I + 1) (.slice A n c) acc st sv ps kl al nl A2 c2 m2) ∧ Hid (∃ s2, QP s.data.toList acc k l st kl al nl ps s2)) (fun i _ => n - (intOf i).toNat)
  case atStart => exact ⟨0, 0, 0, 0, 0, [], .slice none 0 0, [], none, 0, 0, by omega, rfl, by rw [← HN.out]; exact HZ0, HQ0⟩
  case round =>
    obtain ⟨k, kl, al, nl, st, l, sv, ps, A2, c2, m2, hk, rfl, hZ, hQ⟩ := hrel
    obtain ⟨s2, hQ⟩ := hQ.out
    have hQ := Lib.hid hQ
    by_cases hlt : k < n
    · have hkl : k < acc.length := by rw [HN.out]; exact hlt
      obtain ⟨-, g, rfl, hc⟩ := row_at hZ.out.row (by omega)
      have z0 := hc k hkl
      obtain ⟨t, ht⟩ : ∃ t, acc.getD k [] = t := ⟨_, rfl⟩
      have htl : t.length ≤ 65536 := by
        rw [← ht, List.getD_eq_getElem?_getD, List.getElem?_eq_getElem hkl]
        exact HX.out _ (List.getElem_mem hkl)
      rw [ht] at z0
      have HT0 := Lib.hid ht
      obtain ⟨S, hS, hST, hSL⟩ := bt_of t
      rw [NM.tv, hS] at z0
      have HRD0 := Lib.hid (read_any S wr (by omega))
      rw [hST] at HRD0
      have HKL := Lib.hid hkl
      have HRRD := Lib.hid (RM.rrd_eq t)
      clear hkl hc ht htl hS hST hSL hk
      obtain ⟨sa, sc, rfl⟩ := own_form hZ.out.sg.own
      obtain ⟨m, hmm⟩ : ∃ m, ps.length = m := ⟨_, rfl⟩
      rw [hmm] at hZ
      have hm64 : m ≤ 64 := by rw [← hmm]; exact hQ.out.small
      cases hr : RM.rd t with
      | none =>
        have HE := Lib.hid (show RM.PA s.data.toList = ([], 0, k + 1, 2) by rw [hQ.out.bad HKL.out (by rw [HT0.out, RM.lnE_none hr]; decide), HT0.out, RM.lnE_none hr])
        have HRD := Lib.hid (HRD0.out.mono fun e w' h => (show ∃ (A : Option Addr) (c : Nat), e = .returned (.agg #[.int .i64 0, .int .u32 0, .slice none 0 0, .int .u8 0]) ∧ Below wr.heap.size wr w' ∧ True from ⟨none, 0, (by
          obtain ⟨-, h | h⟩ := h
          · exact h.2
          · obtain ⟨x, v, hx, -⟩ := h
            rw [HRRD.out, hr] at hx
            cases hx), h.1, trivial⟩))
        have HMORE := Lib.hid (fun (W : World) (sv : Value) (h : SG w.heap.size W sv ps) => (show Calls Tryd.prog 37 #[.agg #[.int .u32 st, sv], .agg #[.int .i64 kl, .int .u32 al, .slice A2 nl c2, .int .u8 m2], .agg #[.int .i64 0, .int .u32 0, .slice none 0 0, .int .u8 0]] W fun e w' => e = .returned (.int .i64 2) ∧ Below W.heap.size W w' by
          have := more_none (st := st) (cl := c2) (ml := m2) (AL := A2) hQ.out.pi (SgR.of_sg h hQ.out.sp) hr
          rw [RM.lnE_none hr] at this
          exact this))
        clear hr HRD0 hmm
        go_upto_region 10 with (go_at_call 36; refine HRD.out.mono ?_; rintro e w5 ⟨A, c5, rfl, hb5, -⟩; have HZ6 := Lib.hid ((hZ.out.kept hb5).kept (below_one w5 (.cells #[.int .i64 0, .int .u32 0, .slice none 0 0, .int .u8 0] 77))); have HTT := Lib.hid (heap_alloc_new w5 (.cells #[.int .i64 0, .int .u32 0, .slice none 0 0, .int .u8 0] 77)); clear hb5)
        obtain ⟨W6, hW6⟩ : ∃ W6, w5.alloc (.cells #[.int .i64 0, .int .u32 0, .slice none 0 0, .int .u8 0] 77) = W6 := ⟨_, rfl⟩
        obtain ⟨T, hT⟩ : ∃ T, w5.heap.size = T := ⟨_, rfl⟩
        rw [hW6, hT] at HTT
        rw [hW6] at HZ6 ⊢
        rw [hT]
        clear hW6 hT z0
        obtain ⟨⟨q0, q1, q2, q3⟩, ⟨i0, i1⟩, -, -, -, -⟩ := HZ6.out.cells
        have t0 := cell_of (o := 0) HTT.out rfl
        have t1 := cell_of (o := 1) HTT.out rfl
        have t2 := cell_of (o := 2) HTT.out rfl
        have t3 := cell_of (o := 3) HTT.out rfl
        have HMO := Lib.hid (HMORE.out W6 _ HZ6.out.sg)
        go_upto_region 11 with (go_at_call 37; refine HMO.out.mono ?_; rintro e w7 ⟨rfl, hb7⟩; have HZ7 := Lib.hid (HZ6.out.kept hb7); clear hb7)
        clear q0 q1 q2 q3 i0 i1 t0 t1 t2 t3 HZ6 HTT
        obtain ⟨-, -, ⟨r0, r1⟩, -, -, rf⟩ := HZ7.out.cells
        go_wp2
        refine bodyPost_ret (v := .tuple #[.agg #[.int .u32 0, .slice none 0 0], .int .i64 ((k + 1 : Nat) : Int), .int .i64 2]) (by simp [results, Tryd.results21, go_sem, r0, r1]) rfl ?_
        exact PsPost.bad HE.out (HZ7.out.done _ _).1
      | some x =>
        obtain ⟨xk, xa, xb, xs⟩ := x
        have HOK := Lib.hid (RM.rd_some.1 hr).1
        obtain ⟨nb, hnb⟩ : ∃ nb, xb.length = nb := ⟨_, rfl⟩
        have HRD := Lib.hid (HRD0.out.mono fun e w' h => (show ∃ (A : Option Addr) (c : Nat), e = .returned (.agg #[.int .i64 xk, .int .u32 xa, .slice A nb c, .int .u8 xs]) ∧ Below wr.heap.size wr w' ∧ w'.ownsRow wr.heap.size 5 1 (.slice A nb c) xb.length (byC xb) by
          obtain ⟨hb, h | h⟩ := h
          · have := h.1
            rw [HRRD.out, hr] at this
            cases this
          · obtain ⟨y, v, hy, he, ho⟩ := h
            rw [HRRD.out, hr] at hy
            injection hy with hy
            subst hy
            obtain ⟨A, c, rfl⟩ := own_form ho
            exact ⟨A, c, by rw [he, rwV, ← hnb], hb, by rw [← hnb]; exact ho⟩))
        obtain ⟨E, hE⟩ : ∃ E, RM.lnE kl al nl l t = E := ⟨_, rfl⟩
        have HMORE := Lib.hid (fun (W : World) (A : Option Addr) (c : Nat) (sv : Value) (h : SG w.heap.size W sv ps) (hv : W.ownsRow wr.heap.size 5 1 (.slice A nb c) xb.length (byC xb)) => (show Calls Tryd.prog 37 #[.agg #[.int .u32 st, sv], .agg #[.int .i64 kl, .int .u32 al, .slice A2 nl c2, .int .u8 m2], .agg #[.int .i64 xk, .int .u32 xa, .slice A nb c, .int .u8 xs]] W fun e w' => e = .returned (.int .i64 E) ∧ Below W.heap.size W w' by
          have := more_some (x := ⟨xk, xa, xb, xs⟩) (v := .slice A nb c) (st := st) (cl := c2) (ml := m2) (AL := A2) hQ.out.pi (SgR.of_sg h hQ.out.sp) hr (ByR.of_own hv)
          rw [hE] at this
          exact this))
        have HRR := Lib.hid hr
        have HNB := Lib.hid hnb
        have HEE := Lib.hid hE
        have HMM := Lib.hid hmm
        clear hr hnb hE HRD0 hmm
        by_cases hE0 : E = 0
        · subst hE0
          have HSEP := Lib.hid (fun (A : Option Addr) (c : Nat) (W : World) (ho : W.ownsRow wr.heap.size 5 1 (.slice A nb c) xb.length (byC xb)) => (show ∀ j, (Value.slice A nb c).ownBlock = some j → ∀ p ∈ ps, p.2.1.ownBlock ≠ some j from fun j hj p hp e => by
            have h1 := (own_lt (hZ.out.sg.dat p hp) e).2.1
            have h2 := (own_lt ho hj).1
            omega))
          have HOLD := Lib.hid hZ.out.old.size
          have hxa := HOK.out.2.1
          have hxs := HOK.out.2.2.1
          simp only [] at hxa hxs
          rcases HOK.out.1 with hxk | hxk | hxk
          · simp only [] at hxk
            subst hxk
            go_upto_region 10 with (go_at_call 36; refine HRD.out.mono ?_; rintro e w5 ⟨A, c5, rfl, hb5, ho5⟩; have HZ6 := Lib.hid ((hZ.out.kept hb5).kept (below_one w5 (.cells #[.int .i64 1, .int .u32 xa, .slice A nb c5, .int .u8 xs] 77))); have HTT := Lib.hid (heap_alloc_new w5 (.cells #[.int .i64 1, .int .u32 xa, .slice A nb c5, .int .u8 xs] 77)); have HO6 := Lib.hid (own_blk ho5 (below_one w5 (.cells #[.int .i64 1, .int .u32 xa, .slice A nb c5, .int .u8 xs] 77))); have HTI := Lib.hid (show I ≠ w5.heap.size ∧ I + 1 ≠ w5.heap.size from ⟨Nat.ne_of_lt (lt_of_heap (hZ.out.kept hb5).iz), Nat.ne_of_lt (lt_of_heap (hZ.out.kept hb5).lz)⟩); clear hb5 ho5)
            obtain ⟨W6, hW6⟩ : ∃ W6, w5.alloc (.cells #[.int .i64 1, .int .u32 xa, .slice A nb c5, .int .u8 xs] 77) = W6 := ⟨_, rfl⟩
            obtain ⟨T, hT⟩ : ∃ T, w5.heap.size = T := ⟨_, rfl⟩
            rw [hW6, hT] at HTT
            rw [hW6] at HZ6 HO6 ⊢
            rw [hT] at HTI ⊢
            clear hW6 hT z0
            obtain ⟨⟨q0, q1, q2, q3⟩, ⟨i0, i1⟩, -, -, -, -⟩ := HZ6.out.cells
            have t0 := cell_of (o := 0) HTT.out rfl
            have t1 := cell_of (o := 1) HTT.out rfl
            have t2 := cell_of (o := 2) HTT.out rfl
            have t3 := cell_of (o := 3) HTT.out rfl
            have HMO := Lib.hid (HMORE.out W6 A c5 _ HZ6.out.sg HO6.out)
            go_upto_region 11 with (go_at_call 37; refine HMO.out.mono ?_; rintro e w7 ⟨rfl, hb7⟩; have HZ7 := Lib.hid (HZ6.out.kept hb7); have HTT7 := Lib.hid ((hb7.block _ (lt_of_heap HTT.out)).trans HTT.out); have HO7 := Lib.hid (own_blk HO6.out hb7); clear hb7)
            clear q0 q1 q2 q3 i0 i1 t0 t1 t2 t3 HZ6 HTT HO6
            have HOW := Lib.hid (show w7.ownsRow w.heap.size 51 2 (.slice sa m sc) m (sgC ps) by
              have := HZ7.out.sg.own
              rw [HMM.out] at this
              exact this)
            have HSZ7 := Lib.hid HZ7.out.sz
            obtain ⟨-, ⟨i0, i1⟩, -, -, -, -⟩ := HZ7.out.cells
            have t0 := cell_of (o := 0) HTT7.out rfl
            have t1 := cell_of (o := 1) HTT7.out rfl
            have t2 := cell_of (o := 2) HTT7.out rfl
            have t3 := cell_of (o := 3) HTT7.out rfl
            go_upto_region 15 with (at_builtin; refine wpList_append_lies _ rfl _ _ 23 rfl w.heap.size 51 ti (.agg #[.int .u32 0, .slice none 0 0]) 2 32 Tryd.underlying23 HI.out.1 HI.out.2.1 HI.out.2.2.1 HI.out.2.2.2 rfl (by decide) (.slice sa m sc) m (sgC ps) rfl (HOW.out.alloc _) ⟨_, 0, none⟩ 1 1 [.int .u32 xa, .slice A nb c5] rfl rfl (two_new _ _ _ _) (seg_one _ _ _ _) (by decide) (by unfold maxLen; omega) (by omega) (by have := HSZ7.out; simp; omega) _ rfl ?_; intro g1 cap w1 ho1 hg1 hv1 hl1; have HG := Lib.hid ((HZ7.out.sg.below (below_one w7 (.cells #[.int .u32 xa, .slice A nb c5] 51))).seg hg1 (by rw [HMM.out]; exact ho1) (own_base (own_blk HO7.out (below_one w7 _)) HOLD.out) (HSEP.out _ _ _ HO7.out)); have HK1 := Lib.hid ((Kp.of (below_one w7 (.cells #[.int .u32 xa, .slice A nb c5] 51)) HSZ7.out).trans (Kp.grown hg1 (HOW.out.alloc _) (.inl rfl) (Nat.le_trans HSZ7.out (below_one w7 _).size))); have j1 := cell_of (o := 1) (HK1.out.heap HZ7.out.iz (by decide) (by decide)) rfl; have jf : ∀ o, w1.frozen? ⟨I, o, none⟩ = false := fun o => unfrozen (HK1.out.heap HZ7.out.iz (by decide) (by decide)); clear ho1 hg1 hv1 hl1)
            have HZ8 := Lib.hid (HZ7.out.im HK1.out HG.out)
            have HTT8 := Lib.hid (show (w1.setCell ⟨I, 1, none⟩ (.slice (some ⟨g1, 0, none⟩) (m + 1) cap)).heap[T]? = some (.cells #[.int .i64 1, .int .u32 xa, .slice A nb c5, .int .u8 xs] 77 (0, 0)) from (heap_other HTI.out.1.symm).trans (HK1.out.heap HTT7.out (by decide) (by decide)))
            have HQA := Lib.hid (show ∃ s2, QP s.data.toList acc (k + 1) (RM.ad ⟨1, xa, xb, xs⟩ l) st 1 xa nb (ps ++ [(xa, .slice A nb c5, xb)]) s2 from ⟨⟨(RM.wdK 1).toArray⟩, by
              have h := hQ.out.next (x := ⟨1, xa, xb, xs⟩) (ps' := ps ++ [(xa, .slice A nb c5, xb)]) (s' := ⟨(RM.wdK 1).toArray⟩) HKL.out (by rw [HT0.out]; exact HRR.out) (by rw [HT0.out]; exact HEE.out) (by rw [RM.ad_one rfl, List.map_append, hQ.out.sp]; rfl) rfl
              rw [if_neg (show ¬ (1 : Nat) = 3 by decide)] at h
              simp only [HNB.out] at h
              exact h⟩)
            obtain ⟨W8, hW8⟩ : ∃ W8, w1.setCell ⟨I, 1, none⟩ (.slice (some ⟨g1, 0, none⟩) (m + 1) cap) = W8 := ⟨_, rfl⟩
            rw [hW8] at HZ8 HTT8 ⊢
            clear hW8 i0 i1 j1 jf t0 t1 t2 t3
            obtain ⟨⟨q0, q1, q2, q3⟩, -, -, fq, -, -⟩ := HZ8.out.cells
            have t0 := cell_of (o := 0) HTT8.out rfl
            have t1 := cell_of (o := 1) HTT8.out rfl
            have t2 := cell_of (o := 2) HTT8.out rfl
            have t3 := cell_of (o := 3) HTT8.out rfl
            have HZA := Lib.hid (HZ8.out.ln 1 xa nb c5 xs A)
            go_wp2
            go_roundw
            case rel => exact ⟨k + 1, 1, xa, nb, st, _, _, _, A, c5, xs, by omega, by go_num, HZA, HQA⟩
            case measure => simp [intOf]; omega
          · simp only [] at hxk
            subst hxk
            have hTK : RM.tkE kl al nl t = 0 := by
              by_cases hz : RM.tkE kl al nl t = 0
              · exact hz
              · have := HEE.out
                rw [RM.lnE_bad hz] at this
                exact this
            obtain ⟨l', a0, b0, hll, -⟩ := hQ.out.pi.two (RM.tkE_zero HRR.out hTK).1
            have hb0 : b0.length ≤ 16384 := by
              have := ((RM.rt_open hQ.out.pi.ok).2.2 (a0, b0) (by rw [hll]; simp)).2
              simp only [] at this
              omega
            obtain ⟨qs, dv, hps, hq⟩ := hZ.out.sg.split (hQ.out.sp.trans hll)
            have hnbl : xb.length ≤ 16 := HOK.out.2.2.2.2
            obtain ⟨q, hqq⟩ : ∃ q, m = q + 1 := ⟨qs.length, by rw [← HMM.out, hps, List.length_append, List.length_singleton]⟩
            subst hqq
            have HQN := Lib.hid (show qs.length = q by have := HMM.out; rw [hps, List.length_append, List.length_singleton] at this; omega)
            subst hps
            obtain ⟨D, dc, rfl⟩ := own_form (show wr.ownsRow w.heap.size 5 1 dv b0.length (byC b0) from hZ.out.sg.dat (a0, dv, b0) (by simp))
            obtain ⟨G, sc', hsv, -, -⟩ := hZ.out.sg.lies (by simp)
            injection hsv with hsa hsn hsc
            subst hsa hsc
            clear hsn
            have HLL := Lib.hid hll
            have HQM := Lib.hid hq
            clear hll hq hTK
            go_upto_region 10 with (go_at_call 36; refine HRD.out.mono ?_; rintro e w5 ⟨A, c5, rfl, hb5, ho5⟩; have HZ6 := Lib.hid ((hZ.out.kept hb5).kept (below_one w5 (.cells #[.int .i64 2, .int .u32 xa, .slice A nb c5, .int .u8 xs] 77))); have HTT := Lib.hid (heap_alloc_new w5 (.cells #[.int .i64 2, .int .u32 xa, .slice A nb c5, .int .u8 xs] 77)); have HO6 := Lib.hid (own_blk ho5 (below_one w5 (.cells #[.int .i64 2, .int .u32 xa, .slice A nb c5, .int .u8 xs] 77))); have HTI := Lib.hid (show I ≠ w5.heap.size ∧ I + 1 ≠ w5.heap.size from ⟨Nat.ne_of_lt (lt_of_heap (hZ.out.kept hb5).iz), Nat.ne_of_lt (lt_of_heap (hZ.out.kept hb5).lz)⟩); clear hb5 ho5)
            obtain ⟨W6, hW6⟩ : ∃ W6, w5.alloc (.cells #[.int .i64 2, .int .u32 xa, .slice A nb c5, .int .u8 xs] 77) = W6 := ⟨_, rfl⟩
            obtain ⟨T, hT⟩ : ∃ T, w5.heap.size = T := ⟨_, rfl⟩
            rw [hW6, hT] at HTT
            rw [hW6] at HZ6 HO6 ⊢
            rw [hT] at HTI ⊢
            clear hW6 hT z0
            obtain ⟨⟨q0, q1, q2, q3⟩, ⟨i0, i1⟩, -, -, -, -⟩ := HZ6.out.cells
            have t0 := cell_of (o := 0) HTT.out rfl
            have t1 := cell_of (o := 1) HTT.out rfl
            have t2 := cell_of (o := 2) HTT.out rfl
            have t3 := cell_of (o := 3) HTT.out rfl
            have HMO := Lib.hid (HMORE.out W6 A c5 _ HZ6.out.sg HO6.out)
            go_upto_region 11 with (go_at_call 37; refine HMO.out.mono ?_; rintro e w7 ⟨rfl, hb7⟩; have HZ7 := Lib.hid (HZ6.out.kept hb7); have HTT7 := Lib.hid ((hb7.block _ (lt_of_heap HTT.out)).trans HTT.out); have HO7 := Lib.hid (own_blk HO6.out hb7); clear hb7)
            clear q0 q1 q2 q3 i0 i1 t0 t1 t2 t3 HZ6 HTT HO6
            have HSZ7 := Lib.hid HZ7.out.sz
            obtain ⟨-, ⟨i0, i1⟩, -, -, -, -⟩ := HZ7.out.cells
            have t0 := cell_of (o := 0) HTT7.out rfl
            have t1 := cell_of (o := 1) HTT7.out rfl
            have t2 := cell_of (o := 2) HTT7.out rfl
            have t3 := cell_of (o := 3) HTT7.out rfl
            have HOD := Lib.hid (show w7.ownsRow w.heap.size 5 1 (.slice D b0.length dc) b0.length (byC b0) from HZ7.out.sg.dat (a0, .slice D b0.length dc, b0) (by simp))
            obtain ⟨-, g1, -⟩ := HZ7.out.sg.cell (by rw [List.length_append, HQN.out]; rfl) (j := q) (p := (a0, .slice D b0.length dc, b0)) (by rw [← HQN.out]; simp)
            have g3 : w7.cell? ⟨G, q * 2 + 1, none⟩ = some (.slice D b0.length dc) := by rw [Nat.mul_comm]; exact g1
            have HBY := Lib.hid (show ByR w7 (.slice A nb c5) xb from ByR.of_own (by rw [HNB.out]; exact HNB.out ▸ HO7.out))
            clear g1
            go_upto_region 17 with fail
            have hqlt : (q : Int) < (q : Int) + 1 := by omega
            have HLE := Lib.hid (show b0.length + xb.length ≤ 100000000 by omega)
            go_region_law (refine step_append_by (v := .slice D b0.length dc) (x := .slice A nb c5) rfl (.tmp 72) (.tmp 74) rfl (by simp [Act.eval]) (by simp [Act.eval]) HOD.out.drew HBY.out HLE.out HSZ7.out ?_; intro d' w1 ho1 hg1 hv1; obtain ⟨dA', dc', rfl⟩ := own_form ho1; obtain ⟨q1, q2, q3, q4, q5⟩ := (HZ7.out.sg.below (Below.refl w7.heap.size w7).drew).more (bs' := xb) (i := q * 2 + 1) (by rw [HQN.out]) hg1 ho1 hv1 (by rw [HQN.out]; omega); have HG := Lib.hid q1; have hkw := (Kp.of (Below.refl w7.heap.size w7).drew HSZ7.out).trans (Kp.grown hg1 HOD.out.drew (.inr rfl) HSZ7.out); have j1 := cell_of (o := 1) (hkw.heap HZ7.out.iz (by decide) (by decide)) rfl; have HK1 := Lib.hid (hkw.set (o := q * 2 + 1) q4 (.slice dA' (b0.length + xb.length) dc') (fun c e f hc => by obtain ⟨cs, hcs⟩ := q5; have hcs : w7.heap[G]? = some (.cells cs 51 (0, 0)) := hcs; rw [hcs] at hc; injection hc with hc; injection hc with _ h2; exact .inl h2.symm)); clear q1 q4 q5 hg1 ho1 hv1 hkw)
            all_goals
              have HZ8 := Lib.hid (HZ7.out.kp HK1.out HG.out)
              have HTT8 := Lib.hid (HK1.out.heap HTT7.out (by decide) (by decide))
              have HQA := Lib.hid (show ∃ s2, QP s.data.toList acc (k + 1) (RM.ad ⟨2, xa, xb, xs⟩ l) st 2 xa nb (qs ++ [(a0, .slice dA' (b0.length + xb.length) dc', b0 ++ xb)]) s2 from ⟨⟨(RM.wdK 2).toArray⟩, by
                have h := hQ.out.next (x := ⟨2, xa, xb, xs⟩) (ps' := qs ++ [(a0, .slice dA' (b0.length + xb.length) dc', b0 ++ xb)]) (s' := ⟨(RM.wdK 2).toArray⟩) HKL.out (by rw [HT0.out]; exact HRR.out) (by rw [HT0.out]; exact HEE.out) (by rw [HLL.out, RM.ad_two rfl, List.map_append, HQM.out]; rfl) rfl
                rw [if_neg (show ¬ (2 : Nat) = 3 by decide)] at h
                rw [← HNB.out]
                exact h⟩)
              obtain ⟨W8, hW8⟩ : ∃ W8, w1.setCell ⟨G, q * 2 + 1, none⟩ (.slice dA' (b0.length + xb.length) dc') = W8 := ⟨_, rfl⟩
              rw [hW8] at HZ8 HTT8 ⊢
              clear hW8 i0 i1 t0 t1 t2 t3 q2 q3 g3 j1
              obtain ⟨⟨q0, q1, q2, q3⟩, -, -, fq, -, -⟩ := HZ8.out.cells
              have t0 := cell_of (o := 0) HTT8.out rfl
              have t1 := cell_of (o := 1) HTT8.out rfl
              have t2 := cell_of (o := 2) HTT8.out rfl
              have t3 := cell_of (o := 3) HTT8.out rfl
              have HZA := Lib.hid (HZ8.out.ln 2 xa nb c5 xs A)
              go_wp2
              go_roundw
              case rel => exact ⟨k + 1, 2, xa, nb, st, _, _, _, A, c5, xs, by omega, by go_num, HZA, HQA⟩
              case measure => simp [intOf]; omega
          · simp only [] at hxk
            subst hxk
            go_upto_region 10 with (go_at_call 36; refine HRD.out.mono ?_; rintro e w5 ⟨A, c5, rfl, hb5, ho5⟩; have HZ6 := Lib.hid ((hZ.out.kept hb5).kept (below_one w5 (.cells #[.int .i64 3, .int .u32 xa, .slice A nb c5, .int .u8 xs] 77))); have HTT := Lib.hid (heap_alloc_new w5 (.cells #[.int .i64 3, .int .u32 xa, .slice A nb c5, .int .u8 xs] 77)); have HO6 := Lib.hid (own_blk ho5 (below_one w5 (.cells #[.int .i64 3, .int .u32 xa, .slice A nb c5, .int .u8 xs] 77))); have HTI := Lib.hid (show I ≠ w5.heap.size ∧ I + 1 ≠ w5.heap.size from ⟨Nat.ne_of_lt (lt_of_heap (hZ.out.kept hb5).iz), Nat.ne_of_lt (lt_of_heap (hZ.out.kept hb5).lz)⟩); clear hb5 ho5)
            obtain ⟨W6, hW6⟩ : ∃ W6, w5.alloc (.cells #[.int .i64 3, .int .u32 xa, .slice A nb c5, .int .u8 xs] 77) = W6 := ⟨_, rfl⟩
            obtain ⟨T, hT⟩ : ∃ T, w5.heap.size = T := ⟨_, rfl⟩
            rw [hW6, hT] at HTT
            rw [hW6] at HZ6 HO6 ⊢
            rw [hT] at HTI ⊢
            clear hW6 hT z0
            obtain ⟨⟨q0, q1, q2, q3⟩, ⟨i0, i1⟩, -, -, -, -⟩ := HZ6.out.cells
            have t0 := cell_of (o := 0) HTT.out rfl
            have t1 := cell_of (o := 1) HTT.out rfl
            have t2 := cell_of (o := 2) HTT.out rfl
            have t3 := cell_of (o := 3) HTT.out rfl
            have HMO := Lib.hid (HMORE.out W6 A c5 _ HZ6.out.sg HO6.out)
            go_upto_region 11 with (go_at_call 37; refine HMO.out.mono ?_; rintro e w7 ⟨rfl, hb7⟩; have HZ7 := Lib.hid (HZ6.out.kept hb7); have HTT7 := Lib.hid ((hb7.block _ (lt_of_heap HTT.out)).trans HTT.out); have HO7 := Lib.hid (own_blk HO6.out hb7); clear hb7)
            clear q0 q1 q2 q3 i0 i1 t0 t1 t2 t3 HZ6 HTT HO6
            obtain ⟨-, ⟨i0, i1⟩, -, -, fi, -⟩ := HZ7.out.cells
            have t0 := cell_of (o := 0) HTT7.out rfl
            have t1 := cell_of (o := 1) HTT7.out rfl
            have t2 := cell_of (o := 2) HTT7.out rfl
            have t3 := cell_of (o := 3) HTT7.out rfl
            have HZ8 := Lib.hid (HZ7.out.start xa)
            have HTT8 := Lib.hid (show (w7.setCell ⟨I, 0, none⟩ (.int .u32 xa)).heap[T]? = some (.cells #[.int .i64 3, .int .u32 xa, .slice A nb c5, .int .u8 xs] 77 (0, 0)) from (heap_other HTI.out.1.symm).trans HTT7.out)
            have HQA := Lib.hid (show ∃ s2, QP s.data.toList acc (k + 1) (RM.ad ⟨3, xa, xb, xs⟩ l) xa 3 xa nb ps s2 from ⟨⟨(RM.wdK 3).toArray⟩, by
              have h := hQ.out.next (x := ⟨3, xa, xb, xs⟩) (ps' := ps) (s' := ⟨(RM.wdK 3).toArray⟩) HKL.out (by rw [HT0.out]; exact HRR.out) (by rw [HT0.out]; exact HEE.out) (by rw [RM.ad_three rfl, hQ.out.sp]) rfl
              rw [if_pos rfl] at h
              simp only [HNB.out] at h
              exact h⟩)
            go_upto_region 20 with fail
            obtain ⟨W8, hW8⟩ : ∃ W8, w7.setCell ⟨I, 0, none⟩ (.int .u32 xa) = W8 := ⟨_, rfl⟩
            rw [hW8] at HZ8 HTT8 ⊢
            clear hW8 i0 i1 fi t0 t1 t2 t3
            obtain ⟨⟨q0, q1, q2, q3⟩, -, -, fq, -, -⟩ := HZ8.out.cells
            have t0 := cell_of (o := 0) HTT8.out rfl
            have t1 := cell_of (o := 1) HTT8.out rfl
            have t2 := cell_of (o := 2) HTT8.out rfl
            have t3 := cell_of (o := 3) HTT8.out rfl
            have HZA := Lib.hid (HZ8.out.ln 3 xa nb c5 xs A)
            go_wp2
            go_roundw
            case rel => exact ⟨k + 1, 3, xa, nb, xa, _, _, _, A, c5, xs, by omega, by go_num, HZA, HQA⟩
            case measure => simp [intOf]; omega
        · have HE := Lib.hid (show RM.PA s.data.toList = ([], 0, k + 1, E) by rw [hQ.out.bad HKL.out (by rw [HT0.out, HEE.out]; exact hE0), HT0.out, HEE.out])
          have hE0' : (E == 0) = false := by simpa using hE0
          go_upto_region 10 with (go_at_call 36; refine HRD.out.mono ?_; rintro e w5 ⟨A, c5, rfl, hb5, ho5⟩; have HZ6 := Lib.hid ((hZ.out.kept hb5).kept (below_one w5 (.cells #[.int .i64 xk, .int .u32 xa, .slice A nb c5, .int .u8 xs] 77))); have HTT := Lib.hid (heap_alloc_new w5 (.cells #[.int .i64 xk, .int .u32 xa, .slice A nb c5, .int .u8 xs] 77)); have HO6 := Lib.hid (own_blk ho5 (below_one w5 (.cells #[.int .i64 xk, .int .u32 xa, .slice A nb c5, .int .u8 xs] 77))); have HTI := Lib.hid (show I ≠ w5.heap.size ∧ I + 1 ≠ w5.heap.size from ⟨Nat.ne_of_lt (lt_of_heap (hZ.out.kept hb5).iz), Nat.ne_of_lt (lt_of_heap (hZ.out.kept hb5).lz)⟩); clear hb5 ho5)
          obtain ⟨W6, hW6⟩ : ∃ W6, w5.alloc (.cells #[.int .i64 xk, .int .u32 xa, .slice A nb c5, .int .u8 xs] 77) = W6 := ⟨_, rfl⟩
          obtain ⟨T, hT⟩ : ∃ T, w5.heap.size = T := ⟨_, rfl⟩
          rw [hW6, hT] at HTT
          rw [hW6] at HZ6 HO6 ⊢
          rw [hT] at HTI ⊢
          clear hW6 hT z0
          obtain ⟨⟨q0, q1, q2, q3⟩, ⟨i0, i1⟩, -, -, -, -⟩ := HZ6.out.cells
          have t0 := cell_of (o := 0) HTT.out rfl
          have t1 := cell_of (o := 1) HTT.out rfl
          have t2 := cell_of (o := 2) HTT.out rfl
          have t3 := cell_of (o := 3) HTT.out rfl
          have HMO := Lib.hid (HMORE.out W6 A c5 _ HZ6.out.sg HO6.out)
          go_upto_region 11 with (go_at_call 37; refine HMO.out.mono ?_; rintro e w7 ⟨rfl, hb7⟩; have HZ7 := Lib.hid (HZ6.out.kept hb7); have HTT7 := Lib.hid ((hb7.block _ (lt_of_heap HTT.out)).trans HTT.out); have HO7 := Lib.hid (own_blk HO6.out hb7); clear hb7)
          clear q0 q1 q2 q3 i0 i1 t0 t1 t2 t3 HZ6 HTT HO6
          obtain ⟨-, -, ⟨r0, r1⟩, -, -, rf⟩ := HZ7.out.cells
          go_wp2
          refine bodyPost_ret (v := .tuple #[.agg #[.int .u32 0, .slice none 0 0], .int .i64 ((k + 1 : Nat) : Int), .int .i64 E]) (by simp [results, Tryd.results21, go_sem, r0, r1]) rfl ?_
          exact PsPost.bad HE.out (HZ7.out.done _ _).1
    · have hlt' : decide (k < n) = false := by simpa using hlt
      obtain rfl : k = n := by omega
      clear hlt hk
      obtain ⟨⟨q0, -, -, -⟩, ⟨i0, i1⟩, ⟨r0, r1⟩, -, -, rf⟩ := hZ.out.cells
      obtain ⟨sa, sc, rfl⟩ := own_form hZ.out.sg.own
      by_cases h3 : kl = 3
      · have HE := Lib.hid (show RM.PA s.data.toList = (l, st, 0, 0) by rw [hQ.out.done (by rw [HN.out]; omega), if_pos h3])
        have HQS := Lib.hid hQ.out.sp
        subst h3
        go_wp2
        refine bodyPost_ret (v := .tuple #[.agg #[.int .u32 st, .slice sa ps.length sc], .int .i64 0, .int .i64 0]) (by simp [results, Tryd.results21, go_sem, r0, r1]) rfl ?_
        obtain ⟨h1, h2⟩ := hZ.out.done (.int .u32 st) (.slice sa ps.length sc)
        exact PsPost.good HE.out h2 HQS.out h1
      · have HE := Lib.hid (show RM.PA s.data.toList = ([], 0, k + 1, 6) by rw [hQ.out.done (by rw [HN.out]; omega), if_neg h3])
        have h3' : ((kl : Int) == 3) = false := by simp; omega
        clear h3
        go_wp2
        refine bodyPost_ret (v := .tuple #[.agg #[.int .u32 0, .slice none 0 0], .int .i64 ((k + 1 : Nat) : Int), .int .i64 6]) (by simp [results, Tryd.results21, go_sem, r0, r1]) rfl ?_
        exact PsPost.bad HE.out (hZ.out.done _ _).1
theorem rparse_any (s : ByteArray) (w : World) (hs : s.size ≤ 1000000) : Calls Tryd.prog 21 #[.string s] w (PsPost w s.data.toList) := by
  by_cases he : NM.lE s.data.toList = 0
  · exact rparse_good s w hs he
  · exact rparse_bad s w hs he
end Go.Proofs.YtcilhippjiichaaDoor
