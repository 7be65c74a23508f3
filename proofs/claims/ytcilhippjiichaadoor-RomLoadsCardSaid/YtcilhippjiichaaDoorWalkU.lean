/-
  What Parse answers, where the text has lines. No condition but the text's length, and that the library's one number is a number.
-/
import Derived.Test.YtcilhippjiichaaDoorWalkT
namespace Go.Proofs.YtcilhippjiichaaDoor
open Go.RowKit Go.Maps S02
/-- What holds of the image and the last line ahead of a line. -/
structure QP (s : List UInt8) (acc : List (List UInt8)) (k : Nat) (l : List (Nat × List UInt8)) (st kl al nl : Nat) (ps : List (Nat × Value × List UInt8)) (s2 : ByteArray) : Prop where
  pa : RM.PA s = RM.PL (acc.drop k) k kl al nl l st
  sp : ps.map (fun p => (p.1, p.2.2)) = l
  wd : s2.data.toList = RM.wd0 kl
  pi : RM.PI kl al nl l
section
variable {s : List UInt8} {acc : List (List UInt8)} {k : Nat} {l : List (Nat × List UInt8)} {st kl al nl : Nat} {ps : List (Nat × Value × List UInt8)} {s2 : ByteArray}
theorem drop_one (hk : k < acc.length) : acc.drop k = acc.getD k [] :: acc.drop (k + 1) := by
  rw [List.drop_eq_getElem_cons hk, List.getD_eq_getElem?_getD, List.getElem?_eq_getElem hk]; rfl
theorem QP.bad (h : QP s acc k l st kl al nl ps s2) (hk : k < acc.length) (he : RM.lnE kl al nl l (acc.getD k []) ≠ 0) : RM.PA s = ([], 0, k + 1, RM.lnE kl al nl l (acc.getD k [])) := by
  rw [h.pa, drop_one hk, RM.PL_bad he]
theorem QP.next {x : RM.Ln} {ps' : List (Nat × Value × List UInt8)} {s' : ByteArray} (h : QP s acc k l st kl al nl ps s2) (hk : k < acc.length) (hr : RM.rd (acc.getD k []) = some x) (he : RM.lnE kl al nl l (acc.getD k []) = 0) (hp : ps'.map (fun p => (p.1, p.2.2)) = RM.ad x l) (hs : s'.data.toList = RM.wdK x.k) : QP s acc (k + 1) (RM.ad x l) (if x.k = 3 then x.a else st) x.k x.a x.bs.length ps' s' := by
  refine ⟨by rw [h.pa, drop_one hk, RM.PL_good hr he], hp, ?_, h.pi.next hr he⟩
  rw [hs]
  unfold RM.wd0
  rw [if_neg]
  have := (RM.rd_some.1 hr).1.1
  omega
theorem QP.done (h : QP s acc k l st kl al nl ps s2) (hk : acc.length ≤ k) : RM.PA s = if kl = 3 then (l, st, 0, 0) else ([], 0, k + 1, 6) := by
  rw [h.pa, List.drop_of_length_le hk]
  rfl
theorem QP.small (h : QP s acc k l st kl al nl ps s2) : ps.length ≤ 64 := by
  rw [← List.length_map (f := fun p : Nat × Value × List UInt8 => (p.1, p.2.2)), h.sp]; exact (RM.rt_open h.pi.ok).1
end
set_option maxHeartbeats 16000000 in
set_option maxRecDepth 100000 in
theorem parse_good (s : ByteArray) (w : World) (hs : s.size ≤ 9223372036854775807) (hm : Mx w) (he : NM.lE s.data.toList = 0) : Calls Tryd.prog 20 #[.string s] w (PsPost w s.data.toList) := by
  have HP := Lib.hid (show RM.PA s.data.toList = RM.PL (NM.lL s.data.toList) 0 0 0 0 [] 0 by unfold RM.PA; rw [if_pos he])
  have HL := Lib.hid (fun W => lines_any s W hs)
  rw [he] at HL
  obtain ⟨-, hal, hax⟩ := RM.lL_short he
  have HQ0 := Lib.hid (show QP s.data.toList (NM.lL s.data.toList) 0 [] 0 0 0 0 [] ⟨#[]⟩ from ⟨HP.out, rfl, rfl, RM.PI.new⟩)
  obtain ⟨acc, hacc⟩ : ∃ acc, NM.lL s.data.toList = acc := ⟨_, rfl⟩
  rw [hacc] at HL HQ0 hal hax
  have HX := Lib.hid hax
  have HM := Lib.hid hm
  clear hacc hax HP hm he
  have HR := Lib.hid (show (w.alloc (.cells #[.int .u32 0, .slice none 0 0] 25)).heap[w.heap.size]? = some (.cells #[.int .u32 0, .slice none 0 0] 25 (0, 0)) from heap_alloc_new w _)
  have HB := Lib.hid (below_one w (.cells #[.int .u32 0, .slice none 0 0] 25))
  obtain ⟨W0, hW0⟩ : ∃ W0, w.alloc (.cells #[.int .u32 0, .slice none 0 0] 25) = W0 := ⟨_, rfl⟩
  rw [hW0] at HR HB
  go_enter Tryd.func20, Tryd.ntmps20
  go_upto_region 1 with fail
  clear hW0
  go_upto_region 2 with (go_at_call 32; refine (HL.out _).mono ?_; rintro e w2 ⟨rv, rfl, hr2⟩; have HRW := Lib.hid hr2; clear hr2)
  have HZ0 := Lib.hid (QZ.start HR.out HB.out HRW.out)
  obtain ⟨A, c, hrv⟩ := own_form HRW.out.1
  subst hrv
  clear HRW HR HL
  obtain ⟨I, hI⟩ : ∃ I, w2.heap.size = I := ⟨_, rfl⟩
  rw [hI] at HZ0
  have HII := Lib.hid hI
  clear hI
  go_upto_region 6 with fail
  rw [HII.out]
  obtain ⟨W4, hW4⟩ : ∃ W4, (w2.alloc (.cells #[.int .u32 0, .slice none 0 0] 25)).alloc (.cells #[.string ⟨#[]⟩, .int .u32 0, .slice none 0 0, .int .u8 0] 70) = W4 := ⟨_, rfl⟩
  rw [hW4] at HZ0 ⊢
  clear hW4
  obtain ⟨n, hn⟩ : ∃ n, acc.length = n := ⟨_, rfl⟩
  rw [hn] at hal
  have HN := Lib.hid hn
  rw [hn]
  clear hn
  go_wp2
  go_loopw [24] (fun i wr => ∃ (k kl al nl st : Nat) (l : List (Nat × List UInt8)) (sv : Value) (ps : List (Nat × Value × List UInt8)) (s2 : ByteArray) (A2 : Option Addr) (c2 m2 : Nat), k ≤ n ∧ i = .int .i64 k ∧ Hid (QZ w wr w.heap.size I (I + 1) (.slice A n c) acc st al nl sv ps s2 A2 c2 m2) ∧ Hid (QP s.data.toList acc k l st kl al nl ps s2)) (fun i _ => n - (intOf i).toNat)
  case atStart => exact ⟨0, 0, 0, 0, 0, [], .slice none 0 0, [], ⟨#[]⟩, none, 0, 0, by omega, rfl, by rw [← HN.out]; exact HZ0, HQ0⟩
  case round =>
    obtain ⟨k, kl, al, nl, st, l, sv, ps, s2, A2, c2, m2, hk, rfl, hZ, hQ⟩ := hrel
    by_cases hlt : k < n
    · have hkl : k < acc.length := by rw [HN.out]; exact hlt
      obtain ⟨-, g, rfl, hc⟩ := row_at hZ.out.row (by omega)
      have z0 := hc k hkl
      obtain ⟨t, ht⟩ : ∃ t, acc.getD k [] = t := ⟨_, rfl⟩
      have htl : t.length ≤ 65536 := by
        rw [← ht, List.getD_eq_getElem?_getD, List.getElem?_eq_getElem hkl]
        exact HX.out _ (List.getElem_mem hkl)
      rw [ht] at z0
      have HT0 := Lib.hid ht
      obtain ⟨S, hS, hST, hSL⟩ := bt_of t
      rw [NM.tv, hS] at z0
      have HTK := Lib.hid (taken_any S s2 kl al nl c2 m2 A2 wr (by omega) (HM.out.on hZ.out.old) hQ.out.wd hQ.out.pi.kind hQ.out.pi.al_lt (by have := hQ.out.pi.nl_le; omega))
      rw [hST] at HTK
      have HKL := Lib.hid hkl
      clear hkl hc ht htl hS hST hSL hk
      obtain ⟨⟨q0, q1, q2, q3⟩, -, -, -, -, -⟩ := hZ.out.cells
      by_cases htk : RM.tkE kl al nl t = 0
      · cases hr : RM.rd t with
        | none => exact absurd htk (by unfold RM.tkE; rw [hr]; exact (by decide : ¬ (2 : Int) = 0))
        | some x =>
          obtain ⟨hf, hsm⟩ := RM.tkE_zero hr htk
          obtain ⟨xk, xa, xb, xs⟩ := x
          have HOK := Lib.hid (RM.rd_some.1 hr).1
          simp only [] at hf hsm
          obtain ⟨x0, hx0⟩ : ∃ x0, (⟨(RM.wdK xk).toArray⟩ : ByteArray) = x0 := ⟨_, rfl⟩
          have HX0 := Lib.hid (show x0.data.toList = RM.wdK xk by rw [← hx0])
          obtain ⟨nb, hnb⟩ : ∃ nb, xb.length = nb := ⟨_, rfl⟩
          have HTP := Lib.hid (HTK.out.mono fun e w' h => (show ∃ A c, e = .returned (.tuple #[.agg #[.string x0, .int .u32 xa, .slice A nb c, .int .u8 xs], .int .i64 0]) ∧ Below wr.heap.size wr w' ∧ w'.ownsRow wr.heap.size 5 1 (.slice A nb c) xb.length (byC xb) by
            obtain ⟨hb, h | h⟩ := h
            · exact absurd htk h.1
            · obtain ⟨-, y, v, hy, -, -, he, ho⟩ := h
              rw [hr] at hy
              injection hy with hy
              subst hy
              obtain ⟨A, c, rfl⟩ := own_form ho
              exact ⟨A, c, by rw [he, lnV, ← hnb, ← hx0]; rfl, hb, by rw [← hnb]; exact ho⟩))
          have HLN := Lib.hid (RM.lnE_some (l := l) htk hr)
          have HAS := Lib.hid (RM.ad_small hQ.out.pi HOK.out)
          have HADD := Lib.hid (fun (W : World) (A : Option Addr) (c : Nat) (sv : Value) (h1 : SG w.heap.size W sv ps) (h2 : wr.heap.size ≤ W.heap.size) (h3 : W.ownsRow wr.heap.size 5 1 (.slice A nb c) xb.length (byC xb)) => (show Calls Tryd.prog 34 #[.agg #[.string x0, .int .u32 xa, .slice A nb c, .int .u8 xs], .agg #[.int .u32 st, sv]] W (AaPost w.heap.size W ⟨xk, xa, xb, xs⟩ st l) by
            have h : Calls Tryd.prog 34 #[lnV (RM.wdK xk) xa (.slice A nb c) xs, .agg #[.int .u32 st, sv]] W (AaPost w.heap.size W ⟨xk, xa, xb, xs⟩ st l) := added_any (x := ⟨xk, xa, xb, xs⟩) hQ.out.pi hf HOK.out h1 hQ.out.sp hZ.out.old.size h2 h3 (fun p hp k hk => (own_lt (hZ.out.sg.dat p hp) hk).2.1)
            rw [lnV, NM.tv, hx0] at h
            exact h))
          have HRR := Lib.hid hr
          have HNB := Lib.hid hnb
          obtain ⟨sa, sc, rfl⟩ := own_form hZ.out.sg.own
          obtain ⟨m, hmm⟩ : ∃ m, ps.length = m := ⟨_, rfl⟩
          rw [hmm] at hZ
          have hm64 : m ≤ 64 := by rw [← hmm]; exact hQ.out.small
          clear hf hsm hx0 hnb hr htk HTK hmm
          by_cases hrt : RM.rt (RM.ad ⟨xk, xa, xb, xs⟩ l) = 0
          · have HRT := Lib.hid hrt
            clear hrt
            go_upto_region 10 with (go_at_call 33; refine HTP.out.mono ?_; rintro e w5 ⟨A, c5, rfl, hb5, ho5⟩; have HZ6 := Lib.hid ((hZ.out.kept hb5).kept (below_one w5 (.cells #[.string x0, .int .u32 xa, .slice A nb c5, .int .u8 xs] 70))); have HTT := Lib.hid (heap_alloc_new w5 (.cells #[.string x0, .int .u32 xa, .slice A nb c5, .int .u8 xs] 70)); have HO6 := Lib.hid (own_blk ho5 (below_one w5 (.cells #[.string x0, .int .u32 xa, .slice A nb c5, .int .u8 xs] 70))); have HTI := Lib.hid (show I ≠ w5.heap.size ∧ I + 1 ≠ w5.heap.size from ⟨Nat.ne_of_lt (lt_of_heap (hZ.out.kept hb5).iz), Nat.ne_of_lt (lt_of_heap (hZ.out.kept hb5).lz)⟩); have HSZ := Lib.hid (show wr.heap.size ≤ (w5.alloc (.cells #[.string x0, .int .u32 xa, .slice A nb c5, .int .u8 xs] 70)).heap.size from Nat.le_trans hb5.size (by simp)); clear hb5 ho5)
            obtain ⟨W6, hW6⟩ : ∃ W6, w5.alloc (.cells #[.string x0, .int .u32 xa, .slice A nb c5, .int .u8 xs] 70) = W6 := ⟨_, rfl⟩
            obtain ⟨T, hT⟩ : ∃ T, w5.heap.size = T := ⟨_, rfl⟩
            rw [hW6, hT] at HTT
            rw [hW6] at HZ6 HO6 HSZ ⊢
            rw [hT] at HTI ⊢
            clear hW6 hT q0 q1 q2 q3 z0
            obtain ⟨-, ⟨i0, i1⟩, -, -, fi, -⟩ := HZ6.out.cells
            have t0 := cell_of (o := 0) HTT.out rfl
            have t1 := cell_of (o := 1) HTT.out rfl
            have t2 := cell_of (o := 2) HTT.out rfl
            have t3 := cell_of (o := 3) HTT.out rfl
            have HAC := Lib.hid (HADD.out W6 A c5 _ HZ6.out.sg HSZ.out HO6.out)
            clear hZ
            go_upto_region 12 with (go_at_call 34; refine HAC.out.mono ?_; rintro e w7 ⟨v7, ps7, rfl, hs7, hl7, hk7⟩; obtain ⟨sa7, sc7, rfl⟩ := own_form hs7.own; have HL7 := Lib.hid hl7; have HK7 := Lib.hid hk7; have HS7 := Lib.hid hs7; have j0 := cell_of (o := 0) (hk7.heap HZ6.out.iz (by decide) (by decide)) rfl; have j1 := cell_of (o := 1) (hk7.heap HZ6.out.iz (by decide) (by decide)) rfl; have jf : ∀ o, w7.frozen? ⟨I, o, none⟩ = false := fun o => unfrozen (hk7.heap HZ6.out.iz (by decide) (by decide)); clear hl7 hk7 hs7)
            obtain ⟨st', hst'⟩ : ∃ st' : Nat, (if xk = 3 then xa else st) = st' := ⟨_, rfl⟩
            have HST := Lib.hid hst'
            simp only [hst']
            have HZ8 := Lib.hid (HZ6.out.im HK7.out HS7.out st')
            have HTT8 := Lib.hid (show ((w7.setCell ⟨I, 0, none⟩ (.int .u32 st')).setCell ⟨I, 1, none⟩ (.slice sa7 ps7.length sc7)).heap[T]? = some (.cells #[.string x0, .int .u32 xa, .slice A nb c5, .int .u8 xs] 70 (0, 0)) from (heap_other HTI.out.1.symm).trans ((heap_other HTI.out.1.symm).trans (HK7.out.heap HTT.out (by decide) (by decide))))
            obtain ⟨W8, hW8⟩ : ∃ W8, (w7.setCell ⟨I, 0, none⟩ (.int .u32 st')).setCell ⟨I, 1, none⟩ (.slice sa7 ps7.length sc7) = W8 := ⟨_, rfl⟩
            rw [hW8] at HZ8 HTT8 ⊢
            clear hW8 hst' i0 i1 fi j0 j1 jf t0 t1 t2 t3
            obtain ⟨-, ⟨i0, i1⟩, -, -, -, -⟩ := HZ8.out.cells
            have HRI := Lib.hid (right_any (w := W8) (st := st') (SgR.of_sg HZ8.out.sg HL7.out) (by have := HAS.out.1; omega) (fun p hp => by have := HAS.out.2 p hp; omega))
            rw [HRT.out] at HRI
            go_upto_region 13 with (go_at_call 14; refine HRI.out.mono ?_; rintro e w9 ⟨rfl, hb9⟩; have HZ9 := Lib.hid (HZ8.out.kept hb9); have HTT9 := Lib.hid ((hb9.block _ (lt_of_heap HTT8.out)).trans HTT8.out); clear hb9)
            clear i0 i1
            obtain ⟨⟨q0, q1, q2, q3⟩, -, -, fq, -, -⟩ := HZ9.out.cells
            have t0 := cell_of (o := 0) HTT9.out rfl
            have t1 := cell_of (o := 1) HTT9.out rfl
            have t2 := cell_of (o := 2) HTT9.out rfl
            have t3 := cell_of (o := 3) HTT9.out rfl
            have HZA := Lib.hid (HZ9.out.ln x0 xa nb c5 xs A)
            have HQA := Lib.hid (hQ.out.next (x := ⟨xk, xa, xb, xs⟩) (s' := x0) HKL.out (by rw [HT0.out]; exact HRR.out) (by rw [HT0.out, HLN.out]; exact HRT.out) HL7.out HX0.out)
            simp only [HST.out, HNB.out] at HQA
            go_wp2
            go_roundw
            case rel => exact ⟨k + 1, xk, xa, nb, st', _, _, ps7, x0, A, c5, xs, by omega, by go_num, HZA, HQA⟩
            case measure => simp [intOf]; omega
          · have HE := Lib.hid (show RM.PA s.data.toList = ([], 0, k + 1, RM.rt (RM.ad ⟨xk, xa, xb, xs⟩ l)) by rw [hQ.out.bad HKL.out (by rw [HT0.out, HLN.out]; exact hrt), HT0.out, HLN.out])
            obtain ⟨E, hE⟩ : ∃ E, RM.rt (RM.ad ⟨xk, xa, xb, xs⟩ l) = E := ⟨_, rfl⟩
            rw [hE] at HE hrt
            have hE0 : (E == 0) = false := by simpa using hrt
            have HRT := Lib.hid hE
            clear hrt hE
            go_upto_region 10 with (go_at_call 33; refine HTP.out.mono ?_; rintro e w5 ⟨A, c5, rfl, hb5, ho5⟩; have HZ6 := Lib.hid ((hZ.out.kept hb5).kept (below_one w5 (.cells #[.string x0, .int .u32 xa, .slice A nb c5, .int .u8 xs] 70))); have HTT := Lib.hid (heap_alloc_new w5 (.cells #[.string x0, .int .u32 xa, .slice A nb c5, .int .u8 xs] 70)); have HO6 := Lib.hid (own_blk ho5 (below_one w5 (.cells #[.string x0, .int .u32 xa, .slice A nb c5, .int .u8 xs] 70))); have HTI := Lib.hid (show I ≠ w5.heap.size ∧ I + 1 ≠ w5.heap.size from ⟨Nat.ne_of_lt (lt_of_heap (hZ.out.kept hb5).iz), Nat.ne_of_lt (lt_of_heap (hZ.out.kept hb5).lz)⟩); have HSZ := Lib.hid (show wr.heap.size ≤ (w5.alloc (.cells #[.string x0, .int .u32 xa, .slice A nb c5, .int .u8 xs] 70)).heap.size from Nat.le_trans hb5.size (by simp)); clear hb5 ho5)
            obtain ⟨W6, hW6⟩ : ∃ W6, w5.alloc (.cells #[.string x0, .int .u32 xa, .slice A nb c5, .int .u8 xs] 70) = W6 := ⟨_, rfl⟩
            obtain ⟨T, hT⟩ : ∃ T, w5.heap.size = T := ⟨_, rfl⟩
            rw [hW6, hT] at HTT
            rw [hW6] at HZ6 HO6 HSZ ⊢
            rw [hT] at HTI ⊢
            clear hW6 hT q0 q1 q2 q3 z0
            obtain ⟨-, ⟨i0, i1⟩, -, -, fi, -⟩ := HZ6.out.cells
            have t0 := cell_of (o := 0) HTT.out rfl
            have t1 := cell_of (o := 1) HTT.out rfl
            have t2 := cell_of (o := 2) HTT.out rfl
            have t3 := cell_of (o := 3) HTT.out rfl
            have HAC := Lib.hid (HADD.out W6 A c5 _ HZ6.out.sg HSZ.out HO6.out)
            clear hZ
            go_upto_region 12 with (go_at_call 34; refine HAC.out.mono ?_; rintro e w7 ⟨v7, ps7, rfl, hs7, hl7, hk7⟩; obtain ⟨sa7, sc7, rfl⟩ := own_form hs7.own; have HL7 := Lib.hid hl7; have HK7 := Lib.hid hk7; have HS7 := Lib.hid hs7; have j0 := cell_of (o := 0) (hk7.heap HZ6.out.iz (by decide) (by decide)) rfl; have j1 := cell_of (o := 1) (hk7.heap HZ6.out.iz (by decide) (by decide)) rfl; have jf : ∀ o, w7.frozen? ⟨I, o, none⟩ = false := fun o => unfrozen (hk7.heap HZ6.out.iz (by decide) (by decide)); clear hl7 hk7 hs7)
            obtain ⟨st', hst'⟩ : ∃ st' : Nat, (if xk = 3 then xa else st) = st' := ⟨_, rfl⟩
            have HST := Lib.hid hst'
            simp only [hst']
            have HZ8 := Lib.hid (HZ6.out.im HK7.out HS7.out st')
            have HTT8 := Lib.hid (show ((w7.setCell ⟨I, 0, none⟩ (.int .u32 st')).setCell ⟨I, 1, none⟩ (.slice sa7 ps7.length sc7)).heap[T]? = some (.cells #[.string x0, .int .u32 xa, .slice A nb c5, .int .u8 xs] 70 (0, 0)) from (heap_other HTI.out.1.symm).trans ((heap_other HTI.out.1.symm).trans (HK7.out.heap HTT.out (by decide) (by decide))))
            obtain ⟨W8, hW8⟩ : ∃ W8, (w7.setCell ⟨I, 0, none⟩ (.int .u32 st')).setCell ⟨I, 1, none⟩ (.slice sa7 ps7.length sc7) = W8 := ⟨_, rfl⟩
            rw [hW8] at HZ8 HTT8 ⊢
            clear hW8 hst' i0 i1 fi j0 j1 jf t0 t1 t2 t3
            obtain ⟨-, ⟨i0, i1⟩, -, -, -, -⟩ := HZ8.out.cells
            have HRI := Lib.hid (right_any (w := W8) (st := st') (SgR.of_sg HZ8.out.sg HL7.out) (by have := HAS.out.1; omega) (fun p hp => by have := HAS.out.2 p hp; omega))
            rw [HRT.out] at HRI
            go_upto_region 13 with (go_at_call 14; refine HRI.out.mono ?_; rintro e w9 ⟨rfl, hb9⟩; have HZ9 := Lib.hid (HZ8.out.kept hb9); have HTT9 := Lib.hid ((hb9.block _ (lt_of_heap HTT8.out)).trans HTT8.out); clear hb9)
            clear i0 i1
            obtain ⟨-, -, ⟨r0, r1⟩, -, -, rf⟩ := HZ9.out.cells
            go_wp2
            refine bodyPost_ret (v := .tuple #[.agg #[.int .u32 0, .slice none 0 0], .int .i64 ((k + 1 : Nat) : Int), .int .i64 E]) (by simp [results, Tryd.results20, go_sem, r0, r1]) rfl ?_
            exact PsPost.bad HE.out (HZ9.out.done _ _).1
      · have HE := Lib.hid (show RM.PA s.data.toList = ([], 0, k + 1, RM.tkE kl al nl t) by rw [hQ.out.bad HKL.out (by rw [HT0.out, RM.lnE_bad htk]; exact htk), HT0.out, RM.lnE_bad htk])
        have HTP := Lib.hid (HTK.out.mono fun e w' h => (show e = .returned (.tuple #[.agg #[.string ⟨#[]⟩, .int .u32 0, .slice none 0 0, .int .u8 0], .int .i64 (RM.tkE kl al nl t)]) ∧ Below wr.heap.size wr w' from ⟨by
          obtain ⟨-, h | h⟩ := h
          · exact h.2
          · exact absurd h.1 htk, h.1⟩))
        obtain ⟨E, hE⟩ : ∃ E, RM.tkE kl al nl t = E := ⟨_, rfl⟩
        rw [hE] at HE HTP htk
        have hE0 : (E == 0) = false := by simpa using htk
        clear hE HTK
        go_upto_region 10 with (go_at_call 33; refine HTP.out.mono ?_; rintro e w5 ⟨rfl, hb5⟩; have HZ5 := Lib.hid ((hZ.out.kept hb5).kept (below_one w5 (.cells #[.string ⟨#[]⟩, .int .u32 0, .slice none 0 0, .int .u8 0] 70))); clear hb5)
        obtain ⟨W6, hW6⟩ : ∃ W6, w5.alloc (.cells #[.string ⟨#[]⟩, .int .u32 0, .slice none 0 0, .int .u8 0] 70) = W6 := ⟨_, rfl⟩
        rw [hW6] at HZ5 ⊢
        clear hW6 q0 q1 q2 q3 z0
        obtain ⟨-, -, ⟨r0, r1⟩, -, -, rf⟩ := HZ5.out.cells
        go_wp2
        refine bodyPost_ret (v := .tuple #[.agg #[.int .u32 0, .slice none 0 0], .int .i64 ((k + 1 : Nat) : Int), .int .i64 E]) (by simp [results, Tryd.results20, go_sem, r0, r1]) rfl ?_
        exact PsPost.bad HE.out (HZ5.out.done _ _).1
    · have hlt' : decide (k < n) = false := by simpa using hlt
      obtain rfl : k = n := by omega
      clear hlt hk
      obtain ⟨⟨q0, -, -, -⟩, ⟨i0, i1⟩, ⟨r0, r1⟩, -, -, rf⟩ := hZ.out.cells
      obtain ⟨sa, sc, rfl⟩ := own_form hZ.out.sg.own
      by_cases h3 : kl = 3
      · have HE := Lib.hid (show RM.PA s.data.toList = (l, st, 0, 0) by rw [hQ.out.done (by rw [HN.out]; omega), if_pos h3])
        obtain rfl := lit_of (hQ.out.wd.trans (show RM.wd0 kl = [115, 116, 97, 114, 116] by rw [h3]; rfl))
        clear h3
        go_wp2
        refine bodyPost_ret (v := .tuple #[.agg #[.int .u32 st, .slice sa ps.length sc], .int .i64 0, .int .i64 0]) (by simp [results, Tryd.results20, go_sem, r0, r1]) rfl ?_
        obtain ⟨h1, h2⟩ := hZ.out.done (.int .u32 st) (.slice sa ps.length sc)
        exact PsPost.good HE.out h2 hQ.out.sp h1
      · have HE := Lib.hid (show RM.PA s.data.toList = ([], 0, k + 1, 6) by rw [hQ.out.done (by rw [HN.out]; omega), if_neg h3])
        obtain ⟨q1, q2⟩ := lit_not (x := s2) (l := [115, 116, 97, 114, 116]) (by
          rw [hQ.out.wd]
          rcases hQ.out.pi.kind with h | h | h | h
          · rw [h]; decide
          · rw [h]; decide
          · rw [h]; decide
          · exact absurd h h3)
        clear h3
        go_wp2
        refine bodyPost_ret (v := .tuple #[.agg #[.int .u32 0, .slice none 0 0], .int .i64 ((k + 1 : Nat) : Int), .int .i64 6]) (by simp [results, Tryd.results20, go_sem, r0, r1]) rfl ?_
        exact PsPost.bad HE.out (hZ.out.done _ _).1
theorem parse_any (s : ByteArray) (w : World) (hs : s.size ≤ 9223372036854775807) (hm : Mx w) : Calls Tryd.prog 20 #[.string s] w (PsPost w s.data.toList) := by
  by_cases he : NM.lE s.data.toList = 0
  · exact parse_good s w hs hm he
  · exact parse_bad s w hs he
end Go.Proofs.YtcilhippjiichaaDoor
