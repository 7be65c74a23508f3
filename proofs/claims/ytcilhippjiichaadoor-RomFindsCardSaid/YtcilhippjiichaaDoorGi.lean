/-
  What the reference's more answers, whatever the line. No condition but what holds of every image that is being read.
  An image that the reference is reading, in memory; where the text has no lines. No condition but the text's length.
-/
import Derived.Test.YtcilhippjiichaaDoorRfE

/-! RfF -/
namespace Go.Proofs.YtcilhippjiichaaDoor
open Go.RowKit Go.Maps S02
theorem more_k {w : World} {sa : Option Addr} {n sc st kl al nl cl ml a nb c : Nat} {AL A : Option Addr} {l : List (Nat × List UInt8)} {bs : List UInt8} (k s : Nat) (hk : k = 1 ∨ k = 2 ∨ k = 3) (hs : SgR w (.slice sa n sc) l) (hln : l.length = n) (hn : n ≤ 1000) (hd : ByR w (.slice A nb c) bs) (hbs : bs.length = nb) (hb : nb ≤ 1000) (ha : a < 4294967296) (hal : al < 4294967296) (hnl : nl ≤ 1000) (hsl : ∀ p ∈ l, p.1 + p.2.length ≤ 16384) :
    Calls Tryd.prog 37 #[.agg #[.int .u32 st, .slice sa n sc], .agg #[.int .i64 kl, .int .u32 al, .slice AL nl cl, .int .u8 ml], .agg #[.int .i64 k, .int .u32 a, .slice A nb c, .int .u8 s]] w fun e w' => e = .returned (.int .i64 (RM.moK kl al nl l k a bs s)) ∧ Below w.heap.size w w' := by
  by_cases h3 : kl = 3
  · subst h3
    exact more_late hs hln hn hd hbs hb ha hal hnl hsl k s (by omega)
  · rcases hk with rfl | rfl | rfl
    · by_cases hS : RM.sm a bs = s
      · subst hS
        by_cases h64 : n = 64
        · subst h64
          exact more_1_full hs hln hn hd hbs hb ha hal hnl hsl h3 _ rfl
        · by_cases hf : 16384 < a + nb
          · exact more_1_far hs hln hn hd hbs hb ha hal hnl hsl h3 _ rfl h64 hf
          · cases n with
            | zero => exact more_1_one hs hln hn hd hbs hb ha hal hnl hsl h3 _ rfl hf
            | succ m =>
              obtain ⟨l', ⟨ea, eb⟩, hl⟩ : ∃ l' p, l = l' ++ [p] := ⟨l.dropLast, l.getLast (fun e => by rw [e] at hln; cases hln), (List.dropLast_concat_getLast _).symm⟩
              by_cases hw : a < ea + eb.length
              · exact more_1_low hs hln hn hd hbs hb ha hal hnl hsl h3 _ rfl (by omega) hf l' ea eb hl hw
              · exact more_1_yes hs hln hn hd hbs hb ha hal hnl hsl h3 _ rfl (by omega) hf l' ea eb hl hw
      · exact more_1_sum hs hln hn hd hbs hb ha hal hnl hsl h3 s _ rfl hS
    · by_cases h0 : kl = 0
      · subst h0
        exact more_first hs hln hn hd hbs hb ha hal hnl hsl s
      · by_cases h16 : nl = 16
        · subst h16
          by_cases hap : a = (al + 16) % 4294967296
          · by_cases hS : RM.sm a bs = s
            · subst hS
              by_cases hf : 16384 < a + nb
              · exact more_2_far hs hln hn hd hbs hb ha hal hnl hsl h3 h0 hap _ rfl hf
              · exact more_2_yes hs hln hn hd hbs hb ha hal hnl hsl h3 h0 hap _ rfl hf
            · exact more_2_sum hs hln hn hd hbs hb ha hal hnl hsl h3 h0 hap s _ rfl hS
          · exact more_apart hs hln hn hd hbs hb ha hal hnl hsl s h3 h0 hap
        · exact more_short hs hln hn hd hbs hb ha hal hnl hsl s h3 h0 h16
    · by_cases hS : RM.sm a bs = s
      · subst hS
        exact more_3_yes hs hln hn hd hbs hb ha hal hnl hsl h3 _ rfl
      · exact more_3_sum hs hln hn hd hbs hb ha hal hnl hsl h3 s _ rfl hS
/-- What more answers of a line that is read. -/
theorem more_some {w : World} {sv v : Value} {st kl al nl cl ml : Nat} {AL : Option Addr} {l : List (Nat × List UInt8)} {t : List UInt8} {x : RM.Ln} (hI : RM.PI kl al nl l) (hs : SgR w sv l) (hr : RM.rd t = some x) (hv : ByR w v x.bs) :
    Calls Tryd.prog 37 #[.agg #[.int .u32 st, sv], .agg #[.int .i64 kl, .int .u32 al, .slice AL nl cl, .int .u8 ml], rwV x.k x.a v x.s] w fun e w' => e = .returned (.int .i64 (RM.lnE kl al nl l t)) ∧ Below w.heap.size w w' := by
  obtain ⟨sa, sc, rfl⟩ := sv_form hs
  obtain ⟨A, c, rfl⟩ := by_form hv
  obtain ⟨⟨h1, h2, h3, h4, h5⟩, -⟩ := RM.rd_some.1 hr
  obtain ⟨o1, -, o3⟩ := RM.rt_open hI.ok
  have := more_k (st := st) (cl := cl) (ml := ml) (AL := AL) (kl := kl) (nl := nl) (al := al) x.k x.s h1 hs rfl (by omega) hv rfl (by omega) h2 hI.al_lt (by have := hI.nl_le; omega) (fun p hp => (o3 p hp).2)
  rw [RM.moK_some _ _ _ _ x (by omega), ← hr, RM.moE_eq hI t] at this
  exact this
theorem more_none {w : World} {sv : Value} {st kl al nl cl ml : Nat} {AL : Option Addr} {l : List (Nat × List UInt8)} {t : List UInt8} (hI : RM.PI kl al nl l) (hs : SgR w sv l) (hr : RM.rd t = none) :
    Calls Tryd.prog 37 #[.agg #[.int .u32 st, sv], .agg #[.int .i64 kl, .int .u32 al, .slice AL nl cl, .int .u8 ml], rwV 0 0 (.slice none 0 0) 0] w fun e w' => e = .returned (.int .i64 (RM.lnE kl al nl l t)) ∧ Below w.heap.size w w' := by
  obtain ⟨sa, sc, rfl⟩ := sv_form hs
  obtain ⟨o1, -, o3⟩ := RM.rt_open hI.ok
  have := more_none0 (a := 0) (nb := 0) (c := 0) (A := none) (bs := []) (st := st) (cl := cl) (ml := ml) (AL := AL) (kl := kl) (nl := nl) (al := al) hs rfl (by omega) (.inl ⟨rfl, _, _, rfl⟩) rfl (by omega) (by omega) hI.al_lt (by have := hI.nl_le; omega) (fun p hp => (o3 p hp).2) 0
  rw [RM.moK_none, ← hr, RM.moE_eq hI t] at this
  exact this
end Go.Proofs.YtcilhippjiichaaDoor
/-! RfG -/
namespace Go.Proofs.YtcilhippjiichaaDoor
open Go.RowKit Go.Maps S02
/-- An image that is being read: N: the answer's block; I: the image's; L: the last line's. -/
structure RZ (w wr : World) (N I L : Nat) (rv : Value) (acc : List (List UInt8)) (st : Nat) (sv : Value) (ps : List (Nat × Value × List UInt8)) (kl al nl : Nat) (A2 : Option Addr) (c2 m2 : Nat) : Prop where
  rz : wr.heap[N]? = some (.cells #[.int .u32 0, .slice none 0 0] 25 (0, 0))
  iz : wr.heap[I]? = some (.cells #[.int .u32 st, sv] 25 (0, 0))
  lz : wr.heap[L]? = some (.cells #[.int .i64 kl, .int .u32 al, .slice A2 nl c2, .int .u8 m2] 77 (0, 0))
  row : wr.ownsRow N 9 1 rv acc.length (acc.map NM.tv)
  sg : SG N wr sv ps
  old : Below N w wr
  NI : N < I
  NL : N < L
  IL : I ≠ L
section
variable {w wr : World} {N I L : Nat} {rv : Value} {acc : List (List UInt8)} {st kl al nl : Nat} {sv : Value} {ps : List (Nat × Value × List UInt8)} {A2 : Option Addr} {c2 m2 : Nat}
theorem RZ.kp {w2 : World} {ps' : List (Nat × Value × List UInt8)} (h : RZ w wr N I L rv acc st sv ps kl al nl A2 c2 m2) (hk : Kp N wr w2) (hs : SG N w2 sv ps') : RZ w w2 N I L rv acc st sv ps' kl al nl A2 c2 m2 :=
  ⟨hk.heap h.rz (by decide) (by decide), hk.heap h.iz (by decide) (by decide), hk.heap h.lz (by decide) (by decide), own_kp h.row hk (by decide) (by decide), hs, h.old.trans hk.old, h.NI, h.NL, h.IL⟩
theorem RZ.sz (h : RZ w wr N I L rv acc st sv ps kl al nl A2 c2 m2) : N ≤ wr.heap.size := Nat.le_of_lt (lt_of_heap h.rz)
theorem RZ.kept {wr' : World} (h : RZ w wr N I L rv acc st sv ps kl al nl A2 c2 m2) (hb : Below wr.heap.size wr wr') : RZ w wr' N I L rv acc st sv ps kl al nl A2 c2 m2 :=
  h.kp (Kp.of hb h.sz) (h.sg.below hb)
theorem RZ.im {w2 : World} {v' : Value} {ps' : List (Nat × Value × List UInt8)} (h : RZ w wr N I L rv acc st sv ps kl al nl A2 c2 m2) (hk : Kp N wr w2) (hs : SG N w2 v' ps') : RZ w (w2.setCell ⟨I, 1, none⟩ v') N I L rv acc st v' ps' kl al nl A2 c2 m2 := by
  have e1 := hk.heap h.iz (by decide) (by decide)
  have n1 : N ≠ I := by have := h.NI; omega
  refine ⟨(heap_other n1).trans (hk.heap h.rz (by decide) (by decide)), heap_set e1, (heap_other h.IL.symm).trans (hk.heap h.lz (by decide) (by decide)), own_off (own_kp h.row hk (by decide) (by decide)) e1 (by decide), hs.off e1 (by decide) _ _, ?_, h.NI, h.NL, h.IL⟩
  exact (h.old.trans hk.old).setCell (by have := h.NI; show N ≤ I; omega) _
theorem RZ.start (h : RZ w wr N I L rv acc st sv ps kl al nl A2 c2 m2) (a : Nat) : RZ w (wr.setCell ⟨I, 0, none⟩ (.int .u32 a)) N I L rv acc a sv ps kl al nl A2 c2 m2 := by
  have n1 : N ≠ I := by have := h.NI; omega
  refine ⟨(heap_other n1).trans h.rz, heap_set h.iz, (heap_other h.IL.symm).trans h.lz, own_off h.row h.iz (by decide), h.sg.off h.iz (by decide) _ _, ?_, h.NI, h.NL, h.IL⟩
  exact h.old.setCell (by have := h.NI; show N ≤ I; omega) _
theorem RZ.ln (h : RZ w wr N I L rv acc st sv ps kl al nl A2 c2 m2) (k' a' n' c' m' : Nat) (A' : Option Addr) : RZ w ((((wr.setCell ⟨L, 0, none⟩ (.int .i64 k')).setCell ⟨L, 1, none⟩ (.int .u32 a')).setCell ⟨L, 2, none⟩ (.slice A' n' c')).setCell ⟨L, 3, none⟩ (.int .u8 m')) N I L rv acc st sv ps k' a' n' A' c' m' := by
  have e1 := h.lz
  have e2 : (wr.setCell ⟨L, 0, none⟩ (.int .i64 k')).heap[L]? = some (.cells #[.int .i64 k', .int .u32 al, .slice A2 nl c2, .int .u8 m2] 77 (0, 0)) := heap_set e1
  have e3 : ((wr.setCell ⟨L, 0, none⟩ (.int .i64 k')).setCell ⟨L, 1, none⟩ (.int .u32 a')).heap[L]? = some (.cells #[.int .i64 k', .int .u32 a', .slice A2 nl c2, .int .u8 m2] 77 (0, 0)) := heap_set e2
  have e4 : (((wr.setCell ⟨L, 0, none⟩ (.int .i64 k')).setCell ⟨L, 1, none⟩ (.int .u32 a')).setCell ⟨L, 2, none⟩ (.slice A' n' c')).heap[L]? = some (.cells #[.int .i64 k', .int .u32 a', .slice A' n' c', .int .u8 m2] 77 (0, 0)) := heap_set e3
  have n1 : N ≠ L := by have := h.NL; omega
  have n2 : N ≤ L := by have := h.NL; omega
  exact ⟨(heap_other n1).trans ((heap_other n1).trans ((heap_other n1).trans ((heap_other n1).trans h.rz))), (heap_other h.IL).trans ((heap_other h.IL).trans ((heap_other h.IL).trans ((heap_other h.IL).trans h.iz))), heap_set e4,
    own_off (own_off (own_off (own_off h.row e1 (by decide)) e2 (by decide)) e3 (by decide)) e4 (by decide),
    (((h.sg.off e1 (by decide) _ _).off e2 (by decide) _ _).off e3 (by decide) _ _).off e4 (by decide) _ _,
    (((h.old.setCell n2 _).setCell n2 _).setCell n2 _).setCell n2 _, h.NI, h.NL, h.IL⟩
theorem RZ.done (h : RZ w wr N I L rv acc st sv ps kl al nl A2 c2 m2) (u u' : Value) : Below N w ((wr.setCell ⟨N, 0, none⟩ u).setCell ⟨N, 1, none⟩ u') ∧ SG N ((wr.setCell ⟨N, 0, none⟩ u).setCell ⟨N, 1, none⟩ u') sv ps :=
  ⟨(h.old.setCell (Nat.le_refl N) _).setCell (Nat.le_refl N) _, (h.sg.off h.rz (by decide) _ _).off (heap_set h.rz) (by decide) _ _⟩
theorem RZ.cells (h : RZ w wr N I L rv acc st sv ps kl al nl A2 c2 m2) : (wr.cell? ⟨L, 0, none⟩ = some (.int .i64 kl) ∧ wr.cell? ⟨L, 1, none⟩ = some (.int .u32 al) ∧ wr.cell? ⟨L, 2, none⟩ = some (.slice A2 nl c2) ∧ wr.cell? ⟨L, 3, none⟩ = some (.int .u8 m2)) ∧ (wr.cell? ⟨I, 0, none⟩ = some (.int .u32 st) ∧ wr.cell? ⟨I, 1, none⟩ = some sv) ∧ (wr.cell? ⟨N, 0, none⟩ = some (.int .u32 0) ∧ wr.cell? ⟨N, 1, none⟩ = some (.slice none 0 0)) ∧ (∀ o, wr.frozen? ⟨L, o, none⟩ = false) ∧ (∀ o, wr.frozen? ⟨I, o, none⟩ = false) ∧ (∀ o, wr.frozen? ⟨N, o, none⟩ = false) :=
  ⟨⟨cell_of h.lz rfl, cell_of h.lz rfl, cell_of h.lz rfl, cell_of h.lz rfl⟩, ⟨cell_of h.iz rfl, cell_of h.iz rfl⟩, ⟨cell_of h.rz rfl, cell_of h.rz rfl⟩, fun _ => unfrozen h.lz, fun _ => unfrozen h.iz, fun _ => unfrozen h.rz⟩
theorem RZ.new {w W0 w2 : World} {rv : Value} {acc : List (List UInt8)} (h0 : W0.heap[w.heap.size]? = some (.cells #[.int .u32 0, .slice none 0 0] 25 (0, 0))) (hb : Below w.heap.size w W0) (hr : Row W0 w2 rv acc) : RZ w ((w2.alloc (.cells #[.int .u32 0, .slice none 0 0] 25)).alloc (.cells #[.int .i64 0, .int .u32 0, .slice none 0 0, .int .u8 0] 77)) w.heap.size w2.heap.size (w2.heap.size + 1) rv acc 0 (.slice none 0 0) [] 0 0 0 none 0 0 := by
  obtain ⟨h1, h2⟩ := hr
  have e0 := (h2.block _ (lt_of_heap h0)).trans h0
  have hl := lt_of_heap e0
  have hb2 := below_two w2 (.cells #[.int .u32 0, .slice none 0 0] 25) (.cells #[.int .i64 0, .int .u32 0, .slice none 0 0, .int .u8 0] 77)
  refine ⟨(hb2.block _ hl).trans e0, ?_, ?_, own_blk (own_base h1 hb.size) hb2, SG.nil _ _, ?_, hl, by omega, by omega⟩
  · rw [Below.heap_alloc _ _ _ (by simp)]; exact heap_alloc_new w2 _
  · have := heap_alloc_new (w2.alloc (.cells #[.int .u32 0, .slice none 0 0] 25)) (.cells #[.int .i64 0, .int .u32 0, .slice none 0 0, .int .u8 0] 77)
    simpa using this
  · exact (hb.trans (h2.mono hb.size)).trans (hb2.mono (Nat.le_of_lt hl))
end
set_option maxHeartbeats 8000000 in
theorem rparse_bad (s : ByteArray) (w : World) (hs : s.size ≤ 1000000) (he : NM.lE s.data.toList ≠ 0) : Calls Tryd.prog 21 #[.string s] w (PsPost w s.data.toList) := by
  have HP := Lib.hid (show RM.PA s.data.toList = ([], 0, 0, NM.lE s.data.toList) by unfold RM.PA; rw [if_neg he])
  have HL := Lib.hid (fun W => rlines_any s W hs)
  obtain ⟨E, hE⟩ : ∃ E, NM.lE s.data.toList = E := ⟨_, rfl⟩
  rw [hE] at HP HL he
  have he' : (E == 0) = false := by simpa using he
  have HR := Lib.hid (show (w.alloc (.cells #[.int .u32 0, .slice none 0 0] 25)).heap[w.heap.size]? = some (.cells #[.int .u32 0, .slice none 0 0] 25 (0, 0)) from heap_alloc_new w _)
  have HB := Lib.hid (below_one w (.cells #[.int .u32 0, .slice none 0 0] 25))
  obtain ⟨W0, hW0⟩ : ∃ W0, w.alloc (.cells #[.int .u32 0, .slice none 0 0] 25) = W0 := ⟨_, rfl⟩
  rw [hW0] at HR HB
  clear hE
  go_enter Tryd.func21, Tryd.ntmps21
  go_upto_region 1 with fail
  clear hW0
  go_upto_region 2 with (go_at_call 35; refine (HL.out _).mono ?_; rintro e w2 ⟨v, rfl, hr2⟩; have HB2 := Lib.hid (HB.out.trans (hr2.2.mono HB.out.size)); have HR2 := Lib.hid ((hr2.2.block _ (lt_of_heap HR.out)).trans HR.out); clear hr2)
  have r0 := cell_of (o := 0) HR2.out rfl
  have r1 := cell_of (o := 1) HR2.out rfl
  have rf : ∀ o, w2.frozen? ⟨w.heap.size, o, none⟩ = false := fun o => unfrozen HR2.out
  go_wp2
  refine bodyPost_ret (v := .tuple #[.agg #[.int .u32 0, .slice none 0 0], .int .i64 0, .int .i64 E]) (by simp [results, Tryd.results21, go_sem, r0, r1]) rfl ?_
  exact PsPost.bad HP.out ((HB2.out.setCell (Nat.le_refl _) _).setCell (Nat.le_refl _) _)
end Go.Proofs.YtcilhippjiichaaDoor
