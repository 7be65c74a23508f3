/-
  The first going over a line: its labels, then a directive or an instruction.
  Both goings over a program's lines: what is left to do lies in a row of functions; a store into that row leaves all else as it was.
  Both goings over a program's lines, walked.
  How the goings begin; a function value is compared with nil.
  Both goings over a program's lines: the walk.
-/
import Derived.Test.YtcnmnkgnaknpdaaGreatDoorGl
import Derived.Test.YtcnmnkgnaknpdaaGreatDoorGi

/-! WalkN -/
namespace Go.Proofs.YtcnmnkgnaknpdaaGreatDoor
open Go.RowKit Go.Maps S02 S06 S07
def slen : Value → Nat | .slice _ n _ => n | _ => 0
structure BI (q : Q) (w wr : World) (st : AS.St) (W0 : List (List UInt8)) (st' : AS.St) (r : List (List UInt8)) (v : Value) : Prop where
  ps : S1 q wr st'
  mv : Mv q w wr
  tx : TxR wr v r
  lab : AS.labs st W0 = AS.labs st' r
  items : st'.items = st.items
  pos : st'.pos = st.pos
  len : st'.names.length + r.length ≤ 900000
  sz : ∀ y ∈ r, y.length ≤ 200000
  cnt : r.length ≤ 200000
theorem TxR.slen {w : World} {v : Value} {l : List (List UInt8)} (h : TxR w v l) : slen v = l.length := by
  obtain ⟨a, c, rfl⟩ := txr_len h
  rfl
theorem TxR.tail {w : World} {g o n c : Nat} {s : List UInt8} {r : List (List UInt8)} (h : TxR w (.slice (some ⟨g, o, none⟩) n c) (s :: r)) : TxR w (.slice (some ⟨g, o + 1, none⟩) r.length (c - 1)) r := by
  by_cases e : r = []
  · subst e; exact .inl ⟨rfl, _, _, rfl⟩
  · rcases h with ⟨h, _⟩ | ⟨_, g', o', c', cs, fr, e1, h1, h2, h3, h4⟩
    · cases h
    · injection e1 with e1 e2 e3
      injection e1 with e1
      injection e1 with e4 e5
      subst e3 e4 e5
      rw [List.length_cons] at h1
      refine .inr ⟨e, g, o + 1, c - 1, cs, fr, rfl, by omega, by omega, h3, fun j hj => ?_⟩
      have := h4 (j + 1) (by rw [List.length_cons]; omega)
      rw [show o + 1 + j = o + (j + 1) by omega, this]
      rfl
theorem itOf_items {st st' x : AS.St} (h : st'.items = st.items) : itOf st x = itOf st' x := by unfold itOf; rw [h]
theorem BI.last {q : Q} {w wr w' : World} {st st' : AS.St} {k : Nat} {l : List UInt8} {r : List (List UInt8)} {v : Value} {e : Ending} (h : BI q w wr st (NM.wd (AS.code l)) st' r v) (hl : AS.labs st' r = (0, st', r)) (he : HdPost q wr (AS.one st' (k + 1) r).1 (AS.one st' (k + 1) r).2 (itOf st' (AS.one st' (k + 1) r).2) e w') : HdPost q w (AS.lineE st k l) (AS.lineS st k l) (itOf st (AS.lineS st k l)) e w' := by
  obtain ⟨h1, h2⟩ := AS.line_end (k := k) (h.lab.trans hl)
  rw [h1, h2, itOf_items h.items]
  exact he.from h.mv
theorem BI.empty {q : Q} {w wr : World} {st st' : AS.St} {k : Nat} {l : List UInt8} {v : Value} (h : BI q w wr st (NM.wd (AS.code l)) st' [] v) : HdPost q w (AS.lineE st k l) (AS.lineS st k l) (itOf st (AS.lineS st k l)) (.returned (.tuple #[.nilFunc, .int .i64 0])) wr := by
  refine h.last (k := k) rfl ⟨_, rfl, Mv.refl _ _, fun _ => ⟨h.ps, ?_⟩⟩
  show Rest q wr .nilFunc (itOf st' st')
  rw [it_same rfl]
  rfl
theorem BI.bad {q : Q} {w wr w' : World} {st st' : AS.St} {k : Nat} {l : List UInt8} {s : List UInt8} {r : List (List UInt8)} {v : Value} (h : BI q w wr st (NM.wd (AS.code l)) st' (s :: r) v) (hs : Lib.hasSuffix s [58] = true) (hf : ¬ AS.frE st'.names (Lib.trimSuffix s [58]) = 0) (hw : Below wr.heap.size wr w') : HdPost q w (AS.lineE st k l) (AS.lineS st k l) (itOf st (AS.lineS st k l)) (.returned (.tuple #[.nilFunc, .int .i64 (AS.frE st'.names (Lib.trimSuffix s [58]))])) w' := by
  have := AS.line_err (k := k) (h.lab.trans (AS.labs_bad hs hf)) hf
  rw [this]
  exact ⟨_, rfl, h.mv.trans (Mv.below hw (PS.N h.ps)), fun h0 => absurd h0 hf⟩
theorem BI.more {q : Q} {w wr w' : World} {st st' : AS.St} {W0 : List (List UInt8)} {s : List UInt8} {r : List (List UInt8)} {v v' : Value} (h : BI q w wr st W0 st' (s :: r) v) (hv : TxR wr v' r) (hs : Lib.hasSuffix s [58] = true) (hf : AS.frE st'.names (Lib.trimSuffix s [58]) = 0) (mv : Mv q wr w') (hp : PS q w' (st'.names ++ [(Lib.trimSuffix s [58], st'.pos)]) st'.pos (AS.cov st'.items) (fun _ => 0)) : BI q w w' st W0 { st' with names := st'.names ++ [(Lib.trimSuffix s [58], st'.pos)] } r v' where
  ps := hp
  mv := h.mv.trans mv
  tx := hv.keep mv.tame
  lab := h.lab.trans (AS.labs_ok hs hf)
  items := h.items
  pos := h.pos
  len := by have := h.len; simp at this ⊢; omega
  sz := fun y hy => h.sz y (List.mem_cons_of_mem _ hy)
  cnt := by have := h.cnt; simp at this; omega
theorem bt_of (l : List UInt8) : ∃ T : ByteArray, (⟨l.toArray⟩ : ByteArray) = T ∧ T.data.toList = l ∧ T.size = l.length := ⟨_, rfl, rfl, by simp [ByteArray.size]⟩
set_option maxHeartbeats 4000000 in
theorem begin_any {q : Q} {w : World} {st : AS.St} (k : Nat) (L : ByteArray) (dv : Value) (hp : S1 q w st) (hx : st.pos ≤ 16384) (hdv : Dirs q w dv) (hL : L.size ≤ 99000) (hn : st.names.length ≤ 700000) :
    Calls Tryz.prog 49 #[pt q.P, .string L, dv] w (HdPost q w (AS.lineE st k L.data.toList) (AS.lineS st k L.data.toList) (itOf st (AS.lineS st k L.data.toList))) := by
  obtain ⟨m, hm⟩ := hp.tb.2.2
  have HC := Lib.hid (Tryz.strings_Cut L ⟨#[59]⟩ m w (by omega) hm)
  obtain ⟨C, hC, hC1, hC2⟩ := bt_of (Lib.cut L.data.toList [59]).1
  change Hid (Calls Tryz.prog 92 #[.string L, .string ⟨#[59]⟩] w fun e w' => e = .returned (.tuple #[.string ⟨(Lib.cut L.data.toList [59]).1.toArray⟩, .string ⟨(Lib.cut L.data.toList [59]).2.1.toArray⟩, .bool (Lib.cut L.data.toList [59]).2.2]) ∧ ∃ n, w' = w.drewN n) at HC
  rw [hC] at HC
  have hCs : C.size ≤ 99000 := by
    rw [hC2]
    have := AS.cut_le L.data.toList [59]
    rw [NM.len_eq] at this
    omega
  generalize (⟨(Lib.cut L.data.toList [59]).2.1.toArray⟩ : ByteArray) = C' at HC
  generalize (Lib.cut L.data.toList [59]).2.2 = cb at HC
  have hW : NM.wd C.data.toList = NM.wd (AS.code L.data.toList) := by rw [hC1]; rfl
  have HW := Lib.hid (fun W => words_any C W (by omega))
  rw [hW] at HW
  have ht := AS.wd_tot (AS.code L.data.toList)
  have hcl := AS.code_le L.data.toList
  rw [NM.len_eq] at hcl
  have HB0 := Lib.hid (fun (W : World) (v : Value) (hb : Below w.heap.size w W) (hv : TxR W v (NM.wd (AS.code L.data.toList))) => (show BI q w W st (NM.wd (AS.code L.data.toList)) st (NM.wd (AS.code L.data.toList)) v from ⟨PS.below hp hb, Mv.below hb (PS.N hp), hv, rfl, rfl, rfl, by omega, fun y hy => by have := AS.tot_mem hy; omega, by omega⟩))
  have HDV := Lib.hid hdv
  clear hC hC1 hC2 hCs hW hm ht hcl hp hdv
  unfold pt
  go_enter Tryz.func49, Tryz.ntmps49
  go_wp2_with (first
    | (go_at_call 92; refine HC.out.mono ?_; rintro e w1 ⟨rfl, n1, rfl⟩)
    | (go_at_call 93; refine (HW.out _).mono ?_; rintro e w2 ⟨wv, rfl, hrow⟩; have HRow := Lib.hid hrow; clear hrow))
  have HBI := Lib.hid (HB0.out w2 wv ((below_drewN' w n1).trans (HRow.out.2.mono (below_drewN' w n1).size)) (TxR.of_row HRow.out))
  clear HB0 HRow HC HW
  go_loopw [11] (fun v wr => ∃ st' r, Hid (BI q w wr st (NM.wd (AS.code L.data.toList)) st' r v)) (fun v _ => slen v)
  case atStart => exact ⟨st, _, HBI⟩
  case round =>
    obtain ⟨st', r, hR⟩ := hrel
    cases r with
    | nil =>
      obtain ⟨a, c, hv⟩ := txr_len hR.out.tx
      rw [List.length_nil] at hv
      subst hv
      go_wp2
      go_ret2
      exact hR.out.empty
    | cons s r =>
      obtain ⟨g, o, c, hv⟩ := txr_form hR.out.tx (by simp)
      obtain ⟨m, hm⟩ : ∃ m, r.length = m := ⟨_, rfl⟩
      obtain ⟨S, hS, hS1, hS2⟩ := bt_of s
      subst hS1
      rw [List.length_cons, hm] at hv
      subst hv
      have hSz : S.size ≤ 200000 := by rw [hS2]; exact hR.out.sz _ (by simp)
      have c0 : wr.cell? ⟨g, o, none⟩ = some (.string S) := by
        have := hR.out.tx.cellOf (by simp) 0 (by simp)
        rw [Nat.add_zero] at this
        rw [this]
        show some (Value.string ⟨S.data.toList.toArray⟩) = _
        rw [hS]
      have hmc : m + 1 ≤ c ∧ c ≤ maxLen := by
        rcases hR.out.tx with ⟨h, _⟩ | ⟨_, g', o', c', cs, fr, e, h1, h2, h3, h4⟩
        · cases h
        · injection e with e1 e2 e3
          subst e3
          rw [List.length_cons, hm] at h1
          exact ⟨h1, h2⟩
      unfold maxLen at hmc
      obtain ⟨hmc, hcm⟩ := hmc
      have HM := Lib.hid hm
      obtain ⟨o', ho', htl⟩ : ∃ o', (c = 1 ∧ m = 0 ∧ o' = o ∨ ¬ c = 1 ∧ o' = o + 1) ∧ TxR wr (.slice (some ⟨g, o', none⟩) m (c - 1)) r := by
        by_cases hc1 : c = 1
        · have hm0 : m = 0 := by omega
          exact ⟨o, .inl ⟨hc1, hm0, rfl⟩, .inl ⟨List.length_eq_zero_iff.1 (hm.trans hm0), _, _, by rw [hm0]⟩⟩
        · exact ⟨o + 1, .inr ⟨hc1, rfl⟩, by have := hR.out.tx.tail; rwa [hm] at this⟩
      clear hmc
      have HTL := Lib.hid htl
      have hml : m ≤ 200000 := by have := hR.out.cnt; simp at this; omega
      obtain ⟨T, hT, hT1, hT2⟩ := bt_of (Lib.trimSuffix S.data.toList [58])
      have HCS : Hid (∀ W, Calls Tryz.prog 94 #[.string S, .string ⟨#[58]⟩] W fun e w' => e = .returned (.tuple #[.string T, .bool (Lib.hasSuffix S.data.toList [58])]) ∧ w' = W) := Lib.hid (fun W => by rw [← hT]; exact Tryz.strings_CutSuffix S ⟨#[58]⟩ W (by omega))
      have hTz : T.size ≤ 200000 := by
        rw [hT2]
        have := Lib.trimSuffix_le S.data.toList [58]
        rw [NM.len_eq] at this
        omega
      clear hS hS2 hT hT2 hm
      cases hb : Lib.hasSuffix S.data.toList [58] with
      | false =>
        rw [hb] at HCS
        have HHP : Hid (∀ W, Calls Tryz.prog 75 #[.string S, .string ⟨#[46]⟩] W fun e w' => e = .returned (.bool (Lib.hasPrefix S.data.toList [46])) ∧ w' = W) := Lib.hid (fun W => Tryz.strings_HasPrefix S ⟨#[46]⟩ W)
        have HLB := Lib.hid (AS.labs_no (p := st') (r := r) hb)
        have hdr := (Below.refl wr.heap.size wr).drew
        clear hb
        cases hd : Lib.hasPrefix S.data.toList [46] with
        | true =>
          rw [hd] at HHP
          have HDI := Lib.hid (direct_any (k + 1) S r (.slice (some ⟨g, o', none⟩) m (c - 1)) dv (PS.below hR.out.ps hdr) (by have := hR.out.pos; omega) (by have := hR.out.len; omega) (HDV.out.keep (hR.out.mv.tame.trans (Tame.below hdr))) (htl.keep (Tame.below hdr)) (fun y hy => by have := hR.out.sz y (List.mem_cons_of_mem _ hy); omega) (by rw [HM.out]; omega) hd)
          have HDR := Lib.hid (Mv.below (q := q) hdr (PS.N hR.out.ps))
          clear hd htl hdr
          rcases ho' with ⟨rfl, rfl, rfl⟩ | ⟨hc1, rfl⟩
          all_goals
            go_wp2_with (first
              | (go_at_call 94; refine (HCS.out _).mono ?_; rintro e w3 ⟨rfl, rfl⟩)
              | (go_at_call 75; refine (HHP.out _).mono ?_; rintro e w3 ⟨rfl, rfl⟩))
            go_region_with ((go_at_call 95; refine HDI.out.mono ?_; rintro e w3 h3; have HE := Lib.hid h3; obtain ⟨rv, rfl, _⟩ := h3))
            all_goals
              go_wp2
              go_ret2
              exact hR.out.last HLB.out (HE.out.from HDR.out)
        | false =>
          rw [hd] at HHP
          have HIN := Lib.hid (h_inst (k + 1) S (.slice (some ⟨g, o', none⟩) m (c - 1)) S.data.toList r (PS.below hR.out.ps hdr) (by have := hR.out.pos; omega) (htl.keep (Tame.below hdr)) rfl)
          unfold pt at HIN
          have HDR := Lib.hid (Mv.below (q := q) hdr (PS.N hR.out.ps))
          have HOne := Lib.hid (show AS.one st' (k + 1) (S.data.toList :: r) = AS.lay st' 1 (k + 1) 4 4 (S.data.toList :: r) by rw [AS.one, if_pos hd])
          clear hd htl hdr
          rcases ho' with ⟨rfl, rfl, rfl⟩ | ⟨hc1, rfl⟩
          all_goals
            go_wp2_with (first
              | (go_at_call 94; refine (HCS.out _).mono ?_; rintro e w3 ⟨rfl, rfl⟩)
              | (go_at_call 75; refine (HHP.out _).mono ?_; rintro e w3 ⟨rfl, rfl⟩))
            go_region_with ((go_at_call 96; refine HIN.out.mono ?_; rintro e w3 h3; have HE := Lib.hid h3; obtain ⟨rv, rfl, _⟩ := h3))
            all_goals
              go_wp2
              go_ret2
              refine hR.out.last HLB.out (HdPost.from ?_ HDR.out)
              rw [HOne.out]
              exact HE.out.weaken rfl fun _ => ⟨rfl, (it_put _ _ _ _ _).symm⟩
      | true =>
        rw [hb] at HCS
        have HF := Lib.hid (fresh_any T hR.out.ps (by omega))
        by_cases hF : AS.frE st'.names (Lib.trimSuffix S.data.toList [58]) = 0
        · have HFn := Lib.hid (fr_none hF)
          rw [hT1, hF] at HF
          have HD := Lib.hid (define_any T st'.pos hR.out.ps (by omega) (by rw [hT1]; exact HFn.out) (by have := hR.out.pos; omega) (by have := hR.out.len; omega))
          rw [hT1] at HD
          obtain ⟨v0, p0, p1, p2, p3, p4, pf, _⟩ := PS.c hR.out.ps
          obtain ⟨X, hX⟩ : ∃ X, st'.pos = X := ⟨_, rfl⟩
          have hX1 : X ≤ 16384 := by have := hR.out.pos; omega
          rw [hX] at p2 HD
          have HW1 := Lib.hid (show IntKind.u32.wrap (X : Int) = (X : Int) by rw [IntKind.wrap_u32]; omega)
          have HW2 := Lib.hid (show (X : Int) % 4294967296 = (X : Int) by omega)
          have HXX := Lib.hid hX
          have HK := Lib.hid (And.intro hb hF)
          clear hb hF hX p0 p1 p3 p4 hT1 htl
          rcases ho' with ⟨rfl, rfl, rfl⟩ | ⟨hc1, rfl⟩
          all_goals
            go_wp2_with (first
              | (go_at_call 94; refine (HCS.out _).mono ?_; rintro e w3 ⟨rfl, rfl⟩)
              | (go_at_call 90; refine HF.out.mono ?_; rintro e w3 ⟨rfl, rfl⟩)
              | (go_at_call 91; (first | rw [HW1.out] | rw [HW2.out] | skip); refine HD.out.mono ?_; rintro e w3 ⟨rfl, hp3, mv3⟩; have HP3 := Lib.hid hp3; have HM3 := Lib.hid mv3; clear hp3 mv3))
            go_roundw
            case rel => exact ⟨_, r, Lib.hid (BI.more hR.out HTL.out HK.out.1 HK.out.2 HM3.out (by rw [HXX.out]; exact HP3.out))⟩
            case measure => first | (show 0 < 1; omega) | (show m < m + 1; omega) | (simp [slen])
        · have HK := Lib.hid (And.intro hb hF)
          rw [hT1] at HF
          have HE := Lib.hid (fun (w' : World) (hw : Below wr.heap.size wr w') => hR.out.bad (k := k) hb hF hw)
          clear hb
          generalize AS.frE st'.names (Lib.trimSuffix S.data.toList [58]) = F at *
          have hE' : (F == 0) = false := by simp [hF]
          have hE'' : (F != 0) = true := by simp [hF]
          clear HK hT1
          go_wp2_with (first
            | (go_at_call 94; refine (HCS.out _).mono ?_; rintro e w3 ⟨rfl, rfl⟩)
            | (go_at_call 90; refine HF.out.mono ?_; rintro e w3 ⟨rfl, rfl⟩))
          go_ret2
          exact HE.out _ (Below.refl _ _)
end Go.Proofs.YtcnmnkgnaknpdaaGreatDoor
/-! WalkO -/
namespace Go.Proofs.YtcnmnkgnaknpdaaGreatDoor
open Go.RowKit Go.Maps S02 S06 S07
/-- Only a row of functions has been written. -/
structure Off (R : Nat) (w w' : World) : Prop where
  os : w'.os = w.os
  tape : w'.tape = w.tape
  output : w'.output = w.output
  size : w'.heap.size = w.heap.size
  block : ∀ k : Nat, k ≠ R → w'.heap[k]? = w.heap[k]?
  row : ∃ c f, w.heap[R]? = some (.cells c 105 f)
theorem Off.set {w : World} {R o : Nat} {v : Value} {c : Array Value} {f : Nat × Nat} (h : w.heap[R]? = some (.cells c 105 f)) : Off R w (w.setCell ⟨R, o, none⟩ v) :=
  ⟨rfl, rfl, rfl, size_set _ _ _, fun _ hk => heap_other hk, c, f, h⟩
theorem Off.ne {R k : Nat} {w w' : World} (h : Off R w w') {c : Array Value} {e : TypeId} {f : Nat × Nat} (hk : w.heap[k]? = some (.cells c e f)) (he : e ≠ 105) : k ≠ R := by
  rintro rfl
  obtain ⟨c', f', h'⟩ := h.row
  rw [hk] at h'
  injection h' with h'
  injection h' with h1 h2
  exact he h2
theorem Off.keep {R k : Nat} {w w' : World} (h : Off R w w') {c : Array Value} {e : TypeId} {f : Nat × Nat} (hk : w.heap[k]? = some (.cells c e f)) (he : e ≠ 105) : w'.heap[k]? = some (.cells c e f) := (h.block k (h.ne hk he)).trans hk
theorem Off.below {R N : Nat} {w w' : World} (h : Off R w w') (hN : N ≤ R) : Below N w w' := ⟨h.os, h.tape, h.output, by rw [h.size]; exact Nat.le_refl _, fun k hk => h.block k (by omega)⟩
theorem PS.off {q : Q} {w w' : World} {ns : List (List UInt8 × Nat)} {x : Int} {pl : Nat → Bool} {m : Nat → UInt8} {R : Nat} (h : PS q w ns x pl m) (ho : Off R w w') (hN : q.N ≤ R) : PS q w' ns x pl m := by
  obtain ⟨tb, n5, k5, ne, ⟨v, hv, hw⟩, un, hm, ⟨c, hc, c1⟩, ⟨d, hd, d1⟩⟩ := h
  refine ⟨tb_old tb (ho.below hN) n5.1, n5, by rw [ho.size]; exact k5, ne, ⟨v, ho.keep hv (by decide), own_keep hw fun k hk => ?_⟩, un, map_keep hm (ho.block _ ?_), ⟨c, ho.keep hc (by decide), c1⟩, ⟨d, ho.keep hd (by decide), d1⟩⟩
  · obtain ⟨_, _, c', hc'⟩ := own_lt hw hk
    exact ho.block k (ho.ne hc' (by decide))
  · rintro rfl
    obtain ⟨c', f', h'⟩ := ho.row
    obtain ⟨es, clock, h1, _⟩ := hm
    rw [h1] at h'
    cases h'
theorem Box.off {w w' : World} {k R : Nat} {t : TypeId} {v : Value} (h : Box w k t v) (ho : Off R w w') (ht : t ≠ 105) : Box w' k t v := ho.keep h ht
theorem TxR.off {w w' : World} {v : Value} {l : List (List UInt8)} {R : Nat} (h : TxR w v l) (ho : Off R w w') : TxR w' v l := by
  rcases h with h | ⟨h0, g, o, c, cs, fr, hv, h1, h2, h3, h4⟩
  · exact .inl h
  · have e := ho.block g (ho.ne h3 (by decide))
    exact .inr ⟨h0, g, o, c, cs, fr, hv, h1, h2, e.trans h3, fun j hj => (World.cell?_of_block (w := w) (a := ⟨g, o + j, none⟩) e).trans (h4 j hj)⟩
theorem Rest.off {q : Q} {w w' : World} {r : Value} {x : Option AS.It} {R : Nat} (h : Rest q w r x) (ho : Off R w w') : Rest q w' r x := by
  cases x with
  | none => exact h
  | some x =>
    rcases h with h | ⟨h0, k1, k2, k3, k4, D, v, hr, b1, b2, b3, b4, hD, hv⟩ | ⟨k1, k2, k3, k4, k5, k6, v, lo, hi, sz, hr, b1, b2, b3, b4, b5, b6, hv, hc⟩
    · exact .inl h
    · exact .inr (.inl ⟨h0, k1, k2, k3, k4, D, v, hr, b1.off ho (by decide), b2.off ho (by decide), b3.off ho (by decide), b4.off ho (by decide), hD, hv.off ho⟩)
    · exact .inr (.inr ⟨k1, k2, k3, k4, k5, k6, v, lo, hi, sz, hr, b1.off ho (by decide), b2.off ho (by decide), b3.off ho (by decide), b4.off ho (by decide), b5.off ho (by decide), b6.off ho (by decide), hv.off ho, hc⟩)
theorem DirD.off {q : Q} {w w' : World} {r : Value} {size lo hi : Int} {R : Nat} (h : DirD q w r size lo hi) (ho : Off R w w') : DirD q w' r size lo hi := by
  obtain ⟨k1, k3, k4, k6, hr, b1, b3, b4, b6⟩ := h
  exact ⟨k1, k3, k4, k6, hr, b1.off ho (by decide), b3.off ho (by decide), b4.off ho (by decide), b6.off ho (by decide)⟩
theorem Dirs.off {q : Q} {w w' : World} {v : Value} {R : Nat} (h : Dirs q w v) (ho : Off R w w') : Dirs q w' v := by
  obtain ⟨g, kb, d2, d3, hv, hb, hg, h2, h3⟩ := h
  exact ⟨g, kb, d2, d3, hv, hb.off ho (by decide), ho.keep hg (by decide), h2.off ho, h3.off ho⟩
/-- During the first going: k lines are done. -/
structure A1 (q : Q) (w wr : World) (R : Nat) (dv v : Value) (ls : List (List UInt8)) (k : Nat) (st : AS.St) (rs : List (Option AS.It)) (c : Array Value) : Prop where
  ps : S1 q wr st
  old : Below q.N w wr
  hR : q.N ≤ R
  dv : Dirs q wr dv
  tx : TxR wr v ls
  row : wr.heap[R]? = some (.cells c 105 (0, 0))
  size : c.size = ls.length
  len : rs.length = k
  its : st.items = rs.filterMap id
  rst : ∀ j, j < k → ∃ r, c[j]? = some r ∧ Rest q wr r (rs.getD j none)
  lin : ∀ j x, rs[j]? = some (some x) → x.line = j + 1
  spec : AS.first ls 0 ⟨[], 0, []⟩ = AS.first (ls.drop k) k st
  ok : AS.Ok st (AS.tot (ls.take k) + k)
theorem itOf_new {p p' : AS.St} {n : Nat} (h : AS.newIt p p' n) : p'.items = p.items ++ (itOf p p').toList ∧ ∀ x, itOf p p' = some x → x.line = n := by
  rcases h with h | ⟨x, h, hx⟩
  · rw [it_same h]
    exact ⟨by rw [h]; simp, fun x hx => by cases hx⟩
  · have : itOf p p' = some x := by unfold itOf; rw [h, if_neg (by simp)]; simp
    rw [this]
    exact ⟨by rw [h]; rfl, fun y hy => by injection hy with hy; subst hy; exact hx⟩
theorem filterMap_snoc (rs : List (Option AS.It)) (x : Option AS.It) : (rs ++ [x]).filterMap id = rs.filterMap id ++ x.toList := by
  rw [List.filterMap_append]
  cases x <;> rfl
theorem A1.line {q : Q} {w wr : World} {R : Nat} {dv v : Value} {ls : List (List UInt8)} {k : Nat} {st : AS.St} {rs : List (Option AS.It)} {c : Array Value} (h : A1 q w wr R dv v ls k st rs c) (hk : k < ls.length) (ht : ls.length + AS.tot ls ≤ 65536) :
    (ls.getD k []).length ≤ 65536 ∧ st.pos ≤ 16384 ∧ st.names.length ≤ 700000 := by
  have h1 := AS.getD_tot ls k
  have h2 := h.ok.nms
  have h3 := AS.tot_take ls k
  exact ⟨by omega, h.ok.pos, by omega⟩
theorem A1.step {q : Q} {w wr w3 : World} {R : Nat} {dv v r : Value} {ls : List (List UInt8)} {k : Nat} {st : AS.St} {rs : List (Option AS.It)} {c : Array Value} (h : A1 q w wr R dv v ls k st rs c) (hk : k < ls.length) (ht : ls.length + AS.tot ls ≤ 65536) (h0 : AS.lineE st k (ls.getD k []) = 0) (mv : Mv q wr w3) (hs : S1 q w3 (AS.lineS st k (ls.getD k []))) (hr : Rest q w3 r (itOf st (AS.lineS st k (ls.getD k [])))) :
    A1 q w (w3.setCell ⟨R, k, none⟩ r) R dv v ls (k + 1) (AS.lineS st k (ls.getD k [])) (rs ++ [itOf st (AS.lineS st k (ls.getD k []))]) (c.setIfInBounds k r) := by
  have hrow : w3.heap[R]? = some (.cells c 105 (0, 0)) := (mv.tame.block R (by rw [h.row]; rfl)).trans h.row
  have ho : Off R w3 (w3.setCell ⟨R, k, none⟩ r) := Off.set hrow
  have hl := (h.line hk ht).1
  obtain ⟨g1, g2⟩ := AS.line_ok h.ok (k := k) (l := ls.getD k []) (by omega) h0
  obtain ⟨g3, g4⟩ := itOf_new g2
  refine ⟨PS.off hs ho h.hR, (h.old.trans mv.old).trans (ho.below h.hR), h.hR, (h.dv.keep mv.tame).off ho, (h.tx.keep mv.tame).off ho, heap_set hrow, by rw [Array.size_setIfInBounds]; exact h.size, by simp [h.len], by rw [filterMap_snoc, g3, h.its], fun j hj => ?_, fun j x hx => ?_, ?_, ?_⟩
  · by_cases e : j = k
    · subst e
      refine ⟨r, by rw [Array.getElem?_setIfInBounds, if_pos rfl, if_pos (by rw [h.size]; exact hk)], ?_⟩
      rw [List.getD_eq_getElem?_getD, List.getElem?_append_right (by rw [h.len]; omega), h.len]
      simpa using hr.off ho
    · obtain ⟨u, hu, hu'⟩ := h.rst j (by omega)
      refine ⟨u, by rw [Array.getElem?_setIfInBounds, if_neg (fun e' => e e'.symm)]; exact hu, ?_⟩
      rw [List.getD_eq_getElem?_getD, List.getElem?_append_left (by rw [h.len]; omega), ← List.getD_eq_getElem?_getD]
      exact (hu'.keep mv.tame).off ho
  · by_cases e : j < rs.length
    · rw [List.getElem?_append_left e] at hx
      exact h.lin j x hx
    · rw [List.getElem?_append_right (by omega)] at hx
      have : j - rs.length = 0 := by
        rcases Nat.eq_zero_or_pos (j - rs.length) with h' | h'
        · exact h'
        · rw [List.getElem?_eq_none (by simp; omega)] at hx; cases hx
      rw [this] at hx
      simp at hx
      rw [g4 x hx]
      have := h.len
      omega
  · rw [h.spec, List.drop_eq_getElem_cons hk, AS.first]
    rw [List.getD_eq_getElem?_getD, List.getElem?_eq_getElem hk] at h0 ⊢
    simp only [Option.getD_some] at h0 ⊢
    rw [if_pos h0]
  · refine g1.mono ?_
    rw [List.take_succ_eq_append_getElem hk, AS.tot_snoc, List.getD_eq_getElem?_getD, List.getElem?_eq_getElem hk]
    simp only [Option.getD_some]
    omega
theorem A1.bad {q : Q} {w wr : World} {R : Nat} {dv v : Value} {ls : List (List UInt8)} {k : Nat} {st : AS.St} {rs : List (Option AS.It)} {c : Array Value} (h : A1 q w wr R dv v ls k st rs c) (hk : k < ls.length) (h0 : ¬ AS.lineE st k (ls.getD k []) = 0) : AS.first ls 0 ⟨[], 0, []⟩ = (AS.lineE st k (ls.getD k []), k + 1, st) := by
  rw [h.spec, List.drop_eq_getElem_cons hk, AS.first]
  rw [List.getD_eq_getElem?_getD, List.getElem?_eq_getElem hk] at h0 ⊢
  simp only [Option.getD_some] at h0 ⊢
  rw [if_neg h0]
theorem A1.all {q : Q} {w wr : World} {R : Nat} {dv v : Value} {ls : List (List UInt8)} {st : AS.St} {rs : List (Option AS.It)} {c : Array Value} (h : A1 q w wr R dv v ls ls.length st rs c) : AS.first ls 0 ⟨[], 0, []⟩ = (0, 0, st) := by
  rw [h.spec, List.drop_length]
  rfl
/-- During the second going: what k lines have left is done. -/
structure A2 (q : Q) (w wr : World) (R n : Nat) (st : AS.St) (rs : List (Option AS.It)) (c : Array Value) (k : Nat) (m : Nat → UInt8) : Prop where
  ps : PS q wr st.names st.pos (AS.cov st.items) m
  old : Below q.N w wr
  row : wr.heap[R]? = some (.cells c 105 (0, 0))
  size : c.size = n
  len : rs.length = n
  its : st.items = rs.filterMap id
  rst : ∀ j, j < n → ∃ r, c[j]? = some r ∧ Rest q wr r (rs.getD j none)
  lin : ∀ j x, rs[j]? = some (some x) → x.line = j + 1
  zero : ∀ i, AS.cov ((rs.take k).filterMap id) i = false → m i = 0
  spec : AS.second st.names st.items (fun _ => 0) = AS.second st.names ((rs.drop k).filterMap id) m
  ok : AS.Ok st 100000
theorem A2.start {q : Q} {w wr : World} {R : Nat} {dv v : Value} {ls : List (List UInt8)} {st : AS.St} {rs : List (Option AS.It)} {c : Array Value} (h : A1 q w wr R dv v ls ls.length st rs c) (ht : ls.length + AS.tot ls ≤ 65536) : A2 q w wr R ls.length st rs c 0 (fun _ => 0) :=
  ⟨h.ps, h.old, h.row, h.size, h.len, h.its, h.rst, h.lin, fun _ _ => rfl, by rw [h.its]; rfl, h.ok.mono (by have := AS.tot_take ls ls.length; omega)⟩
theorem A2.drop {q : Q} {w wr : World} {R n : Nat} {st : AS.St} {rs : List (Option AS.It)} {c : Array Value} {k : Nat} {m : Nat → UInt8} (h : A2 q w wr R n st rs c k m) (hk : k < n) : rs.drop k = rs.getD k none :: rs.drop (k + 1) ∧ rs.take (k + 1) = rs.take k ++ [rs.getD k none] ∧ rs[k]? = some (rs.getD k none) := by
  have hk' : k < rs.length := by rw [h.len]; exact hk
  rw [List.getD_eq_getElem?_getD, List.getElem?_eq_getElem hk']
  exact ⟨List.drop_eq_getElem_cons hk', List.take_succ_eq_append_getElem hk', rfl⟩
theorem A2.skip {q : Q} {w wr : World} {R n : Nat} {st : AS.St} {rs : List (Option AS.It)} {c : Array Value} {k : Nat} {m : Nat → UInt8} (h : A2 q w wr R n st rs c k m) (hk : k < n) (hx : rs.getD k none = none) : A2 q w wr R n st rs c (k + 1) m := by
  obtain ⟨h1, h2, h3⟩ := h.drop hk
  rw [hx] at h1 h2
  refine ⟨h.ps, h.old, h.row, h.size, h.len, h.its, h.rst, h.lin, fun i hi => h.zero i ?_, ?_, h.ok⟩
  · rw [h2, filterMap_snoc] at hi; simpa using hi
  · rw [h.spec, h1]; rfl
theorem A2.mem {q : Q} {w wr : World} {R n : Nat} {st : AS.St} {rs : List (Option AS.It)} {c : Array Value} {k : Nat} {m : Nat → UInt8} (h : A2 q w wr R n st rs c k m) (hk : k < n) {x : AS.It} (hx : rs.getD k none = some x) : AS.gd x ∧ x.line = k + 1 ∧ (∀ i, x.pos ≤ i → i < x.pos + x.size → m i = 0) ∧ AS.second st.names st.items (fun _ => 0) = AS.second st.names (x :: (rs.drop (k + 1)).filterMap id) m := by
  obtain ⟨h1, h2, h3⟩ := h.drop hk
  rw [hx] at h1 h2 h3
  have hs : st.items = (rs.take k).filterMap id ++ x :: (rs.drop (k + 1)).filterMap id := by
    rw [h.its]
    conv => lhs; rw [← List.take_append_drop k rs, List.filterMap_append, h1]
    rfl
  refine ⟨h.ok.its x (by rw [hs]; simp), h.lin k x h3, fun i i1 i2 => h.zero i (h.ok.dis _ x _ hs i i1 i2), ?_⟩
  rw [h.spec, h1]
  rfl
theorem A2.zeros {q : Q} {w wr : World} {R n : Nat} {st : AS.St} {rs : List (Option AS.It)} {c : Array Value} {k : Nat} {m : Nat → UInt8} (h : A2 q w wr R n st rs c k m) (hk : k < n) {x : AS.It} (hx : rs.getD k none = some x) (h4 : x.kind = 4) : A2 q w wr R n st rs c (k + 1) m := by
  obtain ⟨h1, h2, h3⟩ := h.drop hk
  obtain ⟨g1, g2, g3, g4⟩ := h.mem hk hx
  rw [hx] at h2
  refine ⟨h.ps, h.old, h.row, h.size, h.len, h.its, h.rst, h.lin, fun i hi => h.zero i ?_, ?_, h.ok⟩
  · rw [h2, filterMap_snoc] at hi
    simp only [Option.toList_some, AS.cov_app, Bool.or_eq_false_iff] at hi
    exact hi.1
  · rw [g4]
    exact AS.second_none x (by unfold AS.itB; rw [if_neg (by omega), if_neg (by omega), if_neg (by omega)]) g3
theorem A2.done {q : Q} {w wr w3 : World} {R n : Nat} {st : AS.St} {rs : List (Option AS.It)} {c : Array Value} {k : Nat} {m : Nat → UInt8} (h : A2 q w wr R n st rs c k m) (hk : k < n) {x : AS.It} (hx : rs.getD k none = some x) (h0 : (AS.itB st.names x).1 = 0) (mv : Mv q wr w3) (hp : PS q w3 st.names st.pos (AS.cov st.items) (AS.wr m x.pos (AS.itB st.names x).2)) : A2 q w w3 R n st rs c (k + 1) (AS.wr m x.pos (AS.itB st.names x).2) := by
  obtain ⟨h1, h2, h3⟩ := h.drop hk
  obtain ⟨g1, g2, g3, g4⟩ := h.mem hk hx
  rw [hx] at h2
  refine ⟨hp, h.old.trans mv.old, (mv.tame.block R (by rw [h.row]; rfl)).trans h.row, h.size, h.len, h.its, fun j hj => ?_, h.lin, ?_, ?_, h.ok⟩
  · obtain ⟨r, hr, hr'⟩ := h.rst j hj
    exact ⟨r, hr, hr'.keep mv.tame⟩
  · rw [h2, filterMap_snoc]
    exact AS.wr_zero h.zero (AS.itB_len g1)
  · rw [g4]
    exact AS.second_ok h0
theorem A2.bad {q : Q} {w wr : World} {R n : Nat} {st : AS.St} {rs : List (Option AS.It)} {c : Array Value} {k : Nat} {m : Nat → UInt8} (h : A2 q w wr R n st rs c k m) (hk : k < n) {x : AS.It} (hx : rs.getD k none = some x) (h0 : ¬ (AS.itB st.names x).1 = 0) : AS.second st.names st.items (fun _ => 0) = ((AS.itB st.names x).1, k + 1, m) := by
  obtain ⟨g1, g2, g3, g4⟩ := h.mem hk hx
  rw [g4, AS.second_bad h0, g2]
theorem A2.all {q : Q} {w wr : World} {R n : Nat} {st : AS.St} {rs : List (Option AS.It)} {c : Array Value} {m : Nat → UInt8} (h : A2 q w wr R n st rs c n m) : AS.second st.names st.items (fun _ => 0) = (0, 0, m) := by
  rw [h.spec, List.drop_of_length_le (by rw [h.len]; omega)]
  rfl
end Go.Proofs.YtcnmnkgnaknpdaaGreatDoor
/-! WalkP -/
namespace Go.Proofs.YtcnmnkgnaknpdaaGreatDoor
open Go.RowKit Go.Maps S02 S06 S07
def AsPost (q : Q) (w : World) (ls : List (List UInt8)) (e : Ending) (w' : World) : Prop :=
  ∃ F, F = AS.first ls 0 ⟨[], 0, []⟩ ∧ Below q.N w w' ∧ ((¬ F.1 = 0 ∧ e = .returned (.tuple #[.int .i64 F.2.1, .int .i64 F.1])) ∨ (F.1 = 0 ∧ ∃ G, G = AS.second F.2.2.names F.2.2.items (fun _ => 0) ∧ ((¬ G.1 = 0 ∧ e = .returned (.tuple #[.int .i64 G.2.1, .int .i64 G.1])) ∨ (G.1 = 0 ∧ e = .returned (.tuple #[.int .i64 0, .int .i64 0]) ∧ PS q w' F.2.2.names F.2.2.pos (AS.cov F.2.2.items) G.2.2))))
theorem as_bad1 {q : Q} {w w' : World} {ls : List (List UInt8)} {E : Int} {k : Nat} {st : AS.St} (hF : AS.first ls 0 ⟨[], 0, []⟩ = (E, k + 1, st)) (hE : ¬ E = 0) (hb : Below q.N w w') : AsPost q w ls (.returned (.tuple #[.int .i64 ((k : Int) + 1), .int .i64 E])) w' :=
  ⟨_, rfl, hb, .inl (by rw [hF]; exact ⟨hE, rfl⟩)⟩
theorem as_bad2 {q : Q} {w w' : World} {ls : List (List UInt8)} {E : Int} {k : Nat} {st : AS.St} {m : Nat → UInt8} (hF : AS.first ls 0 ⟨[], 0, []⟩ = (0, 0, st)) (hG : AS.second st.names st.items (fun _ => 0) = (E, k + 1, m)) (hE : ¬ E = 0) (hb : Below q.N w w') : AsPost q w ls (.returned (.tuple #[.int .i64 ((k : Int) + 1), .int .i64 E])) w' :=
  ⟨_, rfl, hb, .inr (by rw [hF]; exact ⟨rfl, _, rfl, .inl (by rw [hG]; exact ⟨hE, rfl⟩)⟩)⟩
theorem as_good {q : Q} {w w' : World} {ls : List (List UInt8)} {st : AS.St} {m : Nat → UInt8} (hF : AS.first ls 0 ⟨[], 0, []⟩ = (0, 0, st)) (hG : AS.second st.names st.items (fun _ => 0) = (0, 0, m)) (hb : Below q.N w w') (hp : PS q w' st.names st.pos (AS.cov st.items) m) : AsPost q w ls (.returned (.tuple #[.int .i64 0, .int .i64 0])) w' :=
  ⟨_, rfl, hb, .inr (by rw [hF]; exact ⟨rfl, _, rfl, .inr (by rw [hG]; exact ⟨rfl, rfl, hp⟩)⟩)⟩
theorem rest_info : (Tryz.prog.info? 105).map (fun i => (i.zero, i.size, i.bytes)) = some (some .nilFunc, 1, 8) := by kernel_rfl
theorem rest_row {w2 : World} {R n : Nat} {xs : List Value} (h : w2.ownsRow R 105 1 (.slice (some ⟨R, 0, none⟩) n n) n xs) : ∃ c, w2.heap[R]? = some (.cells c 105 (0, 0)) ∧ c.size = n := by
  rcases h.2 with ⟨h, _⟩ | ⟨g, cap, cur, e, hg, hh, hn, hc, hz, ht⟩
  · cases h
  · injection e with e1 e2 e3
    injection e1 with e1
    injection e1 with e4 e5
    subst e3 e4
    exact ⟨cur, hh, by simpa using hz⟩
def Fin3 (q : Q) (w w' : World) (st' : AS.St) (it : Option AS.It) (r : Value) : Prop := Mv q w w' ∧ S1 q w' st' ∧ Rest q w' r it
def fI (k1 k2 k3 k4 : Nat) : Value := .func (.func 135) #[] #[pt k1, pt k2, pt k3, pt k4]
def fD (k1 k2 k3 k4 k5 k6 : Nat) : Value := .func (.func 128) #[] #[pt k1, pt k2, pt k3, pt k4, pt k5, pt k6]
theorem hd_forms {q : Q} {w : World} {st' : AS.St} {it : Option AS.It} {f : Nat} {us : Array Value} (h : Calls Tryz.prog f us w (HdPost q w 0 st' it)) :
    Calls Tryz.prog f us w (fun e w' => e = .returned (.tuple #[.nilFunc, .int .i64 0]) ∧ Fin3 q w w' st' it .nilFunc) ∨
    Calls Tryz.prog f us w (fun e w' => ∃ k1 k2 k3 k4, e = .returned (.tuple #[fI k1 k2 k3 k4, .int .i64 0]) ∧ Fin3 q w w' st' it (fI k1 k2 k3 k4)) ∨
    Calls Tryz.prog f us w (fun e w' => ∃ k1 k2 k3 k4 k5 k6, e = .returned (.tuple #[fD k1 k2 k3 k4 k5 k6, .int .i64 0]) ∧ Fin3 q w w' st' it (fD k1 k2 k3 k4 k5 k6)) := by
  cases it with
  | none =>
    refine .inl (h.mono ?_)
    rintro e w' ⟨r, rfl, mv, hk⟩
    obtain ⟨hs, hr⟩ := hk rfl
    have : r = .nilFunc := hr
    subst this
    exact ⟨rfl, mv, hs, hr⟩
  | some x =>
    by_cases h4 : x.kind = 4
    · refine .inl (h.mono ?_)
      rintro e w' ⟨r, rfl, mv, hk⟩
      obtain ⟨hs, hr⟩ := hk rfl
      have : r = .nilFunc := by
        rcases hr with ⟨_, h⟩ | ⟨h1, _⟩ | ⟨_, _, _, _, _, _, _, _, _, _, _, _, _, _, _, _, _, _, hc⟩
        · exact h
        · omega
        · omega
      subst this
      exact ⟨rfl, mv, hs, hr⟩
    · by_cases h1 : x.kind = 1
      · refine .inr (.inl (h.mono ?_))
        rintro e w' ⟨r, rfl, mv, hk⟩
        obtain ⟨hs, hr⟩ := hk rfl
        have : ∃ k1 k2 k3 k4, r = fI k1 k2 k3 k4 := by
          rcases hr with ⟨h, _⟩ | ⟨_, k1, k2, k3, k4, _, _, h, _⟩ | ⟨_, _, _, _, _, _, _, _, _, _, _, _, _, _, _, _, _, _, hc⟩
          · omega
          · exact ⟨k1, k2, k3, k4, h⟩
          · omega
        obtain ⟨k1, k2, k3, k4, rfl⟩ := this
        exact ⟨k1, k2, k3, k4, rfl, mv, hs, hr⟩
      · refine .inr (.inr (h.mono ?_))
        rintro e w' ⟨r, rfl, mv, hk⟩
        obtain ⟨hs, hr⟩ := hk rfl
        have : ∃ k1 k2 k3 k4 k5 k6, r = fD k1 k2 k3 k4 k5 k6 := by
          rcases hr with ⟨h, _⟩ | ⟨h, _⟩ | ⟨k1, k2, k3, k4, k5, k6, _, _, _, _, h, _⟩
          · omega
          · omega
          · exact ⟨k1, k2, k3, k4, k5, k6, h⟩
        obtain ⟨k1, k2, k3, k4, k5, k6, rfl⟩ := this
        exact ⟨k1, k2, k3, k4, k5, k6, rfl, mv, hs, hr⟩
theorem A1.cell {q : Q} {w wr w3 : World} {R : Nat} {dv v : Value} {ls : List (List UInt8)} {k : Nat} {st : AS.St} {rs : List (Option AS.It)} {c : Array Value} (h : A1 q w wr R dv v ls k st rs c) (hk : k < ls.length) (mv : Mv q wr w3) : ∃ u, w3.cell? ⟨R, k, none⟩ = some u ∧ w3.frozen? ⟨R, k, none⟩ = false := by
  have hrow : w3.heap[R]? = some (.cells c 105 (0, 0)) := (mv.tame.block R (by rw [h.row]; rfl)).trans h.row
  exact ⟨_, cell_of hrow (Array.getElem?_eq_getElem (by rw [h.size]; exact hk)), unfrozen hrow⟩
theorem wtail (l : List (List UInt8)) (h : l ≠ []) : l = l.getD 0 [] :: l.tail := by
  cases l with
  | nil => exact absurd rfl h
  | cons a r => rfl
theorem A2.inst {q : Q} {w wr : World} {R n : Nat} {st : AS.St} {rs : List (Option AS.It)} {c : Array Value} {k : Nat} {m : Nat → UInt8} (h : A2 q w wr R n st rs c k m) (hk : k < n) {x : AS.It} (hx : rs.getD k none = some x) {r : Value} (hr : RestI q wr r x) : ∃ k1 k2 k3 k4, r = fI k1 k2 k3 k4 ∧ Calls Tryz.prog 135 #[pt k1, pt k2, pt k3, pt k4] wr (FlPost q wr st.names st.pos (AS.cov st.items) m (AS.itB st.names x).1 x.pos (AS.itB st.names x).2) := by
  obtain ⟨h0, k1, k2, k3, k4, D, v, rfl, b1, b2, b3, b4, hD, hv⟩ := hr
  obtain ⟨g1, -, -, -⟩ := h.mem hk hx
  obtain ⟨p1, p2, p3⟩ := g1
  have p4 : x.size = 4 ∧ x.words ≠ [] := by
    rcases p3 with h | h | h | h
    · exact ⟨h.2.1, h.2.2⟩
    all_goals omega
  have hw := wtail x.words p4.2
  have hb : (D.data.toList :: x.words.tail).length + AS.tot (D.data.toList :: x.words.tail) ≤ 70000 := by rw [hD, ← hw]; exact p2
  have hb' := hb
  rw [List.length_cons, AS.tot_cons] at hb'
  refine ⟨k1, k2, k3, k4, rfl, ?_⟩
  unfold AS.itB
  rw [if_pos h0, ← hD]
  exact fill_inst x.pos D v x.words.tail k1 k2 k3 k4 h.ps (by omega) b1 b2 b3 b4 hv (by omega) (fun y hy => by have := AS.tot_mem hy; omega) (AS.txt_len h.ps.un.2 _ _ _ _ hb)
theorem A2.data {q : Q} {w wr : World} {R n : Nat} {st : AS.St} {rs : List (Option AS.It)} {c : Array Value} {k : Nat} {m : Nat → UInt8} (h : A2 q w wr R n st rs c k m) (hk : k < n) {x : AS.It} (hx : rs.getD k none = some x) {r : Value} (hr : RestD q wr r x) : ∃ k1 k2 k3 k4 k5 k6, r = fD k1 k2 k3 k4 k5 k6 ∧ Calls Tryz.prog 128 #[pt k1, pt k2, pt k3, pt k4, pt k5, pt k6] wr (FlPost q wr st.names st.pos (AS.cov st.items) m (AS.itB st.names x).1 x.pos (AS.itB st.names x).2) := by
  obtain ⟨k1, k2, k3, k4, k5, k6, v, lo, hi, sz, rfl, b1, b2, b3, b4, b5, b6, hv, hc⟩ := hr
  obtain ⟨g1, -, -, -⟩ := h.mem hk hx
  obtain ⟨p1, p2, p3⟩ := g1
  refine ⟨k1, k2, k3, k4, k5, k6, rfl, ?_⟩
  have hz : ∀ y ∈ x.words, y.length ≤ 1000000 := fun y hy => by have := AS.tot_mem hy; omega
  rcases hc with ⟨hk2, rfl, rfl, rfl⟩ | ⟨hk3, rfl, rfl, rfl⟩
  · have p4 : x.size = 4 * x.words.length ∧ x.words ≠ [] := by
      rcases p3 with h | h | h | h
      · omega
      · exact ⟨h.2.1, h.2.2⟩
      all_goals omega
    unfold AS.itB
    rw [if_neg (by omega), if_pos hk2]
    exact fill_data x.pos 4 4 _ _ v x.words k1 k2 k3 k4 k5 k6 h.ps (.inr ⟨rfl, rfl⟩) (by omega) p4.2 b1 b2 b3 b4 b5 b6 hv hz
  · have p4 : x.size = 1 * x.words.length ∧ x.words ≠ [] := by
      rcases p3 with h | h | h | h
      · omega
      · omega
      · exact ⟨h.2.1, h.2.2⟩
      · omega
    unfold AS.itB
    rw [if_neg (by omega), if_neg (by omega), if_pos hk3]
    exact fill_data x.pos 1 1 _ _ v x.words k1 k2 k3 k4 k5 k6 h.ps (.inl ⟨rfl, rfl⟩) (by omega) p4.2 b1 b2 b3 b4 b5 b6 hv hz
end Go.Proofs.YtcnmnkgnaknpdaaGreatDoor
/-! WalkY -/
namespace Go.Proofs.YtcnmnkgnaknpdaaGreatDoor
open Go.RowKit Go.Maps S02 S06 S07
theorem A1.start {q : Q} {w w1 w2 : World} {R : Nat} {dv v : Value} {ls : List (List UInt8)} {xs : List Value} (hp : S1 q w ⟨[], 0, []⟩) (hv : TxR w v ls) (hb1 : Below w.heap.size w w1) (hd : Dirs q w1 dv) (hR : w1.heap.size = R) (ho : w2.ownsRow R 105 1 (.slice (some ⟨R, 0, none⟩) ls.length ls.length) ls.length xs) (hg : w1.grownBy w2 none) : ∃ c, A1 q w w2 R dv v ls 0 ⟨[], 0, []⟩ [] c := by
  obtain ⟨c, hc, hs⟩ := rest_row ho
  have hb2 : Below w1.heap.size w1 w2 := ⟨hg.os, hg.tape, hg.output, hg.size, fun k hk => hg.block k hk (by simp)⟩
  have hb := hb1.trans (hb2.mono hb1.size)
  have hN := PS.N hp
  exact ⟨c, PS.below hp hb, hb.mono hN, by have := hb1.size; omega, hd.keep (Tame.below hb2), hv.keep (Tame.below hb), hc, hs, rfl, rfl, fun j hj => absurd hj (by omega), fun j x hx => (by simp at hx), rfl, ⟨(by decide), fun x hx => (by cases hx), fun pre x suf he => (by simp at he), (by simp)⟩⟩
theorem A2.cell {q : Q} {w wr : World} {R n : Nat} {st : AS.St} {rs : List (Option AS.It)} {c : Array Value} {k : Nat} {m : Nat → UInt8} (h : A2 q w wr R n st rs c k m) (hk : k < n) : ∃ r, wr.cell? ⟨R, k, none⟩ = some r ∧ Rest q wr r (rs.getD k none) := by
  obtain ⟨r, hr, hr'⟩ := h.rst k hk
  exact ⟨r, cell_of h.row hr, hr'⟩
theorem eq_nil (w : World) : Sem.run Tryz.prog (Op.equal 105 .nilFunc .nilFunc) w = .ok true w := by
  have h : ∀ d : Nat, Sem.run Tryz.prog (Op.equalIn (d + 1) 105 .nilFunc .nilFunc) w = .ok true w := fun d => by
    unfold Op.equalIn
    simp [run_underlying Tryz.underlying105]
  unfold Op.equal
  rw [show Op.maxDepth = 9999 + 1 from rfl]
  exact h 9999
theorem eq_func (f : Nat) (c : Array Value) (w : World) : Sem.run Tryz.prog (Op.equal 105 (.func (.func f) #[] c) .nilFunc) w = .ok false w := by
  have h : ∀ d : Nat, Sem.run Tryz.prog (Op.equalIn (d + 1) 105 (.func (.func f) #[] c) .nilFunc) w = .ok false w := fun d => by
    unfold Op.equalIn
    simp [run_underlying Tryz.underlying105]
  unfold Op.equal
  rw [show Op.maxDepth = 9999 + 1 from rfl]
  exact h 9999
theorem bin_nil (x y : Operand) (w : World) : Sem.run Tryz.prog (do eqGuard .eql 105 x y .nilFunc .nilFunc; binOp .eql 105 .nilFunc .nilFunc) w = .ok (.bool true) w := by
  have e := eq_nil w
  generalize hE : Op.equal 105 Value.nilFunc Value.nilFunc = E at e
  unfold eqGuard binOp
  simp only [hE]
  simp [e]
theorem bin_func (x y : Operand) (f : Nat) (c : Array Value) (w : World) : Sem.run Tryz.prog (do eqGuard .eql 105 x y (.func (.func f) #[] c) .nilFunc; binOp .eql 105 (.func (.func f) #[] c) .nilFunc) w = .ok (.bool false) w := by
  have e := eq_func f c w
  generalize hE : Op.equal 105 (Value.func (.func f) #[] c) Value.nilFunc = E at e
  unfold eqGuard binOp
  simp only [hE]
  simp [e]
theorem wpList_eqf {w : World} {ops : Array Oper} {rest : List Oper} {o : Oper} {a : Act} {Q : Exit → Act → World → Prop} (hgd : o.guard = none) (x y : Operand) (ho : o.op = Op.binOp .eql 105 x y 105) (v : Value) (b : Bool) (hx : a.eval x = v) (hy : a.eval y = .nilFunc) (hv : v = .nilFunc ∧ b = true ∨ ∃ f c, v = .func (.func f) #[] c ∧ b = false) (h : wpList Tryz.prog ops Q rest (a.put o.dst (.bool b)) w) : wpList Tryz.prog ops Q (o :: rest) a w := by
  refine wpList_plain hgd fun K hK => ?_
  unfold Oper.wp execOp
  simp only [ho, hx, hy]
  rcases hv with ⟨rfl, rfl⟩ | ⟨f, c, rfl, rfl⟩
  · have e := bin_nil x y w
    generalize (do eqGuard .eql 105 x y Value.nilFunc Value.nilFunc; binOp .eql 105 Value.nilFunc Value.nilFunc) = E at e ⊢
    simp only [Sem.run_bind, e, Result.andThen_ok, Sem.run_pure]
    exact hK _ _ h
  · have e := bin_func x y f c w
    generalize (do eqGuard .eql 105 x y (Value.func (.func f) #[] c) Value.nilFunc; binOp .eql 105 (Value.func (.func f) #[] c) Value.nilFunc) = E at e ⊢
    simp only [Sem.run_bind, e, Result.andThen_ok, Sem.run_pure]
    exact hK _ _ h
end Go.Proofs.YtcnmnkgnaknpdaaGreatDoor
/-! WalkQ -/
namespace Go.Proofs.YtcnmnkgnaknpdaaGreatDoor
open Go.RowKit Go.Maps S02 S06 S07
set_option maxHeartbeats 8000000 in
theorem assemble_any {q : Q} {w : World} (ls : List (List UInt8)) (v : Value) (hp : S1 q w ⟨[], 0, []⟩) (hv : TxR w v ls) (hl : ls.length + AS.tot ls ≤ 65536) : Calls Tryz.prog 23 #[pt q.P, v] w (AsPost q w ls) := by
  obtain ⟨i0, HI⟩ := info_parts rest_info
  have HI := Lib.hid HI
  have HD := Lib.hid (directives_any q)
  obtain ⟨va, vc, hv1⟩ := txr_len hv
  obtain ⟨n, hn⟩ : ∃ n, ls.length = n := ⟨_, rfl⟩
  have HT := Lib.hid hl
  have hn1 : n ≤ 65536 := by omega
  rw [hn] at hv1
  subst hv1
  have HN := Lib.hid hn
  have HS := Lib.hid (fun (w1 w2 : World) (R : Nat) (dv : Value) (xs : List Value) hb1 hd hR ho hg => A1.start (w1 := w1) (w2 := w2) (R := R) (dv := dv) (xs := xs) hp hv hb1 hd hR ho hg)
  clear hl hv hp hn
  have hsf := fun (a : Addr) (f : Nat) (c : Array Value) (w : World) => run_store Tryz.prog w a (.func (.func f) #[] c) .plain rfl
  have hsn := fun (a : Addr) (w : World) => run_store Tryz.prog w a .nilFunc .plain rfl
  unfold pt at HD ⊢
  go_enter Tryz.func23, Tryz.ntmps23
  go_wp2_with (first
    | (go_at_call 48; refine (HD.out _).mono ?_; rintro e w1 ⟨dv, rfl, hb1, hd1⟩; have HD1 := Lib.hid hd1; have HB1 := Lib.hid hb1; clear hb1 hd1; obtain ⟨R, hR⟩ : ∃ R, w1.heap.size = R := ⟨_, rfl⟩; have HR := Lib.hid hR; clear hR)
    | (at_make; refine wpList_make_full _ rfl _ _ 103 rfl w1.heap.size 105 i0 .nilFunc 1 Tryz.underlying103 HI.out.1 HI.out.2.1 HI.out.2.2.1 .i64 .i64 _ _ n rfl rfl rfl rfl (by rw [HI.out.2.2.2]; omega) (by unfold maxLen; omega) (Nat.le_refl _) ?_; rw [HR.out]; intro w2 ho2 hg2; have HO2 := Lib.hid ho2; have HG2 := Lib.hid hg2; clear ho2 hg2))
  have HA : Hid (∃ c, A1 q w w2 R dv (.slice va n vc) ls 0 ⟨[], 0, []⟩ [] c) := Lib.hid (HS.out w1 w2 R dv _ HB1.out HD1.out HR.out (by rw [HN.out]; exact HO2.out) HG2.out)
  clear HS HO2 HG2 HB1 HD1 HR HD HI
  go_loopw [22] (fun i wr => ∃ k : Nat, k ≤ n ∧ i = .int .i64 k ∧ ∃ st rs c, Hid (A1 q w wr R dv (.slice va n vc) ls k st rs c)) (fun i _ => n - (intOf i).toNat)
  case atStart =>
    obtain ⟨c, hc⟩ := HA.out
    exact ⟨0, by omega, rfl, _, _, c, Lib.hid hc⟩
  case round =>
    obtain ⟨k, hk, rfl, st, rs, c, hR⟩ := hrel
    by_cases hlt : k < n
    · have hlt' : decide (k < n) = true := by simpa using hlt
      have HLT := Lib.hid (show k < ls.length by rw [HN.out]; exact hlt)
      have hne : ls ≠ [] := by intro h; have := HLT.out; rw [h] at this; simp at this
      obtain ⟨g, o, c', e⟩ := txr_form hR.out.tx hne
      injection e with e1 e2 e3
      subst e1 e3
      have g0 := hR.out.tx.cellOf hne k HLT.out
      obtain ⟨S, hS, hS1, hS2⟩ := bt_of (ls.getD k [])
      have gc : wr.cell? ⟨g, o + k, none⟩ = some (.string S) := by rw [g0, ← hS]; rfl
      obtain ⟨l1, l2, l3⟩ := hR.out.line HLT.out HT.out
      have HB := begin_any k S dv hR.out.ps l2 hR.out.dv (by omega) l3
      rw [hS1] at HB
      have HBd := Lib.hid (hR.out.bad HLT.out)
      have HSt := Lib.hid (fun (w3 : World) (r : Value) h0 mv hs hr => hR.out.step (w3 := w3) (r := r) HLT.out HT.out h0 mv hs hr)
      have HCl := Lib.hid (fun (w3 : World) mv => hR.out.cell (w3 := w3) HLT.out mv)
      clear g0 hS hS1 hS2 l1 l2 l3 e2 hne HA
      generalize AS.lineE st k (ls.getD k []) = E at *
      generalize AS.lineS st k (ls.getD k []) = st' at *
      unfold pt at HB
      by_cases hE : E = 0
      · subst hE
        have HB3 := hd_forms HB
        clear HB HBd
        rcases HB3 with hB | hB | hB
        · have HB := Lib.hid hB
          clear hB
          go_wp2_with (go_at_call 49; refine HB.out.mono ?_; rintro e w3 ⟨rfl, hf⟩; obtain ⟨u, u1, u2⟩ := HCl.out w3 hf.1; have HF := Lib.hid hf; clear hf)
          go_roundw
          case rel => exact ⟨k + 1, by omega, by go_num, _, _, _, Lib.hid (HSt.out _ _ (by simp) HF.out.1 HF.out.2.1 HF.out.2.2)⟩
          case measure => simp [intOf]; omega
        · have HB := Lib.hid hB
          clear hB
          unfold fI pt at HB
          go_wp2_with (go_at_call 49; refine HB.out.mono ?_; rintro e w3 ⟨k1, k2, k3, k4, rfl, hf⟩; obtain ⟨u, u1, u2⟩ := HCl.out w3 hf.1; have HF := Lib.hid hf; clear hf)
          go_roundw
          case rel => exact ⟨k + 1, by omega, by go_num, _, _, _, Lib.hid (HSt.out _ _ (by simp) HF.out.1 HF.out.2.1 HF.out.2.2)⟩
          case measure => simp [intOf]; omega
        · have HB := Lib.hid hB
          clear hB
          unfold fD pt at HB
          go_wp2_with (go_at_call 49; refine HB.out.mono ?_; rintro e w3 ⟨k1, k2, k3, k4, k5, k6, rfl, hf⟩; obtain ⟨u, u1, u2⟩ := HCl.out w3 hf.1; have HF := Lib.hid hf; clear hf)
          go_roundw
          case rel => exact ⟨k + 1, by omega, by go_num, _, _, _, Lib.hid (HSt.out _ _ (by simp) HF.out.1 HF.out.2.1 HF.out.2.2)⟩
          case measure => simp [intOf]; omega
      · have hE' : (E == 0) = false := by simp [hE]
        have hE'' : (E != 0) = true := by simp [hE]
        have HB2 := Lib.hid HB
        clear HB
        go_wp2_with (go_at_call 49; refine HB2.out.mono ?_; rintro e w3 ⟨rv, rfl, mv3, _⟩; have HM3 := Lib.hid mv3; clear mv3)
        go_ret2
        exact as_bad1 (HBd.out hE) hE (hR.out.old.trans HM3.out.old)
    · have hlt' : decide (k < n) = false := by simpa using hlt
      obtain rfl : k = n := by omega
      have HF := Lib.hid (show AS.first ls 0 ⟨[], 0, []⟩ = (0, 0, st) from A1.all (by rw [HN.out]; exact hR.out))
      have H2 := Lib.hid (show A2 q w wr R k st rs c 0 (fun _ => 0) from HN.out ▸ A2.start (by rw [HN.out]; exact hR.out) HT.out)
      clear HA hlt hlt' hR hk
      go_wp2
      go_loopw [46] (fun i wx => ∃ j : Nat, j ≤ k ∧ i = .int .i64 j ∧ ∃ m, Hid (A2 q w wx R k st rs c j m)) (fun i _ => k - (intOf i).toNat)
      case atStart => exact ⟨0, by omega, rfl, _, H2⟩
      case round =>
        obtain ⟨j, hj, rfl, m, hR⟩ := hrel
        by_cases hlt : j < k
        · have hlt' : decide (j < k) = true := by simpa using hlt
          obtain ⟨r, hc, hr⟩ := hR.out.cell hlt
          clear H2
          cases hx : rs.getD j none with
          | none =>
            rw [hx] at hr
            have hr' : r = .nilFunc := hr
            subst hr'
            have HX := Lib.hid (hR.out.skip hlt hx)
            clear hr hx
            go_upto_region 14 with fail
            go_wp2_with (refine wpList_eqf rfl _ _ rfl _ true rfl rfl (.inl ⟨rfl, rfl⟩) ?_)
            go_roundw
            case rel => exact ⟨j + 1, by omega, by go_num, _, HX⟩
            case measure => simp [intOf]; omega
          | some x =>
            rw [hx] at hr
            rcases hr with ⟨h4, rfl⟩ | hr | hr
            · have HX := Lib.hid (hR.out.zeros hlt hx h4)
              clear hx h4
              go_upto_region 14 with fail
              go_wp2_with (refine wpList_eqf rfl _ _ rfl _ true rfl rfl (.inl ⟨rfl, rfl⟩) ?_)
              go_roundw
              case rel => exact ⟨j + 1, by omega, by go_num, _, HX⟩
              case measure => simp [intOf]; omega
            · obtain ⟨k1, k2, k3, k4, rfl, hC⟩ := hR.out.inst hlt hx hr
              have HDn := Lib.hid (fun (w3 : World) h0 mv hp => hR.out.done (w3 := w3) hlt hx h0 mv hp)
              have HBd := Lib.hid (hR.out.bad hlt hx)
              generalize (AS.itB st.names x).1 = E at *
              generalize (AS.itB st.names x).2 = l at *
              have HC := Lib.hid hC
              clear hC hr hx
              unfold pt at HC
              unfold fI pt at hc
              by_cases hE : E = 0
              · subst hE
                go_upto_region 14 with fail
                go_wp2_with (first | (refine wpList_eqf rfl _ _ rfl _ false rfl rfl (.inr ⟨_, _, rfl, rfl⟩) ?_) | (go_at_call 135; refine HC.out.mono ?_; rintro e w3 ⟨rfl, mv3, hp3⟩; have HM3 := Lib.hid mv3; have HP3 := Lib.hid (hp3 rfl); clear mv3 hp3))
                go_roundw
                case rel => exact ⟨j + 1, by omega, by go_num, _, Lib.hid (HDn.out _ (by simp) HM3.out HP3.out)⟩
                case measure => simp [intOf]; omega
              · have hE' : (E == 0) = false := by simp [hE]
                have hE'' : (E != 0) = true := by simp [hE]
                go_upto_region 14 with fail
                go_wp2_with (first | (refine wpList_eqf rfl _ _ rfl _ false rfl rfl (.inr ⟨_, _, rfl, rfl⟩) ?_) | (go_at_call 135; refine HC.out.mono ?_; rintro e w3 ⟨rfl, mv3, hp3⟩; have HM3 := Lib.hid mv3; clear mv3 hp3))
                go_ret2
                exact as_bad2 HF.out (HBd.out hE) hE (hR.out.old.trans HM3.out.old)
            · obtain ⟨k1, k2, k3, k4, k5, k6, rfl, hC⟩ := hR.out.data hlt hx hr
              have HDn := Lib.hid (fun (w3 : World) h0 mv hp => hR.out.done (w3 := w3) hlt hx h0 mv hp)
              have HBd := Lib.hid (hR.out.bad hlt hx)
              generalize (AS.itB st.names x).1 = E at *
              generalize (AS.itB st.names x).2 = l at *
              have HC := Lib.hid hC
              clear hC hr hx
              unfold pt at HC
              unfold fD pt at hc
              by_cases hE : E = 0
              · subst hE
                go_upto_region 14 with fail
                go_wp2_with (first | (refine wpList_eqf rfl _ _ rfl _ false rfl rfl (.inr ⟨_, _, rfl, rfl⟩) ?_) | (go_at_call 128; refine HC.out.mono ?_; rintro e w3 ⟨rfl, mv3, hp3⟩; have HM3 := Lib.hid mv3; have HP3 := Lib.hid (hp3 rfl); clear mv3 hp3))
                go_roundw
                case rel => exact ⟨j + 1, by omega, by go_num, _, Lib.hid (HDn.out _ (by simp) HM3.out HP3.out)⟩
                case measure => simp [intOf]; omega
              · have hE' : (E == 0) = false := by simp [hE]
                have hE'' : (E != 0) = true := by simp [hE]
                go_upto_region 14 with fail
                go_wp2_with (first | (refine wpList_eqf rfl _ _ rfl _ false rfl rfl (.inr ⟨_, _, rfl, rfl⟩) ?_) | (go_at_call 128; refine HC.out.mono ?_; rintro e w3 ⟨rfl, mv3, hp3⟩; have HM3 := Lib.hid mv3; clear mv3 hp3))
                go_ret2
                exact as_bad2 HF.out (HBd.out hE) hE (hR.out.old.trans HM3.out.old)
        · have hlt' : decide (j < k) = false := by simpa using hlt
          obtain rfl : j = k := by omega
          have HG := Lib.hid hR.out.all
          clear H2
          go_wp2
          go_ret2
          exact as_good HF.out HG.out hR.out.old hR.out.ps
end Go.Proofs.YtcnmnkgnaknpdaaGreatDoor
