/-
  Rows of texts that are read; the operands with the last one resolved; an instruction's word.
  An instruction's word: its name, its operands resolved, its text parsed and encoded.
  What is left to do for a line once all names have their values: the functions that fill an instruction's word and a row of values.
  The first going over a line: what the directives' functions and an instruction do to a program, and what they leave for the second going.
  The first going over values and over an instruction; the table of directives.
-/
import Derived.Test.YtcnmnkgnaknpdaaGreatDoorGj
import Derived.Test.YtcnmnkgnaknpdaaGreatDoorGf
import Derived.Test.YtcnmnkgnaknpdaaGreatDoorGc
import Derived.StillTailTactics

/-! WalkF -/
namespace Go.Proofs.YtcnmnkgnaknpdaaGreatDoor
open Go.RowKit Go.Maps S02 S06 S07
/-- A slice of texts. -/
def TxR (w : World) (v : Value) (l : List (List UInt8)) : Prop :=
  (l = [] ∧ ∃ a c, v = .slice a 0 c) ∨ (l ≠ [] ∧ ∃ g o c cs fr, v = .slice (some ⟨g, o, none⟩) l.length c ∧ l.length ≤ c ∧ c ≤ maxLen ∧ w.heap[g]? = some (.cells cs 9 fr) ∧ ∀ j, j < l.length → w.cell? ⟨g, o + j, none⟩ = some (NM.tv (l.getD j [])))
theorem TxR.keep {w w' : World} {v : Value} {l : List (List UInt8)} (h : TxR w v l) (ht : Tame w w') : TxR w' v l := by
  rcases h with h | ⟨h0, g, o, c, cs, fr, hv, h1, h2, h3, h4⟩
  · exact .inl h
  · have e := ht.block g (by rw [h3]; rfl)
    exact .inr ⟨h0, g, o, c, cs, fr, hv, h1, h2, e.trans h3, fun j hj => (World.cell?_of_block (w := w) (a := ⟨g, o + j, none⟩) e).trans (h4 j hj)⟩
theorem TxR.of_row {w w' : World} {v : Value} {l : List (List UInt8)} (h : Row w w' v l) : TxR w' v l := by
  obtain ⟨⟨h1, h2⟩, hb⟩ := h
  rcases h2 with ⟨rfl, h0⟩ | ⟨g, cap, cur, rfl, hg, hh, hn, hc, hz, ht⟩
  · exact .inl ⟨List.length_eq_zero_iff.mp h0, none, 0, rfl⟩
  · by_cases e : l = []
    · subst e; exact .inl ⟨rfl, _, _, rfl⟩
    · refine .inr ⟨e, g, 0, cap, cur, (0, 0), rfl, hn, hc, hh, fun j hj => ?_⟩
      refine cell_of hh ?_
      rw [Nat.zero_add]
      have h3 : (cur.toList.take (l.length * 1))[j]? = (l.map NM.tv)[j]? := by rw [ht]
      rw [List.getElem?_take, if_pos (by omega), List.getElem?_map, List.getElem?_eq_getElem hj] at h3
      rw [List.getD_eq_getElem?_getD, List.getElem?_eq_getElem hj]
      simpa using h3
/-- A row of texts and an error; the row is told where there is none. -/
def RwPost (w : World) (er : Int) (l : List (List UInt8)) (e : Ending) (w' : World) : Prop := ∃ v, e = .returned (.tuple #[v, .int .i64 er]) ∧ (er = 0 → Row w w' v l) ∧ Below w.heap.size w w'
theorem take_cells {w w1 : World} {l : List (List UInt8)} {g o n t : Nat} {cs : Array Value} {fr : Nat × Nat} (h3 : w.heap[g]? = some (.cells cs 9 fr)) (h4 : ∀ j, j < n → w.cell? ⟨g, o + j, none⟩ = some (NM.tv (l.getD j []))) (hn : l.length = n) (ht : t ≤ n) (hb : Below w.heap.size w w1) :
    ∀ j u, ((l.take t).map NM.tv)[j]? = some u → w1.cell? ((⟨g, o, none⟩ : Addr).add j) = some u := by
  intro j u hj
  rw [List.getElem?_map, List.getElem?_take] at hj
  split at hj
  · rename_i hjt
    rw [List.getElem?_eq_getElem (by omega)] at hj
    simp only [Option.map_some, Option.some.injEq] at hj
    rw [Addr.add_mid, hb.cell (p := ⟨g, o + j, none⟩) (lt_of_heap h3), h4 j (by omega), ← hj, List.getD_eq_getElem?_getD, List.getElem?_eq_getElem (by omega)]
    rfl
  · cases hj
theorem texts_one (l : List (List UInt8)) : ∀ u ∈ l.map NM.tv, u.oneCell' = true := by
  intro u hu
  rw [List.mem_map] at hu
  obtain ⟨x, _, rfl⟩ := hu
  rfl
theorem nil_owns (w : World) (B : Nat) : w.ownsRow B 9 1 (.slice none 0 0) 0 [] := ⟨rfl, .inl ⟨rfl, rfl⟩⟩
theorem row_end {w w1 w2 w3 : World} {v' v'' : Value} {l : List (List UInt8)} {o : Obj} {t n2 n3 : Nat} {x2 x3 : List Value} {b : ByteArray} {y : List UInt8} (hb : Below w.heap.size w w1) (hy : b.data.toList = y) (ht : (l.take t).length = t)
    (hg2 : w1.grownBy w2 none) (ho2 : w2.ownsRow w.heap.size 9 1 v' n2 x2) (hg3 : (w2.alloc o).grownBy w3 v'.ownBlock) (ho3 : w3.ownsRow w.heap.size 9 1 v'' n3 x3) (hn2 : n2 = t) (hx2 : x2 = (l.take t).map NM.tv) (hn3 : n3 = t + 1) (hx3 : x3 = (l.take t).map NM.tv ++ [.string b]) : Row w w3 v'' (l.take t ++ [y]) := by
  subst hn2 hx2 hn3 hx3
  have hb2 : Below w.heap.size w w2 := hb.grown hg2 hb.size (fun k hk => by cases hk)
  have hr : Row w w2 v' (l.take n2) := ⟨by rw [ht]; exact ho2, hb2⟩
  refine hr.app (x := .string b) ?_ ?_ hg3
  · rw [NM.tv, ← hy]
  · rw [ht]; exact ho3
set_option maxHeartbeats 1000000 in
theorem resolve_one {q : Q} {w : World} {ns : List (List UInt8 × Nat)} {x : Int} {pl : Nat → Bool} {m : Nat → UInt8} (a : Nat) (op : Int) (v : Value) (l : List (List UInt8)) (k : Nat) (S : ByteArray) (hp : PS q w ns x pl m) (ha : a ≤ 16384) (hl : l.length = k + 1) (hv : TxR w v l) (hk : k ≤ 1000000)
    (hS : S.data.toList = l.getD (k) []) (hz : S.size ≤ 1000000) (h00 : ¬ 0 < k) :
    Calls Tryz.prog 163 #[.pointer (some ⟨q.P, 0, none⟩), .int .i64 a, .int .i64 op, v] w (RwPost w (AS.imE ns a op [] (l.getD (k) [])) (l.take (k) ++ [AS.imT ns a op [] (l.getD (k) [])])) := by
  obtain ⟨i0, HI⟩ := info_parts S02.str_info
  have HI := Lib.hid HI
  rw [← hS]
  have HM := Lib.hid (imm_any a op ⟨#[]⟩ S hp hz ha (by simp))
  have htl : (l.take (k)).length = k := by rw [List.length_take]; omega
  have HTL := Lib.hid htl
  rcases hv with ⟨rfl, _⟩ | ⟨_, g, o, c, cs, fr, rfl, h1, h2, h3, h4⟩
  · simp at hl
  rw [hl] at h1 h4 ⊢
  have g1 : w.cell? ⟨g, o + (k), none⟩ = some (.string S) := by rw [h4 _ (by omega), ← hS]; rfl
  have h00 : decide (0 < k) = false := by simpa using h00
  have HC := Lib.hid (fun w1 hb => take_cells (w1 := w1) (t := k) h3 h4 hl (by omega) hb)
  unfold maxLen at h2
  have HL := Lib.hid hl
  clear h4 h3 hS hl hp htl
  change Calls Tryz.prog 163 _ w (RwPost w (AS.imE ns a op [] S.data.toList) (l.take (k) ++ [AS.imT ns a op [] S.data.toList]))
  generalize hT : AS.imT ns a op [] S.data.toList = T
  have HT' : AS.imT ns a op (⟨#[]⟩ : ByteArray).data.toList S.data.toList = T := hT
  rw [HT'] at HM
  generalize hE : AS.imE ns a op [] S.data.toList = E
  have HE' : AS.imE ns a op (⟨#[]⟩ : ByteArray).data.toList S.data.toList = E := hE
  rw [HE'] at HM
  clear hT HT' hE HE'
  by_cases h0 : E = 0
  · subst h0
    go_enter Tryz.func163, Tryz.ntmps163
    go_wp2_with (first
      | (go_at_call 174; refine HM.out.mono ?_; rintro e w1 ⟨b, rfl, hy, hb⟩; have HY := Lib.hid (hy rfl); have HB := Lib.hid hb; clear hy hb)
      | (at_builtin; refine wpList_append_own _ rfl _ _ 38 rfl w.heap.size 9 i0 (.string ⟨#[]⟩) 1 16 Tryz.underlying38 HI.out.1 HI.out.2.1 HI.out.2.2.1 HI.out.2.2.2 rfl (by decide) _ _ _ rfl (nil_owns _ _) ⟨g, o, none⟩ (k) _ ((l.take (k)).map NM.tv) rfl (by rw [List.length_map, HTL.out]; omega) (HC.out _ HB.out) (texts_one _) (by unfold maxLen; omega) (by omega) (HB.out.size) ?_))
    intro v' w2 ho2 hg2 hnil
    clear hnil
    have HO2 := Lib.hid ho2
    have HG2 := Lib.hid hg2
    have hws : w.heap.size ≤ w2.heap.size := Nat.le_trans HB.out.size hg2.size
    clear ho2 hg2
    go_wp2_with (at_builtin; (refine wpList_append_own _ rfl _ _ 38 rfl w.heap.size 9 i0 (.string ⟨#[]⟩) 1 16 Tryz.underlying38 HI.out.1 HI.out.2.1 HI.out.2.2.1 HI.out.2.2.2 rfl (by decide) _ _ _ rfl (HO2.out.alloc _) ⟨_, 0, none⟩ 1 1 [.string b] rfl rfl (S02.new_cell _ _ _) (S02.one_str _) (by unfold maxLen; omega) (by omega) (by simp; omega) ?_))
    intro v'' w3 ho3 hg3 hnil
    clear hnil
    have HR := Lib.hid (row_end HB.out HY.out HTL.out HG2.out HO2.out hg3 ho3 (by simp) (by simp) (by simp) (by simp))
    clear ho3 hg3
    go_wp2
    go_ret2
    exact ⟨_, rfl, fun _ => HR.out, HR.out.2⟩
  · have h0' : (E == 0) = false := by simp [h0]
    have h0'' : (E != 0) = true := by simp [h0]
    go_enter Tryz.func163, Tryz.ntmps163
    go_wp2_with (go_at_call 174; refine HM.out.mono ?_; rintro e w1 ⟨b, rfl, hy, hb⟩; clear hy)
    go_ret2
    exact ⟨_, rfl, fun h => absurd h h0, hb⟩
set_option maxHeartbeats 1000000 in
theorem resolve_hi {q : Q} {w : World} {ns : List (List UInt8 × Nat)} {x : Int} {pl : Nat → Bool} {m : Nat → UInt8} (a : Nat) (op : Int) (v : Value) (l : List (List UInt8)) (k : Nat) (S R : ByteArray) (hp : PS q w ns x pl m) (ha : a ≤ 16384) (hl : l.length = k + 2) (hv : TxR w v l) (hk : k ≤ 1000000)
    (hS : S.data.toList = l.getD (k + 1) []) (hz : S.size ≤ 1000000) (hR : R.data.toList = l.getD k []) (hh : R.data.toList = [104, 105]) :
    Calls Tryz.prog 163 #[.pointer (some ⟨q.P, 0, none⟩), .int .i64 a, .int .i64 op, v] w (RwPost w (AS.imE ns a op [104, 105] (l.getD (k + 1) [])) (l.take (k) ++ [AS.imT ns a op [104, 105] (l.getD (k + 1) [])])) := by
  obtain ⟨i0, HI⟩ := info_parts S02.str_info
  have HI := Lib.hid HI
  rw [← hS]
  have HM := Lib.hid (imm_any a op ⟨#[104, 105]⟩ S hp hz ha (by simp))
  have htl : (l.take (k)).length = k := by rw [List.length_take]; omega
  have HTL := Lib.hid htl
  rcases hv with ⟨rfl, _⟩ | ⟨_, g, o, c, cs, fr, rfl, h1, h2, h3, h4⟩
  · simp at hl
  rw [hl] at h1 h4 ⊢
  have g1 : w.cell? ⟨g, o + (k + 1), none⟩ = some (.string S) := by rw [h4 _ (by omega), ← hS]; rfl
  have g2 : w.cell? ⟨g, o + k, none⟩ = some (.string R) := by rw [h4 k (by omega), ← hR]; rfl
  have r1 : R.toList = [104, 105] := by rw [ByteArray.toList_eq]; exact hh
  have r1' : (R.toList == [104, 105]) = true := by simpa using r1
  have hRS : R = ⟨#[104, 105]⟩ := by cases R; simp only [ByteArray.mk.injEq]; exact Array.toList_inj.mp hh
  subst hRS
  clear hR hh r1 r1'
  have HC := Lib.hid (fun w1 hb => take_cells (w1 := w1) (t := k) h3 h4 hl (by omega) hb)
  unfold maxLen at h2
  have HL := Lib.hid hl
  clear h4 h3 hS hl hp htl
  change Calls Tryz.prog 163 _ w (RwPost w (AS.imE ns a op [104, 105] S.data.toList) (l.take (k) ++ [AS.imT ns a op [104, 105] S.data.toList]))
  generalize hT : AS.imT ns a op [104, 105] S.data.toList = T
  have HT' : AS.imT ns a op (⟨#[104, 105]⟩ : ByteArray).data.toList S.data.toList = T := hT
  rw [HT'] at HM
  generalize hE : AS.imE ns a op [104, 105] S.data.toList = E
  have HE' : AS.imE ns a op (⟨#[104, 105]⟩ : ByteArray).data.toList S.data.toList = E := hE
  rw [HE'] at HM
  clear hT HT' hE HE'
  by_cases h0 : E = 0
  · subst h0
    go_enter Tryz.func163, Tryz.ntmps163
    go_wp2_with (first
      | (go_at_call 174; refine HM.out.mono ?_; rintro e w1 ⟨b, rfl, hy, hb⟩; have HY := Lib.hid (hy rfl); have HB := Lib.hid hb; clear hy hb)
      | (at_builtin; refine wpList_append_own _ rfl _ _ 38 rfl w.heap.size 9 i0 (.string ⟨#[]⟩) 1 16 Tryz.underlying38 HI.out.1 HI.out.2.1 HI.out.2.2.1 HI.out.2.2.2 rfl (by decide) _ _ _ rfl (nil_owns _ _) ⟨g, o, none⟩ (k) _ ((l.take (k)).map NM.tv) rfl (by rw [List.length_map, HTL.out]; omega) (HC.out _ HB.out) (texts_one _) (by unfold maxLen; omega) (by omega) (HB.out.size) ?_))
    intro v' w2 ho2 hg2 hnil
    clear hnil
    have HO2 := Lib.hid ho2
    have HG2 := Lib.hid hg2
    have hws : w.heap.size ≤ w2.heap.size := Nat.le_trans HB.out.size hg2.size
    clear ho2 hg2
    go_wp2_with (at_builtin; (refine wpList_append_own _ rfl _ _ 38 rfl w.heap.size 9 i0 (.string ⟨#[]⟩) 1 16 Tryz.underlying38 HI.out.1 HI.out.2.1 HI.out.2.2.1 HI.out.2.2.2 rfl (by decide) _ _ _ rfl (HO2.out.alloc _) ⟨_, 0, none⟩ 1 1 [.string b] rfl rfl (S02.new_cell _ _ _) (S02.one_str _) (by unfold maxLen; omega) (by omega) (by simp; omega) ?_))
    intro v'' w3 ho3 hg3 hnil
    clear hnil
    have HR := Lib.hid (row_end HB.out HY.out HTL.out HG2.out HO2.out hg3 ho3 (by simp) (by simp) (by simp) (by simp))
    clear ho3 hg3
    go_wp2
    go_ret2
    exact ⟨_, rfl, fun _ => HR.out, HR.out.2⟩
  · have h0' : (E == 0) = false := by simp [h0]
    have h0'' : (E != 0) = true := by simp [h0]
    go_enter Tryz.func163, Tryz.ntmps163
    go_wp2_with (go_at_call 174; refine HM.out.mono ?_; rintro e w1 ⟨b, rfl, hy, hb⟩; clear hy)
    go_ret2
    exact ⟨_, rfl, fun h => absurd h h0, hb⟩
set_option maxHeartbeats 1000000 in
theorem resolve_lo {q : Q} {w : World} {ns : List (List UInt8 × Nat)} {x : Int} {pl : Nat → Bool} {m : Nat → UInt8} (a : Nat) (op : Int) (v : Value) (l : List (List UInt8)) (k : Nat) (S R : ByteArray) (hp : PS q w ns x pl m) (ha : a ≤ 16384) (hl : l.length = k + 2) (hv : TxR w v l) (hk : k ≤ 1000000)
    (hS : S.data.toList = l.getD (k + 1) []) (hz : S.size ≤ 1000000) (hR : R.data.toList = l.getD k []) (hh : R.data.toList = [108, 111]) :
    Calls Tryz.prog 163 #[.pointer (some ⟨q.P, 0, none⟩), .int .i64 a, .int .i64 op, v] w (RwPost w (AS.imE ns a op [108, 111] (l.getD (k + 1) [])) (l.take (k) ++ [AS.imT ns a op [108, 111] (l.getD (k + 1) [])])) := by
  obtain ⟨i0, HI⟩ := info_parts S02.str_info
  have HI := Lib.hid HI
  rw [← hS]
  have HM := Lib.hid (imm_any a op ⟨#[108, 111]⟩ S hp hz ha (by simp))
  have htl : (l.take (k)).length = k := by rw [List.length_take]; omega
  have HTL := Lib.hid htl
  rcases hv with ⟨rfl, _⟩ | ⟨_, g, o, c, cs, fr, rfl, h1, h2, h3, h4⟩
  · simp at hl
  rw [hl] at h1 h4 ⊢
  have g1 : w.cell? ⟨g, o + (k + 1), none⟩ = some (.string S) := by rw [h4 _ (by omega), ← hS]; rfl
  have g2 : w.cell? ⟨g, o + k, none⟩ = some (.string R) := by rw [h4 k (by omega), ← hR]; rfl
  have hRS : R = ⟨#[108, 111]⟩ := by cases R; simp only [ByteArray.mk.injEq]; exact Array.toList_inj.mp hh
  subst hRS
  clear hR hh
  have HC := Lib.hid (fun w1 hb => take_cells (w1 := w1) (t := k) h3 h4 hl (by omega) hb)
  unfold maxLen at h2
  have HL := Lib.hid hl
  clear h4 h3 hS hl hp htl
  change Calls Tryz.prog 163 _ w (RwPost w (AS.imE ns a op [108, 111] S.data.toList) (l.take (k) ++ [AS.imT ns a op [108, 111] S.data.toList]))
  generalize hT : AS.imT ns a op [108, 111] S.data.toList = T
  have HT' : AS.imT ns a op (⟨#[108, 111]⟩ : ByteArray).data.toList S.data.toList = T := hT
  rw [HT'] at HM
  generalize hE : AS.imE ns a op [108, 111] S.data.toList = E
  have HE' : AS.imE ns a op (⟨#[108, 111]⟩ : ByteArray).data.toList S.data.toList = E := hE
  rw [HE'] at HM
  clear hT HT' hE HE'
  by_cases h0 : E = 0
  · subst h0
    go_enter Tryz.func163, Tryz.ntmps163
    go_wp2_with (first
      | (go_at_call 174; refine HM.out.mono ?_; rintro e w1 ⟨b, rfl, hy, hb⟩; have HY := Lib.hid (hy rfl); have HB := Lib.hid hb; clear hy hb)
      | (at_builtin; refine wpList_append_own _ rfl _ _ 38 rfl w.heap.size 9 i0 (.string ⟨#[]⟩) 1 16 Tryz.underlying38 HI.out.1 HI.out.2.1 HI.out.2.2.1 HI.out.2.2.2 rfl (by decide) _ _ _ rfl (nil_owns _ _) ⟨g, o, none⟩ (k) _ ((l.take (k)).map NM.tv) rfl (by rw [List.length_map, HTL.out]; omega) (HC.out _ HB.out) (texts_one _) (by unfold maxLen; omega) (by omega) (HB.out.size) ?_))
    intro v' w2 ho2 hg2 hnil
    clear hnil
    have HO2 := Lib.hid ho2
    have HG2 := Lib.hid hg2
    have hws : w.heap.size ≤ w2.heap.size := Nat.le_trans HB.out.size hg2.size
    clear ho2 hg2
    go_wp2_with (at_builtin; (refine wpList_append_own _ rfl _ _ 38 rfl w.heap.size 9 i0 (.string ⟨#[]⟩) 1 16 Tryz.underlying38 HI.out.1 HI.out.2.1 HI.out.2.2.1 HI.out.2.2.2 rfl (by decide) _ _ _ rfl (HO2.out.alloc _) ⟨_, 0, none⟩ 1 1 [.string b] rfl rfl (S02.new_cell _ _ _) (S02.one_str _) (by unfold maxLen; omega) (by omega) (by simp; omega) ?_))
    intro v'' w3 ho3 hg3 hnil
    clear hnil
    have HR := Lib.hid (row_end HB.out HY.out HTL.out HG2.out HO2.out hg3 ho3 (by simp) (by simp) (by simp) (by simp))
    clear ho3 hg3
    go_wp2
    go_ret2
    exact ⟨_, rfl, fun _ => HR.out, HR.out.2⟩
  · have h0' : (E == 0) = false := by simp [h0]
    have h0'' : (E != 0) = true := by simp [h0]
    go_enter Tryz.func163, Tryz.ntmps163
    go_wp2_with (go_at_call 174; refine HM.out.mono ?_; rintro e w1 ⟨b, rfl, hy, hb⟩; clear hy)
    go_ret2
    exact ⟨_, rfl, fun h => absurd h h0, hb⟩
set_option maxHeartbeats 1000000 in
theorem resolve_two {q : Q} {w : World} {ns : List (List UInt8 × Nat)} {x : Int} {pl : Nat → Bool} {m : Nat → UInt8} (a : Nat) (op : Int) (v : Value) (l : List (List UInt8)) (k : Nat) (S R : ByteArray) (hp : PS q w ns x pl m) (ha : a ≤ 16384) (hl : l.length = k + 2) (hv : TxR w v l) (hk : k ≤ 1000000)
    (hS : S.data.toList = l.getD (k + 1) []) (hz : S.size ≤ 1000000) (hR : R.data.toList = l.getD k []) (hh : ¬ R.data.toList = [104, 105] ∧ ¬ R.data.toList = [108, 111]) :
    Calls Tryz.prog 163 #[.pointer (some ⟨q.P, 0, none⟩), .int .i64 a, .int .i64 op, v] w (RwPost w (AS.imE ns a op [] (l.getD (k + 1) [])) (l.take (k + 1) ++ [AS.imT ns a op [] (l.getD (k + 1) [])])) := by
  obtain ⟨i0, HI⟩ := info_parts S02.str_info
  have HI := Lib.hid HI
  rw [← hS]
  have HM := Lib.hid (imm_any a op ⟨#[]⟩ S hp hz ha (by simp))
  have htl : (l.take (k + 1)).length = k + 1 := by rw [List.length_take]; omega
  have HTL := Lib.hid htl
  rcases hv with ⟨rfl, _⟩ | ⟨_, g, o, c, cs, fr, rfl, h1, h2, h3, h4⟩
  · simp at hl
  rw [hl] at h1 h4 ⊢
  have g1 : w.cell? ⟨g, o + (k + 1), none⟩ = some (.string S) := by rw [h4 _ (by omega), ← hS]; rfl
  have g2 : w.cell? ⟨g, o + k, none⟩ = some (.string R) := by rw [h4 k (by omega), ← hR]; rfl
  have r1 : ¬ R.toList = [104, 105] := by rw [ByteArray.toList_eq]; exact hh.1
  have r2 : ¬ R.toList = [108, 111] := by rw [ByteArray.toList_eq]; exact hh.2
  have r1' : (R.toList == [104, 105]) = false := by simpa using r1
  have r2' : (R.toList == [108, 111]) = false := by simpa using r2
  clear hR hh
  have HC := Lib.hid (fun w1 hb => take_cells (w1 := w1) (t := k + 1) h3 h4 hl (by omega) hb)
  unfold maxLen at h2
  have HL := Lib.hid hl
  clear h4 h3 hS hl hp htl
  change Calls Tryz.prog 163 _ w (RwPost w (AS.imE ns a op [] S.data.toList) (l.take (k + 1) ++ [AS.imT ns a op [] S.data.toList]))
  generalize hT : AS.imT ns a op [] S.data.toList = T
  have HT' : AS.imT ns a op (⟨#[]⟩ : ByteArray).data.toList S.data.toList = T := hT
  rw [HT'] at HM
  generalize hE : AS.imE ns a op [] S.data.toList = E
  have HE' : AS.imE ns a op (⟨#[]⟩ : ByteArray).data.toList S.data.toList = E := hE
  rw [HE'] at HM
  clear hT HT' hE HE'
  by_cases h0 : E = 0
  · subst h0
    go_enter Tryz.func163, Tryz.ntmps163
    go_wp2_with (first
      | (go_at_call 174; refine HM.out.mono ?_; rintro e w1 ⟨b, rfl, hy, hb⟩; have HY := Lib.hid (hy rfl); have HB := Lib.hid hb; clear hy hb)
      | (at_builtin; refine wpList_append_own _ rfl _ _ 38 rfl w.heap.size 9 i0 (.string ⟨#[]⟩) 1 16 Tryz.underlying38 HI.out.1 HI.out.2.1 HI.out.2.2.1 HI.out.2.2.2 rfl (by decide) _ _ _ rfl (nil_owns _ _) ⟨g, o, none⟩ (k + 1) _ ((l.take (k + 1)).map NM.tv) rfl (by rw [List.length_map, HTL.out]; omega) (HC.out _ HB.out) (texts_one _) (by unfold maxLen; omega) (by omega) (HB.out.size) ?_))
    intro v' w2 ho2 hg2 hnil
    clear hnil
    have HO2 := Lib.hid ho2
    have HG2 := Lib.hid hg2
    have hws : w.heap.size ≤ w2.heap.size := Nat.le_trans HB.out.size hg2.size
    clear ho2 hg2
    go_wp2_with (at_builtin; (refine wpList_append_own _ rfl _ _ 38 rfl w.heap.size 9 i0 (.string ⟨#[]⟩) 1 16 Tryz.underlying38 HI.out.1 HI.out.2.1 HI.out.2.2.1 HI.out.2.2.2 rfl (by decide) _ _ _ rfl (HO2.out.alloc _) ⟨_, 0, none⟩ 1 1 [.string b] rfl rfl (S02.new_cell _ _ _) (S02.one_str _) (by unfold maxLen; omega) (by omega) (by simp; omega) ?_))
    intro v'' w3 ho3 hg3 hnil
    clear hnil
    have HR := Lib.hid (row_end HB.out HY.out HTL.out HG2.out HO2.out hg3 ho3 (by simp) (by simp) (by simp) (by simp))
    clear ho3 hg3
    go_wp2
    go_ret2
    exact ⟨_, rfl, fun _ => HR.out, HR.out.2⟩
  · have h0' : (E == 0) = false := by simp [h0]
    have h0'' : (E != 0) = true := by simp [h0]
    go_enter Tryz.func163, Tryz.ntmps163
    go_wp2_with (go_at_call 174; refine HM.out.mono ?_; rintro e w1 ⟨b, rfl, hy, hb⟩; clear hy)
    go_ret2
    exact ⟨_, rfl, fun h => absurd h h0, hb⟩
theorem resolve_any {q : Q} {w : World} {ns : List (List UInt8 × Nat)} {x : Int} {pl : Nat → Bool} {m : Nat → UInt8} (a : Nat) (op : Int) (v : Value) (l : List (List UInt8)) (hp : PS q w ns x pl m) (ha : a ≤ 16384) (h0 : l ≠ []) (hi : AS.hasI (IM.fm op) = true) (hv : TxR w v l) (hk : l.length ≤ 1000000) (hz : ∀ y ∈ l, y.length ≤ 1000000) :
    Calls Tryz.prog 163 #[.pointer (some ⟨q.P, 0, none⟩), .int .i64 a, .int .i64 op, v] w (RwPost w (AS.rsE ns a op l) (AS.rsL ns a op l)) := by
  have hc : ¬ (l = [] ∨ AS.hasI (IM.fm op) = false) := by rw [hi]; simp [h0]
  have hd : ∀ i, i < l.length → (⟨(l.getD i []).toArray⟩ : ByteArray).size ≤ 1000000 := fun i h => by
    show (l.getD i []).toArray.size ≤ _
    rw [List.size_toArray, List.getD_eq_getElem?_getD, List.getElem?_eq_getElem h]
    exact hz _ (List.getElem_mem h)
  have hn : l.length ≠ 0 := fun e => h0 (List.length_eq_zero_iff.mp e)
  by_cases h1 : l.length = 1
  · have e1 : AS.rsE ns a op l = AS.imE ns a op [] (l.getD 0 []) := by unfold AS.rsE; rw [if_neg hc, if_neg (by omega), h1]
    have e2 : AS.rsL ns a op l = l.take 0 ++ [AS.imT ns a op [] (l.getD 0 [])] := by unfold AS.rsL; rw [if_neg hc, if_neg (by omega), h1]
    rw [e1, e2]
    exact resolve_one a op v l 0 ⟨(l.getD 0 []).toArray⟩ hp ha h1 hv (by omega) rfl (hd 0 (by omega)) (by omega)
  · obtain ⟨k, hl⟩ : ∃ k, l.length = k + 2 := ⟨l.length - 2, by omega⟩
    have t1 : l.length - 2 = k := by omega
    have t2 : l.length - 1 = k + 1 := by omega
    by_cases hh : l.getD k [] = [104, 105]
    · have e1 : AS.rsE ns a op l = AS.imE ns a op [104, 105] (l.getD (k + 1) []) := by unfold AS.rsE; rw [if_neg hc, t1, t2, if_pos ⟨by omega, .inl hh⟩, hh]
      have e2 : AS.rsL ns a op l = l.take k ++ [AS.imT ns a op [104, 105] (l.getD (k + 1) [])] := by unfold AS.rsL; rw [if_neg hc, t1, t2, if_pos ⟨by omega, .inl hh⟩, hh]
      rw [e1, e2]
      exact resolve_hi a op v l k ⟨(l.getD (k + 1) []).toArray⟩ ⟨(l.getD k []).toArray⟩ hp ha hl hv (by omega) rfl (hd _ (by omega)) rfl hh
    · by_cases hg : l.getD k [] = [108, 111]
      · have e1 : AS.rsE ns a op l = AS.imE ns a op [108, 111] (l.getD (k + 1) []) := by unfold AS.rsE; rw [if_neg hc, t1, t2, if_pos ⟨by omega, .inr hg⟩, hg]
        have e2 : AS.rsL ns a op l = l.take k ++ [AS.imT ns a op [108, 111] (l.getD (k + 1) [])] := by unfold AS.rsL; rw [if_neg hc, t1, t2, if_pos ⟨by omega, .inr hg⟩, hg]
        rw [e1, e2]
        exact resolve_lo a op v l k ⟨(l.getD (k + 1) []).toArray⟩ ⟨(l.getD k []).toArray⟩ hp ha hl hv (by omega) rfl (hd _ (by omega)) rfl hg
      · have e1 : AS.rsE ns a op l = AS.imE ns a op [] (l.getD (k + 1) []) := by unfold AS.rsE; rw [if_neg hc, t1, t2, if_neg (by rintro ⟨_, h | h⟩; exact hh h; exact hg h)]
        have e2 : AS.rsL ns a op l = l.take (k + 1) ++ [AS.imT ns a op [] (l.getD (k + 1) [])] := by unfold AS.rsL; rw [if_neg hc, t1, t2, if_neg (by rintro ⟨_, h | h⟩; exact hh h; exact hg h)]
        rw [e1, e2]
        exact resolve_two a op v l k ⟨(l.getD (k + 1) []).toArray⟩ ⟨(l.getD k []).toArray⟩ hp ha hl hv (by omega) rfl (hd _ (by omega)) rfl ⟨hh, hg⟩
end Go.Proofs.YtcnmnkgnaknpdaaGreatDoor
/-! WalkG -/
namespace Go.Proofs.YtcnmnkgnaknpdaaGreatDoor
open Go.RowKit Go.Maps S02 S06 S07
theorem join_any {w : World} {v : Value} {l : List (List UInt8)} (h : TxR w v l) (h0 : l ≠ []) (hl : l.length ≤ 1000000) (hj : (Lib.join l [44, 32]).length ≤ 1000000) :
    Calls Tryz.prog 164 #[v, .string ⟨#[44, 32]⟩] w fun e w' => e = .returned (.string ⟨(Lib.join l [44, 32]).toArray⟩) ∧ Below w.heap.size w w' := by
  rcases h with ⟨rfl, _⟩ | ⟨_, g, o, c, cs, fr, rfl, h1, h2, h3, h4⟩
  · exact absurd rfl h0
  · have e : (l.map fun x => (⟨x.toArray⟩ : ByteArray)).map (·.data.toList) = l := by
      rw [List.map_map]
      conv => rhs; rw [← List.map_id l]
      apply List.map_congr_left
      intro x _
      rfl
    have hlen : (l.map fun x => (⟨x.toArray⟩ : ByteArray)).length = l.length := List.length_map ..
    have := Tryz.strings_Join g o c (l.map fun x => (⟨x.toArray⟩ : ByteArray)) ⟨#[44, 32]⟩ w (fun j x hx => ?_) (lt_of_heap h3) (by rw [hlen]; omega) (by rw [hlen]; exact h1) (by rw [e]; show (Lib.join l [44, 32]).length ≤ _; omega)
    · rw [e, hlen] at this
      exact this
    · rw [List.getElem?_map] at hx
      cases hj : l[j]? with
      | none => rw [hj] at hx; cases hx
      | some y =>
        rw [hj] at hx
        simp only [Option.map_some, Option.some.injEq] at hx
        have hlt : j < l.length := by
          rcases Nat.lt_or_ge j l.length with h | h
          · exact h
          · rw [List.getElem?_eq_none h] at hj; cases hj
        rw [h4 j hlt, List.getD_eq_getElem?_getD, hj, ← hx]
        rfl
/-- A word and an error; the word is told where there is none. -/
def EnPost (w : World) (er z : Int) (e : Ending) (w' : World) : Prop := ∃ y, e = .returned (.tuple #[.int .u32 y, .int .i64 er]) ∧ (er = 0 → y = z) ∧ Below w.heap.size w w'
theorem cat_txt (D J : ByteArray) (l : List (List UInt8)) (hl : l ≠ []) (hJ : J.data.toList = Lib.join l [44, 32]) : (D ++ (⟨#[32]⟩ ++ J)).data.toList = AS.txt D.data.toList l := by
  unfold AS.txt
  rw [if_neg hl, ← hJ]
  simp [ByteArray.data_append]
theorem encode_none {q : Q} {w : World} {ns : List (List UInt8 × Nat)} {x : Int} {pl : Nat → Bool} {m : Nat → UInt8} (a : Nat) (D : ByteArray) (v : Value) (z : Int) (hp : PS q w ns x pl m) (h : TX.oo D.data.toList = 0) :
    Calls Tryz.prog 136 #[.pointer (some ⟨q.P, 0, none⟩), .int .i64 a, .string D, v] w (EnPost w 9 z) := by
  have HO := Lib.hid (op_any D w hp.tb)
  rw [h] at HO
  clear hp h
  go_enter Tryz.func136, Tryz.ntmps136
  go_wp2_with (go_at_call 161; refine HO.out.mono ?_; rintro e w' ⟨rfl, rfl⟩)
  go_ret2
  exact ⟨_, rfl, (fun h => by cases h), Below.refl _ _⟩
theorem txr_form {w : World} {v : Value} {l : List (List UInt8)} (h : TxR w v l) (h0 : l ≠ []) : ∃ g o c, v = .slice (some ⟨g, o, none⟩) l.length c := by
  rcases h with ⟨rfl, _⟩ | ⟨_, g, o, c, cs, fr, rfl, _⟩
  · exact absurd rfl h0
  · exact ⟨g, o, c, rfl⟩
theorem box_below {w w1 w9 : World} {o : Obj} (h1 : Below w.heap.size w w1) (h9 : Below (w1.alloc o).heap.size (w1.alloc o) w9) : Below w.heap.size w w9 :=
  (h1.alloc h1.size o).trans (h9.mono (by have := h1.size; simp; omega))
theorem encode_bare {q : Q} {w : World} {ns : List (List UInt8 × Nat)} {x : Int} {pl : Nat → Bool} {m : Nat → UInt8} (a : Nat) (D : ByteArray) (v : Value) (l : List (List UInt8)) (op : Int) (hp : PS q w ns x pl m) (_ha : a ≤ 16384) (ho : TX.oo D.data.toList = op) (h0 : ¬ op = 0) (hv : TxR w v l) (hl : l.length ≤ 1000000) (hz : ∀ y ∈ l, y.length ≤ 1000000) (hs : (AS.txt D.data.toList (AS.rsL ns a op l)).length ≤ 400000) (hq : l = []) :
    Calls Tryz.prog 136 #[.pointer (some ⟨q.P, 0, none⟩), .int .i64 a, .string D, v] w (EnPost w (AS.enE ns a D.data.toList l) (AS.enN ns a D.data.toList l)) := by
  subst hq
  have HO := Lib.hid (op_any D w hp.tb)
  rw [ho] at HO
  have o1 : (op == 0) = false := by simp [h0]
  have e0 : AS.rsL ns a op [] = [] := by unfold AS.rsL; rw [if_pos (.inl rfl)]
  have e1 : AS.rsE ns a op [] = 0 := by unfold AS.rsE; rw [if_pos (.inl rfl)]
  have e2 : AS.txt D.data.toList [] = D.data.toList := by unfold AS.txt; rw [if_pos rfl]
  rw [e0, e2, NM.len_eq] at hs
  have HP := Lib.hid (S07.parse_any D w hs hp.tb)
  have eN : AS.enN ns a D.data.toList [] = IM.ec (TX.pq D.data.toList).1 (TX.pq D.data.toList).2.1 (TX.pq D.data.toList).2.2.1 (TX.pq D.data.toList).2.2.2.1 (TX.pq D.data.toList).2.2.2.2 := by unfold AS.enN; rw [ho, e0, e2]
  have eE : AS.enE ns a D.data.toList [] = if TX.pe D.data.toList = 0 then IM.rc (TX.pq D.data.toList).1 (TX.pq D.data.toList).2.1 (TX.pq D.data.toList).2.2.1 (TX.pq D.data.toList).2.2.2.1 (TX.pq D.data.toList).2.2.2.2 else TX.pe D.data.toList := by unfold AS.enE; rw [ho, if_neg h0, e1, if_pos rfl, e0, e2]
  rw [eN, eE]
  clear eN eE e0 e1 e2 ho hp
  obtain ⟨a0, c0, rfl⟩ : ∃ a0 c0, v = .slice a0 0 c0 := by
    rcases hv with ⟨_, a0, c0, rfl⟩ | ⟨h, _⟩
    · exact ⟨a0, c0, rfl⟩
    · exact absurd rfl h
  clear hv hz hl
  generalize TX.pe D.data.toList = E at *
  generalize TX.pq D.data.toList = pq at *
  obtain ⟨y1, y2, y3, y4, y5⟩ := pq
  have HE := Lib.hid (fun W => enc_any y1 y2 y3 y4 y5 W)
  by_cases hE : E = 0
  · rw [if_pos hE]
    subst hE
    generalize IM.rc y1 y2 y3 y4 y5 = R at *
    generalize IM.ec y1 y2 y3 y4 y5 = Z at *
    go_enter Tryz.func136, Tryz.ntmps136
    go_wp2_with (first
      | (go_at_call 161; refine HO.out.mono ?_; rintro e w' ⟨rfl, rfl⟩)
      | (go_at_call 165; refine HP.out.mono ?_; rintro e w1 ⟨rfl, hb1⟩; have HB1 := Lib.hid hb1; clear hb1)
      | (go_at_call 17; refine (HE.out _).mono ?_; rintro e w9 ⟨rfl, hb9⟩))
    go_ret2
    exact ⟨_, rfl, fun _ => rfl, box_below HB1.out hb9⟩
  · rw [if_neg hE]
    have hE' : (E == 0) = false := by simp [hE]
    have hE'' : (E != 0) = true := by simp [hE]
    go_enter Tryz.func136, Tryz.ntmps136
    go_wp2_with (first
      | (go_at_call 161; refine HO.out.mono ?_; rintro e w' ⟨rfl, rfl⟩)
      | (go_at_call 165; refine HP.out.mono ?_; rintro e w1 ⟨rfl, hb1⟩; have HB1 := Lib.hid hb1; clear hb1))
    go_ret2
    exact ⟨_, rfl, fun h => absurd h hE, HB1.out.alloc HB1.out.size _⟩
set_option maxHeartbeats 1000000 in
theorem encode_plain {q : Q} {w : World} {ns : List (List UInt8 × Nat)} {x : Int} {pl : Nat → Bool} {m : Nat → UInt8} (a : Nat) (D : ByteArray) (v : Value) (l : List (List UInt8)) (op : Int) (hp : PS q w ns x pl m) (_ha : a ≤ 16384) (ho : TX.oo D.data.toList = op) (h0 : ¬ op = 0) (hv : TxR w v l) (hl : l.length ≤ 1000000) (hz : ∀ y ∈ l, y.length ≤ 1000000) (hs : (AS.txt D.data.toList (AS.rsL ns a op l)).length ≤ 400000) (hq : l ≠ []) (hi : AS.hasI (IM.fm op) = false) :
    Calls Tryz.prog 136 #[.pointer (some ⟨q.P, 0, none⟩), .int .i64 a, .string D, v] w (EnPost w (AS.enE ns a D.data.toList l) (AS.enN ns a D.data.toList l)) := by
  have HO := Lib.hid (op_any D w hp.tb)
  rw [ho] at HO
  have HF := Lib.hid (fun W => hasImm_any op W)
  have HT := Lib.hid hp.tb
  have o1 : (op == 0) = false := by simp [h0]
  rw [hi] at HF
  obtain ⟨L, hL⟩ : ∃ L, L = l := ⟨_, rfl⟩
  have hL0 : L ≠ [] := by rw [hL]; exact hq
  have e0 : AS.rsL ns a op l = L := by unfold AS.rsL; rw [if_pos (.inr hi), hL]
  have e1 : AS.rsE ns a op l = 0 := by unfold AS.rsE; rw [if_pos (.inr hi)]
  have eN : AS.enN ns a D.data.toList l = IM.ec (TX.pq (AS.txt D.data.toList L)).1 (TX.pq (AS.txt D.data.toList L)).2.1 (TX.pq (AS.txt D.data.toList L)).2.2.1 (TX.pq (AS.txt D.data.toList L)).2.2.2.1 (TX.pq (AS.txt D.data.toList L)).2.2.2.2 := by unfold AS.enN; rw [ho, e0]
  have eE : AS.enE ns a D.data.toList l = if TX.pe (AS.txt D.data.toList L) = 0 then IM.rc (TX.pq (AS.txt D.data.toList L)).1 (TX.pq (AS.txt D.data.toList L)).2.1 (TX.pq (AS.txt D.data.toList L)).2.2.1 (TX.pq (AS.txt D.data.toList L)).2.2.2.1 (TX.pq (AS.txt D.data.toList L)).2.2.2.2 else TX.pe (AS.txt D.data.toList L) := by unfold AS.enE; rw [ho, if_neg h0, e1, if_pos rfl, e0]
  rw [eN, eE]
  have htl : AS.txt D.data.toList L = D.data.toList ++ ([32] ++ Lib.join L [44, 32]) := by unfold AS.txt; rw [if_neg hL0]
  rw [e0, htl] at hs
  simp only [List.length_append, List.length_cons, List.length_nil, NM.len_eq] at hs
  have hjl : (Lib.join L [44, 32]).length ≤ 1000000 := by omega
  obtain ⟨J, hJ⟩ : ∃ J : ByteArray, (⟨(Lib.join L [44, 32]).toArray⟩ : ByteArray) = J := ⟨_, rfl⟩
  have hJl : J.data.toList = Lib.join L [44, 32] := by rw [← hJ]
  have hJs : J.size = (Lib.join L [44, 32]).length := by rw [← hJl, NM.len_eq]
  have hc1 : ¬ 9223372036854775807 < 1 + J.size := by omega
  obtain ⟨X, hX⟩ : ∃ X : ByteArray, D ++ (⟨#[32]⟩ ++ J) = X := ⟨_, rfl⟩
  have hXt : X.data.toList = AS.txt D.data.toList L := by rw [← hX]; exact cat_txt D J L hL0 hJl
  have hXs : X.size ≤ 400000 := by
    rw [← NM.len_eq, hXt, htl]
    simp only [List.length_append, List.length_cons, List.length_nil, NM.len_eq]
    omega
  have hc2 : ¬ 9223372036854775807 < D.size + (1 + J.size) := by omega
  rw [← hXt]
  have HP := Lib.hid (fun W (hW : Tb W) => S07.parse_any X W hXs hW)
  have HX := Lib.hid hX
  have HJ := Lib.hid hJ
  clear eN eE e0 e1 htl hXt hX hJ hJl hJs hs
  have HJN := Lib.hid (join_any (hL ▸ hv) hL0 (hL ▸ hl) hjl)
  rcases hv with ⟨rfl, _⟩ | ⟨_, g, o, c, cs, fr, rfl, h1, h2, h3, h4⟩
  · exact absurd rfl hq
  have hp0 : 0 < l.length := Nat.pos_of_ne_zero fun e => hq (List.length_eq_zero_iff.mp e)
  have hp1 : decide (0 < l.length) = true := by simpa using hp0
  clear h3 h4 ho hp hL hq hL0 hi hz
  generalize TX.pe X.data.toList = E at *
  generalize TX.pq X.data.toList = pq at *
  obtain ⟨y1, y2, y3, y4, y5⟩ := pq
  have HE := Lib.hid (fun W => enc_any y1 y2 y3 y4 y5 W)
  by_cases hE : E = 0
  · rw [if_pos hE]
    subst hE
    generalize IM.rc y1 y2 y3 y4 y5 = R at *
    generalize IM.ec y1 y2 y3 y4 y5 = Z at *
    go_enter Tryz.func136, Tryz.ntmps136
    go_wp2_with (first
      | (go_at_call 161; refine HO.out.mono ?_; rintro e w' ⟨rfl, rfl⟩)
      | (go_at_call 162; refine (HF.out _).mono ?_; rintro e w' ⟨rfl, rfl⟩)
      | (go_at_call 164; ((refine (HJN.out).mono ?_); rintro e w2 ⟨rfl, hb2⟩; rw [HJ.out]; have HB2 := Lib.hid (hb2); clear hb2))
      | (go_at_call 165; rw [HX.out]; refine (HP.out _ (HT.out.on HB2.out)).mono ?_; rintro e w3 ⟨rfl, hb3⟩; have HB3 := Lib.hid (HB2.out.trans (hb3.mono HB2.out.size)); clear hb3)
      | (go_at_call 17; refine (HE.out _).mono ?_; rintro e w9 ⟨rfl, hb9⟩))
    go_ret2
    exact ⟨_, rfl, fun _ => rfl, box_below HB3.out hb9⟩
  · rw [if_neg hE]
    have hE' : (E == 0) = false := by simp [hE]
    have hE'' : (E != 0) = true := by simp [hE]
    go_enter Tryz.func136, Tryz.ntmps136
    go_wp2_with (first
      | (go_at_call 161; refine HO.out.mono ?_; rintro e w' ⟨rfl, rfl⟩)
      | (go_at_call 162; refine (HF.out _).mono ?_; rintro e w' ⟨rfl, rfl⟩)
      | (go_at_call 164; ((refine (HJN.out).mono ?_); rintro e w2 ⟨rfl, hb2⟩; rw [HJ.out]; have HB2 := Lib.hid (hb2); clear hb2))
      | (go_at_call 165; rw [HX.out]; refine (HP.out _ (HT.out.on HB2.out)).mono ?_; rintro e w3 ⟨rfl, hb3⟩; have HB3 := Lib.hid (HB2.out.trans (hb3.mono HB2.out.size)); clear hb3))
    go_ret2
    exact ⟨_, rfl, fun h => absurd h hE, HB3.out.alloc HB3.out.size _⟩
set_option maxHeartbeats 1000000 in
theorem encode_res {q : Q} {w : World} {ns : List (List UInt8 × Nat)} {x : Int} {pl : Nat → Bool} {m : Nat → UInt8} (a : Nat) (D : ByteArray) (v : Value) (l : List (List UInt8)) (op : Int) (hp : PS q w ns x pl m) (ha : a ≤ 16384) (ho : TX.oo D.data.toList = op) (h0 : ¬ op = 0) (hv : TxR w v l) (hl : l.length ≤ 1000000) (hz : ∀ y ∈ l, y.length ≤ 1000000) (hs : (AS.txt D.data.toList (AS.rsL ns a op l)).length ≤ 400000) (hq : l ≠ []) (hi : AS.hasI (IM.fm op) = true) (hr : AS.rsE ns a op l = 0) :
    Calls Tryz.prog 136 #[.pointer (some ⟨q.P, 0, none⟩), .int .i64 a, .string D, v] w (EnPost w (AS.enE ns a D.data.toList l) (AS.enN ns a D.data.toList l)) := by
  have HO := Lib.hid (op_any D w hp.tb)
  rw [ho] at HO
  have HF := Lib.hid (fun W => hasImm_any op W)
  have HT := Lib.hid hp.tb
  have o1 : (op == 0) = false := by simp [h0]
  rw [hi] at HF
  obtain ⟨L, e0⟩ : ∃ L, AS.rsL ns a op l = L := ⟨_, rfl⟩
  have hL0 : L ≠ [] := by
    rw [← e0]
    unfold AS.rsL
    rw [if_neg (by rw [hi]; simp [hq])]
    split <;> simp
  have hLl : L.length ≤ 1000000 := by
    rw [← e0]
    have hpos : 0 < l.length := Nat.pos_of_ne_zero fun e => hq (List.length_eq_zero_iff.mp e)
    unfold AS.rsL
    rw [if_neg (by rw [hi]; simp [hq])]
    split <;> (rw [List.length_append, List.length_take, List.length_singleton]; omega)
  have e1 := hr
  have HRS := Lib.hid (resolve_any a op v l hp ha hq hi hv hl hz)
  rw [e0, e1] at HRS
  have eN : AS.enN ns a D.data.toList l = IM.ec (TX.pq (AS.txt D.data.toList L)).1 (TX.pq (AS.txt D.data.toList L)).2.1 (TX.pq (AS.txt D.data.toList L)).2.2.1 (TX.pq (AS.txt D.data.toList L)).2.2.2.1 (TX.pq (AS.txt D.data.toList L)).2.2.2.2 := by unfold AS.enN; rw [ho, e0]
  have eE : AS.enE ns a D.data.toList l = if TX.pe (AS.txt D.data.toList L) = 0 then IM.rc (TX.pq (AS.txt D.data.toList L)).1 (TX.pq (AS.txt D.data.toList L)).2.1 (TX.pq (AS.txt D.data.toList L)).2.2.1 (TX.pq (AS.txt D.data.toList L)).2.2.2.1 (TX.pq (AS.txt D.data.toList L)).2.2.2.2 else TX.pe (AS.txt D.data.toList L) := by unfold AS.enE; rw [ho, if_neg h0, e1, if_pos rfl, e0]
  rw [eN, eE]
  have htl : AS.txt D.data.toList L = D.data.toList ++ ([32] ++ Lib.join L [44, 32]) := by unfold AS.txt; rw [if_neg hL0]
  rw [e0, htl] at hs
  simp only [List.length_append, List.length_cons, List.length_nil, NM.len_eq] at hs
  have hjl : (Lib.join L [44, 32]).length ≤ 1000000 := by omega
  obtain ⟨J, hJ⟩ : ∃ J : ByteArray, (⟨(Lib.join L [44, 32]).toArray⟩ : ByteArray) = J := ⟨_, rfl⟩
  have hJl : J.data.toList = Lib.join L [44, 32] := by rw [← hJ]
  have hJs : J.size = (Lib.join L [44, 32]).length := by rw [← hJl, NM.len_eq]
  have hc1 : ¬ 9223372036854775807 < 1 + J.size := by omega
  obtain ⟨X, hX⟩ : ∃ X : ByteArray, D ++ (⟨#[32]⟩ ++ J) = X := ⟨_, rfl⟩
  have hXt : X.data.toList = AS.txt D.data.toList L := by rw [← hX]; exact cat_txt D J L hL0 hJl
  have hXs : X.size ≤ 400000 := by
    rw [← NM.len_eq, hXt, htl]
    simp only [List.length_append, List.length_cons, List.length_nil, NM.len_eq]
    omega
  have hc2 : ¬ 9223372036854775807 < D.size + (1 + J.size) := by omega
  rw [← hXt]
  have HP := Lib.hid (fun W (hW : Tb W) => S07.parse_any X W hXs hW)
  have HX := Lib.hid hX
  have HJ := Lib.hid hJ
  clear eN eE e0 e1 htl hXt hX hJ hJl hJs hs
  have HL0 := Lib.hid hL0
  have hp0 : 0 < L.length := Nat.pos_of_ne_zero fun e => hL0 (List.length_eq_zero_iff.mp e)
  have hp1 : decide (0 < L.length) = true := by simpa using hp0
  rcases hv with ⟨rfl, _⟩ | ⟨_, g, o, c, cs, fr, rfl, h1, h2, h3, h4⟩
  · exact absurd rfl hq
  have hp2 : 0 < l.length := Nat.pos_of_ne_zero fun e => hq (List.length_eq_zero_iff.mp e)
  have hp3 : decide (0 < l.length) = true := by simpa using hp2
  clear h3 h4 ho hp hq hL0 hi hz hr
  generalize TX.pe X.data.toList = E at *
  generalize TX.pq X.data.toList = pq at *
  obtain ⟨y1, y2, y3, y4, y5⟩ := pq
  have HE := Lib.hid (fun W => enc_any y1 y2 y3 y4 y5 W)
  by_cases hE : E = 0
  · rw [if_pos hE]
    subst hE
    generalize IM.rc y1 y2 y3 y4 y5 = R at *
    generalize IM.ec y1 y2 y3 y4 y5 = Z at *
    go_enter Tryz.func136, Tryz.ntmps136
    go_wp2_with (first
      | (go_at_call 161; refine HO.out.mono ?_; rintro e w' ⟨rfl, rfl⟩)
      | (go_at_call 162; refine (HF.out _).mono ?_; rintro e w' ⟨rfl, rfl⟩)
      | (go_at_call 163; refine HRS.out.mono ?_; rintro e w1 ⟨v1, rfl, hrow, hb1⟩; have HB1 := Lib.hid hb1; have HR1 := Lib.hid (TxR.of_row (hrow rfl)); clear hb1 hrow; obtain ⟨g1, o1', c1, hv1⟩ := txr_form HR1.out HL0.out; subst hv1)
      | (go_at_call 164; ((refine (join_any HR1.out HL0.out hLl hjl).mono ?_); rintro e w2 ⟨rfl, hb2⟩; rw [HJ.out]; have HB2 := Lib.hid (HB1.out.trans (hb2.mono HB1.out.size)); clear hb2))
      | (go_at_call 165; rw [HX.out]; refine (HP.out _ (HT.out.on HB2.out)).mono ?_; rintro e w3 ⟨rfl, hb3⟩; have HB3 := Lib.hid (HB2.out.trans (hb3.mono HB2.out.size)); clear hb3)
      | (go_at_call 17; refine (HE.out _).mono ?_; rintro e w9 ⟨rfl, hb9⟩))
    go_ret2
    exact ⟨_, rfl, fun _ => rfl, box_below HB3.out hb9⟩
  · rw [if_neg hE]
    have hE' : (E == 0) = false := by simp [hE]
    have hE'' : (E != 0) = true := by simp [hE]
    go_enter Tryz.func136, Tryz.ntmps136
    go_wp2_with (first
      | (go_at_call 161; refine HO.out.mono ?_; rintro e w' ⟨rfl, rfl⟩)
      | (go_at_call 162; refine (HF.out _).mono ?_; rintro e w' ⟨rfl, rfl⟩)
      | (go_at_call 163; refine HRS.out.mono ?_; rintro e w1 ⟨v1, rfl, hrow, hb1⟩; have HB1 := Lib.hid hb1; have HR1 := Lib.hid (TxR.of_row (hrow rfl)); clear hb1 hrow; obtain ⟨g1, o1', c1, hv1⟩ := txr_form HR1.out HL0.out; subst hv1)
      | (go_at_call 164; ((refine (join_any HR1.out HL0.out hLl hjl).mono ?_); rintro e w2 ⟨rfl, hb2⟩; rw [HJ.out]; have HB2 := Lib.hid (HB1.out.trans (hb2.mono HB1.out.size)); clear hb2))
      | (go_at_call 165; rw [HX.out]; refine (HP.out _ (HT.out.on HB2.out)).mono ?_; rintro e w3 ⟨rfl, hb3⟩; have HB3 := Lib.hid (HB2.out.trans (hb3.mono HB2.out.size)); clear hb3))
    go_ret2
    exact ⟨_, rfl, fun h => absurd h hE, HB3.out.alloc HB3.out.size _⟩
theorem encode_bad {q : Q} {w : World} {ns : List (List UInt8 × Nat)} {x : Int} {pl : Nat → Bool} {m : Nat → UInt8} (a : Nat) (D : ByteArray) (v : Value) (l : List (List UInt8)) (op : Int) (hp : PS q w ns x pl m) (ha : a ≤ 16384) (ho : TX.oo D.data.toList = op) (h0 : ¬ op = 0) (hv : TxR w v l) (hl : l.length ≤ 1000000) (hz : ∀ y ∈ l, y.length ≤ 1000000) (hs : (AS.txt D.data.toList (AS.rsL ns a op l)).length ≤ 400000) (hq : l ≠ []) (hi : AS.hasI (IM.fm op) = true) (hr : ¬ AS.rsE ns a op l = 0) (z : Int) :
    Calls Tryz.prog 136 #[.pointer (some ⟨q.P, 0, none⟩), .int .i64 a, .string D, v] w (EnPost w (AS.rsE ns a op l) z) := by
  have HO := Lib.hid (op_any D w hp.tb)
  rw [ho] at HO
  have HF := Lib.hid (fun W => hasImm_any op W)
  rw [hi] at HF
  have o1 : (op == 0) = false := by simp [h0]
  have HRS := Lib.hid (resolve_any a op v l hp ha hq hi hv hl hz)
  generalize AS.rsE ns a op l = E at *
  have hE' : (E == 0) = false := by simp [hr]
  have hE'' : (E != 0) = true := by simp [hr]
  rcases hv with ⟨rfl, _⟩ | ⟨_, g, o, c, cs, fr, rfl, h1, h2, h3, h4⟩
  · exact absurd rfl hq
  have hp2 : 0 < l.length := Nat.pos_of_ne_zero fun e => hq (List.length_eq_zero_iff.mp e)
  have hp3 : decide (0 < l.length) = true := by simpa using hp2
  clear h3 h4 ho hp hq hi hz hs
  go_enter Tryz.func136, Tryz.ntmps136
  go_wp2_with (first
    | (go_at_call 161; refine HO.out.mono ?_; rintro e w' ⟨rfl, rfl⟩)
    | (go_at_call 162; refine (HF.out _).mono ?_; rintro e w' ⟨rfl, rfl⟩)
    | (go_at_call 163; refine HRS.out.mono ?_; rintro e w1 ⟨v1, rfl, hrow, hb1⟩; clear hrow))
  go_ret2
  exact ⟨_, rfl, fun h => absurd h hr, hb1⟩
theorem encode_any {q : Q} {w : World} {ns : List (List UInt8 × Nat)} {x : Int} {pl : Nat → Bool} {m : Nat → UInt8} (a : Nat) (D : ByteArray) (v : Value) (l : List (List UInt8)) (hp : PS q w ns x pl m) (ha : a ≤ 16384) (hv : TxR w v l) (hl : l.length ≤ 1000000) (hz : ∀ y ∈ l, y.length ≤ 1000000) (hs : (AS.txt D.data.toList (AS.rsL ns a (TX.oo D.data.toList) l)).length ≤ 400000) :
    Calls Tryz.prog 136 #[.pointer (some ⟨q.P, 0, none⟩), .int .i64 a, .string D, v] w (EnPost w (AS.enE ns a D.data.toList l) (AS.enN ns a D.data.toList l)) := by
  by_cases h0 : TX.oo D.data.toList = 0
  · rw [show AS.enE ns a D.data.toList l = 9 by unfold AS.enE; rw [if_pos h0]]
    exact encode_none a D v _ hp h0
  · by_cases hq : l = []
    · exact encode_bare a D v l _ hp ha rfl h0 hv hl hz hs hq
    · cases hi : AS.hasI (IM.fm (TX.oo D.data.toList))
      · exact encode_plain a D v l _ hp ha rfl h0 hv hl hz hs hq hi
      · by_cases hr : AS.rsE ns a (TX.oo D.data.toList) l = 0
        · exact encode_res a D v l _ hp ha rfl h0 hv hl hz hs hq hi hr
        · rw [show AS.enE ns a D.data.toList l = AS.rsE ns a (TX.oo D.data.toList) l by unfold AS.enE; rw [if_neg h0, if_neg hr]]
          exact encode_bad a D v l _ hp ha rfl h0 hv hl hz hs hq hi hr _
end Go.Proofs.YtcnmnkgnaknpdaaGreatDoor
/-! WalkH -/
namespace Go.Proofs.YtcnmnkgnaknpdaaGreatDoor
open Go.RowKit Go.Maps S02 S06 S07
/-- A variable that a function value holds. -/
def Box (w : World) (k : Nat) (t : TypeId) (v : Value) : Prop := w.heap[k]? = some (.cells #[v] t (0, 0))
theorem Box.keep {w w' : World} {k : Nat} {t : TypeId} {v : Value} (h : Box w k t v) (ht : Tame w w') (hc : (t == 64 || t == 57 || t == 4 || t == 5) = false) : Box w' k t v := by
  refine (ht.block k ?_).trans h
  rw [h]
  simp only [calm, hc]
  rfl
theorem Box.cell {w : World} {k : Nat} {t : TypeId} {v : Value} (h : Box w k t v) : w.cell? ⟨k, 0, none⟩ = some v := cell_of h (by simp)
theorem Box.new (w : World) (t : TypeId) (v : Value) : Box (w.alloc (.cells #[v] t)) w.heap.size t v := by
  show (w.heap.push _)[w.heap.size]? = _
  simp
def pt (k : Nat) : Value := .pointer (some ⟨k, 0, none⟩)
/-- An instruction that is to be filled. -/
def RestI (q : Q) (w : World) (r : Value) (x : AS.It) : Prop :=
  x.kind = 1 ∧ ∃ k1 k2 k3 k4 D v, r = .func (.func 135) #[] #[pt k1, pt k2, pt k3, pt k4] ∧ Box w k1 60 (pt q.P) ∧ Box w k2 3 (.int .i64 x.pos) ∧ Box w k3 9 (.string D) ∧ Box w k4 38 v ∧ D.data.toList = x.words.getD 0 [] ∧ TxR w v x.words.tail
/-- Values that are to be filled. -/
def RestD (q : Q) (w : World) (r : Value) (x : AS.It) : Prop :=
  ∃ k1 k2 k3 k4 k5 k6 v lo hi sz, r = .func (.func 128) #[] #[pt k1, pt k2, pt k3, pt k4, pt k5, pt k6] ∧ Box w k1 38 v ∧ Box w k2 60 (pt q.P) ∧ Box w k3 2 (.int .i64 lo) ∧ Box w k4 2 (.int .i64 hi) ∧ Box w k5 3 (.int .i64 x.pos) ∧ Box w k6 3 (.int .i64 sz) ∧ TxR w v x.words ∧ ((x.kind = 2 ∧ lo = -2147483648 ∧ hi = 4294967295 ∧ sz = 4) ∨ (x.kind = 3 ∧ lo = -128 ∧ hi = 255 ∧ sz = 1))
def Rest (q : Q) (w : World) (r : Value) : Option AS.It → Prop
  | none => r = .nilFunc
  | some x => (x.kind = 4 ∧ r = .nilFunc) ∨ RestI q w r x ∨ RestD q w r x
theorem Rest.keep {q : Q} {w w' : World} {r : Value} {x : Option AS.It} (h : Rest q w r x) (ht : Tame w w') : Rest q w' r x := by
  cases x with
  | none => exact h
  | some x =>
    rcases h with h | ⟨h0, k1, k2, k3, k4, D, v, hr, b1, b2, b3, b4, hD, hv⟩ | ⟨k1, k2, k3, k4, k5, k6, v, lo, hi, sz, hr, b1, b2, b3, b4, b5, b6, hv, hc⟩
    · exact .inl h
    · exact .inr (.inl ⟨h0, k1, k2, k3, k4, D, v, hr, b1.keep ht rfl, b2.keep ht rfl, b3.keep ht rfl, b4.keep ht rfl, hD, hv.keep ht⟩)
    · exact .inr (.inr ⟨k1, k2, k3, k4, k5, k6, v, lo, hi, sz, hr, b1.keep ht rfl, b2.keep ht rfl, b3.keep ht rfl, b4.keep ht rfl, b5.keep ht rfl, b6.keep ht rfl, hv.keep ht, hc⟩)
/-- What filling answers. -/
def FlPost (q : Q) (w : World) (ns : List (List UInt8 × Nat)) (X : Int) (pl : Nat → Bool) (m : Nat → UInt8) (er : Int) (a : Nat) (l : List UInt8) (e : Ending) (w' : World) : Prop :=
  e = .returned (.int .i64 er) ∧ Mv q w w' ∧ (er = 0 → PS q w' ns X pl (AS.wr m a l))
theorem enN_bd (ns : List (List UInt8 × Nat)) (a : Nat) (d : List UInt8) (l : List (List UInt8)) : 0 ≤ AS.enN ns a d l ∧ AS.enN ns a d l < 4294967296 := by
  unfold AS.enN
  generalize TX.pq (AS.txt d (AS.rsL ns a (TX.oo d) l)) = pq
  unfold IM.ec
  split
  · rename_i h
    exact (IM.back h).1
  · omega
theorem fill_inst {q : Q} {w : World} {ns : List (List UInt8 × Nat)} {X : Int} {pl : Nat → Bool} {m : Nat → UInt8} (a : Nat) (D : ByteArray) (v : Value) (l : List (List UInt8)) (k1 k2 k3 k4 : Nat) (hp : PS q w ns X pl m) (ha : a + 4 ≤ 16384) (b1 : Box w k1 60 (pt q.P)) (b2 : Box w k2 3 (.int .i64 a)) (b3 : Box w k3 9 (.string D)) (b4 : Box w k4 38 v)
    (hv : TxR w v l) (hl : l.length ≤ 1000000) (hz : ∀ y ∈ l, y.length ≤ 1000000) (hs : (AS.txt D.data.toList (AS.rsL ns a (TX.oo D.data.toList) l)).length ≤ 400000) :
    Calls Tryz.prog 135 #[pt k1, pt k2, pt k3, pt k4] w (FlPost q w ns X pl m (AS.enE ns a D.data.toList l) a (AS.le (AS.enN ns a D.data.toList l).toNat 4)) := by
  have HE := Lib.hid (encode_any a D v l hp (by omega) hv hl hz hs)
  have hb := enN_bd ns a D.data.toList l
  obtain ⟨Z, hZ⟩ : ∃ Z : Nat, AS.enN ns a D.data.toList l = Z := ⟨(AS.enN ns a D.data.toList l).toNat, by omega⟩
  rw [hZ] at HE hb ⊢
  generalize AS.enE ns a D.data.toList l = E at *
  clear hZ hs hz hv
  unfold pt at b1 ⊢
  have c1 := b1.cell
  have c2 := b2.cell
  have c3 := b3.cell
  have c4 := b4.cell
  have HP := Lib.hid hp
  have HB1 := Lib.hid b1
  have HB2 := Lib.hid b2
  clear hp b1 b2 b3 b4
  by_cases hE : E = 0
  · subst hE
    go_enter Tryz.func135, Tryz.ntmps135
    go_wp2_with (first
      | (go_at_call 136; refine HE.out.mono ?_; rintro e w1 ⟨y, rfl, hy, hb1⟩; have d1 := (HB1.out.keep (Tame.below hb1) rfl).cell; have d2 := (HB2.out.keep (Tame.below hb1) rfl).cell; have HY := Lib.hid (hy rfl); have HB := Lib.hid hb1; clear hy hb1 c1 c2 c3 c4)
      | (go_at_call 130; rw [HY.out]; refine (put_any a 4 4 Z (HP.out.below HB.out) (.inr ⟨rfl, rfl⟩) ha (by omega)).mono ?_; rintro e w2 ⟨rfl, hp2, mv2⟩; have HP2 := Lib.hid hp2; have HM2 := Lib.hid mv2; clear hp2 mv2))
    go_ret
    exact ⟨rfl, (Mv.below HB.out HP.out.N).trans HM2.out, fun _ => HP2.out⟩
  · have hE' : (E == 0) = false := by simp [hE]
    go_enter Tryz.func135, Tryz.ntmps135
    go_wp2_with (go_at_call 136; refine HE.out.mono ?_; rintro e w1 ⟨y, rfl, hy, hb1⟩; clear hy)
    go_ret
    exact ⟨rfl, Mv.below hb1 HP.out.N, fun h => absurd h hE⟩
/-- The bytes of the first values. -/
def bts (ns : List (List UInt8 × Nat)) (sz : Nat) (lo hi : Int) (l : List (List UInt8)) (k : Nat) : List UInt8 := (l.take k).flatMap fun s => AS.le (AS.vaN ns s lo hi).toNat sz
theorem bts_len (ns : List (List UInt8 × Nat)) (sz : Nat) (lo hi : Int) (l : List (List UInt8)) (k : Nat) (hk : k ≤ l.length) : (bts ns sz lo hi l k).length = k * sz := by
  unfold bts
  rw [List.length_flatMap]
  have : (l.take k).map (fun s => (AS.le (AS.vaN ns s lo hi).toNat sz).length) = List.replicate k sz := by
    rw [List.map_congr_left (g := fun _ => sz) (fun s _ => le_len _ _)]
    rw [List.map_const', List.length_take, Nat.min_eq_left hk]
  rw [this]
  simp
theorem bts_succ (ns : List (List UInt8 × Nat)) (sz : Nat) (lo hi : Int) (l : List (List UInt8)) (k : Nat) (hk : k < l.length) : bts ns sz lo hi l (k + 1) = bts ns sz lo hi l k ++ AS.le (AS.vaN ns (l.getD k []) lo hi).toNat sz := by
  unfold bts
  rw [List.take_succ_eq_append_getElem hk, List.flatMap_append, List.getD_eq_getElem?_getD, List.getElem?_eq_getElem hk]
  simp
theorem vals_ok {ns : List (List UInt8 × Nat)} {sz : Nat} {lo hi : Int} : ∀ {l : List (List UInt8)}, (∀ j, j < l.length → AS.vaE ns (l.getD j []) lo hi = 0) → AS.vals ns sz lo hi l = (0, l.flatMap fun s => AS.le (AS.vaN ns s lo hi).toNat sz)
  | [], _ => rfl
  | s :: r, h => by
    have h0 := h 0 (by simp)
    have ih := vals_ok (sz := sz) (l := r) fun j hj => h (j + 1) (by simp; omega)
    rw [AS.vals, if_pos (by simpa using h0), ih]
    simp
theorem vals_bad {ns : List (List UInt8 × Nat)} {sz : Nat} {lo hi : Int} : ∀ {l : List (List UInt8)} {k : Nat}, k < l.length → (∀ j, j < k → AS.vaE ns (l.getD j []) lo hi = 0) → ¬ AS.vaE ns (l.getD k []) lo hi = 0 → (AS.vals ns sz lo hi l).1 = AS.vaE ns (l.getD k []) lo hi
  | [], k, h, _, _ => by simp at h
  | s :: r, 0, _, _, h => by
    have h' : ¬ AS.vaE ns s lo hi = 0 := by simpa using h
    rw [AS.vals, if_neg h']
    simp
  | s :: r, k + 1, hk, hj, h => by
    have h0 := hj 0 (by omega)
    rw [AS.vals, if_pos (by simpa using h0)]
    have := vals_bad (l := r) (k := k) (sz := sz) (by simpa using hk) (fun j hjk => by have := hj (j + 1) (by omega); simpa using this) (by simpa using h)
    rw [this]
    simp
theorem gD_right (l r : List UInt8) (i : Nat) (h : l.length ≤ i) : (l ++ r).getD i 0 = r.getD (i - l.length) 0 := by
  rw [List.getD_eq_getElem?_getD, List.getElem?_append_right h, List.getD_eq_getElem?_getD]
theorem gD_left (l r : List UInt8) (i : Nat) (h : i < l.length) : (l ++ r).getD i 0 = l.getD i 0 := by
  rw [List.getD_eq_getElem?_getD, List.getElem?_append_left h, List.getD_eq_getElem?_getD]
theorem wr_app (m : Nat → UInt8) (a n : Nat) (l r : List UInt8) (hn : n = a + l.length) : AS.wr (AS.wr m a l) n r = AS.wr m a (l ++ r) := by
  subst hn
  funext i
  unfold AS.wr
  rw [List.length_append]
  by_cases h1 : a + l.length ≤ i ∧ i < a + l.length + r.length
  · rw [if_pos h1, if_pos (by omega), gD_right _ _ _ (by omega)]
    congr 1
    omega
  · rw [if_neg h1]
    by_cases h2 : a ≤ i ∧ i < a + l.length
    · rw [if_pos h2, if_pos (by omega), gD_left _ _ _ (by omega)]
    · rw [if_neg h2, if_neg (by omega)]
theorem wr_nil (m : Nat → UInt8) (a : Nat) : AS.wr m a [] = m := by
  funext i
  unfold AS.wr
  rw [if_neg (by simp)]
theorem vaN_bd {q : Q} {w : World} {ns : List (List UInt8 × Nat)} {x : Int} {pl : Nat → Bool} {m : Nat → UInt8} (hp : PS q w ns x pl m) (s : List UInt8) (lo hi : Int) : 0 ≤ AS.vaN ns s lo hi ∧ AS.vaN ns s lo hi < 4294967296 := by
  have := lkN_bd hp s
  unfold AS.vaN
  split
  · split <;> omega
  · omega
set_option maxHeartbeats 2000000 in
theorem fill_data {q : Q} {w : World} {ns : List (List UInt8 × Nat)} {X : Int} {pl : Nat → Bool} {m : Nat → UInt8} (a sz : Nat) (size lo hi : Int) (v : Value) (l : List (List UInt8)) (k1 k2 k3 k4 k5 k6 : Nat) (hp : PS q w ns X pl m) (hsz : size = 1 ∧ sz = 1 ∨ size = 4 ∧ sz = 4) (ha : a + sz * l.length ≤ 16384) (h0 : l ≠ [])
    (b1 : Box w k1 38 v) (b2 : Box w k2 60 (pt q.P)) (b3 : Box w k3 2 (.int .i64 lo)) (b4 : Box w k4 2 (.int .i64 hi)) (b5 : Box w k5 3 (.int .i64 a)) (b6 : Box w k6 3 (.int .i64 size)) (hv : TxR w v l) (hz : ∀ y ∈ l, y.length ≤ 1000000) :
    Calls Tryz.prog 128 #[pt k1, pt k2, pt k3, pt k4, pt k5, pt k6] w (FlPost q w ns X pl m (AS.vals ns sz lo hi l).1 a (AS.vals ns sz lo hi l).2) := by
  unfold pt at b2 ⊢
  have c1 := b1.cell
  have hlen : l.length ≤ 16384 := by
    rcases hsz with ⟨_, rfl⟩ | ⟨_, rfl⟩ <;> omega
  have hd : ∀ i, i < l.length → (⟨(l.getD i []).toArray⟩ : ByteArray).size ≤ 1000000 := fun i h => by
    show (l.getD i []).toArray.size ≤ _
    rw [List.size_toArray, List.getD_eq_getElem?_getD, List.getElem?_eq_getElem h]
    exact hz _ (List.getElem_mem h)
  have HD := Lib.hid hd
  have HV := Lib.hid hv
  have HP := Lib.hid hp
  have HA := Lib.hid ha
  have HS := Lib.hid hsz
  obtain ⟨g, o, c, rfl⟩ := txr_form hv h0
  have HB := Lib.hid (And.intro b2 (And.intro b3 (And.intro b4 (And.intro b5 b6))))
  clear b1 b2 b3 b4 b5 b6 hd hv hp hz ha hsz
  go_enter Tryz.func128, Tryz.ntmps128
  go_wp2
  go_loopw [13] (fun i wr => ∃ k : Nat, k ≤ l.length ∧ i = .int .i64 k ∧ Hid (PS q wr ns X pl (AS.wr m a (bts ns sz lo hi l k)) ∧ Mv q w wr ∧ ∀ j, j < k → AS.vaE ns (l.getD j []) lo hi = 0)) (fun i _ => l.length - (intOf i).toNat)
  case atStart => exact ⟨0, by omega, rfl, by rw [show bts ns sz lo hi l 0 = [] by simp [bts], wr_nil]; exact ⟨HP.out, Mv.refl _ _, fun j hj => by omega⟩⟩
  case round =>
    clear c1
    obtain ⟨k, hk, rfl, hR⟩ := hrel
    by_cases hlt : k < l.length
    · have hlt' : decide (k < l.length) = true := by simpa using hlt
      obtain ⟨S, hS⟩ : ∃ S : ByteArray, (⟨(l.getD k []).toArray⟩ : ByteArray) = S := ⟨_, rfl⟩
      have hSl : S.data.toList = l.getD k [] := by rw [← hS]
      have gc : wr.cell? ⟨g, o + k, none⟩ = some (.string S) := by
        rcases HV.out.keep hR.out.2.1.tame with ⟨h, _⟩ | ⟨_, g', o', c', cs, fr, e, h1, h2, h3, h4⟩
        · exact absurd h h0
        · injection e with e1 e2 e3
          injection e1 with e1
          injection e1 with e4 e5
          subst e4 e5
          rw [h4 k hlt, ← hS]
          rfl
      have hSz : S.size ≤ 1000000 := by rw [← hS]; exact HD.out k hlt
      have c2 := (HB.out.1.keep hR.out.2.1.tame rfl).cell
      have c3 := (HB.out.2.1.keep hR.out.2.1.tame rfl).cell
      have c4 := (HB.out.2.2.1.keep hR.out.2.1.tame rfl).cell
      have HVa := Lib.hid (value_any S lo hi hR.out.1 hSz)
      have hbd := vaN_bd hR.out.1 S.data.toList lo hi
      rw [hSl] at HVa hbd
      have HSu := Lib.hid (bts_succ ns sz lo hi l k hlt)
      have HLn := Lib.hid (bts_len ns sz lo hi l k hk)
      obtain ⟨Z, hZ⟩ : ∃ Z : Nat, AS.vaN ns (l.getD k []) lo hi = Z := ⟨(AS.vaN ns (l.getD k []) lo hi).toNat, by omega⟩
      rw [hZ] at HVa hbd HSu
      have HE := Lib.hid (show ¬ AS.vaE ns (l.getD k []) lo hi = 0 → (AS.vals ns sz lo hi l).1 = AS.vaE ns (l.getD k []) lo hi from vals_bad hlt hR.out.2.2)
      have HJ := Lib.hid (show AS.vaE ns (l.getD k []) lo hi = 0 → ∀ j, j < k + 1 → AS.vaE ns (l.getD j []) lo hi = 0 from fun h j hj => by
        by_cases e : j = k
        · subst e; exact h
        · exact hR.out.2.2 j (by omega))
      clear hS hSl hZ
      generalize AS.vaE ns (l.getD k []) lo hi = E at *
      by_cases hE : E = 0
      · subst hE
        have HK := Lib.hid (HJ.out rfl)
        clear HJ HE
        rcases HS.out with ⟨rfl, rfl⟩ | ⟨rfl, rfl⟩
        · have hlb := HA.out
          have hkl : 1 * k + 1 ≤ 1 * l.length := by omega
          obtain ⟨A, hA⟩ : ∃ A : Nat, A = a + k * 1 := ⟨_, rfl⟩
          have hab : a + k ≤ 16384 := by omega
          have HA1 := Lib.hid (show (a : Int) + (k : Int) = (A : Int) by omega)
          have HA2 := Lib.hid (show A = a + (bts ns 1 lo hi l k).length by rw [HLn.out]; exact hA)
          have hAb : A + 1 ≤ 16384 := by omega
          clear hA hlb hkl
          go_wp2_with (first
            | (go_at_call 129; refine HVa.out.mono ?_; rintro e w1 ⟨rfl, hb1⟩; have d2 := ((HB.out.1.keep hR.out.2.1.tame rfl).keep (Tame.below hb1) rfl).cell; have d5 := ((HB.out.2.2.2.1.keep hR.out.2.1.tame rfl).keep (Tame.below hb1) rfl).cell; have d6 := ((HB.out.2.2.2.2.keep hR.out.2.1.tame rfl).keep (Tame.below hb1) rfl).cell; have HB1 := Lib.hid hb1; clear hb1 c2 c3 c4 gc)
            | (go_at_call 130; rw [HA1.out]; refine (put_any A 1 1 Z (hR.out.1.below HB1.out) (by omega) hAb (by omega)).mono ?_; rintro e w2 ⟨rfl, hp2, mv2⟩; have HP2 := Lib.hid hp2; have HM2 := Lib.hid mv2; clear hp2 mv2))
          go_roundw
          case rel => exact ⟨k + 1, by omega, by go_num, Lib.hid ⟨by rw [HSu.out, ← wr_app _ _ _ _ _ HA2.out]; exact HP2.out, (hR.out.2.1.trans (Mv.below HB1.out hR.out.1.N)).trans HM2.out, HK.out⟩⟩
          case measure => simp [intOf]; omega
        · have hlb := HA.out
          have hkl : 4 * k + 4 ≤ 4 * l.length := by omega
          obtain ⟨A, hA⟩ : ∃ A : Nat, A = a + k * 4 := ⟨_, rfl⟩
          have hab : a + k * 4 ≤ 16384 := by omega
          have HA1 := Lib.hid (show (a : Int) + (k : Int) * 4 = (A : Int) by omega)
          have HA2 := Lib.hid (show A = a + (bts ns 4 lo hi l k).length by rw [HLn.out]; exact hA)
          have hAb : A + 4 ≤ 16384 := by omega
          clear hA hlb hkl
          go_wp2_with (first
            | (go_at_call 129; refine HVa.out.mono ?_; rintro e w1 ⟨rfl, hb1⟩; have d2 := ((HB.out.1.keep hR.out.2.1.tame rfl).keep (Tame.below hb1) rfl).cell; have d5 := ((HB.out.2.2.2.1.keep hR.out.2.1.tame rfl).keep (Tame.below hb1) rfl).cell; have d6 := ((HB.out.2.2.2.2.keep hR.out.2.1.tame rfl).keep (Tame.below hb1) rfl).cell; have HB1 := Lib.hid hb1; clear hb1 c2 c3 c4 gc)
            | (go_at_call 130; rw [HA1.out]; refine (put_any A 4 4 Z (hR.out.1.below HB1.out) (by omega) hAb (by omega)).mono ?_; rintro e w2 ⟨rfl, hp2, mv2⟩; have HP2 := Lib.hid hp2; have HM2 := Lib.hid mv2; clear hp2 mv2))
          go_roundw
          case rel => exact ⟨k + 1, by omega, by go_num, Lib.hid ⟨by rw [HSu.out, ← wr_app _ _ _ _ _ HA2.out]; exact HP2.out, (hR.out.2.1.trans (Mv.below HB1.out hR.out.1.N)).trans HM2.out, HK.out⟩⟩
          case measure => simp [intOf]; omega
      · have hE' : (E == 0) = false := by simp [hE]
        have hE'' : (E != 0) = true := by simp [hE]
        have HK := Lib.hid (HE.out hE)
        clear HE HJ
        go_wp2_with (go_at_call 129; refine HVa.out.mono ?_; rintro e w1 ⟨rfl, hb1⟩)
        go_ret
        refine ⟨?_, hR.out.2.1.trans (Mv.below hb1 hR.out.1.N), fun h => ?_⟩
        · rw [HK.out]; rfl
        · rw [HK.out] at h; exact absurd h hE
    · have hlt' : decide (k < l.length) = false := by simpa using hlt
      obtain rfl : k = l.length := by omega
      have HK := Lib.hid (vals_ok (sz := sz) hR.out.2.2)
      go_wp2
      go_ret
      rw [HK.out]
      refine ⟨rfl, hR.out.2.1, fun _ => ?_⟩
      have := hR.out.1
      unfold bts at this
      rwa [List.take_length] at this
end Go.Proofs.YtcnmnkgnaknpdaaGreatDoor
/-! WalkI -/
namespace Go.Proofs.YtcnmnkgnaknpdaaGreatDoor
open Go.RowKit Go.Maps S02 S06 S07
/-- A program in the first going. -/
def S1 (q : Q) (w : World) (st : AS.St) : Prop := PS q w st.names (st.pos : Int) (AS.cov st.items) (fun _ => 0)
theorem cov_put (l : List AS.It) (x : AS.It) : AS.cov (l ++ [x]) = plTo (AS.cov l) x.pos x.size := by
  funext i
  unfold plTo
  induction l with
  | nil => simp [AS.cov]
  | cons y r ih =>
    rw [List.cons_append, AS.cov, AS.cov, ih, Bool.or_assoc]
theorem S1.below {q : Q} {w w' : World} {st : AS.St} (h : S1 q w st) (hb : Below w.heap.size w w') : S1 q w' st := PS.below h hb
def RvPost (q : Q) (w : World) (st : AS.St) (al size : Nat) (e : Ending) (w' : World) : Prop :=
  e = .returned (.int .i64 (AS.laE st al size)) ∧ Mv q w w' ∧ (AS.laE st al size = 0 → ∀ kind line words, S1 q w' (AS.put st kind line size words))
theorem reserve_any {q : Q} {w : World} {st : AS.St} {size aN : Nat} {al : Int} (hp : S1 q w st) (hx : st.pos ≤ 16384) (hs : size ≤ 1000000) (ha : al = 1 ∧ aN = 1 ∨ al = 4 ∧ aN = 4) :
    Calls Tryz.prog 87 #[.pointer (some ⟨q.P, 0, none⟩), .int .i64 size, .int .i64 al] w (RvPost q w st aN size) := by
  have ha' : al = 1 ∨ al = 4 := by omega
  by_cases h : ¬ st.pos % aN = 0 ∨ 16384 < st.pos + size
  · have e : AS.laE st aN size = 3 := by unfold AS.laE; rw [if_pos h]
    refine (reserve_no hp (by omega) hs ha' ?_).mono ?_
    · rcases ha with ⟨rfl, rfl⟩ | ⟨rfl, rfl⟩ <;> omega
    · rintro e' w' ⟨rfl, mv⟩
      refine ⟨by rw [e], mv, fun h => ?_⟩
      rw [e] at h
      cases h
  · have e : AS.laE st aN size = if AS.ovl (AS.cov st.items) st.pos size = true then 7 else 0 := by unfold AS.laE; rw [if_neg h]
    refine (reserve_ok hp ha' ?_ (by omega)).mono ?_
    · rcases ha with ⟨rfl, rfl⟩ | ⟨rfl, rfl⟩ <;> omega
    · rintro e' w' ⟨rfl, mv, hk⟩
      refine ⟨by rw [e], mv, fun h kind line words => ?_⟩
      rw [e] at h
      have ho : AS.ovl (AS.cov st.items) st.pos size = false := by
        cases hh : AS.ovl (AS.cov st.items) st.pos size
        · rfl
        · rw [hh] at h; simp at h
      have := hk ho
      unfold S1 AS.put
      rw [cov_put]
      exact this
/-- What a line's handler answers. -/
def HdPost (q : Q) (w : World) (er : Int) (st' : AS.St) (it : Option AS.It) (e : Ending) (w' : World) : Prop :=
  ∃ r, e = .returned (.tuple #[r, .int .i64 er]) ∧ Mv q w w' ∧ (er = 0 → S1 q w' st' ∧ Rest q w' r it)
theorem one_cell {w : World} {v : Value} {l : List (List UInt8)} (h : TxR w v l) (hl : l ≠ []) (hz : ∀ y ∈ l, y.length ≤ 1000000) : ∃ g o c, v = .slice (some ⟨g, o, none⟩) l.length c ∧ ∀ j, j < l.length → ∃ S : ByteArray, w.cell? ⟨g, o + j, none⟩ = some (.string S) ∧ S.data.toList = l.getD j [] ∧ S.size ≤ 1000000 := by
  rcases h with ⟨rfl, _⟩ | ⟨_, g, o, c, cs, fr, rfl, h1, h2, h3, h4⟩
  · exact absurd rfl hl
  · refine ⟨g, o, c, rfl, fun j hj => ⟨⟨(l.getD j []).toArray⟩, h4 j hj, rfl, ?_⟩⟩
    show (l.getD j []).toArray.size ≤ _
    rw [List.size_toArray, List.getD_eq_getElem?_getD, List.getElem?_eq_getElem hj]
    exact hz _ (List.getElem_mem hj)
theorem nb_range {s : List UInt8} {lo hi : Int} (h : AS.nbE s lo hi = 0) : lo ≤ AS.nbN s lo hi ∧ AS.nbN s lo hi ≤ hi := by
  unfold AS.nbE at h
  unfold AS.nbN
  split at h
  · cases h
  · rename_i hc
    rw [if_neg hc]
    constructor <;> (apply Int.not_lt.mp; intro h'; exact hc ⟨h, by omega⟩)
theorem h_org {q : Q} {w : World} {st : AS.St} (v : Value) (l : List (List UInt8)) (kp : Nat) (hp : S1 q w st) (hl : l.length = 1) (hv : TxR w v l) (hz : ∀ y ∈ l, y.length ≤ 1000000) (b1 : Box w kp 60 (pt q.P)) :
    Calls Tryz.prog 84 #[v, pt kp] w (HdPost q w (AS.nbE (l.getD 0 []) 0 16384) { st with pos := (AS.nbN (l.getD 0 []) 0 16384).toNat } none) := by
  obtain ⟨g, o, c, rfl, hc⟩ := one_cell hv (by intro h; subst h; simp at hl) hz
  obtain ⟨S, c0, hS, hSz⟩ := hc 0 (by omega)
  rw [Nat.add_zero] at c0
  have HN := Lib.hid (number_any S 0 16384 w hSz)
  rw [hS] at HN
  have HG := Lib.hid (fun h : AS.nbE (l.getD 0 []) 0 16384 = 0 => nb_range h)
  rw [hl]
  generalize AS.nbE (l.getD 0 []) 0 16384 = E at *
  generalize AS.nbN (l.getD 0 []) 0 16384 = n at *
  unfold pt at b1 ⊢
  have HP := Lib.hid hp
  have HB := Lib.hid b1
  clear hp b1 hc hv hS
  by_cases hE : E = 0
  · subst hE
    obtain ⟨n0, n1⟩ := HG.out rfl
    obtain ⟨N, rfl⟩ : ∃ N : Nat, n = N := ⟨n.toNat, by omega⟩
    go_enter Tryz.func84, Tryz.ntmps84
    go_wp2_with (go_at_call 85; refine HN.out.mono ?_; rintro e w1 ⟨rfl, hb1⟩; have d1 := (HB.out.keep (Tame.below hb1) rfl).cell; obtain ⟨c2, f2, c4, c3⟩ := PS.out (HP.out.below hb1); have HN1 := Lib.hid (PS.next (HP.out.below hb1) (N : Int)); have HB1 := Lib.hid hb1; clear hb1 c3 c4)
    go_ret2
    exact ⟨_, rfl, (Mv.below HB1.out (PS.N HP.out)).trans HN1.out.2, fun _ => ⟨HN1.out.1, rfl⟩⟩
  · have hE' : (E == 0) = false := by simp [hE]
    have hE'' : (E != 0) = true := by simp [hE]
    go_enter Tryz.func84, Tryz.ntmps84
    go_wp2_with (go_at_call 85; refine HN.out.mono ?_; rintro e w1 ⟨rfl, hb1⟩)
    go_ret2
    exact ⟨_, rfl, Mv.below hb1 (PS.N HP.out), fun h => absurd h hE⟩
theorem h_space {q : Q} {w : World} {st : AS.St} (line : Nat) (v : Value) (l : List (List UInt8)) (kp : Nat) (hp : S1 q w st) (hx : st.pos ≤ 16384) (hl : l.length = 1) (hv : TxR w v l) (hz : ∀ y ∈ l, y.length ≤ 1000000) (b1 : Box w kp 60 (pt q.P)) :
    Calls Tryz.prog 86 #[v, pt kp] w (HdPost q w (if AS.nbE (l.getD 0 []) 0 16384 = 0 then AS.laE st 1 (AS.nbN (l.getD 0 []) 0 16384).toNat else AS.nbE (l.getD 0 []) 0 16384) (AS.put st 4 line (AS.nbN (l.getD 0 []) 0 16384).toNat []) (some ⟨4, line, st.pos, (AS.nbN (l.getD 0 []) 0 16384).toNat, []⟩)) := by
  obtain ⟨g, o, c, rfl, hc⟩ := one_cell hv (by intro h; subst h; simp at hl) hz
  obtain ⟨S, c0, hS, hSz⟩ := hc 0 (by omega)
  rw [Nat.add_zero] at c0
  have HN := Lib.hid (number_any S 0 16384 w hSz)
  rw [hS] at HN
  have HG := Lib.hid (fun h : AS.nbE (l.getD 0 []) 0 16384 = 0 => nb_range h)
  rw [hl]
  generalize AS.nbE (l.getD 0 []) 0 16384 = E at *
  generalize AS.nbN (l.getD 0 []) 0 16384 = n at *
  unfold pt at b1 ⊢
  have HP := Lib.hid hp
  have HB := Lib.hid b1
  clear hp b1 hc hv hS
  by_cases hE : E = 0
  · rw [if_pos hE]
    subst hE
    obtain ⟨n0, n1⟩ := HG.out rfl
    obtain ⟨N, rfl⟩ : ∃ N : Nat, n = N := ⟨n.toNat, by omega⟩
    rw [show ((N : Int)).toNat = N from rfl]
    go_enter Tryz.func86, Tryz.ntmps86
    go_wp2_with (first
      | (go_at_call 85; refine HN.out.mono ?_; rintro e w1 ⟨rfl, hb1⟩; have d1 := (HB.out.keep (Tame.below hb1) rfl).cell; have HB1 := Lib.hid hb1; clear hb1)
      | (go_at_call 87; refine (reserve_any (aN := 1) (HP.out.below HB1.out) hx (by omega) (.inl ⟨rfl, rfl⟩)).mono ?_; rintro e w2 ⟨rfl, mv2, hk⟩; have HK := Lib.hid hk; clear hk))
    go_ret2
    exact ⟨_, rfl, (Mv.below HB1.out (PS.N HP.out)).trans mv2, fun h => ⟨HK.out h 4 line [], .inl ⟨rfl, rfl⟩⟩⟩
  · rw [if_neg hE]
    have hE' : (E == 0) = false := by simp [hE]
    have hE'' : (E != 0) = true := by simp [hE]
    go_enter Tryz.func86, Tryz.ntmps86
    go_wp2_with (go_at_call 85; refine HN.out.mono ?_; rintro e w1 ⟨rfl, hb1⟩)
    go_ret2
    exact ⟨_, rfl, Mv.below hb1 (PS.N HP.out), fun h => absurd h hE⟩
theorem below_drewN' (w : World) (n : Nat) : Below w.heap.size w (w.drewN n) := below_drewN (Below.refl _ _) n
theorem fresh_q {q : Q} {w : World} {ns : List (List UInt8 × Nat)} {x : Int} {pl : Nat → Bool} {m : Nat → UInt8} (s : ByteArray) (hp : PS q w ns x pl m) (hs : s.size ≤ 1000000) (n : Nat) :
    Calls Tryz.prog 90 #[.pointer (some ⟨q.P, 0, none⟩), .string s] (w.drewN n) fun e w' => e = .returned (.int .i64 (AS.frE ns s.data.toList)) ∧ ∃ k, w' = w.drewN k :=
  (fresh_any s (hp.below (below_drewN' w n)) hs).mono fun _ _ ⟨he, hw⟩ => ⟨he, n, hw.symm⟩
theorem fr_none {ns : List (List UInt8 × Nat)} {s : List UInt8} (h : AS.frE ns s = 0) : AS.fnd ns s = none := by
  unfold AS.frE at h
  split at h
  · cases h
  · split at h
    · cases h
    · rename_i h1
      cases hf : AS.fnd ns s with
      | none => rfl
      | some u => rw [hf] at h1; exact absurd rfl h1
theorem TxR.cellOf {w : World} {g o n c : Nat} {l : List (List UInt8)} (h : TxR w (.slice (some ⟨g, o, none⟩) n c) l) (hl : l ≠ []) (j : Nat) (hj : j < l.length) : w.cell? ⟨g, o + j, none⟩ = some (NM.tv (l.getD j [])) := by
  rcases h with ⟨h, _⟩ | ⟨_, g', o', c', cs, fr, e, h1, h2, h3, h4⟩
  · exact absurd h hl
  · injection e with e1 e2 e3
    injection e1 with e1
    injection e1 with e4 e5
    subst e4 e5
    exact h4 j hj
theorem drewN_cell (w : World) (n : Nat) (a : Addr) : (w.drewN n).cell? a = w.cell? a := rfl
set_option maxHeartbeats 1000000 in
theorem h_equ {q : Q} {w : World} {st : AS.St} (v : Value) (l : List (List UInt8)) (kp : Nat) (hp : S1 q w st) (hl : l.length = 2) (hv : TxR w v l) (hz : ∀ y ∈ l, y.length ≤ 1000000) (hn : st.names.length ≤ 1000000) (b1 : Box w kp 60 (pt q.P)) :
    Calls Tryz.prog 89 #[v, pt kp] w (HdPost q w (if AS.frE st.names (l.getD 0 []) = 0 then AS.nbE (l.getD 1 []) (-2147483648) 4294967295 else AS.frE st.names (l.getD 0 [])) { st with names := st.names ++ [(l.getD 0 [], (AS.nbN (l.getD 1 []) (-2147483648) 4294967295 % 4294967296).toNat)] } none) := by
  have hl0 : l ≠ [] := by intro h; subst h; simp at hl
  obtain ⟨g, o, c, rfl, hc⟩ := one_cell hv hl0 hz
  obtain ⟨S, c0, hS, hSz⟩ := hc 0 (by omega)
  obtain ⟨T, c1, hT, hTz⟩ := hc 1 (by omega)
  rw [Nat.add_zero] at c0
  have HF := Lib.hid (fun n => fresh_q S hp hSz n)
  rw [← hS, ← hT]
  rw [hl]
  unfold pt at b1 ⊢
  have d1 := b1.cell
  have HP := Lib.hid hp
  have HC := Lib.hid (And.intro c0 c1)
  have HB := Lib.hid b1
  have hgS := World.block_lt_of_cell? _ _ c0
  clear hp b1 hc hv hS hT
  by_cases hF : AS.frE st.names S.data.toList = 0
  · rw [if_pos hF]
    have HFn := Lib.hid (fr_none hF)
    rw [hF] at HF
    clear hF
    have HN := Lib.hid (fun W => number_any T (-2147483648) 4294967295 W hTz)
    generalize AS.nbE T.data.toList (-2147483648) 4294967295 = E at *
    generalize AS.nbN T.data.toList (-2147483648) 4294967295 = n at *
    obtain ⟨N, hN⟩ : ∃ N : Nat, n % 4294967296 = N := ⟨(n % 4294967296).toNat, by omega⟩
    have hN1 : N < 4294967296 := by omega
    rw [hN, show ((N : Int)).toNat = N from rfl]
    have HNN := Lib.hid (show IntKind.u32.wrap n = (N : Int) by rw [IntKind.wrap_u32]; exact hN)
    clear hN
    by_cases hE : E = 0
    · subst hE
      go_enter Tryz.func89, Tryz.ntmps89
      go_wp2
      go_quiet ((go_at_call 90; exact HF.out _))
      have HQ := Lib.hid (below_drewN' w nq)
      rw [← drewN_cell w nq] at c0 c1 d1
      generalize w.drewN nq = wq at *
      go_wp2_with (go_at_call 85; refine (HN.out _).mono ?_; rintro e w1 ⟨rfl, hb1⟩; have HB1 := Lib.hid (HQ.out.trans (hb1.mono HQ.out.size)); clear hb1 c0 c1 d1)
      have c0 := (HB1.out.cell (p := ⟨g, o, none⟩) hgS).trans HC.out.1
      have d1 := (HB.out.keep (Tame.below HB1.out) rfl).cell
      go_wp2
      go_region_with ((go_at_call 91; rw [HNN.out]; refine (define_any S N (PS.below (HP.out.below HB1.out) ((Below.refl _ _).drew)) hSz HFn.out hN1 hn).mono ?_; rintro e w2 ⟨rfl, hp2, mv2⟩; have HP2 := Lib.hid hp2; have HM2 := Lib.hid mv2; clear hp2 mv2))
      all_goals
        go_wp2
        go_ret2
        exact ⟨_, rfl, ((Mv.below HB1.out (PS.N HP.out)).drew).trans HM2.out, fun _ => ⟨HP2.out, rfl⟩⟩
    · have hE' : (E == 0) = false := by simp [hE]
      have hE'' : (E != 0) = true := by simp [hE]
      go_enter Tryz.func89, Tryz.ntmps89
      go_wp2
      go_quiet ((go_at_call 90; exact HF.out _))
      have HQ := Lib.hid (below_drewN' w nq)
      rw [← drewN_cell w nq] at c0 c1 d1
      generalize w.drewN nq = wq at *
      go_wp2_with (go_at_call 85; refine (HN.out _).mono ?_; rintro e w1 ⟨rfl, hb1⟩; have HB1 := Lib.hid (HQ.out.trans (hb1.mono HQ.out.size)); clear hb1)
      go_ret2
      exact ⟨_, rfl, Mv.below HB1.out (PS.N HP.out), fun h => absurd h hE⟩
  · rw [if_neg hF]
    generalize AS.frE st.names S.data.toList = F at *
    have hE' : (F == 0) = false := by simp [hF]
    have hE'' : (F != 0) = true := by simp [hF]
    go_enter Tryz.func89, Tryz.ntmps89
    go_wp2
    go_quiet ((go_at_call 90; exact HF.out _))
    go_wp2
    go_ret2
    exact ⟨_, rfl, Mv.below (below_drewN' _ _) (PS.N HP.out), fun h => absurd h hF⟩
end Go.Proofs.YtcnmnkgnaknpdaaGreatDoor
/-! WalkJ -/
namespace Go.Proofs.YtcnmnkgnaknpdaaGreatDoor
open Go.RowKit Go.Maps S02 S06 S07
theorem Box.more {w : World} {k : Nat} {t : TypeId} {v : Value} (h : Box w k t v) (o : Obj) : Box (w.alloc o) k t v := (Below.heap_alloc w o k (lt_of_heap h)).trans h
theorem Box.below {w w' : World} {k : Nat} {t : TypeId} {v : Value} (h : Box w k t v) (hb : Below w.heap.size w w') : Box w' k t v := (hb.block k (lt_of_heap h)).trans h
theorem below_one (w : World) (o : Obj) : Below w.heap.size w (w.alloc o) := (Below.refl _ w).alloc (Nat.le_refl _) o
theorem below_two (w : World) (o o' : Obj) : Below w.heap.size w ((w.alloc o).alloc o') := (below_one w o).alloc (by simp) o'
theorem rest_data {q : Q} {w w2 : World} {x : AS.It} {v : Value} {kp k3 k4 k6 : Nat} {lo hi sz : Int} (b2 : Box w kp 60 (pt q.P)) (b3 : Box w k3 2 (.int .i64 lo)) (b4 : Box w k4 2 (.int .i64 hi)) (b6 : Box w k6 3 (.int .i64 sz)) (hv : TxR w v x.words) (ht : Tame ((w.alloc (.cells #[v] 38)).alloc (.cells #[.int .i64 x.pos] 3)) w2)
    (hc : (x.kind = 2 ∧ lo = -2147483648 ∧ hi = 4294967295 ∧ sz = 4) ∨ (x.kind = 3 ∧ lo = -128 ∧ hi = 255 ∧ sz = 1)) : RestD q w2 (.func (.func 128) #[] #[pt w.heap.size, pt kp, pt k3, pt k4, pt (w.heap.size + 1), pt k6]) x := by
  have hb := below_two w (.cells #[v] 38) (.cells #[.int .i64 x.pos] 3)
  have e5 := Box.new (w.alloc (.cells #[v] 38)) 3 (.int .i64 x.pos)
  rw [show (w.alloc (.cells #[v] 38)).heap.size = w.heap.size + 1 by simp] at e5
  exact ⟨_, _, _, _, _, _, v, lo, hi, sz, rfl, ((Box.new w 38 v).more _).keep ht rfl, (b2.below hb).keep ht rfl, (b3.below hb).keep ht rfl, (b4.below hb).keep ht rfl, e5.keep ht rfl, (b6.below hb).keep ht rfl, (hv.keep (Tame.below hb)).keep ht, hc⟩
theorem rest_inst {q : Q} {w w2 : World} {x : AS.It} {v : Value} {D : ByteArray} (hk : x.kind = 1) (hD : D.data.toList = x.words.getD 0 []) (hv : TxR w v x.words.tail) (ht : Tame ((((w.alloc (.cells #[pt q.P] 60)).alloc (.cells #[.string D] 9)).alloc (.cells #[v] 38)).alloc (.cells #[.int .i64 x.pos] 3)) w2) :
    RestI q w2 (.func (.func 135) #[] #[pt w.heap.size, pt (w.heap.size + 3), pt (w.heap.size + 1), pt (w.heap.size + 2)]) x := by
  have e1 := Box.new w 60 (pt q.P)
  have e2 := Box.new (w.alloc (.cells #[pt q.P] 60)) 9 (.string D)
  have e3 := Box.new ((w.alloc (.cells #[pt q.P] 60)).alloc (.cells #[.string D] 9)) 38 v
  have e4 := Box.new (((w.alloc (.cells #[pt q.P] 60)).alloc (.cells #[.string D] 9)).alloc (.cells #[v] 38)) 3 (.int .i64 x.pos)
  rw [show (w.alloc (.cells #[pt q.P] 60)).heap.size = w.heap.size + 1 by simp] at e2
  rw [show ((w.alloc (.cells #[pt q.P] 60)).alloc (.cells #[.string D] 9)).heap.size = w.heap.size + 2 by simp] at e3
  rw [show (((w.alloc (.cells #[pt q.P] 60)).alloc (.cells #[.string D] 9)).alloc (.cells #[v] 38)).heap.size = w.heap.size + 3 by simp] at e4
  have hb := (below_two w (.cells #[pt q.P] 60) (.cells #[.string D] 9)).trans ((below_two _ (.cells #[v] 38) (.cells #[.int .i64 x.pos] 3)).mono (by simp; omega))
  exact ⟨hk, _, _, _, _, D, v, rfl, (((e1.more _).more _).more _).keep ht rfl, e4.keep ht rfl, ((e2.more _).more _).keep ht rfl, (e3.more _).keep ht rfl, hD, (hv.keep (Tame.below hb)).keep ht⟩
set_option maxHeartbeats 1000000 in
theorem h_data {q : Q} {w : World} {st : AS.St} (line kd sz : Nat) (size lo hi : Int) (v : Value) (l : List (List UInt8)) (kp k3 k4 k6 : Nat) (hp : S1 q w st) (hx : st.pos ≤ 16384) (hl0 : l ≠ []) (hl : l.length ≤ 200000) (hv : TxR w v l) (b2 : Box w kp 60 (pt q.P)) (b3 : Box w k3 2 (.int .i64 lo)) (b4 : Box w k4 2 (.int .i64 hi)) (b6 : Box w k6 3 (.int .i64 size))
    (hc : (kd = 2 ∧ lo = -2147483648 ∧ hi = 4294967295 ∧ size = 4 ∧ sz = 4) ∨ (kd = 3 ∧ lo = -128 ∧ hi = 255 ∧ size = 1 ∧ sz = 1)) :
    Calls Tryz.prog 127 #[v, pt kp, pt k3, pt k4, pt k6] w (HdPost q w (AS.laE st sz (sz * l.length)) (AS.put st kd line (sz * l.length) l) (some ⟨kd, line, st.pos, sz * l.length, l⟩)) := by
  have HB := Lib.hid (And.intro b2 (And.intro b3 (And.intro b4 b6)))
  unfold pt at b2 ⊢
  have c2 := b2.cell
  have c6 := b6.cell
  obtain ⟨p2, f2, p4, p3⟩ := PS.out hp
  clear f2 p4 p3
  have HP := Lib.hid hp
  have HV := Lib.hid hv
  obtain ⟨g, o, c, rfl⟩ := txr_form hv hl0
  have k2 := lt_of_heap b2
  have k6' := lt_of_heap b6
  have kP : q.P < w.heap.size := by have := hp.k5; omega
  have HC := Lib.hid (show (kd = 2 ∧ lo = -2147483648 ∧ hi = 4294967295 ∧ size = 4) ∨ (kd = 3 ∧ lo = -128 ∧ hi = 255 ∧ size = 1) by omega)
  have HS := Lib.hid (show size = 4 ∧ sz = 4 ∨ size = 1 ∧ sz = 1 by omega)
  clear hp b2 b3 b4 b6 hv hc
  rcases HS.out with ⟨rfl, rfl⟩ | ⟨rfl, rfl⟩
  · obtain ⟨n, hn⟩ : ∃ n, n = 4 * l.length := ⟨_, rfl⟩
    have HN := Lib.hid (show (4 : Int) * l.length = (n : Int) by omega)
    have hn8 : n ≤ 1000000 := by omega
    rw [← hn]
    clear hn HS
    go_enter Tryz.func127, Tryz.ntmps127
    go_wp2_with (go_at_call 87; rw [HN.out]; refine (reserve_any (aN := 4) (HP.out.below (below_two _ _ _)) hx hn8 (.inr ⟨rfl, rfl⟩)).mono ?_; rintro e w2 ⟨rfl, mv2, hk⟩; have HK := Lib.hid hk; have HM := Lib.hid mv2; clear hk mv2)
    go_ret2
    exact ⟨_, rfl, (Mv.below (below_two _ _ _) (PS.N HP.out)).trans HM.out, fun h => ⟨HK.out h kd line l, .inr (.inr (rest_data HB.out.1 HB.out.2.1 HB.out.2.2.1 HB.out.2.2.2 HV.out HM.out.tame (by simpa using HC.out)))⟩⟩
  · obtain ⟨n, hn⟩ : ∃ n, n = 1 * l.length := ⟨_, rfl⟩
    have HN := Lib.hid (show (l.length : Int) = (n : Int) by omega)
    have hn8 : n ≤ 1000000 := by omega
    rw [← hn]
    clear hn HS
    go_enter Tryz.func127, Tryz.ntmps127
    go_wp2_with (go_at_call 87; rw [HN.out]; refine (reserve_any (aN := 1) (HP.out.below (below_two _ _ _)) hx hn8 (.inl ⟨rfl, rfl⟩)).mono ?_; rintro e w2 ⟨rfl, mv2, hk⟩; have HK := Lib.hid hk; have HM := Lib.hid mv2; clear hk mv2)
    go_ret2
    exact ⟨_, rfl, (Mv.below (below_two _ _ _) (PS.N HP.out)).trans HM.out, fun h => ⟨HK.out h kd line l, .inr (.inr (rest_data HB.out.1 HB.out.2.1 HB.out.2.2.1 HB.out.2.2.2 HV.out HM.out.tame (by simpa using HC.out)))⟩⟩
set_option maxHeartbeats 1000000 in
theorem h_inst {q : Q} {w : World} {st : AS.St} (line : Nat) (D : ByteArray) (v : Value) (d : List UInt8) (r : List (List UInt8)) (hp : S1 q w st) (hx : st.pos ≤ 16384) (hv : TxR w v r) (hD : D.data.toList = d) :
    Calls Tryz.prog 96 #[pt q.P, .string D, v] w (HdPost q w (AS.laE st 4 4) (AS.put st 1 line 4 (d :: r)) (some ⟨1, line, st.pos, 4, d :: r⟩)) := by
  unfold pt
  obtain ⟨p2, f2, p4, p3⟩ := PS.out hp
  clear f2 p4 p3
  have HP := Lib.hid hp
  have kP : q.P < w.heap.size := by have := hp.k5; omega
  have HV := Lib.hid hv
  have HD := Lib.hid hD
  obtain ⟨ao, n, c, rfl⟩ : ∃ ao n c, v = .slice ao n c := by
    rcases hv with ⟨_, a, c, rfl⟩ | ⟨_, g, o, c, cs, fr, rfl, _⟩
    · exact ⟨_, _, _, rfl⟩
    · exact ⟨_, _, _, rfl⟩
  clear hp hv hD
  have hb : ∀ o1 o2 o3 o4 : Obj, Below w.heap.size w ((((w.alloc o1).alloc o2).alloc o3).alloc o4) := fun o1 o2 o3 o4 => (below_two w o1 o2).trans ((below_two _ o3 o4).mono (by simp; omega))
  have HBB := Lib.hid hb
  clear hb
  have p3 : ∀ o1 o2 o3 : Obj, (((w.alloc o1).alloc o2).alloc o3).cell? ⟨q.P, 2, none⟩ = some (.int .i64 st.pos) := fun o1 o2 o3 => (((below_two w o1 o2).trans ((below_one _ o3).mono (by simp; omega))).cell (p := ⟨q.P, 2, none⟩) kP).trans p2
  go_enter Tryz.func96, Tryz.ntmps96
  go_wp2_with (go_at_call 87; refine (reserve_any (size := 4) (aN := 4) (HP.out.below (HBB.out _ _ _ _)) hx (by omega) (.inr ⟨rfl, rfl⟩)).mono ?_; rintro e w2 ⟨rfl, mv2, hk⟩; have HK := Lib.hid hk; have HM := Lib.hid mv2; clear hk mv2)
  go_ret2
  exact ⟨_, rfl, (Mv.below (HBB.out _ _ _ _) (PS.N HP.out)).trans HM.out, fun h => ⟨HK.out h 1 line (d :: r), .inr (.inl (rest_inst (x := ⟨1, line, st.pos, 4, d :: r⟩) rfl HD.out HV.out HM.out.tame))⟩⟩
end Go.Proofs.YtcnmnkgnaknpdaaGreatDoor
