/-
  What the package's Words and the reference's answer at every text: a row of the words, of the call's own memory; nothing that was there is changed.
-/
import Derived.Test.YtfeekgepmemanaaDoorWalkB
import Derived.Test.YtfeekgepmemanaaDoorMathC
import Derived.Maps.AppendAt
import Derived.Laws.OwnMore
import Derived.OwnWalk
namespace Go.Proofs.YtfeekgepmemanaaDoor
open Go.RowKit
theorem str_info : (Tryd.prog.info? 9).map (fun i => (i.zero, i.size, i.bytes)) = some (some (.string ⟨#[]⟩), 1, 16) := by kernel_rfl
/-- A row of texts that the call owns; nothing below is changed. -/
def Row (w wr : World) (v : Value) (acc : List (List UInt8)) : Prop := wr.ownsRow w.heap.size 9 1 v acc.length (acc.map NM.tv) ∧ Below w.heap.size w wr
def ItRow (w wr : World) (s : ByteArray) (pos : Nat) (v : Value) (acc : List (List UInt8)) : Prop := wr.heap[w.heap.size]? = some (.stringIter s pos) ∧ Row w wr v acc
theorem own_iterAt {w : World} {B e size n : Nat} {v : Value} {xs : List Value} {k : Nat} {s : ByteArray} {pos : Nat} (h : w.ownsRow B e size v n xs) (hk : w.heap[k]? = some (.stringIter s pos)) (pos' : Nat) : (w.iterAt k s pos').ownsRow B e size v n xs := by
  refine ⟨h.1, ?_⟩
  rcases h.2 with h0 | ⟨g, cap, cur, hv, hb, hg, rest⟩
  · exact .inl h0
  · refine .inr ⟨g, cap, cur, hv, hb, ?_, rest⟩
    rw [Lib.iterAt_other _ _ _ _ _ (fun e => by subst e; rw [hk] at hg; cases hg)]
    exact hg
theorem own_ne_iter {w : World} {B e size n : Nat} {v : Value} {xs : List Value} {k : Nat} {s : ByteArray} {pos : Nat} (h : w.ownsRow B e size v n xs) (hk : w.heap[k]? = some (.stringIter s pos)) : some k ≠ v.ownBlock := by
  rcases h.2 with ⟨rfl, _⟩ | ⟨g, cap, cur, rfl, hb, hg, rest⟩
  · simp [Value.ownBlock]
  · intro e
    simp only [Value.ownBlock, Option.some.injEq] at e
    subst e
    rw [hk] at hg
    cases hg
theorem ItRow.start (w : World) (s : ByteArray) : ItRow w (w.iter s 0) s 0 (.slice none 0 0) [] :=
  ⟨World.iter_heap w s 0, ⟨rfl, .inl ⟨rfl, rfl⟩⟩, (Below.refl _ w).alloc (Nat.le_refl _) _⟩
theorem ItRow.on {w wr : World} {s : ByteArray} {pos : Nat} {v : Value} {acc : List (List UInt8)} (h : ItRow w wr s pos v acc) (n : Nat) : ItRow w (wr.iterAt w.heap.size s n) s n v acc :=
  ⟨Lib.iterAt_heap wr w.heap.size s pos n h.1, own_iterAt h.2.1 h.1 n, Lib.below_iterAt h.2.2 (Nat.le_refl _) s n⟩
theorem Row.app {w wn w1 : World} {v v' x : Value} {acc : List (List UInt8)} {y : List UInt8} {o : Obj} (h : Row w wn v acc) (hx : x = NM.tv y)
    (hown : w1.ownsRow w.heap.size 9 1 v' (acc.length + 1) (acc.map NM.tv ++ [x])) (hg : (wn.alloc o).grownBy w1 v.ownBlock) : Row w w1 v' (acc ++ [y]) := by
  subst hx
  refine ⟨by rw [List.length_append, List.map_append]; exact hown, ?_⟩
  refine (h.2.alloc h.2.size o).grown hg (by have := h.2.size; simp; omega) fun k hk => ?_
  rcases h.1.2 with ⟨rfl, _⟩ | ⟨g, cap, cur, rfl, hb, _⟩
  · simp [Value.ownBlock] at hk
  · simp only [Value.ownBlock, Option.some.injEq] at hk
    omega
theorem ItRow.app {w wn w1 : World} {s : ByteArray} {pos : Nat} {v v' x : Value} {acc : List (List UInt8)} {y : List UInt8} {o : Obj} (h : ItRow w wn s pos v acc) (hx : x = NM.tv y)
    (hown : w1.ownsRow w.heap.size 9 1 v' (acc.length + 1) (acc.map NM.tv ++ [x])) (hg : (wn.alloc o).grownBy w1 v.ownBlock) : ItRow w w1 s pos v' (acc ++ [y]) := by
  refine ⟨?_, h.2.app hx hown hg⟩
  have hlt : w.heap.size < wn.heap.size := (Array.getElem?_eq_some_iff.1 h.1).1
  rw [hg.block w.heap.size (by simp; omega) (own_ne_iter h.2.1 h.1), Below.heap_alloc wn o _ hlt]
  exact h.1
theorem new_cell (w : World) (x : Value) (t : TypeId) : ∀ j u, [x][j]? = some u → (w.alloc (.cells #[x] t)).cell? ((⟨w.heap.size, 0, none⟩ : Addr).add j) = some u := by
  intro j u hj
  match j, hj with
  | 0, hj => simp at hj; subst hj; simp [Addr.add]
theorem one_str (s : ByteArray) : ∀ u ∈ [Value.string s], u.oneCell' = true := by
  intro u hu; simp at hu; subst hu; rfl
set_option maxHeartbeats 1600000 in
theorem words_any (s : ByteArray) (w : World) (hs : s.size ≤ 100000) :
    Calls Tryd.prog 17 #[.string s] w fun e w' => ∃ v, e = .returned v ∧ Row w w' v (NM.wd s.data.toList) := by
  obtain ⟨i0, HI⟩ := info_parts str_info
  have HI := Lib.hid HI
  go_enter Tryd.func17, Tryd.ntmps17
  go_wp2
  go_loopw [3, 4] (fun v f wr => ∃ (pos fr : Nat) (acc : List (List UInt8)), pos ≤ s.size ∧ fr ≤ pos ∧ acc.length ≤ pos ∧ Hid (NM.ws s.data.toList pos = (acc, fr)) ∧ f = .int .i64 fr ∧ Hid (ItRow w wr s pos v acc)) (fun _ _ wr => s.size - wr.iterPos w.heap.size)
  case atStart =>
    exact ⟨0, 0, [], by omega, by omega, by simp, rfl, rfl, ItRow.start w s⟩
  case round =>
    rename_i v f
    obtain ⟨pos, fr, acc, hp, hfr, hacc, hws, rfl, hit⟩ := hrel
    by_cases hlt : pos < s.size
    · have hnx : ∀ ty, (Instr.next (.pointer (some ⟨w.heap.size, 0, none⟩)) true ty).run Tryd.prog wr = _ := fun ty => Lib.run_next_any_at wr w.heap.size s pos ty hit.out.1 hlt
      have HD := Lib.hid (NM.dec_sep s pos hlt)
      have hr := decode_le s pos
      cases hsep : NM.sepB s[pos]
      · have HK := Lib.hid (NM.dec_skip s pos hlt hsep)
        go_wp2_with (go_at_call 31; refine (separates_any _ _).mono ?_; rw [HD.out, hsep]; rintro e w' ⟨rfl, rfl⟩)
        go_roundw
        case rel =>
          exact ⟨pos + (Utf8.decode s pos).2, fr, acc, HK.out.1, by omega, by omega, by rw [HK.out.2.2]; exact hws, rfl, Lib.hid (hit.out.on _)⟩
        case measure =>
          have h1 := HK.out.2.1
          simp only [World.iterPos, (hit.out.on (pos + (Utf8.decode s pos).2)).1, hit.out.1]
          omega
      · have e1 := NM.dec_one s pos hlt (NM.sepB_low _ hsep)
        have HG := Lib.hid (show NM.sepB (s.data.toList.getD pos 0) = true by rw [NM.getD_eq s pos hlt]; exact hsep)
        rw [e1] at hnx
        have HE := Lib.hid e1
        clear e1
        have h1 := Lib.hid (hit.out.on (pos + 1))
        have hm : s.size - (wr.iterAt w.heap.size s (pos + 1)).iterPos w.heap.size < s.size - wr.iterPos w.heap.size := by
          simp only [World.iterPos, h1.out.1, hit.out.1]
          omega
        generalize wr.iterAt w.heap.size s (pos + 1) = wn at *
        by_cases hf : fr < pos
        · have hf' : decide (fr < pos) = true := by simpa using hf
          go_wp2_with (first
            | (go_at_call 31; refine (separates_any _ _).mono ?_; rw [HD.out, hsep]; rintro e w' ⟨rfl, rfl⟩)
            | (at_builtin; refine wpList_append_own _ rfl _ _ 34 rfl w.heap.size 9 i0 (.string ⟨#[]⟩) 1 16 Tryd.underlying34 HI.out.1 HI.out.2.1 HI.out.2.2.1 HI.out.2.2.2 rfl (by decide) _ _ _ rfl (h1.out.2.1.alloc _) ⟨_, 0, none⟩ 1 1 [.string (s.extract fr pos)] rfl rfl (new_cell _ _ _) (one_str _) (by unfold maxLen; omega) (by omega) (by have := h1.out.2.2.size; simp; omega) ?_))
          intro v' w1 hown hgrow _
          have HR := Lib.hid (h1.out.app (NM.tv_extract s fr pos) hown hgrow)
          have hws' := hws.out
          have HW := Lib.hid (show NM.ws s.data.toList (pos + 1) = (acc ++ [NM.sl s.data.toList fr pos], pos + 1) by rw [NM.ws_cut _ _ HG.out (by rw [hws']; exact hf), hws'])
          clear hown hgrow hws' hnx
          go_wp2
          go_roundw
          case rel => exact ⟨pos + 1, pos + 1, _, by omega, by omega, by rw [List.length_append, List.length_singleton]; omega, HW, by go_num, HR⟩
          case measure =>
            simp only [World.iterPos, HR.out.1, hit.out.1]
            omega
        · have hf' : decide (fr < pos) = false := by simp; omega
          go_wp2_with (go_at_call 31; refine (separates_any _ _).mono ?_; rw [HD.out, hsep]; rintro e w' ⟨rfl, rfl⟩)
          have hws' := hws.out
          have HW := Lib.hid (show NM.ws s.data.toList (pos + 1) = (acc, pos + 1) by rw [NM.ws_gap _ _ HG.out (by rw [hws']; exact hf), hws'])
          clear hws' hnx
          go_roundw
          case rel => exact ⟨pos + 1, pos + 1, acc, by omega, by omega, by omega, HW, by go_num, h1⟩
          case measure => exact hm
    · have hnx : ∀ ty, (Instr.next (.pointer (some ⟨w.heap.size, 0, none⟩)) true ty).run Tryd.prog wr = _ := fun ty => Lib.run_next_end_at wr w.heap.size s pos ty hit.out.1 hlt
      obtain rfl : pos = s.size := by omega
      have hws' := hws.out
      have hlen := NM.len_eq s
      by_cases hf : fr < s.size
      · have HW := Lib.hid (show NM.wd s.data.toList = acc ++ [NM.sl s.data.toList fr s.size] by unfold NM.wd; rw [hlen, hws', if_pos hf])
        have hf' : decide (fr < s.size) = true := by simpa using hf
        clear hws' hlen
        go_wp2_with (at_builtin; refine wpList_append_own _ rfl _ _ 34 rfl w.heap.size 9 i0 (.string ⟨#[]⟩) 1 16 Tryd.underlying34 HI.out.1 HI.out.2.1 HI.out.2.2.1 HI.out.2.2.2 rfl (by decide) _ _ _ rfl (hit.out.2.1.alloc _) ⟨_, 0, none⟩ 1 1 [.string (s.extract fr s.size)] rfl rfl (new_cell _ _ _) (one_str _) (by unfold maxLen; omega) (by omega) (by have := hit.out.2.2.size; simp; omega) ?_)
        intro v' w1 hown hgrow _
        have HR := Lib.hid (hit.out.2.app (NM.tv_extract s fr s.size) hown hgrow)
        clear hown hgrow hnx
        go_wp2
        go_ret
        rw [HW.out]
        exact ⟨_, rfl, HR.out⟩
      · have HW := Lib.hid (show NM.wd s.data.toList = acc by unfold NM.wd; rw [hlen, hws', if_neg hf])
        have hf' : decide (fr < s.size) = false := by simp; omega
        clear hws' hlen
        go_wp2
        go_ret
        rw [HW.out]
        exact ⟨_, rfl, hit.out.2⟩
end Go.Proofs.YtfeekgepmemanaaDoor
