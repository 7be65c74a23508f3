/-
  Plain mathematics of assembling, further: what holds of a program's state behind the first going; what an item's bytes are; the second going, item by item, as the reference has it.
  What the reference's segs answers: the segments of what is placed.
  What the reference's Bytes answers at every item; how memory lies during the reference's second going.
  What the reference's Assemble answers: what the specification says.
-/
import Derived.Test.YtcnmnkgnaknpdaaGreatDoorGpf
import Derived.Test.YtcnmnkgnaknpdaaGreatDoorGn
import Derived.Test.YtcnmnkgnaknpdaaGreatDoorGu
import Derived.Test.YtcnmnkgnaknpdaaGreatDoorGs
import Derived.Deep.RegionLaw
import Derived.RegionTactic
import Derived.BigRegion

/-! MathH -/
namespace Go.Proofs.YtcnmnkgnaknpdaaGreatDoor
open S02 S06 S07
namespace AS
theorem labs_vals : ∀ (W : List (List UInt8)) (p : St), p.pos ≤ 16384 → (∀ q ∈ p.names, q.2 < 4294967296) → ∀ q ∈ (labs p W).2.1.names, q.2 < 4294967296
  | [], _, _, h => h
  | w :: r, p, hp, h => by
    rw [labs]
    split
    · split
      · refine labs_vals r { p with names := p.names ++ [(Lib.trimSuffix w [58], p.pos)] } hp fun q hq => ?_
        rcases List.mem_append.1 hq with hq | hq
        · exact h q hq
        · rw [List.mem_singleton] at hq
          subst hq
          show p.pos < 4294967296
          omega
      · exact h
    · exact h
theorem one_vals {p : St} {line : Nat} {W : List (List UInt8)} (h : ∀ q ∈ p.names, q.2 < 4294967296) : ∀ q ∈ (one p line W).2.names, q.2 < 4294967296 := by
  cases W with
  | nil => exact h
  | cons d r =>
    rw [one]
    split
    · exact h
    · split
      · exact h
      · split
        · split <;> exact h
        · split
          · exact h
          · split
            · exact h
            · split
              · split
                · intro q hq
                  rcases List.mem_append.1 (show q ∈ p.names ++ [(r.getD 0 [], (nbN (r.getD 1 []) (-2147483648) 4294967295 % 4294967296).toNat)] from hq) with hq | hq
                  · exact h q hq
                  · rw [List.mem_singleton] at hq
                    subst hq
                    show Int.toNat _ < 4294967296
                    omega
                · exact h
              · exact h
theorem first_all : ∀ {ls : List (List UInt8)} {k j b : Nat} {p p' : St}, first ls k p = (0, j, p') → Ok p b → (∀ q ∈ p.names, q.2 < 4294967296) → (∀ y ∈ ls, y.length ≤ 66000) → Ok p' (b + (tot ls + ls.length)) ∧ ∀ q ∈ p'.names, q.2 < 4294967296
  | [], _, _, _, _, _, h, h1, h2, _ => by
    rw [first] at h
    injection h with _ h
    injection h with _ h
    subst h
    exact ⟨h1.mono (by omega), h2⟩
  | l :: r, k, j, b, p, p', h, h1, h2, h3 => by
    rw [first] at h
    split at h
    · rename_i h0
      have hl := h3 l (by simp)
      obtain ⟨h4, _⟩ := line_ok h1 hl h0
      have h5 : ∀ q ∈ (lineS p k l).names, q.2 < 4294967296 := by
        unfold lineS
        exact one_vals (labs_vals _ _ h1.pos h2)
      obtain ⟨h6, h7⟩ := first_all h h4 h5 fun y hy => h3 y (List.mem_cons_of_mem _ hy)
      refine ⟨h6.mono ?_, h7⟩
      rw [tot_cons, List.length_cons]
      omega
    · rename_i h0
      injection h with h _
      exact absurd h h0
theorem first_lL {s : List UInt8} {j : Nat} {p : St} (h : first (NM.lL s) 0 ⟨[], 0, []⟩ = (0, j, p)) : Ok p 131072 ∧ ∀ q ∈ p.names, q.2 < 4294967296 := by
  have ht := lL_tot s
  obtain ⟨h1, h2⟩ := first_all (b := 0) h ⟨(by decide), fun x hx => (by cases hx), fun pre x suf he => (by simp at he), (by simp)⟩ (fun q hq => (by cases hq)) (fun y hy => (by have := tot_mem hy; omega))
  exact ⟨h1.mono (by omega), h2⟩
theorem vals_full {ns : List (List UInt8 × Nat)} {sz : Nat} {lo hi : Int} : ∀ {l : List (List UInt8)}, (vals ns sz lo hi l).1 = 0 → (vals ns sz lo hi l).2.length = sz * l.length
  | [], _ => by simp [vals]
  | s :: r, h => by
    rw [vals] at h ⊢
    split at h
    · rename_i c
      rw [if_pos c]
      have ih := vals_full (l := r) h
      simp only [List.length_append, List.length_cons]
      rw [show (le (vaN ns s lo hi).toNat sz).length = sz by simp [le], ih, Nat.mul_add]
      omega
    · rename_i c
      exact absurd h c
theorem itB_full {ns : List (List UInt8 × Nat)} {x : It} (h : gd x) (_h4 : x.kind = 1 ∨ x.kind = 2 ∨ x.kind = 3 ∨ x.kind = 4) (h0 : (itB ns x).1 = 0) : (itB ns x).2.length = x.size := by
  obtain ⟨_, _, h⟩ := h
  unfold itB at h0 ⊢
  by_cases k1 : x.kind = 1
  · rw [if_pos k1]
    obtain h | h | h | h := h
    · rw [h.2.1]; simp [le]
    · omega
    · omega
    · omega
  · rw [if_neg k1] at h0 ⊢
    by_cases k2 : x.kind = 2
    · rw [if_pos k2] at h0 ⊢
      obtain h | h | h | h := h
      · omega
      · rw [vals_full h0, h.2.1]
      · omega
      · omega
    · rw [if_neg k2] at h0 ⊢
      by_cases k3 : x.kind = 3
      · rw [if_pos k3] at h0 ⊢
        obtain h | h | h | h := h
        · omega
        · omega
        · rw [vals_full h0, h.2.1]
        · omega
      · rw [if_neg k3] at h0 ⊢
        simp
theorem cov_take {l : List It} {i : Nat} {x : It} (h : l[i]? = some x) (a : Nat) : cov (l.take (i + 1)) a = (cov (l.take i) a || (decide (x.pos ≤ a) && decide (a < x.pos + x.size))) := by
  have hi : i < l.length := (List.getElem?_eq_some_iff.1 h).1
  rw [List.take_succ_eq_append_getElem hi, cov_app]
  rw [List.getElem?_eq_getElem hi] at h
  injection h with h
  rw [h]
  simp [cov]
theorem drop_at {l : List It} {i : Nat} {x : It} (h : l[i]? = some x) : l.drop i = x :: l.drop (i + 1) := by
  have hi : i < l.length := (List.getElem?_eq_some_iff.1 h).1
  rw [List.getElem?_eq_getElem hi] at h
  injection h with h
  rw [List.drop_eq_getElem_cons hi, h]
theorem wr_take {m : Nat → UInt8} {a : Nat} {l : List UInt8} {j : Nat} (hj : j < l.length) : (fun i => if i = a + j then l.getD j 0 else wr m a (l.take j) i) = wr m a (l.take (j + 1)) := by
  funext i
  unfold wr
  have h1 : (l.take j).length = j := by rw [List.length_take]; omega
  have h2 : (l.take (j + 1)).length = j + 1 := by rw [List.length_take]; omega
  rw [h1, h2]
  by_cases e : i = a + j
  · subst e
    rw [if_pos rfl, if_pos (by omega), show a + j - a = j by omega, List.getD_eq_getElem?_getD, List.getD_eq_getElem?_getD, List.getElem?_take, if_pos (by omega)]
  · rw [if_neg e]
    by_cases c : a ≤ i ∧ i < a + j
    · rw [if_pos c, if_pos (by omega), List.getD_eq_getElem?_getD, List.getD_eq_getElem?_getD, List.getElem?_take, List.getElem?_take, if_pos (by omega), if_pos (by omega)]
    · rw [if_neg c, if_neg (by omega)]
theorem wr_nil (m : Nat → UInt8) (a : Nat) (l : List UInt8) : wr m a (l.take 0) = m := by
  funext i
  unfold wr
  rw [if_neg]
  rintro ⟨h1, h2⟩
  simp at h2
  omega
end AS
end Go.Proofs.YtcnmnkgnaknpdaaGreatDoor
/-! RfR -/
namespace Go.Proofs.YtcnmnkgnaknpdaaGreatDoor
open Go.RowKit Go.Maps S02 S06 S07
/-- Segments that are being made. -/
structure SJ (w wr : World) (l : List (Nat × List UInt8)) (v : Value) (ps : List (Nat × Value × List UInt8)) : Prop where
  sg : SG w.heap.size wr v ps
  sp : ps.map (fun p => (p.1, p.2.2)) = l
  old : Below w.heap.size w wr
theorem SJ.start (w : World) : SJ w (w.alloc (.cells #[] 49)) [] (.slice (some ⟨w.heap.size, 0, none⟩) 0 0) [] :=
  ⟨⟨World.ownsRow_lit w #[] 0 (Nat.le_refl _) (by unfold maxLen; omega) rfl, fun p hp => by simp at hp, List.Pairwise.nil⟩, rfl, (Below.refl _ w).alloc (Nat.le_refl _) _⟩
theorem SJ.bd {w wr : World} {k : Nat} {pl : Nat → Bool} {m : Nat → UInt8} {v : Value} {ps : List (Nat × Value × List UInt8)} (h : SJ w wr (AS.segs pl m k) v ps) : ps.length ≤ k ∧ ∀ p ∈ ps, p.2.2.length ≤ k := by
  obtain ⟨h1, h2⟩ := AS.segs_len pl m k
  rw [← h.sp] at h1 h2
  exact ⟨by simpa using h1, fun p hp => h2 (p.1, p.2.2) (List.mem_map.2 ⟨p, hp, rfl⟩)⟩
theorem SJ.seg {w wr w1 : World} {l : List (Nat × List UInt8)} {v v' : Value} {ps : List (Nat × Value × List UInt8)} {o : Obj} {a : Nat} (h : SJ w wr l v ps) (hg : (wr.alloc o).grownBy w1 v.ownBlock) (ho : w1.ownsRow w.heap.size 49 2 v' (ps.length + 1) (sgC ps ++ [.int .u32 a, .slice none 0 0])) :
    SJ w w1 (l ++ [(a, [])]) v' (ps ++ [(a, .slice none 0 0, [])]) :=
  ⟨h.sg.seg hg ho, by simp [h.sp], (h.old.alloc h.old.size o).grown hg (by have := h.old.size; simp; omega) fun k hk => (own_lt h.sg.own hk).1⟩
theorem SJ.byte {w wr w1 : World} {G n c i : Nat} {l : List (Nat × List UInt8)} {dv dv' : Value} {ps : List (Nat × Value × List UInt8)} {o : Obj} {a : Nat} {bs : List UInt8} {b : UInt8} (h : SJ w wr (l ++ [(a, bs)]) (.slice (some ⟨G, 0, none⟩) n c) (ps ++ [(a, dv, bs)])) (hn : ps.length + 1 = n) (hg : (wr.alloc o).grownBy w1 dv.ownBlock) (ho : w1.ownsRow w.heap.size 5 1 dv' (bs.length + 1) (byC bs ++ [.int .u8 b.toNat])) (hv : dv.ownBlock = dv'.ownBlock ∨ dv'.ownBlock = some (wr.heap.size + 1)) (hi : i = 2 * ps.length + 1) :
    w1.cell? ⟨G, i, none⟩ = some dv ∧ w1.frozen? ⟨G, i, none⟩ = false ∧ SJ w (w1.setCell ⟨G, i, none⟩ dv') (l ++ [(a, bs ++ [b])]) (.slice (some ⟨G, 0, none⟩) n c) (ps ++ [(a, dv', bs ++ [b])]) := by
  have hd : wr.ownsRow w.heap.size 5 1 dv bs.length (byC bs) := h.sg.dat (a, dv, bs) (by simp)
  have kp : ∀ (k : Nat) (c : Array Value) (e : TypeId) (f : Nat × Nat), wr.heap[k]? = some (Obj.cells c e f) → e ≠ 5 → w1.heap[k]? = wr.heap[k]? := fun k c e f hk he => by
    rw [hg.block k (by have := lt_of_heap hk; simp; omega) (fun e' => ?_), Below.heap_alloc wr o k (lt_of_heap hk)]
    obtain ⟨_, _, c', hc'⟩ := own_lt hd e'.symm
    exact kind_ne hk hc' he rfl
  obtain ⟨G1, G2, cs, hG⟩ := own_lt h.sg.own rfl
  obtain ⟨_, c2, c3⟩ := h.sg.cell (by simp [hn]) (j := ps.length) (p := (a, dv, bs)) (by simp)
  have hG1 := (kp G _ _ _ hG (by decide)).trans hG
  have hs := h.sg.byte hn hg ho hv hi
  subst hi
  refine ⟨(World.cell?_of_block (w := wr) (a := ⟨G, 2 * ps.length + 1, none⟩) (kp G _ _ _ hG (by decide))).trans c2, unfrozen hG1, hs, ?_, ?_⟩
  · have := h.sp
    rw [List.map_append] at this
    have := (List.append_inj' this rfl).1
    simp [this]
  · have h1 : Below w.heap.size w (wr.alloc o) := h.old.alloc h.old.size o
    exact (h1.grown hg (by have := h.old.size; simp; omega) fun k hk => (own_lt hd hk).1).setCell (by show w.heap.size ≤ G; omega) _
theorem SJ.split {w wr : World} {l : List (Nat × List UInt8)} {a : Nat} {bs : List UInt8} {v : Value} {ps : List (Nat × Value × List UInt8)} (h : SJ w wr (l ++ [(a, bs)]) v ps) : ∃ qs dv, ps = qs ++ [(a, dv, bs)] := by
  have hs := h.sp
  rcases List.eq_nil_or_concat ps with rfl | ⟨qs, ⟨a', dv, bs'⟩, rfl⟩
  · simp at hs
  · rw [List.concat_eq_append] at hs ⊢
    rw [List.map_append] at hs
    have := (List.append_inj' hs rfl).2
    simp at this
    obtain ⟨rfl, rfl⟩ := this
    exact ⟨qs, dv, rfl⟩
theorem SJ.form {w wr : World} {l : List (Nat × List UInt8)} {v : Value} {ps : List (Nat × Value × List UInt8)} (h : SJ w wr l v ps) : ∃ a c, v = .slice a ps.length c := by
  rcases h.sg.own.2 with ⟨h, h0⟩ | ⟨g, cap, cur, h, -⟩
  · exact ⟨_, _, h0 ▸ h⟩
  · exact ⟨_, _, h⟩
set_option maxHeartbeats 8000000 in
theorem rsegs_any {w : World} {L B : Nat} {pl : Nat → Bool} {m : Nat → UInt8} (hl : ∀ i, i < 16384 → w.cell? ⟨L, i, none⟩ = some (.bool (pl i))) (hm : ∀ i, i < 16384 → w.cell? ⟨B, i, none⟩ = some (.int .u8 (m i).toNat)) :
    Calls Tryz.prog 27 #[.slice (some ⟨L, 0, none⟩) 16384 16384, .slice (some ⟨B, 0, none⟩) 16384 16384] w fun e w' => ∃ v ps, e = .returned v ∧ SJ w w' (AS.segs pl m 16384) v ps := by
  obtain ⟨i0, HI⟩ := info_parts seg_info
  have HI := Lib.hid HI
  obtain ⟨i1, HJ⟩ := info_parts byte_info
  have HJ := Lib.hid HJ
  have HS := Lib.hid (SJ.start w)
  have HPl := Lib.hid hl
  have HM := Lib.hid hm
  clear hl hm
  go_enter Tryz.func27, Tryz.ntmps27
  go_wp2
  go_loopw [5, 6] (fun v i wr => ∃ k : Nat, k ≤ 16384 ∧ i = .int .i64 k ∧ ∃ ps, Hid (SJ w wr (AS.segs pl m k) v ps)) (fun _ i _ => 16384 - (intOf i).toNat)
  case atStart => exact ⟨0, by omega, rfl, _, HS⟩
  case round =>
    obtain ⟨k, hk, rfl, ps, hR⟩ := hrel
    clear HS
    have HK := Lib.hid hk
    clear hk
    by_cases hlt : (k : Int) < 16384
    · have HLT := Lib.hid (show k < 16384 by omega)
      have p0 := cell_below hR.out.old (HPl.out k HLT.out)
      have m0 := cell_below hR.out.old (HM.out k HLT.out)
      cases hpl : pl k
      · have HX := Lib.hid (show SJ w wr (AS.segs pl m (k + 1)) _ ps by rw [AS.segs_no hpl]; exact hR.out)
        rw [hpl] at p0
        clear m0
        go_wp2
        go_roundw
        case rel => exact ⟨k + 1, by have := HLT.out; omega, by go_num, _, HX⟩
        case measure => have := HLT.out; simp [intOf]; omega
      · rw [hpl] at p0
        have HPL := Lib.hid hpl
        clear hpl
        have hbd : (ps.length : Int) ≤ 16384 := by have := hR.out.bd.1; have := HLT.out; omega
        by_cases hnew : k = 0 ∨ pl (k - 1) = false
        · have HNW := Lib.hid hnew
          by_cases hk0 : (k : Int) = 0
          · have hk0' : ((k : Int) == 0) = true := by simpa using hk0
            clear hnew hk0
            obtain ⟨sa, sc, rfl⟩ := hR.out.form
            go_upto_region 8 with (at_builtin; refine wpList_append_lies _ rfl _ _ 24 rfl w.heap.size 49 i0 (.agg #[.int .u32 0, .slice none 0 0]) 2 32 Tryz.underlying24 HI.out.1 HI.out.2.1 HI.out.2.2.1 HI.out.2.2.2 rfl (by decide) _ ps.length (sgC ps) rfl (hR.out.sg.own.alloc _) ⟨_, 0, none⟩ 1 1 [.int .u32 (k : Nat), .slice none 0 0] rfl rfl (two_new _ _ _ _) (seg_one _) (by decide) (by unfold maxLen; omega) (by omega) (by have := hR.out.old.size; simp; omega) _ rfl ?_)
            intro g cap w1 ho1 hg1 hv1 hl1
            have HX := Lib.hid (hR.out.seg (a := k) hg1 ho1)
            clear ho1 hg1 hv1 hl1 p0 m0 hR
            obtain ⟨n, hn⟩ : ∃ n, ps.length = n := ⟨_, rfl⟩
            rw [hn] at HX hbd
            rw [hn]
            have HNN := Lib.hid hn
            clear hn
            go_upto_region 8 with fail
            obtain ⟨a, ha⟩ : ∃ a, k = a := ⟨_, rfl⟩
            obtain ⟨dv, hdv⟩ : ∃ dv, Value.slice none 0 0 = dv := ⟨_, rfl⟩
            obtain ⟨bs, hbs⟩ : ∃ bs : List UInt8, [] = bs := ⟨_, rfl⟩
            have HX : Hid (SJ w w1 (AS.segs pl m k ++ [(a, bs)]) (.slice (some ⟨g, 0, none⟩) (n + 1) cap) (ps ++ [(a, dv, bs)])) := by rw [← ha, ← hdv, ← hbs]; exact HX
            have hbb : bs.length ≤ 16384 := by rw [← hbs]; simp
            have HSP := Lib.hid (show AS.segs pl m (k + 1) = AS.segs pl m k ++ [(a, bs ++ [m k])] by rw [← ha, ← hbs]; exact AS.segs_new HPL.out HNW.out)
            clear ha hdv hbs HNW hk0'
            obtain ⟨g0, g1, g2⟩ := HX.out.sg.cell (by rw [List.length_append, HNN.out]; rfl) (j := n) (p := (a, dv, bs)) (by rw [← HNN.out]; simp)
            have mm := cell_below HX.out.old (HM.out k HLT.out)
            have HD := Lib.hid (show w1.ownsRow w.heap.size 5 1 dv bs.length (byC bs) from HX.out.sg.dat (a, dv, bs) (by simp))
            clear g0
            have g3 : w1.cell? ⟨g, n * 2 + 1, none⟩ = some dv := by rw [Nat.mul_comm]; exact g1
            have g4 : ∀ o, (w1.alloc o).cell? ⟨g, n * 2 + 1, none⟩ = some dv := fun o => ((Below.refl w1.heap.size w1).alloc (Nat.le_refl _) o).cell (p := ⟨g, n * 2 + 1, none⟩) (World.block_lt_of_cell? _ _ g3) |>.trans g3
            have hwn : IntKind.i64.wrap (n : Int) = n := by rw [IntKind.wrap_i64]; omega
            have hwl : (n : Int) < n + 1 := by omega
            go_upto_region 8 with fail
            go_region_law (refine step_append_lies _ rfl (.tmp 45) (.tmp 50) 47 rfl w.heap.size 5 i1 (.int .u8 0) 1 1 Tryz.underlying47 HJ.out.1 HJ.out.2.1 HJ.out.2.2.1 HJ.out.2.2.2 rfl (by decide) dv bs.length (byC bs) (by simp [Act.eval]) (HD.out.alloc _).drew ⟨w1.heap.size, 0, none⟩ 1 1 [.int .u8 (m k).toNat] (by simp [Act.eval]) rfl (cell_one_new w1 _ 5) (by simp [Value.oneCell']) (by decide) (by unfold maxLen; omega) (by omega) (by have := HX.out.old.size; simp; omega) (w1.heap.size + 1) (by simp) ?_; intro g' cap' w3 ho3 hg3 hv3 hl3; obtain ⟨y1, y2, y3⟩ := HX.out.byte (b := m k) (i := n * 2 + 1) (by rw [HNN.out]) ⟨hg3.os, hg3.tape, hg3.output, hg3.size, hg3.block⟩ ho3 (hv3.imp id (fun h => congrArg some h)) (by rw [HNN.out]; omega); have HY := Lib.hid y3; clear y3 ho3 hg3 hv3 hl3)
            all_goals
              rw [← HSP.out] at HY
              go_wp2
              go_roundw
              case rel => exact ⟨k + 1, by have := HLT.out; omega, by go_num, _, HY⟩
              case measure => have := HLT.out; simp [intOf]; omega
          · obtain ⟨j, rfl⟩ : ∃ j, k = j + 1 := ⟨k - 1, by omega⟩
            have hj : pl j = false := by exact hnew.elim (fun h => by omega) (fun h => by simpa using h)
            have hk0' : ((j : Int) + 1 == 0) = false := by simp; omega
            have hk1 : (j : Int) + 1 < 16384 := by omega
            have hk2 : 0 ≤ (j : Int) + 1 := by omega
            have HJJ := Lib.hid (show j < 16384 by have := HLT.out; omega)
            have p1 := cell_below hR.out.old (HPl.out j HJJ.out)
            rw [hj] at p1
            clear hj hnew hk0 hlt
            obtain ⟨sa, sc, rfl⟩ := hR.out.form
            go_upto_region 8 with (at_builtin; refine wpList_append_lies _ rfl _ _ 24 rfl w.heap.size 49 i0 (.agg #[.int .u32 0, .slice none 0 0]) 2 32 Tryz.underlying24 HI.out.1 HI.out.2.1 HI.out.2.2.1 HI.out.2.2.2 rfl (by decide) _ ps.length (sgC ps) rfl (hR.out.sg.own.alloc _) ⟨_, 0, none⟩ 1 1 [.int .u32 ((j + 1) : Nat), .slice none 0 0] rfl rfl (two_new _ _ _ _) (seg_one _) (by decide) (by unfold maxLen; omega) (by omega) (by have := hR.out.old.size; simp; omega) _ rfl ?_)
            intro g cap w1 ho1 hg1 hv1 hl1
            have HX := Lib.hid (hR.out.seg (a := (j + 1)) hg1 ho1)
            clear ho1 hg1 hv1 hl1 p0 m0 hR
            obtain ⟨n, hn⟩ : ∃ n, ps.length = n := ⟨_, rfl⟩
            rw [hn] at HX hbd
            rw [hn]
            have HNN := Lib.hid hn
            clear hn
            go_upto_region 8 with fail
            obtain ⟨a, ha⟩ : ∃ a, (j + 1) = a := ⟨_, rfl⟩
            obtain ⟨dv, hdv⟩ : ∃ dv, Value.slice none 0 0 = dv := ⟨_, rfl⟩
            obtain ⟨bs, hbs⟩ : ∃ bs : List UInt8, [] = bs := ⟨_, rfl⟩
            have HX : Hid (SJ w w1 (AS.segs pl m (j + 1) ++ [(a, bs)]) (.slice (some ⟨g, 0, none⟩) (n + 1) cap) (ps ++ [(a, dv, bs)])) := by rw [← ha, ← hdv, ← hbs]; exact HX
            have hbb : bs.length ≤ 16384 := by rw [← hbs]; simp
            have HSP := Lib.hid (show AS.segs pl m ((j + 1) + 1) = AS.segs pl m (j + 1) ++ [(a, bs ++ [m (j + 1)])] by rw [← ha, ← hbs]; exact AS.segs_new HPL.out HNW.out)
            clear ha hdv hbs HNW hk0'
            obtain ⟨g0, g1, g2⟩ := HX.out.sg.cell (by rw [List.length_append, HNN.out]; rfl) (j := n) (p := (a, dv, bs)) (by rw [← HNN.out]; simp)
            have mm := cell_below HX.out.old (HM.out (j + 1) HLT.out)
            have HD := Lib.hid (show w1.ownsRow w.heap.size 5 1 dv bs.length (byC bs) from HX.out.sg.dat (a, dv, bs) (by simp))
            clear g0
            have g3 : w1.cell? ⟨g, n * 2 + 1, none⟩ = some dv := by rw [Nat.mul_comm]; exact g1
            have g4 : ∀ o, (w1.alloc o).cell? ⟨g, n * 2 + 1, none⟩ = some dv := fun o => ((Below.refl w1.heap.size w1).alloc (Nat.le_refl _) o).cell (p := ⟨g, n * 2 + 1, none⟩) (World.block_lt_of_cell? _ _ g3) |>.trans g3
            have hwn : IntKind.i64.wrap (n : Int) = n := by rw [IntKind.wrap_i64]; omega
            have hwl : (n : Int) < n + 1 := by omega
            go_upto_region 8 with fail
            go_region_law (refine step_append_lies _ rfl (.tmp 45) (.tmp 50) 47 rfl w.heap.size 5 i1 (.int .u8 0) 1 1 Tryz.underlying47 HJ.out.1 HJ.out.2.1 HJ.out.2.2.1 HJ.out.2.2.2 rfl (by decide) dv bs.length (byC bs) (by simp [Act.eval]) (HD.out.alloc _).drew ⟨w1.heap.size, 0, none⟩ 1 1 [.int .u8 (m (j + 1)).toNat] (by simp [Act.eval]) rfl (cell_one_new w1 _ 5) (by simp [Value.oneCell']) (by decide) (by unfold maxLen; omega) (by omega) (by have := HX.out.old.size; simp; omega) (w1.heap.size + 1) (by simp) ?_; intro g' cap' w3 ho3 hg3 hv3 hl3; obtain ⟨y1, y2, y3⟩ := HX.out.byte (b := m (j + 1)) (i := n * 2 + 1) (by rw [HNN.out]) ⟨hg3.os, hg3.tape, hg3.output, hg3.size, hg3.block⟩ ho3 (hv3.imp id (fun h => congrArg some h)) (by rw [HNN.out]; omega); have HY := Lib.hid y3; clear y3 ho3 hg3 hv3 hl3)
            all_goals
              rw [← HSP.out] at HY
              go_wp2
              go_roundw
              case rel => exact ⟨(j + 1) + 1, by have := HLT.out; omega, by go_num, _, HY⟩
              case measure => have := HLT.out; simp [intOf]; omega
        · have hk0 : ¬ k = 0 := fun h => hnew (.inl h)
          have hj0 : pl (k - 1) = true := by cases h : pl (k - 1) with | true => rfl | false => exact absurd (.inr h) hnew
          obtain ⟨l, a, bs, hs1, hs2⟩ := AS.segs_more (m := m) HPL.out hk0 hj0
          have hbb : bs.length ≤ 16384 := by have := (AS.segs_len pl m k).2 (a, bs) (by rw [hs1]; simp); have := HLT.out; simp at *; omega
          rw [hs1] at hR
          obtain ⟨qs, dv, rfl⟩ := hR.out.split
          obtain ⟨g, cap, rfl, -, -⟩ := hR.out.sg.lies (by simp)
          have HSP := Lib.hid hs2
          obtain ⟨n, hn⟩ : ∃ n, qs.length = n := ⟨_, rfl⟩
          rw [List.length_append, List.length_singleton, hn] at hR hbd
          have HNN := Lib.hid hn
          rw [show (qs ++ [(a, dv, bs)]).length = n + 1 by rw [List.length_append, hn]; rfl]
          obtain ⟨j, rfl⟩ : ∃ j, k = j + 1 := ⟨k - 1, by omega⟩
          have hj : pl j = true := by simpa using hj0
          have hk0' : ((j : Int) + 1 == 0) = false := by simp; omega
          have hk1 : (j : Int) + 1 < 16384 := by omega
          have hk2 : 0 ≤ (j : Int) + 1 := by omega
          have HJJ := Lib.hid (show j < 16384 by have := HLT.out; omega)
          have p1 := cell_below hR.out.old (HPl.out j HJJ.out)
          rw [hj] at p1
          have HX := hR
          clear hR hlt hn hj hj0 hnew hk0 hs1 hs2
          have hbd' : (n : Int) ≤ 16384 := by omega
          obtain ⟨g0, g1, g2⟩ := HX.out.sg.cell (by rw [List.length_append, HNN.out]; rfl) (j := n) (p := (a, dv, bs)) (by rw [← HNN.out]; simp)
          have mm := cell_below HX.out.old (HM.out (j + 1) HLT.out)
          have HD := Lib.hid (show wr.ownsRow w.heap.size 5 1 dv bs.length (byC bs) from HX.out.sg.dat (a, dv, bs) (by simp))
          clear g0
          have g3 : wr.cell? ⟨g, n * 2 + 1, none⟩ = some dv := by rw [Nat.mul_comm]; exact g1
          have g4 : ∀ o, (wr.alloc o).cell? ⟨g, n * 2 + 1, none⟩ = some dv := fun o => ((Below.refl wr.heap.size wr).alloc (Nat.le_refl _) o).cell (p := ⟨g, n * 2 + 1, none⟩) (World.block_lt_of_cell? _ _ g3) |>.trans g3
          have hwn : IntKind.i64.wrap (n : Int) = n := by rw [IntKind.wrap_i64]; omega
          have hwl : (n : Int) < n + 1 := by omega
          go_upto_region 8 with fail
          go_region_law (refine step_append_lies _ rfl (.tmp 45) (.tmp 50) 47 rfl w.heap.size 5 i1 (.int .u8 0) 1 1 Tryz.underlying47 HJ.out.1 HJ.out.2.1 HJ.out.2.2.1 HJ.out.2.2.2 rfl (by decide) dv bs.length (byC bs) (by simp [Act.eval]) (HD.out.alloc _).drew ⟨wr.heap.size, 0, none⟩ 1 1 [.int .u8 (m (j + 1)).toNat] (by simp [Act.eval]) rfl (cell_one_new wr _ 5) (by simp [Value.oneCell']) (by decide) (by unfold maxLen; omega) (by omega) (by have := HX.out.old.size; simp; omega) (wr.heap.size + 1) (by simp) ?_; intro g' cap' w3 ho3 hg3 hv3 hl3; obtain ⟨y1, y2, y3⟩ := HX.out.byte (b := m (j + 1)) (i := n * 2 + 1) (by rw [HNN.out]) ⟨hg3.os, hg3.tape, hg3.output, hg3.size, hg3.block⟩ ho3 (hv3.imp id (fun h => congrArg some h)) (by rw [HNN.out]; omega); have HY := Lib.hid y3; clear y3 ho3 hg3 hv3 hl3)
          all_goals
            rw [← HSP.out] at HY
            go_wp2
            go_roundw
            case rel => exact ⟨(j + 1) + 1, by have := HLT.out; omega, by go_num, _, HY⟩
            case measure => have := HLT.out; simp [intOf]; omega
    · obtain rfl : k = 16384 := by have := HK.out; omega
      obtain ⟨a, c, rfl⟩ := hR.out.form
      clear hlt HK
      go_wp2
      go_ret
      exact ⟨_, ps, rfl, hR.out⟩
end Go.Proofs.YtcnmnkgnaknpdaaGreatDoor
/-! RfS -/
namespace Go.Proofs.YtcnmnkgnaknpdaaGreatDoor
open Go.RowKit Go.Maps S02 S06 S07
theorem rbytes_any {w : World} {nv wv : Value} {ns : List (List UInt8 × Nat)} {x : AS.It} (hg : AS.gd x) (hk : x.kind = 1 ∨ x.kind = 2 ∨ x.kind = 3 ∨ x.kind = 4) (hn : NmR w nv ns) (hnl : ns.length ≤ 1000000) (hu : ∀ p ∈ ns, p.2 < 4294967296) (hv : TxR w wv x.words) :
    Calls Tryz.prog 26 #[nv, .agg #[.int .i64 x.kind, .int .i64 x.line, .int .i64 x.pos, .int .i64 x.size, wv]] w (BtPost w (AS.itB ns x).1 (AS.itB ns x).2) := by
  obtain ⟨kind, line, pos, size, words⟩ := x
  obtain ⟨h1, h2, h3⟩ := hg
  simp only at h1 h2 h3 hk hv ⊢
  have hz : ∀ y ∈ words, y.length ≤ 1000000 := fun y hy => by have := AS.tot_mem hy; omega
  unfold AS.itB
  simp only
  obtain rfl | rfl | rfl | rfl := hk
  · rw [if_pos rfl]
    have hne : words ≠ [] := by
      rcases h3 with h | h | h | h
      · exact h.2.2
      · omega
      · omega
      · omega
    obtain ⟨d, r, rfl⟩ : ∃ d r, words = d :: r := by cases words with | nil => exact absurd rfl hne | cons d r => exact ⟨d, r, rfl⟩
    exact rbytes_ins line pos size hn hnl hu (by omega) hv h2
  · rw [if_neg (by decide), if_pos rfl]
    exact rbytes_word line pos size hn hnl hu hv (by omega) hz
  · rw [if_neg (by decide), if_neg (by decide), if_pos rfl]
    exact rbytes_byte line pos size hn hnl hu hv (by omega) hz
  · rw [if_neg (by decide), if_neg (by decide), if_neg (by decide)]
    exact rbytes_zero line pos size (by omega)
/-- The bytes and what is placed, while all that was there before stays. -/
structure KP (W0 wr : World) (L B : Nat) (pl : Nat → Bool) (m : Nat → UInt8) : Prop where
  kb : Below W0.heap.size W0 wr
  lb : W0.heap.size ≤ L ∧ W0.heap.size ≤ B ∧ L ≠ B
  has : ∃ c, wr.heap[L]? = some (.cells c 4 (0, 0)) ∧ c.size = 16384 ∧ ∀ i, i < 16384 → c[i]? = some (.bool (pl i))
  mem : ∃ c, wr.heap[B]? = some (.cells c 5 (0, 0)) ∧ c.size = 16384 ∧ ∀ i, i < 16384 → c[i]? = some (.int .u8 (m i).toNat)
theorem KP.start {W0 : World} {cL cB : Array Value} (l1 : cL.size = 16384) (l2 : ∀ i, i < 16384 → cL[i]? = some (.bool false)) (b1 : cB.size = 16384) (b2 : ∀ i, i < 16384 → cB[i]? = some (.int .u8 0)) : KP W0 ((W0.alloc (.cells cL 4)).alloc (.cells cB 5)) W0.heap.size (W0.heap.size + 1) (AS.cov []) (fun _ => 0) := by
  refine ⟨below_two W0 _ _, ⟨Nat.le_refl _, by omega, by omega⟩, ⟨cL, (Below.heap_alloc _ _ _ (by simp)).trans (heap_alloc_new W0 _), l1, l2⟩, ⟨cB, ?_, b1, b2⟩⟩
  have := heap_alloc_new (W0.alloc (.cells cL 4)) (.cells cB 5)
  simpa using this
theorem KP.below {W0 wr w2 : World} {L B : Nat} {pl : Nat → Bool} {m : Nat → UInt8} (h : KP W0 wr L B pl m) (hb : Below wr.heap.size wr w2) : KP W0 w2 L B pl m := by
  obtain ⟨kb, lb, ⟨c, c1, c2⟩, ⟨d, d1, d2⟩⟩ := h
  exact ⟨kb.trans (hb.mono kb.size), lb, ⟨c, (hb.block _ (lt_of_heap c1)).trans c1, c2⟩, ⟨d, (hb.block _ (lt_of_heap d1)).trans d1, d2⟩⟩
theorem KP.place {W0 wr : World} {L B : Nat} {pl : Nat → Bool} {m : Nat → UInt8} (h : KP W0 wr L B pl m) (i : Nat) (hi : i < 16384) (b : Bool) : KP W0 (wr.setCell ⟨L, i, none⟩ (.bool b)) L B (fun j => if j = i then b else pl j) m := by
  obtain ⟨kb, lb, ⟨c, c1, c2, c3⟩, ⟨d, d1, d2⟩⟩ := h
  refine ⟨kb.setCell (by show W0.heap.size ≤ L; omega) _, lb, ⟨_, heap_set c1, by simp [c2], fun j hj => ?_⟩, ⟨d, (heap_other (by omega)).trans d1, d2⟩⟩
  rw [Array.getElem?_setIfInBounds]
  by_cases e : i = j
  · subst e; simp [c2, hi]
  · rw [if_neg e, if_neg (fun h => e h.symm)]; exact c3 j hj
theorem KP.wrote {W0 wr : World} {L B : Nat} {pl : Nat → Bool} {m : Nat → UInt8} (h : KP W0 wr L B pl m) (i : Nat) (hi : i < 16384) (b : UInt8) : KP W0 (wr.setCell ⟨B, i, none⟩ (.int .u8 b.toNat)) L B pl (fun j => if j = i then b else m j) := by
  obtain ⟨kb, lb, ⟨c, c1, c2⟩, ⟨d, d1, d2, d3⟩⟩ := h
  refine ⟨kb.setCell (by show W0.heap.size ≤ B; omega) _, lb, ⟨c, (heap_other (by omega)).trans c1, c2⟩, ⟨_, heap_set d1, by simp [d2], fun j hj => ?_⟩⟩
  rw [Array.getElem?_setIfInBounds]
  by_cases e : i = j
  · subst e; simp [d2, hi]
  · rw [if_neg e, if_neg (fun h => e h.symm)]; exact d3 j hj
theorem KP.pl_cell {W0 wr : World} {L B : Nat} {pl : Nat → Bool} {m : Nat → UInt8} (h : KP W0 wr L B pl m) (i : Nat) (hi : i < 16384) : wr.cell? ⟨L, i, none⟩ = some (.bool (pl i)) ∧ wr.frozen? ⟨L, i, none⟩ = false := by
  obtain ⟨c, c1, _, c3⟩ := h.has
  exact ⟨cell_of c1 (c3 i hi), unfrozen c1⟩
theorem KP.mem_cell {W0 wr : World} {L B : Nat} {pl : Nat → Bool} {m : Nat → UInt8} (h : KP W0 wr L B pl m) (i : Nat) (hi : i < 16384) : wr.cell? ⟨B, i, none⟩ = some (.int .u8 (m i).toNat) ∧ wr.frozen? ⟨B, i, none⟩ = false := by
  obtain ⟨c, c1, _, c3⟩ := h.mem
  exact ⟨cell_of c1 (c3 i hi), unfrozen c1⟩
/-- What is known behind the first going: the block of the answer, the block of the program, its rows. -/
structure A0 (w W : World) (P : Nat) (vi vn : Value) (p : Int) (xs : List (AS.It × Value)) (ns : List (List UInt8 × Nat)) : Prop where
  r0 : W.heap[w.heap.size]? = some (.cells #[.int .u32 0, .slice none 0 0] 26 (0, 0))
  pb : W.heap[P]? = some (.cells #[vi, vn, .int .i64 p] 70 (0, 0))
  rs : RS (w.heap.size + 1) W vi vn xs ns
  old : Below w.heap.size w W
theorem A0.below {w W W' : World} {P : Nat} {vi vn : Value} {p : Int} {xs : List (AS.It × Value)} {ns : List (List UInt8 × Nat)} (h : A0 w W P vi vn p xs ns) (hb : Below W.heap.size W W') : A0 w W' P vi vn p xs ns :=
  ⟨(hb.block _ (lt_of_heap h.r0)).trans h.r0, (hb.block _ (lt_of_heap h.pb)).trans h.pb, h.rs.below hb, h.old.trans (hb.mono h.old.size)⟩
theorem A0.start {w w1 : World} {vi vn : Value} {p : Int} {xs : List (AS.It × Value)} {ns : List (List UInt8 × Nat)} (hb : Below (w.alloc (.cells #[.int .u32 0, .slice none 0 0] 26)).heap.size (w.alloc (.cells #[.int .u32 0, .slice none 0 0] 26)) w1) (hr : RS (w.alloc (.cells #[.int .u32 0, .slice none 0 0] 26)).heap.size w1 vi vn xs ns) : A0 w (w1.alloc (.cells #[vi, vn, .int .i64 p] 70)) w1.heap.size vi vn p xs ns := by
  have e : (w.alloc (.cells #[.int .u32 0, .slice none 0 0] 26)).heap.size = w.heap.size + 1 := by simp
  rw [e] at hr
  have hb1 : Below w.heap.size w w1 := ((Below.refl _ w).alloc (Nat.le_refl _) _).trans (hb.mono (by omega))
  have hs := hb.size
  refine ⟨?_, heap_alloc_new w1 _, hr.below ((Below.refl _ w1).alloc (Nat.le_refl _) _), hb1.alloc hb1.size _⟩
  rw [Below.heap_alloc _ _ _ (by omega), hb.block _ (by omega)]
  exact heap_alloc_new w _
/-- The segments, the names, and the two blocks of the answer and of the image. -/
structure FX2 (w W : World) (I : Nat) (v nv : Value) (N : Nat) (ps : List (Nat × Value × List UInt8)) (ns : List (List UInt8 × Nat)) : Prop where
  sg : SG N W v ps
  nm : W.ownsRow (w.heap.size + 1) 57 2 nv ns.length (nmC ns)
  old : Below w.heap.size w W
  bi : w.heap.size ≤ I
  b0 : ∃ c f, W.heap[w.heap.size]? = some (.cells c 26 f)
  b1 : ∃ c f, W.heap[I]? = some (.cells c 26 f)
theorem FX2.set0 {w W : World} {I N : Nat} {v nv : Value} {ps : List (Nat × Value × List UInt8)} {ns : List (List UInt8 × Nat)} {o : Nat} {u : Value} (h : FX2 w W I v nv N ps ns) : FX2 w (W.setCell ⟨w.heap.size, o, none⟩ u) I v nv N ps ns := by
  obtain ⟨c, f, h0⟩ := h.b0
  obtain ⟨c', f', h1⟩ := h.b1
  refine ⟨h.sg.off h0 (by decide) _ _, own_keep h.nm fun k hk => ?_, h.old.setCell (Nat.le_refl _) _, h.bi, ⟨_, _, heap_set h0⟩, ?_⟩
  · obtain ⟨_, _, c2, h2⟩ := own_lt h.nm hk
    exact heap_other (kind_ne h2 h0 (by decide))
  · by_cases e : I = w.heap.size
    · rw [e]; exact ⟨_, _, heap_set h0⟩
    · exact ⟨_, _, (heap_other e).trans h1⟩
theorem FX2.set1 {w W : World} {I N : Nat} {v nv : Value} {ps : List (Nat × Value × List UInt8)} {ns : List (List UInt8 × Nat)} {o : Nat} {u : Value} (h : FX2 w W I v nv N ps ns) : FX2 w (W.setCell ⟨I, o, none⟩ u) I v nv N ps ns := by
  obtain ⟨c, f, h0⟩ := h.b0
  obtain ⟨c', f', h1⟩ := h.b1
  refine ⟨h.sg.off h1 (by decide) _ _, own_keep h.nm fun k hk => ?_, h.old.setCell h.bi _, h.bi, ?_, ⟨_, _, heap_set h1⟩⟩
  · obtain ⟨_, _, c2, h2⟩ := own_lt h.nm hk
    exact heap_other (kind_ne h2 h1 (by decide))
  · by_cases e : w.heap.size = I
    · rw [e]; exact ⟨_, _, heap_set h1⟩
    · exact ⟨_, _, (heap_other e).trans h0⟩
theorem FX2.drew {w W : World} {I N : Nat} {v nv : Value} {ps : List (Nat × Value × List UInt8)} {ns : List (List UInt8 × Nat)} (h : FX2 w W I v nv N ps ns) : FX2 w W.drew I v nv N ps ns := ⟨h.sg.below (Below.refl _ _).drew, own_keep h.nm fun _k _hk => rfl, h.old.drew, h.bi, h.b0, h.b1⟩
theorem FX2.end {w W : World} {I N : Nat} {v nv : Value} {ps : List (Nat × Value × List UInt8)} {ns : List (List UInt8 × Nat)} {A : AS.Ans} {l : List (Nat × List UInt8)} {s : Nat} (h : FX2 w W I v nv N ps ns) (hl : ps.map (fun p => (p.1, p.2.2)) = l) (hA : A = ⟨s, l, ns, 0, 0⟩) : AmPost w A (.returned (.tuple #[.agg #[.int .u32 s, v], nv, .int .i64 0, .int .i64 0])) W := by
  subst hA
  exact ⟨v, nv, rfl, h.old, SgR.of_sg h.sg hl, NmR.of_own h.nm⟩
theorem FX2.start {w W0 wr w6 : World} {P L B : Nat} {vi vn v : Value} {p : Int} {xs : List (AS.It × Value)} {ns : List (List UInt8 × Nat)} {ps : List (Nat × Value × List UInt8)} {pl : Nat → Bool} {m : Nat → UInt8} {l : List (Nat × List UInt8)} (h : A0 w W0 P vi vn p xs ns) (hk : KP W0 wr L B pl m) (hs : SJ wr w6 l v ps) :
    FX2 w (w6.alloc (.cells #[.int .u32 0, v] 26)) w6.heap.size v vn wr.heap.size ps ns ∧ (w6.alloc (.cells #[.int .u32 0, v] 26)).heap[w.heap.size]? = some (.cells #[.int .u32 0, .slice none 0 0] 26 (0, 0)) ∧ (w6.alloc (.cells #[.int .u32 0, v] 26)).heap[w6.heap.size]? = some (.cells #[.int .u32 0, v] 26 (0, 0)) ∧ (w6.alloc (.cells #[.int .u32 0, v] 26)).heap[P]? = some (.cells #[vi, vn, .int .i64 p] 70 (0, 0)) ∧ Below w6.heap.size w6 (w6.alloc (.cells #[.int .u32 0, v] 26)) ∧ NmR w6 vn ns := by
  have hb : Below W0.heap.size W0 w6 := hk.kb.trans (hs.old.mono hk.kb.size)
  have h6 := h.below hb
  have hal : Below w6.heap.size w6 (w6.alloc (.cells #[.int .u32 0, v] 26)) := (Below.refl _ w6).alloc (Nat.le_refl _) _
  have h7 := h6.below hal
  exact ⟨⟨hs.sg.below hal, h7.rs.nms, h7.old, h6.old.size, ⟨_, _, h7.r0⟩, ⟨_, _, heap_alloc_new w6 _⟩⟩, h7.r0, heap_alloc_new w6 _, h7.pb, hal, NmR.of_own h6.rs.nms⟩
end Go.Proofs.YtcnmnkgnaknpdaaGreatDoor
/-! RfT -/
namespace Go.Proofs.YtcnmnkgnaknpdaaGreatDoor
open Go.RowKit Go.Maps S02 S06 S07
theorem rasm_bad {w : World} (s : ByteArray) (hs : s.size ≤ 1000000) {E : Int} {k : Nat} {st : AS.St} (hF : AS.fst s.data.toList = (E, k, st)) (hE : ¬ E = 0) (hA : AS.asm s.data.toList = ⟨0, [], [], k, E⟩) :
    Calls Tryz.prog 10 #[.string s] w (AmPost w (AS.asm s.data.toList)) := by
  have HFi := Lib.hid (fun W => rfirst_any s W hs)
  rw [hF] at HFi
  rw [hA]
  have e1 : (E == 0) = false := by simp [hE]
  have e2 : (E != 0) = true := by simp [hE]
  clear hF hA hE hs
  go_enter Tryz.func10, Tryz.ntmps10
  go_upto_region 2 with (go_at_call 25; refine (HFi.out _).mono ?_; rintro e w1 ⟨vi, vn, P, rfl, ⟨a1, n1, c1, rfl⟩, ⟨a2, n2, c2, rfl⟩, hb1, hk1⟩; have HB1 := Lib.hid hb1; clear hb1 hk1)
  have HR1 : w1.heap[w.heap.size]? = some (.cells #[.int .u32 0, .slice none 0 0] 26 (0, 0)) := by
    rw [HB1.out.block _ (by simp)]
    exact heap_alloc_new w _
  have HO1 := Lib.hid (show Below w.heap.size w w1 from ((Below.refl _ w).alloc (Nat.le_refl _) _).trans (HB1.out.mono (by simp)))
  have HX : ∀ o1 o2, ((w1.alloc o1).alloc o2).heap[w.heap.size]? = some (.cells #[.int .u32 0, .slice none 0 0] 26 (0, 0)) := fun o1 o2 => by
    rw [Below.heap_alloc _ _ _ (by have := lt_of_heap HR1; simp; omega), Below.heap_alloc _ _ _ (lt_of_heap HR1)]
    exact HR1
  have r0 := fun o1 o2 => cell_of (o := 0) (HX o1 o2) rfl
  have r1 := fun o1 o2 => cell_of (o := 1) (HX o1 o2) rfl
  have rf := fun o1 o2 o => unfrozen (o := o) (HX o1 o2)
  clear HX
  clear HR1
  go_wp2
  refine bodyPost_ret (v := .tuple #[.agg #[.int .u32 0, .slice none 0 0], .slice (some ⟨w1.heap.size + 1, 0, none⟩) 0 0, .int .i64 k, .int .i64 E]) (by simp [results, Tryz.results10, go_sem, r0, r1]) rfl ?_
  exact ⟨_, _, rfl, below_set (below_set ((HO1.out.alloc HO1.out.size _).alloc (HO1.out.alloc HO1.out.size _).size _) (Nat.le_refl _) _) (Nat.le_refl _) _, .inl ⟨rfl, _, _, rfl⟩, .inl ⟨rfl, _, _, rfl⟩⟩
set_option maxRecDepth 20000 in
set_option maxHeartbeats 8000000 in
theorem rasm_ok {w : World} (s : ByteArray) (hs : s.size ≤ 1000000) {j : Nat} {st : AS.St} (hL : NM.lE s.data.toList = 0) (hF : AS.first (NM.lL s.data.toList) 0 ⟨[], 0, []⟩ = (0, j, st)) :
    Calls Tryz.prog 10 #[.string s] w (AmPost w (AS.asm s.data.toList)) := by
  have HFi := Lib.hid (fun W => rfirst_any s W hs)
  rw [show AS.fst s.data.toList = (0, j, st) by rw [AS.fst, if_pos hL]; exact hF] at HFi
  obtain ⟨hok, hu⟩ := AS.first_lL hF
  have HOk := Lib.hid hok
  have HU := Lib.hid hu
  have HA2 := Lib.hid (fun (E : Int) (k : Nat) (m : Nat → UInt8) (hG : AS.second st.names st.items (fun _ => 0) = (E, k, m)) (hE : ¬ E = 0) => AS.asm_2 hL hF hG hE)
  have HA3 := Lib.hid (fun (k : Nat) (m : Nat → UInt8) (hG : AS.second st.names st.items (fun _ => 0) = (0, k, m)) => AS.asm_3 hL hF hG)
  obtain ⟨A, hA⟩ : ∃ A, AS.asm s.data.toList = A := ⟨_, rfl⟩
  rw [hA] at HA2 HA3 ⊢
  obtain ⟨cB, b1, b2, hmB⟩ := made_u8
  obtain ⟨cL, l1, l2, hmL⟩ := made_bool
  have HKS := Lib.hid (fun W0 => KP.start (W0 := W0) l1 l2 b1 b2)
  clear hok hu hA hF hL hs b1 b2 l1 l2
  go_enter Tryz.func10, Tryz.ntmps10
  go_upto_region 2 with (go_at_call 25; refine (HFi.out _).mono ?_; rintro e w1 ⟨vi, vn, P, rfl, ⟨ia, n, ic, rfl⟩, ⟨na, nn, nc, rfl⟩, hb1, hk1⟩; have HB1 := Lib.hid hb1; have HK1 := Lib.hid (hk1 rfl); clear hb1 hk1)
  obtain ⟨xs, hxs, hrs⟩ := HK1.out
  have HXS := Lib.hid hxs
  have HA0 := Lib.hid (A0.start (p := P) HB1.out hrs)
  clear hxs hrs HK1 HB1 HFi
  obtain ⟨P0, hP0⟩ : ∃ P0, w1.heap.size = P0 := ⟨_, rfl⟩
  obtain ⟨W0, hW0⟩ : ∃ W0, w1.alloc (.cells #[.slice ia n ic, .slice na nn nc, .int .i64 P] 70) = W0 := ⟨_, rfl⟩
  rw [hW0, hP0] at HA0
  rw [hW0, hP0]
  clear hW0 hP0
  obtain rfl : n = xs.length := by
    obtain ⟨a, c, e⟩ := own_form HA0.out.rs.its
    injection e
  obtain ⟨n, hn⟩ : ∃ n, xs.length = n := ⟨_, rfl⟩
  have HN := Lib.hid hn
  rw [hn] at HA0 ⊢
  have HK0 := Lib.hid (HKS.out W0)
  clear hn HKS
  go_upto_region 6 with fail
  obtain ⟨L, hLe⟩ : ∃ L, W0.heap.size = L := ⟨_, rfl⟩
  obtain ⟨B, hBe⟩ : ∃ B, W0.heap.size + 1 = B := ⟨_, rfl⟩
  rw [hBe, hLe] at HK0
  rw [hBe, hLe]
  obtain ⟨WM, hWM⟩ : ∃ WM, (W0.alloc (.cells cL 4)).alloc (.cells cB 5) = WM := ⟨_, rfl⟩
  rw [hWM] at HK0 ⊢
  clear hBe hLe hWM hmB hmL
  have HNL := Lib.hid (show st.items.length = n by rw [← HXS.out, List.length_map]; exact HN.out)
  have hn13 : (n : Int) ≤ 9223372036854775807 := by
    have := HA0.out.rs.its.1
    rcases HA0.out.rs.its.2 with ⟨_, h⟩ | ⟨g, cap, cur, _, _, _, h3, h4, _⟩
    · rw [← HN.out]; omega
    · unfold maxLen at h4; rw [← HN.out]; omega
  go_wp2
  go_loopw [11] (fun i wr => ∃ k : Nat, k ≤ n ∧ i = .int .i64 k ∧ ∃ m, Hid (KP W0 wr L B (AS.cov (st.items.take k)) m) ∧ Hid (AS.second st.names st.items (fun _ => 0) = AS.second st.names (st.items.drop k) m)) (fun i _ => n - (intOf i).toNat)
  case atStart => exact ⟨0, by omega, rfl, _, HK0, Lib.hid rfl⟩
  case round =>
    obtain ⟨k, hk, rfl, m, hK, hS⟩ := hrel
    clear HK0
    have HA := Lib.hid (HA0.out.below hK.out.kb)
    have p0 := cell_of (o := 0) HA.out.pb rfl
    have p1 := cell_of (o := 1) HA.out.pb rfl
    by_cases hlt : (k : Int) < n
    · have hkl : k < xs.length := by rw [HN.out]; omega
      obtain ⟨⟨x, wv⟩, hp⟩ : ∃ p, xs[k]? = some p := ⟨_, List.getElem?_eq_getElem hkl⟩
      have hx : st.items[k]? = some x := by rw [← HXS.out, List.getElem?_map, hp]; rfl
      have HX := Lib.hid hx
      have hgd := HOk.out.its x (List.mem_of_getElem? hx)
      have hk4 : x.kind = 1 ∨ x.kind = 2 ∨ x.kind = 3 ∨ x.kind = 4 := by
        obtain ⟨_, _, h | h | h | h⟩ := hgd
        · exact .inl h.1
        · exact .inr (.inl h.1)
        · exact .inr (.inr (.inl h.1))
        · exact .inr (.inr (.inr h))
      obtain ⟨g, hg⟩ : ∃ g, ia = some ⟨g, 0, none⟩ := by
        rcases HA.out.rs.its.2 with ⟨h, h0⟩ | ⟨g, cap, cur, h, -⟩
        · omega
        · injection h with h1 _ _
          exact ⟨g, h1⟩
      subst hg
      have HOW : wr.ownsRow (w.heap.size + 1) 74 5 (.slice (some ⟨g, 0, none⟩) n ic) n (itC xs) := by have h := HA.out.rs.its; rw [HN.out] at h; exact h
      have htx := HA.out.rs.wds (x, wv) (List.mem_of_getElem? hp)
      obtain ⟨wa, wc, hwv⟩ := txr_len htx
      simp only at hwv htx
      obtain ⟨wl, hwl⟩ : ∃ wl, x.words.length = wl := ⟨_, rfl⟩
      rw [hwl] at hwv
      subst hwv
      obtain ⟨e0, e1, e2, e3, e4⟩ := itC_at xs k _ hp
      have z0 := (HOW.cellAt (k * 5) (by omega)).trans e0
      have z1 := (HOW.cellAt (k * 5 + 1) (by omega)).trans e1
      have z2 := (HOW.cellAt (k * 5 + 2) (by omega)).trans e2
      have z3 := (HOW.cellAt (k * 5 + 3) (by omega)).trans e3
      have z4 := (HOW.cellAt (k * 5 + 4) (by omega)).trans e4
      have HBy := Lib.hid (fun (W : World) (hb : Below wr.heap.size wr W) => rbytes_any hgd hk4 ((NmR.of_own HA.out.rs.nms).below hb) (by have := HOk.out.nms; omega) HU.out (htx.on hb))
      have HFull := Lib.hid (fun h0 => AS.itB_full (ns := st.names) hgd hk4 h0)
      have HPS := Lib.hid (show x.pos + x.size ≤ 16384 from hgd.1)
      have HOk2 := Lib.hid (fun (h0 : (AS.itB st.names x).1 = 0) => AS.second_ok (l := st.items.drop (k + 1)) (m := m) h0)
      have HBd2 := Lib.hid (fun (h0 : ¬ (AS.itB st.names x).1 = 0) => AS.second_bad (l := st.items.drop (k + 1)) (m := m) h0)
      have HDr := Lib.hid (AS.drop_at hx)
      have HCv := Lib.hid (fun a => AS.cov_take hx a)
      obtain ⟨E5, hE5⟩ : ∃ E, (AS.itB st.names x).1 = E := ⟨_, rfl⟩
      obtain ⟨b5, hb5'⟩ : ∃ b, (AS.itB st.names x).2 = b := ⟨_, rfl⟩
      rw [hE5, hb5'] at HBy HFull HOk2 
      rw [hE5] at HBd2
      obtain ⟨kd, hkd⟩ : ∃ a, x.kind = a := ⟨_, rfl⟩
      obtain ⟨ln, hln⟩ : ∃ a, x.line = a := ⟨_, rfl⟩
      obtain ⟨ps, hps⟩ : ∃ a, x.pos = a := ⟨_, rfl⟩
      obtain ⟨sz, hsz⟩ : ∃ a, x.size = a := ⟨_, rfl⟩
      simp only [hkd, hln, hps, hsz] at z0 z1 z2 z3 z4 HBy HFull HPS HOk2 HBd2 HCv
      have hps16 : (ps : Int) + sz ≤ 16384 := by have := HPS.out; omega
      have pa1 : ∀ ob, (wr.alloc ob).cell? ⟨P0, 1, none⟩ = _ := fun ob => cell_below ((Below.refl _ wr).alloc (Nat.le_refl _) ob) p1
      obtain ⟨S, hSS⟩ : ∃ S, wr.heap.size = S := ⟨_, rfl⟩
      have HSS := Lib.hid hSS
      have hal := fun ob => (Below.refl wr.heap.size wr).alloc (Nat.le_refl _) ob
      have HAL := Lib.hid hal
      have HNB := Lib.hid (fun ob => heap_alloc_new wr ob)
      clear hkl hp hx hgd hk4 HOW htx e0 e1 e2 e3 e4 hE5 hb5' hkd hln hps hsz hwl hal hSS
      go_upto_region 11 with (go_at_call 26; refine (HBy.out _ (HAL.out _)).mono ?_; rintro e w5 ⟨v5, rfl, ⟨a5, n5, c5, rfl⟩, hb5, hk5⟩; have HB5 := Lib.hid hb5; have HK5 := Lib.hid hk5; clear hb5 hk5)
      have hBX := (HB5.out.block _ (by rw [World.size_alloc, HSS.out]; exact Nat.lt_succ_self S)).trans (HSS.out ▸ HNB.out _)
      have HBX := Lib.hid hBX
      have HKP5 := Lib.hid ((hK.out.below (HAL.out _)).below HB5.out)
      have HA5 := Lib.hid (HA0.out.below HKP5.out.kb)
      have HS5 := Lib.hid (show ∀ q, (q = L ∨ q = B) → q < S from fun q hq => by
        obtain ⟨c, h1, _⟩ := hK.out.has
        obtain ⟨d, h2, _⟩ := hK.out.mem
        have h3 := lt_of_heap h1
        have h4 := lt_of_heap h2
        rw [HSS.out] at h3 h4
        rcases hq with rfl | rfl <;> assumption)
      rw [HSS.out]
      clear z0 z1 z2 z3 z4 p0 p1 pa1 HBy HNB HAL hBX hK
      by_cases hE : E5 = 0
      · subst hE
        have HBb := Lib.hid (HK5.out (by simp))
        have HLen := Lib.hid (HFull.out (by simp))
        clear HK5 HFull HBd2
        have hn5 : n5 = sz := by
          rcases HBb.out.1 with ⟨h, a, c, e⟩ | ⟨_, g', o', c', e, _⟩
          · injection e with _ e _; rw [e, ← HLen.out, h]; rfl
          · injection e with _ e _; rw [e]; exact HLen.out
        subst hn5
        go_wp2
        go_loopw [15] (fun j wx => ∃ t : Nat, t ≤ n5 ∧ j = .int .i64 t ∧ Hid (KP W0 wx L B (fun a => AS.cov (st.items.take k) a || (decide (ps ≤ a) && decide (a < ps + t))) (AS.wr m ps (b5.take t))) ∧ Hid (∀ q, q ≠ L → q ≠ B → wx.heap[q]? = w5.heap[q]?)) (fun j _ => n5 - (intOf j).toNat)
        case atStart =>
          refine ⟨0, by omega, rfl, Lib.hid ?_, Lib.hid fun q _ _ => rfl⟩
          rw [AS.wr_nil, show (fun a => AS.cov (st.items.take k) a || (decide (ps ≤ a) && decide (a < ps + 0))) = AS.cov (st.items.take k) from funext fun a => by
            rw [show (decide (ps ≤ a) && decide (a < ps + 0)) = false by rw [Bool.eq_false_iff]; intro h; simp at h; omega, Bool.or_false]]
          exact HKP5.out
        case round =>
          obtain ⟨t, ht, rfl, hKt, hOff⟩ := hrel
          have hSL : S ≠ L := by have := HS5.out L (.inl rfl); omega
          have hSB : S ≠ B := by have := HS5.out B (.inr rfl); omega
          have hbx := (hOff.out S hSL hSB).trans HBX.out
          have x2 := cell_of (o := 2) hbx rfl
          by_cases hlt2 : (t : Int) < n5
          · have htb : t < b5.length := by rw [HLen.out]; omega
            have hpt : ps + t < 16384 := by omega
            obtain ⟨g5, o5, rfl, y5, hg5⟩ : ∃ g o, a5 = some ⟨g, o, none⟩ ∧ w5.cell? ⟨g, o + t, none⟩ = some (.int .u8 (b5.getD t 0).toNat) ∧ S < g := by
              rcases HBb.out.1 with ⟨h, _⟩ | ⟨_, g', o', c', e, _, _, h3⟩
              · rw [h] at htb; simp at htb
              · injection e with e1 e2 e3
                subst e3
                refine ⟨g', o', e1, h3 t htb, ?_⟩
                have := HBb.out.2 g' o' n5 c5 (by rw [e1])
                rw [World.size_alloc, HSS.out] at this
                omega
            have hgL : g5 ≠ L := by have := HS5.out L (.inl rfl); omega
            have hgB : g5 ≠ B := by have := HS5.out B (.inr rfl); omega
            have y6 := (World.cell?_of_block (w := w5) (a := ⟨g5, o5 + t, none⟩) (hOff.out g5 hgL hgB)).trans y5
            obtain ⟨l0, lf⟩ := hKt.out.pl_cell (ps + t) hpt
            have HPl := Lib.hid (hKt.out.place (ps + t) hpt true)
            have HTK := Lib.hid (AS.wr_take (m := m) (a := ps) htb)
            obtain ⟨bb, hbb⟩ : ∃ bb, b5.getD t 0 = bb := ⟨_, rfl⟩
            rw [hbb] at y6 HTK
            clear y5 hbb htb
            have hpt' : (ps : Int) + t < 16384 := by omega
            go_upto_region 17 with fail
            obtain ⟨W7, hW7⟩ : ∃ W7, wr.setCell ⟨L, ps + t, none⟩ (.bool true) = W7 := ⟨_, rfl⟩
            rw [hW7] at HPl ⊢
            have HOff7 := Lib.hid (show ∀ q, q ≠ L → q ≠ B → W7.heap[q]? = w5.heap[q]? from fun q h1 h2 => by rw [← hW7, heap_other h1]; exact hOff.out q h1 h2)
            have x7 := cell_of (o := 2) ((HOff7.out S hSL hSB).trans HBX.out) rfl
            have y7 : W7.cell? ⟨g5, o5 + t, none⟩ = some (.int .u8 bb.toNat) := by
              rw [← y6]
              exact (World.cell?_of_block (w := w5) (a := ⟨g5, o5 + t, none⟩) (HOff7.out g5 hgL hgB)).trans (World.cell?_of_block (w := w5) (a := ⟨g5, o5 + t, none⟩) (hOff.out g5 hgL hgB)).symm
            obtain ⟨m0, mf⟩ := HPl.out.mem_cell (ps + t) hpt
            have HWr := Lib.hid (HPl.out.wrote (ps + t) hpt bb)
            have HOff8 := Lib.hid (show ∀ q, q ≠ L → q ≠ B → (W7.setCell ⟨B, ps + t, none⟩ (.int .u8 bb.toNat)).heap[q]? = w5.heap[q]? from fun q h1 h2 => by rw [heap_other h2]; exact HOff7.out q h1 h2)
            clear hW7 l0 lf x2 y6 hbx hKt hOff hgL hgB hSL hSB hg5
            go_region
            all_goals
              go_wp2
              go_roundw
              case rel =>
                refine ⟨t + 1, by omega, by go_num, Lib.hid ?_, HOff8⟩
                have h := HWr.out
                rw [HTK.out] at h
                rw [show (fun a => AS.cov (st.items.take k) a || (decide (ps ≤ a) && decide (a < ps + (t + 1)))) = (fun j => if j = ps + t then true else AS.cov (st.items.take k) j || (decide (ps ≤ j) && decide (j < ps + t))) from funext fun a => by
                  by_cases e : a = ps + t
                  · subst e; rw [if_pos rfl]; simp
                  · rw [if_neg e, show (decide (ps ≤ a) && decide (a < ps + (t + 1))) = (decide (ps ≤ a) && decide (a < ps + t)) from by rw [Bool.eq_iff_iff]; simp; omega]]
                exact h.below (Below.refl _ _).drew
              case measure => simp [intOf]; omega
          · obtain rfl : t = n5 := by omega
            have HNext := Lib.hid (show KP W0 wr L B (AS.cov (st.items.take (k + 1))) (AS.wr m ps b5) by
              have h := hKt.out
              rw [show b5.take t = b5 by rw [← HLen.out, List.take_length], show (fun a => AS.cov (st.items.take k) a || (decide (ps ≤ a) && decide (a < ps + t))) = AS.cov (st.items.take (k + 1)) from funext fun a => (HCv.out a).symm] at h
              exact h)
            have HSec := Lib.hid (hS.out.trans ((congrArg (fun l => AS.second st.names l m) HDr.out).trans (HOk2.out (by simp))))
            clear hlt2
            go_wp2
            go_roundw
            case rel => exact ⟨k + 1, by omega, by go_num, _, HNext, HSec⟩
            case measure => simp [intOf]; omega
      · have q1 : (E5 == 0) = false := by simp [hE]
        have q2 : (E5 != 0) = true := by simp [hE]
        have HE := Lib.hid hE
        have HRes := Lib.hid (HA2.out E5 ln m (hS.out.trans ((congrArg (fun l => AS.second st.names l m) HDr.out).trans (HBd2.out hE))) hE)
        have hr0 := HA5.out.r0
        have x1 := cell_of (o := 1) HBX.out rfl
        have x1a : ∀ ob, (w5.alloc ob).cell? ⟨S, 1, none⟩ = _ := fun ob => cell_below ((Below.refl _ w5).alloc (Nat.le_refl _) ob) x1
        have hra : ∀ ob, (w5.alloc ob).heap[w.heap.size]? = some (.cells #[.int .u32 0, .slice none 0 0] 26 (0, 0)) := fun ob => (Below.heap_alloc _ _ _ (lt_of_heap hr0)).trans hr0
        have r0 := cell_of (o := 0) hr0 rfl
        have r1 := cell_of (o := 1) hr0 rfl
        have rf := fun o => unfrozen (o := o) hr0
        have r0a := fun ob => cell_of (o := 0) (hra ob) rfl
        have r1a := fun ob => cell_of (o := 1) (hra ob) rfl
        have rfa := fun ob o => unfrozen (o := o) (hra ob)
        have HO5 := Lib.hid HA5.out.old
        have hSw : w.heap.size ≠ S := by
          have := lt_of_heap HA.out.r0
          rw [HSS.out] at this
          omega
        have n1 : (w.heap.size == S) = false := by simp [hSw]
        have n2 : (S == w.heap.size) = false := by simp; exact fun h => hSw h.symm
        have n3 : ¬ S = w.heap.size := fun h => hSw h.symm
        have hS9 : ∀ u v, ((w5.setCell ⟨w.heap.size, 0, none⟩ u).setCell ⟨w.heap.size, 1, none⟩ v).heap[S]? = _ := fun u v => (heap_other n3).trans ((heap_other n3).trans HBX.out)
        have x1s := fun u v => cell_of (o := 1) (hS9 u v) rfl
        have x1sa := fun u v ob => cell_of (o := 1) ((Below.heap_alloc _ ob _ (lt_of_heap (hS9 u v))).trans (hS9 u v)) rfl
        have hW9 : ∀ u v, ((w5.setCell ⟨w.heap.size, 0, none⟩ u).setCell ⟨w.heap.size, 1, none⟩ v).heap[w.heap.size]? = some (.cells #[u, v] 26 (0, 0)) := fun u v => heap_set (heap_set hr0)
        have r0sa := fun u v ob => cell_of (o := 0) ((Below.heap_alloc _ ob _ (lt_of_heap (hW9 u v))).trans (hW9 u v)) rfl
        have r1sa := fun u v ob => cell_of (o := 1) ((Below.heap_alloc _ ob _ (lt_of_heap (hW9 u v))).trans (hW9 u v)) rfl
        clear hS9 hW9
        clear hE hr0 hra HKP5 HK5 HFull
        go_upto_region 12 with fail
        go_region
        all_goals
          go_wp2
          refine bodyPost_ret (v := .tuple #[.agg #[.int .u32 0, .slice none 0 0], .slice (some ⟨w5.heap.size, 0, none⟩) 0 0, .int .i64 ln, .int .i64 E5]) (by simp [results, Tryz.results10, go_sem, r0a, r1a, r0sa, r1sa]) rfl ?_
          rw [HRes.out]
          refine ⟨_, _, rfl, ?_, .inl ⟨rfl, _, _, rfl⟩, .inl ⟨rfl, _, _, rfl⟩⟩
          first
            | exact below_set (below_set ((HO5.out.alloc HO5.out.size _).drew) (Nat.le_refl _) _) (Nat.le_refl _) _
            | exact below_set (below_set (HO5.out.drew.alloc HO5.out.drew.size _) (Nat.le_refl _) _) (Nat.le_refl _) _
            | exact (below_set (below_set HO5.out.drew (Nat.le_refl _) _) (Nat.le_refl _) _).alloc (by simp; exact HO5.out.size) _
    · obtain rfl : k = n := by omega
      have HCn := Lib.hid (show st.items.take k = st.items by rw [← HNL.out, List.take_length])
      rw [HCn.out] at hK
      have HG := Lib.hid (show AS.second st.names st.items (fun _ => 0) = (0, 0, m) by rw [hS.out, show st.items.drop k = [] by rw [← HNL.out, List.drop_length]]; rfl)
      have HRes := Lib.hid (HA3.out 0 m HG.out)
      have HSg := Lib.hid (rsegs_any (fun i hi => (hK.out.pl_cell i hi).1) (fun i hi => (hK.out.mem_cell i hi).1))
      obtain ⟨sl, hsl⟩ : ∃ sl, AS.segs (AS.cov st.items) m 16384 = sl := ⟨_, rfl⟩
      have HSL := Lib.hid (show sl.length ≤ 16384 from hsl ▸ (AS.segs_len (AS.cov st.items) m 16384).1)
      rw [hsl] at HSg HRes
      clear hsl hlt hS HCn HG
      go_upto_region 19 with (go_at_call 27; go_loud (refine HSg.out.mono ?_; rintro e w6 ⟨v6, ps6, rfl, hs6⟩; have HS6 := Lib.hid hs6; obtain ⟨a6, c6, rfl⟩ := hs6.form; clear hs6))
      obtain ⟨hF, h0, hI, hP, hal, hNm⟩ := FX2.start HA0.out hK.out HS6.out
      obtain ⟨n6, hn6⟩ : ∃ n6, ps6.length = n6 := ⟨_, rfl⟩
      have HN6 := Lib.hid hn6
      rw [hn6] at hF h0 hI hP hal
      rw [hn6]
      have HF := Lib.hid hF
      obtain ⟨I, hI'⟩ : ∃ I, w6.heap.size = I := ⟨_, rfl⟩
      obtain ⟨W7, hW7⟩ : ∃ W7, w6.alloc (.cells #[.int .u32 0, .slice a6 n6 c6] 26) = W7 := ⟨_, rfl⟩
      rw [hW7] at HF h0 hI hP
      rw [hI'] at HF hI
      rw [hW7] at hal
      rw [hW7, hI']
      have hIw : I ≠ w.heap.size := by
        rintro rfl
        have := lt_of_heap HA.out.r0
        have h2 := HS6.out.old.size
        omega
      have hIP : I ≠ P0 := by
        rintro rfl
        have := lt_of_heap HA.out.pb
        have h2 := HS6.out.old.size
        omega
      have HSp := Lib.hid (show ps6.map (fun p => (p.1, p.2.2)) = sl from HS6.out.sp)
      have HNB := Lib.hid (show st.names.length ≤ 1000000 by have := HOk.out.nms; omega)
      have hn6b : (n6 : Int) ≤ 16384 := by
        have h1 := HSL.out
        rw [← HSp.out, List.length_map, HN6.out] at h1
        omega
      have hwP : w.heap.size ≠ P0 := kind_ne HA.out.r0 HA.out.pb (by decide)
      have n1 : (I == w.heap.size) = false := by simp [hIw]
      have n2 : (I == P0) = false := by simp [hIP]
      have n3 : (w.heap.size == I) = false := by simp; exact fun h => hIw h.symm
      have n4 : (P0 == I) = false := by simp; exact fun h => hIP h.symm
      have n5 : ¬ P0 = I := fun h => hIP h.symm
      have n6' : ¬ w.heap.size = I := fun h => hIw h.symm
      have n7 : (w.heap.size == P0) = false := by simp [hwP]
      have n8 : (P0 == w.heap.size) = false := by simp; exact fun h => hwP h.symm
      have n9 : ¬ P0 = w.heap.size := fun h => hwP h.symm
      have c0 := cell_of (o := 0) hI rfl
      have c1 := cell_of (o := 1) hI rfl
      have cf := fun o => unfrozen (o := o) hI
      have d1 := cell_of (o := 1) hP rfl
      have H0 := Lib.hid h0
      have HI := Lib.hid hI
      have HP := Lib.hid hP
      have HSg7 := Lib.hid (HS6.out.sg.below hal)
      clear hF hW7 hI' hal hNm h0 hI hP hn6 HSg p0 p1
      obtain ⟨qs6, hps6⟩ : ∃ q, ps6 = q := ⟨_, rfl⟩
      cases qs6 with
      | nil =>
        obtain rfl : n6 = 0 := by rw [← HN6.out, hps6]; rfl
        cases hf : AS.fnd st.names AS.tStart with
        | none =>
          have HFd := Lib.hid (rfind_any (w := W7) ⟨#[115, 116, 97, 114, 116]⟩ (NmR.of_own HF.out.nm) HNB.out)
          rw [show (⟨#[115, 116, 97, 114, 116]⟩ : ByteArray).data.toList = AS.tStart from rfl, hf] at HFd
          have HSt := Lib.hid (show AS.start st.names sl = (0 : Nat) by unfold AS.start; rw [hf, show sl = [] by rw [← HSp.out, hps6]; rfl])
          have HFx := Lib.hid (HF.out)
          clear hf hps6
          go_upto_region 24 with (go_at_call 28; refine HFd.out.mono ?_; rintro e w8 ⟨rfl, rfl⟩)
          have hIM := HI.out
          have hPB := HP.out
          have hR0 := H0.out
          have b0 := cell_of (o := 0) hIM rfl
          have b1 := cell_of (o := 1) hIM rfl
          have q1 := cell_of (o := 1) hPB rfl
          have r0 := cell_of (o := 0) hR0 rfl
          have r1 := cell_of (o := 1) hR0 rfl
          have rf := fun o => unfrozen (o := o) hR0
          clear c0 c1 cf d1
          go_region
          all_goals
            go_wp2
            refine bodyPost_ret (v := .tuple #[.agg #[.int .u32 (0 : Nat), .slice a6 0 c6], .slice na nn nc, .int .i64 0, .int .i64 0]) (by simp [results, Tryz.results10, go_sem, r0, r1]) rfl ?_
            exact HFx.out.drew.set0.set0.end HSp.out (by rw [HRes.out, HSt.out])
        | some u =>
          have HFd := Lib.hid (rfind_any (w := W7) ⟨#[115, 116, 97, 114, 116]⟩ (NmR.of_own HF.out.nm) HNB.out)
          rw [show (⟨#[115, 116, 97, 114, 116]⟩ : ByteArray).data.toList = AS.tStart from rfl, hf] at HFd
          have HSt := Lib.hid (show AS.start st.names sl = u by unfold AS.start; rw [hf])
          have HFx := Lib.hid ((HF.out.set1 (o := 0) (u := .int .u32 u)))
          clear hf hps6
          go_upto_region 24 with (go_at_call 28; refine HFd.out.mono ?_; rintro e w8 ⟨rfl, rfl⟩)
          obtain ⟨W8, hW8⟩ : ∃ W8, W7.setCell ⟨I, 0, none⟩ (.int .u32 u) = W8 := ⟨_, rfl⟩
          have hIM : W8.heap[I]? = _ := hW8 ▸ heap_set HI.out
          have hPB : W8.heap[P0]? = _ := (hW8 ▸ heap_other (fun h => hIP h.symm) : W8.heap[P0]? = W7.heap[P0]?).trans HP.out
          have hR0 : W8.heap[w.heap.size]? = _ := (hW8 ▸ heap_other (fun h => hIw h.symm) : W8.heap[w.heap.size]? = W7.heap[w.heap.size]?).trans H0.out
          rw [hW8] at HFx ⊢
          clear hW8
          have b0 := cell_of (o := 0) hIM rfl
          have b1 := cell_of (o := 1) hIM rfl
          have q1 := cell_of (o := 1) hPB rfl
          have r0 := cell_of (o := 0) hR0 rfl
          have r1 := cell_of (o := 1) hR0 rfl
          have rf := fun o => unfrozen (o := o) hR0
          clear c0 c1 cf d1
          go_region
          all_goals
            go_wp2
            refine bodyPost_ret (v := .tuple #[.agg #[.int .u32 u, .slice a6 0 c6], .slice na nn nc, .int .i64 0, .int .i64 0]) (by simp [results, Tryz.results10, go_sem, r0, r1]) rfl ?_
            exact HFx.out.drew.set0.set0.end HSp.out (by rw [HRes.out, HSt.out])
      | cons q6 r6 =>
        obtain ⟨p0, p1, p2⟩ := q6
        have hn1 : (0 : Int) < n6 := by have := HN6.out; rw [hps6] at this; simp at this; omega
        have hn1' : decide (0 < n6) = true := by simp; omega
        obtain ⟨g6, cc, e, -, -⟩ := HSg7.out.lies (by rw [hps6]; simp)
        injection e with e1 e2 e3
        subst e1 e3
        obtain ⟨g0, -, -⟩ := HSg7.out.cell rfl (j := 0) (p := (p0, p1, p2)) (by rw [hps6]; rfl)
        rw [Nat.mul_zero] at g0
        have g0 : W7.cell? ⟨g6, 0, none⟩ = some (.int .u32 p0) := g0
        clear e2
        cases hf : AS.fnd st.names AS.tStart with
        | none =>
          have HFd := Lib.hid (rfind_any (w := (W7.setCell ⟨I, 0, none⟩ (.int .u32 p0))) ⟨#[115, 116, 97, 114, 116]⟩ (NmR.of_own (HF.out.set1 (o := 0) (u := .int .u32 p0)).nm) HNB.out)
          rw [show (⟨#[115, 116, 97, 114, 116]⟩ : ByteArray).data.toList = AS.tStart from rfl, hf] at HFd
          have HSt := Lib.hid (show AS.start st.names sl = p0 by unfold AS.start; rw [hf, show sl = (p0, p2) :: r6.map (fun p => (p.1, p.2.2)) by rw [← HSp.out, hps6]; rfl])
          have HFx := Lib.hid ((HF.out.set1 (o := 0) (u := .int .u32 p0)))
          clear hf hps6
          go_upto_region 24 with (go_at_call 28; refine HFd.out.mono ?_; rintro e w8 ⟨rfl, rfl⟩)
          obtain ⟨W8, hW8⟩ : ∃ W8, W7.setCell ⟨I, 0, none⟩ (.int .u32 p0) = W8 := ⟨_, rfl⟩
          have hIM : W8.heap[I]? = _ := hW8 ▸ heap_set HI.out
          have hPB : W8.heap[P0]? = _ := (hW8 ▸ heap_other (fun h => hIP h.symm) : W8.heap[P0]? = W7.heap[P0]?).trans HP.out
          have hR0 : W8.heap[w.heap.size]? = _ := (hW8 ▸ heap_other (fun h => hIw h.symm) : W8.heap[w.heap.size]? = W7.heap[w.heap.size]?).trans H0.out
          rw [hW8] at HFx ⊢
          clear hW8
          have b0 := cell_of (o := 0) hIM rfl
          have b1 := cell_of (o := 1) hIM rfl
          have q1 := cell_of (o := 1) hPB rfl
          have r0 := cell_of (o := 0) hR0 rfl
          have r1 := cell_of (o := 1) hR0 rfl
          have rf := fun o => unfrozen (o := o) hR0
          clear c0 c1 cf d1
          go_region
          all_goals
            go_wp2
            refine bodyPost_ret (v := .tuple #[.agg #[.int .u32 p0, .slice (some ⟨g6, 0, none⟩) n6 c6], .slice na nn nc, .int .i64 0, .int .i64 0]) (by simp [results, Tryz.results10, go_sem, r0, r1]) rfl ?_
            exact HFx.out.drew.set0.set0.end HSp.out (by rw [HRes.out, HSt.out])
        | some u =>
          have HFd := Lib.hid (rfind_any (w := (W7.setCell ⟨I, 0, none⟩ (.int .u32 p0))) ⟨#[115, 116, 97, 114, 116]⟩ (NmR.of_own (HF.out.set1 (o := 0) (u := .int .u32 p0)).nm) HNB.out)
          rw [show (⟨#[115, 116, 97, 114, 116]⟩ : ByteArray).data.toList = AS.tStart from rfl, hf] at HFd
          have HSt := Lib.hid (show AS.start st.names sl = u by unfold AS.start; rw [hf])
          have HFx := Lib.hid (((HF.out.set1 (o := 0) (u := .int .u32 p0)).set1 (o := 0) (u := .int .u32 u)))
          clear hf hps6
          go_upto_region 24 with (go_at_call 28; refine HFd.out.mono ?_; rintro e w8 ⟨rfl, rfl⟩)
          obtain ⟨W8, hW8⟩ : ∃ W8, (W7.setCell ⟨I, 0, none⟩ (.int .u32 p0)).setCell ⟨I, 0, none⟩ (.int .u32 u) = W8 := ⟨_, rfl⟩
          have hIM : W8.heap[I]? = _ := hW8 ▸ heap_set (heap_set HI.out)
          have hPB : W8.heap[P0]? = _ := (hW8 ▸ (heap_other (fun h => hIP h.symm)).trans (heap_other (fun h => hIP h.symm)) : W8.heap[P0]? = W7.heap[P0]?).trans HP.out
          have hR0 : W8.heap[w.heap.size]? = _ := (hW8 ▸ (heap_other (fun h => hIw h.symm)).trans (heap_other (fun h => hIw h.symm)) : W8.heap[w.heap.size]? = W7.heap[w.heap.size]?).trans H0.out
          rw [hW8] at HFx ⊢
          clear hW8
          have b0 := cell_of (o := 0) hIM rfl
          have b1 := cell_of (o := 1) hIM rfl
          have q1 := cell_of (o := 1) hPB rfl
          have r0 := cell_of (o := 0) hR0 rfl
          have r1 := cell_of (o := 1) hR0 rfl
          have rf := fun o => unfrozen (o := o) hR0
          clear c0 c1 cf d1
          go_region
          all_goals
            go_wp2
            refine bodyPost_ret (v := .tuple #[.agg #[.int .u32 u, .slice (some ⟨g6, 0, none⟩) n6 c6], .slice na nn nc, .int .i64 0, .int .i64 0]) (by simp [results, Tryz.results10, go_sem, r0, r1]) rfl ?_
            exact HFx.out.drew.set0.set0.end HSp.out (by rw [HRes.out, HSt.out])
theorem rasm_any (s : ByteArray) (w : World) (hs : s.size ≤ 1000000) : Calls Tryz.prog 10 #[.string s] w (AmPost w (AS.asm s.data.toList)) := by
  by_cases hL : NM.lE s.data.toList = 0
  · obtain ⟨E, k, st, hF⟩ : ∃ E k st, AS.first (NM.lL s.data.toList) 0 ⟨[], 0, []⟩ = (E, k, st) := ⟨_, _, _, rfl⟩
    by_cases hE : E = 0
    · subst hE
      exact rasm_ok s hs hL hF
    · exact rasm_bad s hs (by rw [AS.fst, if_pos hL]; exact hF) hE (AS.asm_1 hL hF hE)
  · exact rasm_bad s hs (show AS.fst s.data.toList = (NM.lE s.data.toList, 0, ⟨[], 0, []⟩) by rw [AS.fst, if_neg hL]) hL (AS.asm_0 hL)
end Go.Proofs.YtcnmnkgnaknpdaaGreatDoor
