/-
  The law on joined words and lines: it returns true for every list of texts and every separator, and leaves all that was in memory as it was, where the library's tables are as their texts lay them.
-/
import Derived.Test.YtfeekgepmemanaaDoorWalkQ
import Derived.Test.YtfeekgepmemanaaDoorWalkN
import Derived.Test.YtfeekgepmemanaaDoorWalkG
import Derived.SliceStrings
import Derived.ProofKit
import Derived.OpenShut
namespace Go.Proofs.YtfeekgepmemanaaDoor
open Go.ChangeShapes Go.WideShapes Go.ChangeAt Go.RowKit
/-- A slice of texts that came in: its elements are the list's. -/
def ArgTexts (w : World) (a : Option Addr) (len : Nat) (xs : List ByteArray) : Prop :=
  xs.length = len ∧ (len = 0 ∨ ∃ g off, a = some ⟨g, off, none⟩ ∧ ∀ i, i < len → w.cell? ⟨g, off + i, none⟩ = some (.string (xs.getD i ByteArray.empty)))
theorem cells9 : Tryd.prog.cellsOf 9 = 1 := by kernel_rfl
theorem arg_texts {H : Type} {enc : TypeId × Value → H} {W : World} {a : Option Addr} {len cap : Nat} {d : DataW H} {p : List MemPlace}
    (h : DataW.Trod enc Tryd.prog W 0 (fun _ => true) true 34 (.slice a len cap) d p) : ∃ l, ArgTexts W a len l := by
  obtain ⟨fuel, hf⟩ := h
  rcases open_strings Tryd.underlying34 Tryd.underlying9 cells9 hf with ⟨hcs, _⟩ | ⟨x, l, c, ss, hcs, _, hl, hm, hz, _, hcell, _⟩
  · simp [Value.cells] at hcs
    obtain ⟨rfl, rfl, rfl⟩ := hcs
    exact ⟨[], rfl, .inl rfl⟩
  · simp [Value.cells] at hcs
    obtain ⟨rfl, rfl, rfl⟩ := hcs
    have hz' : ss.length = cap := by simpa using hz
    refine ⟨ss.take len, by simp; omega, ?_⟩
    by_cases h0 : len = 0
    · exact .inl h0
    · right
      obtain ⟨b, off, spot⟩ := x
      have hspot : spot = none := by simpa [Addr.add] using World.cell?_spot (hcell 0 (by omega))
      subst hspot
      refine ⟨b, off, rfl, fun i hi => ?_⟩
      have h1 := hcell i (by omega)
      rw [Lib.add_plain] at h1
      rw [h1]
      simp [List.getD_eq_getElem?_getD, hi]
/-- Two rows of texts that the call owns, apart from each other. -/
def Two (w wr : World) (v6 v7 : Value) (p q : List (List UInt8)) : Prop := Row w wr v6 p ∧ Row w wr v7 q ∧ v6.ownBlock ≠ v7.ownBlock
theorem own_kept {wr w1 : World} {o : Obj} {row : Option Nat} {B n : Nat} {v : Value} {xs : List Value} (h : wr.ownsRow B 9 1 v n xs) (hg : (wr.alloc o).grownBy w1 row) (hne : v.ownBlock ≠ row) : w1.ownsRow B 9 1 v n xs := by
  refine ⟨h.1, ?_⟩
  have hlt := h.lt
  rcases h.2 with h' | ⟨g, cap, cur, rfl, h1, h2, h3⟩
  · exact .inl h'
  · refine .inr ⟨g, cap, cur, rfl, h1, ?_, h3⟩
    have hl := (hlt g rfl).2
    rw [hg.block g (by simp; omega) hne, Below.heap_alloc wr o g hl]
    exact h2
theorem new_ne {wr : World} {B n : Nat} {v v' v0 : Value} {xs : List Value} (h : wr.ownsRow B 9 1 v n xs) (h0 : v0.ownBlock ≠ v.ownBlock) (hat : v'.ownBlock = v0.ownBlock ∨ v'.ownBlock = some (wr.heap.size + 1)) : v'.ownBlock ≠ v.ownBlock := by
  rcases hat with e | e
  · rw [e]; exact h0
  · rw [e]
    intro e2
    have := (h.lt _ e2.symm).2
    omega
theorem Two.left {w wr w1 : World} {v6 v7 v' x : Value} {p q : List (List UInt8)} {y : List UInt8} {o : Obj} (h : Two w wr v6 v7 p q) (hx : x = NM.tv y)
    (hown : w1.ownsRow w.heap.size 9 1 v' (p.length + 1) (p.map NM.tv ++ [x])) (hg : (wr.alloc o).grownBy w1 v6.ownBlock) (hat : v'.ownBlock = v6.ownBlock ∨ v'.ownBlock = some (wr.heap.size + 1)) : Two w w1 v' v7 (p ++ [y]) q :=
  have r := h.1.app hx hown hg
  ⟨r, ⟨own_kept h.2.1.1 hg (Ne.symm h.2.2), r.2⟩, new_ne h.2.1.1 h.2.2 hat⟩
theorem Two.right {w wr w1 : World} {v6 v7 v' x : Value} {p q : List (List UInt8)} {y : List UInt8} {o : Obj} (h : Two w wr v6 v7 p q) (hx : x = NM.tv y)
    (hown : w1.ownsRow w.heap.size 9 1 v' (q.length + 1) (q.map NM.tv ++ [x])) (hg : (wr.alloc o).grownBy w1 v7.ownBlock) (hat : v'.ownBlock = v7.ownBlock ∨ v'.ownBlock = some (wr.heap.size + 1)) : Two w w1 v6 v' p (q ++ [y]) :=
  have r := h.2.1.app hx hown hg
  ⟨⟨own_kept h.1.1 hg h.2.2, r.2⟩, r, Ne.symm (new_ne h.1.1 (Ne.symm h.2.2) hat)⟩
theorem Two.start (w : World) : Two w ((w.alloc (.cells #[] 9)).alloc (.cells #[] 9)) (.slice (some ⟨w.heap.size, 0, none⟩) 0 0) (.slice (some ⟨w.heap.size + 1, 0, none⟩) 0 0) [] [] := by
  have b1 := (Below.refl w.heap.size w).alloc (Nat.le_refl _) (.cells #[] 9)
  have b2 := b1.alloc (by simp) (.cells #[] 9)
  refine ⟨⟨(Row.start w).1.alloc _, b2⟩, ⟨?_, b2⟩, by simp [Value.ownBlock]⟩
  have := World.ownsRow_lit (base := w.heap.size) (e := 9) (size := 1) (w.alloc (.cells #[] 9)) #[] 0 (by simp) (by unfold maxLen; omega) rfl
  simpa using this
theorem tv_self (x : ByteArray) : Value.string x = NM.tv x.data.toList := rfl
/-- What stands between the words. -/
def Gap (G : ByteArray) : Prop := (∀ c ∈ G.data.toList, NM.sepB c = true) ∧ G.data.toList ≠ [] ∧ G.size ≤ 2
theorem gap0 : Gap ⟨#[32]⟩ := ⟨by decide, by decide, by decide⟩
theorem gap1 : Gap ⟨#[44, 32]⟩ := ⟨by decide, by decide, by decide⟩
theorem gap2 : Gap ⟨#[9]⟩ := ⟨by decide, by decide, by decide⟩
theorem gap3 : Gap ⟨#[44, 44]⟩ := ⟨by decide, by decide, by decide⟩
theorem Gap.start {G : ByteArray} (h : Gap G) : NM.Sw G.data.toList [] := by
  have := NM.Sw.gap (l := []) (acc := []) rfl G.data.toList h.1
  rwa [List.nil_append] at this
theorem app_data3 (A x G : ByteArray) : (A ++ x ++ G).data.toList = A.data.toList ++ x.data.toList ++ G.data.toList := by rw [NM.data_app, NM.data_app]
theorem app_size3 (A x G : ByteArray) : (A ++ x ++ G).size = A.size + x.size + G.size := by rw [ByteArray.size_append, ByteArray.size_append]
set_option maxHeartbeats 1600000 in
set_option maxRecDepth 100000 in
theorem joined_some (g off n c : Nat) (b : Int) (xs : List ByteArray) (w : World) (hn : n ≤ 40) (hb0 : 0 ≤ b) (hb1 : b < 256) (hcell : Hid (∀ i, i < n → w.cell? ⟨g, off + i, none⟩ = some (.string (xs.getD i ByteArray.empty)))) (ht : Tabs w) :
    Calls Tryd.prog 8 #[.slice (some ⟨g, off, none⟩) n c, .int .u8 b] w fun e w' => e = .returned (.bool true) ∧ Below w.heap.size w w' := by
  have HT := Lib.hid ht
  clear ht
  obtain ⟨i0, HI⟩ := info_parts str_info
  have HI := Lib.hid HI
  have hn' : decide (40 < (n : Int)) = false := by simp only [decide_eq_false_iff_not]; omega
  have hcases : b % 4 = 0 ∨ b % 4 = 1 ∨ b % 4 = 2 ∨ b % 4 = 3 := by omega
  rcases hcases with hm | hm | hm | hm
  · go_enter Tryd.func8, Tryd.ntmps8
    go_wp2
    have hG := Lib.hid gap0
    generalize (⟨#[32]⟩ : ByteArray) = G at *
    clear hm
    go_loopw [6, 7, 8, 9, 10] (fun v6 v7 a b i wr => ∃ (k : Nat) (A B : ByteArray) (p q : List (List UInt8)), k ≤ n ∧ i = .int .i64 k ∧ a = .string A ∧ b = .string B ∧ A.size ≤ 2 + 52 * k ∧ B.size ≤ 51 * k ∧ p.length ≤ k ∧ q.length ≤ k ∧ Hid (NM.Sw A.data.toList p ∧ NM.Sl B.data.toList q) ∧ Hid (Two w wr v6 v7 p q)) (fun _ _ _ _ i _ => n - (intOf i).toNat)
    case atStart => exact ⟨0, G, ⟨#[]⟩, [], [], by omega, rfl, rfl, rfl, by have := hG.out.2.2; omega, by decide, by simp, by simp, Lib.hid ⟨hG.out.start, rfl, rfl, rfl⟩, Lib.hid (Two.start w)⟩
    case round =>
      obtain ⟨k, A, B, p, q, hk, rfl, rfl, rfl, hA, hB, hpl, hql, hst, htw⟩ := hrel
      by_cases hlt : k < n
      · obtain ⟨x, hxx⟩ : ∃ x, xs.getD k ByteArray.empty = x := ⟨_, rfl⟩
        have hc0 := Lib.hid (show w.cell? ⟨g, off + k, none⟩ = some (.string x) by rw [← hxx]; exact hcell.out k hlt)
        have hc : wr.cell? ⟨g, off + k, none⟩ = some (.string x) := (htw.out.1.2.cell (lt_of_cell hc0.out)).trans hc0.out
        clear hxx
        by_cases h50 : 50 < (x.size : Int)
        · have T1 := Lib.hid (HT.out.on htw.out.1.2)
          go_wp2_with (go_at_call 13; refine (awake_any _ T1.out).mono ?_; rintro e w5 ⟨rfl, hb⟩)
          go_ret
          exact ⟨rfl, htw.out.1.2.trans (hb.mono htw.out.1.2.size)⟩
        · have h50' : decide (50 < (x.size : Int)) = false := by simp only [decide_eq_false_iff_not]; omega
          have hAs : A.size ≤ 2100 := by omega
          have hBs : B.size ≤ 2100 := by omega
          have hxs : x.size ≤ 50 := by omega
          have hGs : G.size ≤ 2 := hG.out.2.2
          by_cases h0 : x.size = 0
          · have he := empty_toList x h0
            have HPT := Lib.hid (show NM.pl true x.data.toList = true by rw [ByteArray.toList_eq] at he; rw [he]; rfl)
            go_wp2_with (first
              | ((go_at_call 21; refine (plain_true x _ (by omega)).mono ?_; rw [HPT.out]; rintro e w' ⟨rfl, rfl⟩))
              | (at_builtin; refine wpList_append_own_at _ rfl _ _ 34 rfl w.heap.size 9 i0 (.string ⟨#[]⟩) 1 16 Tryd.underlying34 HI.out.1 HI.out.2.1 HI.out.2.2.1 HI.out.2.2.2 rfl (by decide) _ _ _ rfl (htw.out.2.1.1.alloc _) ⟨_, 0, none⟩ 1 1 [.string x] rfl rfl (new_cell _ _ _) (one_str _) (by unfold maxLen; omega) (by omega) (by have := htw.out.1.2.size; simp; omega) ?_))
            intro v7' wb hown hgrow _ hat
            have HR7 := Lib.hid (htw.out.right (tv_self x) hown hgrow hat)
            have hcb : wb.cell? ⟨g, off + k, none⟩ = some (.string x) := (HR7.out.1.2.cell (lt_of_cell hc0.out)).trans hc0.out
            clear hown hgrow hat
            go_wp2
            go_roundw
            case rel =>
              refine ⟨k + 1, A, B ++ x ++ ⟨#[10]⟩, p, q ++ [x.data.toList], by omega, by go_num, rfl, rfl, ?_, ?_, ?_, ?_, Lib.hid ⟨hst.out.1, ?_⟩, HR7⟩
              · omega
              · rw [app_size3]; show B.size + x.size + 1 ≤ _; omega
              · omega
              · rw [List.length_append, List.length_singleton]; omega
              · rw [app_data3]; exact hst.out.2.line x.data.toList (NM.pl_ok _ HPT.out)
            case measure => simp [intOf]; omega
          · have hp0 : 0 < x.size := by omega
            have he := full_toList x hp0
            have he' := full_isEmpty x hp0
            have hne := Lib.hid (show x.data.toList ≠ [] by rw [← ByteArray.toList_eq]; exact he)
            cases hpf : NM.pl false x.data.toList
            · cases hpt : NM.pl true x.data.toList
              · go_wp2_with (first
                  | ((go_at_call 21; refine (plain_any x _ _ (by omega)).mono ?_; (first | rw [hpf] | rw [hpt]); rintro e w' ⟨rfl, rfl⟩)))
                go_roundw
                case rel => exact ⟨k + 1, A, B, p, q, by omega, by go_num, rfl, rfl, by omega, by omega, by omega, by omega, hst, htw⟩
                case measure => simp [intOf]; omega
              · have HPT := Lib.hid hpt
                go_wp2_with (first
                  | ((go_at_call 21; refine (plain_any x _ _ (by omega)).mono ?_; (first | rw [hpf] | rw [hpt]); rintro e w' ⟨rfl, rfl⟩))
                  | (at_builtin; refine wpList_append_own_at _ rfl _ _ 34 rfl w.heap.size 9 i0 (.string ⟨#[]⟩) 1 16 Tryd.underlying34 HI.out.1 HI.out.2.1 HI.out.2.2.1 HI.out.2.2.2 rfl (by decide) _ _ _ rfl (htw.out.2.1.1.alloc _) ⟨_, 0, none⟩ 1 1 [.string x] rfl rfl (new_cell _ _ _) (one_str _) (by unfold maxLen; omega) (by omega) (by have := htw.out.1.2.size; simp; omega) ?_))
                intro v7' wb hown hgrow _ hat
                have HR7 := Lib.hid (htw.out.right (tv_self x) hown hgrow hat)
                have hcb : wb.cell? ⟨g, off + k, none⟩ = some (.string x) := (HR7.out.1.2.cell (lt_of_cell hc0.out)).trans hc0.out
                clear hown hgrow hat
                go_wp2
                go_roundw
                case rel =>
                  refine ⟨k + 1, A, B ++ x ++ ⟨#[10]⟩, p, q ++ [x.data.toList], by omega, by go_num, rfl, rfl, ?_, ?_, ?_, ?_, Lib.hid ⟨hst.out.1, ?_⟩, HR7⟩
                  · omega
                  · rw [app_size3]; show B.size + x.size + 1 ≤ _; omega
                  · omega
                  · rw [List.length_append, List.length_singleton]; omega
                  · rw [app_data3]; exact hst.out.2.line x.data.toList (NM.pl_ok _ HPT.out)
                case measure => simp [intOf]; omega
            · have hpt := NM.pl_line _ hpf
              have HPT := Lib.hid hpt
              have HPF := Lib.hid (NM.pl_sep _ hpf)
              go_wp2_with (first
                | ((go_at_call 21; refine (plain_any x _ _ (by omega)).mono ?_; (first | rw [hpf] | rw [hpt]); rintro e w' ⟨rfl, rfl⟩))
                | (at_builtin; refine wpList_append_own_at _ rfl _ _ 34 rfl w.heap.size 9 i0 (.string ⟨#[]⟩) 1 16 Tryd.underlying34 HI.out.1 HI.out.2.1 HI.out.2.2.1 HI.out.2.2.2 rfl (by decide) _ _ _ rfl (htw.out.1.1.alloc _) ⟨_, 0, none⟩ 1 1 [.string x] rfl rfl (new_cell _ _ _) (one_str _) (by unfold maxLen; omega) (by omega) (by have := htw.out.1.2.size; simp; omega) ?_))
              intro v6' wa hown hgrow _ hat
              have HR6 := Lib.hid (htw.out.left (tv_self x) hown hgrow hat)
              have hca : wa.cell? ⟨g, off + k, none⟩ = some (.string x) := (HR6.out.1.2.cell (lt_of_cell hc0.out)).trans hc0.out
              clear hown hgrow hat
              go_wp2_with (first
                | ((go_at_call 21; refine (plain_any x _ _ (by omega)).mono ?_; (first | rw [hpf] | rw [hpt]); rintro e w' ⟨rfl, rfl⟩))
                | (at_builtin; refine wpList_append_own_at _ rfl _ _ 34 rfl w.heap.size 9 i0 (.string ⟨#[]⟩) 1 16 Tryd.underlying34 HI.out.1 HI.out.2.1 HI.out.2.2.1 HI.out.2.2.2 rfl (by decide) _ _ _ rfl (HR6.out.2.1.1.alloc _) ⟨_, 0, none⟩ 1 1 [.string x] rfl rfl (new_cell _ _ _) (one_str _) (by unfold maxLen; omega) (by omega) (by have := HR6.out.1.2.size; simp; omega) ?_))
              intro v7' wb hown hgrow _ hat
              have HR7 := Lib.hid (HR6.out.right (tv_self x) hown hgrow hat)
              have hcb : wb.cell? ⟨g, off + k, none⟩ = some (.string x) := (HR7.out.1.2.cell (lt_of_cell hc0.out)).trans hc0.out
              clear hown hgrow hat
              go_wp2
              go_roundw
              case rel =>
                refine ⟨k + 1, A ++ x ++ G, B ++ x ++ ⟨#[10]⟩, p ++ [x.data.toList], q ++ [x.data.toList], by omega, by go_num, rfl, rfl, ?_, ?_, ?_, ?_, Lib.hid ⟨?_, ?_⟩, HR7⟩
                · rw [app_size3]; have := hG.out.2.2; omega
                · rw [app_size3]; show B.size + x.size + 1 ≤ _; omega
                · rw [List.length_append, List.length_singleton]; omega
                · rw [List.length_append, List.length_singleton]; omega
                · rw [app_data3]; exact hst.out.1.word _ _ HPF.out hne.out hG.out.1 hG.out.2.1
                · rw [app_data3]; exact hst.out.2.line x.data.toList (NM.pl_ok _ HPT.out)
              case measure => simp [intOf]; omega
      · obtain rfl : k = n := by omega
        have HL := Lib.hid (hst.out.2.done (by rw [NM.len_eq]; omega) (by omega))
        have HW := Lib.hid hst.out.1.done
        go_wp2_with (fail)
        refine (lines_any B _ (by omega)).mono ?_
        rw [HL.out.1, HL.out.2]
        rintro e w1 ⟨m, rfl, hr⟩
        have R1 := Lib.hid hr
        clear hr
        go_wp2_with (fail)
        refine (words_any A _ (by omega)).mono ?_
        rw [HW.out]
        rintro e w2 ⟨v2, rfl, hr⟩
        have R2 := Lib.hid hr
        have B12 := Lib.hid (R1.out.2.trans (hr.2.mono R1.out.2.size))
        have O6 := Lib.hid (own_below htw.out.1.1 B12.out)
        have O7 := Lib.hid (own_below htw.out.2.1.1 B12.out)
        have OM := Lib.hid (own_below R1.out.1 hr.2)
        have B2 := Lib.hid (htw.out.1.2.trans (B12.out.mono htw.out.1.2.size))
        have T2 := Lib.hid (HT.out.on B2.out)
        clear hr
        go_wp2_with (fail)
        refine (texts_own v2 _ _ _ _ w2 (by omega) R2.out.1 O6.out).mono ?_
        rintro e w3 ⟨rfl, hd⟩
        have OM3 := Lib.hid (own_below OM.out hd.below)
        have O73 := Lib.hid (own_below O7.out hd.below)
        have B3 := Lib.hid (B2.out.trans (hd.below.mono B2.out.size))
        have T3 := Lib.hid (T2.out.on hd.below)
        clear hd
        go_wp2_with (fail)
        refine (texts_own m _ _ _ _ w3 (by omega) OM3.out O73.out).mono ?_
        rintro e w4 ⟨rfl, hd⟩
        have B4 := Lib.hid (B3.out.trans (hd.below.mono B3.out.size))
        have T4 := Lib.hid (T3.out.on hd.below)
        clear hd
        go_wp2_with (fail)
        refine (awake_any _ T4.out).mono ?_
        rintro e w5 ⟨rfl, hb⟩
        have B5 := Lib.hid (B4.out.trans (hb.mono B4.out.size))
        clear hb
        go_wp2
        go_ret
        exact ⟨rfl, B5.out⟩
  · go_enter Tryd.func8, Tryd.ntmps8
    go_wp2
    have hG := Lib.hid gap1
    generalize (⟨#[44, 32]⟩ : ByteArray) = G at *
    clear hm
    go_loopw [6, 7, 8, 9, 10] (fun v6 v7 a b i wr => ∃ (k : Nat) (A B : ByteArray) (p q : List (List UInt8)), k ≤ n ∧ i = .int .i64 k ∧ a = .string A ∧ b = .string B ∧ A.size ≤ 2 + 52 * k ∧ B.size ≤ 51 * k ∧ p.length ≤ k ∧ q.length ≤ k ∧ Hid (NM.Sw A.data.toList p ∧ NM.Sl B.data.toList q) ∧ Hid (Two w wr v6 v7 p q)) (fun _ _ _ _ i _ => n - (intOf i).toNat)
    case atStart => exact ⟨0, G, ⟨#[]⟩, [], [], by omega, rfl, rfl, rfl, by have := hG.out.2.2; omega, by decide, by simp, by simp, Lib.hid ⟨hG.out.start, rfl, rfl, rfl⟩, Lib.hid (Two.start w)⟩
    case round =>
      obtain ⟨k, A, B, p, q, hk, rfl, rfl, rfl, hA, hB, hpl, hql, hst, htw⟩ := hrel
      by_cases hlt : k < n
      · obtain ⟨x, hxx⟩ : ∃ x, xs.getD k ByteArray.empty = x := ⟨_, rfl⟩
        have hc0 := Lib.hid (show w.cell? ⟨g, off + k, none⟩ = some (.string x) by rw [← hxx]; exact hcell.out k hlt)
        have hc : wr.cell? ⟨g, off + k, none⟩ = some (.string x) := (htw.out.1.2.cell (lt_of_cell hc0.out)).trans hc0.out
        clear hxx
        by_cases h50 : 50 < (x.size : Int)
        · have T1 := Lib.hid (HT.out.on htw.out.1.2)
          go_wp2_with (go_at_call 13; refine (awake_any _ T1.out).mono ?_; rintro e w5 ⟨rfl, hb⟩)
          go_ret
          exact ⟨rfl, htw.out.1.2.trans (hb.mono htw.out.1.2.size)⟩
        · have h50' : decide (50 < (x.size : Int)) = false := by simp only [decide_eq_false_iff_not]; omega
          have hAs : A.size ≤ 2100 := by omega
          have hBs : B.size ≤ 2100 := by omega
          have hxs : x.size ≤ 50 := by omega
          have hGs : G.size ≤ 2 := hG.out.2.2
          by_cases h0 : x.size = 0
          · have he := empty_toList x h0
            have HPT := Lib.hid (show NM.pl true x.data.toList = true by rw [ByteArray.toList_eq] at he; rw [he]; rfl)
            go_wp2_with (first
              | ((go_at_call 21; refine (plain_true x _ (by omega)).mono ?_; rw [HPT.out]; rintro e w' ⟨rfl, rfl⟩))
              | (at_builtin; refine wpList_append_own_at _ rfl _ _ 34 rfl w.heap.size 9 i0 (.string ⟨#[]⟩) 1 16 Tryd.underlying34 HI.out.1 HI.out.2.1 HI.out.2.2.1 HI.out.2.2.2 rfl (by decide) _ _ _ rfl (htw.out.2.1.1.alloc _) ⟨_, 0, none⟩ 1 1 [.string x] rfl rfl (new_cell _ _ _) (one_str _) (by unfold maxLen; omega) (by omega) (by have := htw.out.1.2.size; simp; omega) ?_))
            intro v7' wb hown hgrow _ hat
            have HR7 := Lib.hid (htw.out.right (tv_self x) hown hgrow hat)
            have hcb : wb.cell? ⟨g, off + k, none⟩ = some (.string x) := (HR7.out.1.2.cell (lt_of_cell hc0.out)).trans hc0.out
            clear hown hgrow hat
            go_wp2
            go_roundw
            case rel =>
              refine ⟨k + 1, A, B ++ x ++ ⟨#[10]⟩, p, q ++ [x.data.toList], by omega, by go_num, rfl, rfl, ?_, ?_, ?_, ?_, Lib.hid ⟨hst.out.1, ?_⟩, HR7⟩
              · omega
              · rw [app_size3]; show B.size + x.size + 1 ≤ _; omega
              · omega
              · rw [List.length_append, List.length_singleton]; omega
              · rw [app_data3]; exact hst.out.2.line x.data.toList (NM.pl_ok _ HPT.out)
            case measure => simp [intOf]; omega
          · have hp0 : 0 < x.size := by omega
            have he := full_toList x hp0
            have he' := full_isEmpty x hp0
            have hne := Lib.hid (show x.data.toList ≠ [] by rw [← ByteArray.toList_eq]; exact he)
            cases hpf : NM.pl false x.data.toList
            · cases hpt : NM.pl true x.data.toList
              · go_wp2_with (first
                  | ((go_at_call 21; refine (plain_any x _ _ (by omega)).mono ?_; (first | rw [hpf] | rw [hpt]); rintro e w' ⟨rfl, rfl⟩)))
                go_roundw
                case rel => exact ⟨k + 1, A, B, p, q, by omega, by go_num, rfl, rfl, by omega, by omega, by omega, by omega, hst, htw⟩
                case measure => simp [intOf]; omega
              · have HPT := Lib.hid hpt
                go_wp2_with (first
                  | ((go_at_call 21; refine (plain_any x _ _ (by omega)).mono ?_; (first | rw [hpf] | rw [hpt]); rintro e w' ⟨rfl, rfl⟩))
                  | (at_builtin; refine wpList_append_own_at _ rfl _ _ 34 rfl w.heap.size 9 i0 (.string ⟨#[]⟩) 1 16 Tryd.underlying34 HI.out.1 HI.out.2.1 HI.out.2.2.1 HI.out.2.2.2 rfl (by decide) _ _ _ rfl (htw.out.2.1.1.alloc _) ⟨_, 0, none⟩ 1 1 [.string x] rfl rfl (new_cell _ _ _) (one_str _) (by unfold maxLen; omega) (by omega) (by have := htw.out.1.2.size; simp; omega) ?_))
                intro v7' wb hown hgrow _ hat
                have HR7 := Lib.hid (htw.out.right (tv_self x) hown hgrow hat)
                have hcb : wb.cell? ⟨g, off + k, none⟩ = some (.string x) := (HR7.out.1.2.cell (lt_of_cell hc0.out)).trans hc0.out
                clear hown hgrow hat
                go_wp2
                go_roundw
                case rel =>
                  refine ⟨k + 1, A, B ++ x ++ ⟨#[10]⟩, p, q ++ [x.data.toList], by omega, by go_num, rfl, rfl, ?_, ?_, ?_, ?_, Lib.hid ⟨hst.out.1, ?_⟩, HR7⟩
                  · omega
                  · rw [app_size3]; show B.size + x.size + 1 ≤ _; omega
                  · omega
                  · rw [List.length_append, List.length_singleton]; omega
                  · rw [app_data3]; exact hst.out.2.line x.data.toList (NM.pl_ok _ HPT.out)
                case measure => simp [intOf]; omega
            · have hpt := NM.pl_line _ hpf
              have HPT := Lib.hid hpt
              have HPF := Lib.hid (NM.pl_sep _ hpf)
              go_wp2_with (first
                | ((go_at_call 21; refine (plain_any x _ _ (by omega)).mono ?_; (first | rw [hpf] | rw [hpt]); rintro e w' ⟨rfl, rfl⟩))
                | (at_builtin; refine wpList_append_own_at _ rfl _ _ 34 rfl w.heap.size 9 i0 (.string ⟨#[]⟩) 1 16 Tryd.underlying34 HI.out.1 HI.out.2.1 HI.out.2.2.1 HI.out.2.2.2 rfl (by decide) _ _ _ rfl (htw.out.1.1.alloc _) ⟨_, 0, none⟩ 1 1 [.string x] rfl rfl (new_cell _ _ _) (one_str _) (by unfold maxLen; omega) (by omega) (by have := htw.out.1.2.size; simp; omega) ?_))
              intro v6' wa hown hgrow _ hat
              have HR6 := Lib.hid (htw.out.left (tv_self x) hown hgrow hat)
              have hca : wa.cell? ⟨g, off + k, none⟩ = some (.string x) := (HR6.out.1.2.cell (lt_of_cell hc0.out)).trans hc0.out
              clear hown hgrow hat
              go_wp2_with (first
                | ((go_at_call 21; refine (plain_any x _ _ (by omega)).mono ?_; (first | rw [hpf] | rw [hpt]); rintro e w' ⟨rfl, rfl⟩))
                | (at_builtin; refine wpList_append_own_at _ rfl _ _ 34 rfl w.heap.size 9 i0 (.string ⟨#[]⟩) 1 16 Tryd.underlying34 HI.out.1 HI.out.2.1 HI.out.2.2.1 HI.out.2.2.2 rfl (by decide) _ _ _ rfl (HR6.out.2.1.1.alloc _) ⟨_, 0, none⟩ 1 1 [.string x] rfl rfl (new_cell _ _ _) (one_str _) (by unfold maxLen; omega) (by omega) (by have := HR6.out.1.2.size; simp; omega) ?_))
              intro v7' wb hown hgrow _ hat
              have HR7 := Lib.hid (HR6.out.right (tv_self x) hown hgrow hat)
              have hcb : wb.cell? ⟨g, off + k, none⟩ = some (.string x) := (HR7.out.1.2.cell (lt_of_cell hc0.out)).trans hc0.out
              clear hown hgrow hat
              go_wp2
              go_roundw
              case rel =>
                refine ⟨k + 1, A ++ x ++ G, B ++ x ++ ⟨#[10]⟩, p ++ [x.data.toList], q ++ [x.data.toList], by omega, by go_num, rfl, rfl, ?_, ?_, ?_, ?_, Lib.hid ⟨?_, ?_⟩, HR7⟩
                · rw [app_size3]; have := hG.out.2.2; omega
                · rw [app_size3]; show B.size + x.size + 1 ≤ _; omega
                · rw [List.length_append, List.length_singleton]; omega
                · rw [List.length_append, List.length_singleton]; omega
                · rw [app_data3]; exact hst.out.1.word _ _ HPF.out hne.out hG.out.1 hG.out.2.1
                · rw [app_data3]; exact hst.out.2.line x.data.toList (NM.pl_ok _ HPT.out)
              case measure => simp [intOf]; omega
      · obtain rfl : k = n := by omega
        have HL := Lib.hid (hst.out.2.done (by rw [NM.len_eq]; omega) (by omega))
        have HW := Lib.hid hst.out.1.done
        go_wp2_with (fail)
        refine (lines_any B _ (by omega)).mono ?_
        rw [HL.out.1, HL.out.2]
        rintro e w1 ⟨m, rfl, hr⟩
        have R1 := Lib.hid hr
        clear hr
        go_wp2_with (fail)
        refine (words_any A _ (by omega)).mono ?_
        rw [HW.out]
        rintro e w2 ⟨v2, rfl, hr⟩
        have R2 := Lib.hid hr
        have B12 := Lib.hid (R1.out.2.trans (hr.2.mono R1.out.2.size))
        have O6 := Lib.hid (own_below htw.out.1.1 B12.out)
        have O7 := Lib.hid (own_below htw.out.2.1.1 B12.out)
        have OM := Lib.hid (own_below R1.out.1 hr.2)
        have B2 := Lib.hid (htw.out.1.2.trans (B12.out.mono htw.out.1.2.size))
        have T2 := Lib.hid (HT.out.on B2.out)
        clear hr
        go_wp2_with (fail)
        refine (texts_own v2 _ _ _ _ w2 (by omega) R2.out.1 O6.out).mono ?_
        rintro e w3 ⟨rfl, hd⟩
        have OM3 := Lib.hid (own_below OM.out hd.below)
        have O73 := Lib.hid (own_below O7.out hd.below)
        have B3 := Lib.hid (B2.out.trans (hd.below.mono B2.out.size))
        have T3 := Lib.hid (T2.out.on hd.below)
        clear hd
        go_wp2_with (fail)
        refine (texts_own m _ _ _ _ w3 (by omega) OM3.out O73.out).mono ?_
        rintro e w4 ⟨rfl, hd⟩
        have B4 := Lib.hid (B3.out.trans (hd.below.mono B3.out.size))
        have T4 := Lib.hid (T3.out.on hd.below)
        clear hd
        go_wp2_with (fail)
        refine (awake_any _ T4.out).mono ?_
        rintro e w5 ⟨rfl, hb⟩
        have B5 := Lib.hid (B4.out.trans (hb.mono B4.out.size))
        clear hb
        go_wp2
        go_ret
        exact ⟨rfl, B5.out⟩
  · go_enter Tryd.func8, Tryd.ntmps8
    go_wp2
    have hG := Lib.hid gap2
    generalize (⟨#[9]⟩ : ByteArray) = G at *
    clear hm
    go_loopw [6, 7, 8, 9, 10] (fun v6 v7 a b i wr => ∃ (k : Nat) (A B : ByteArray) (p q : List (List UInt8)), k ≤ n ∧ i = .int .i64 k ∧ a = .string A ∧ b = .string B ∧ A.size ≤ 2 + 52 * k ∧ B.size ≤ 51 * k ∧ p.length ≤ k ∧ q.length ≤ k ∧ Hid (NM.Sw A.data.toList p ∧ NM.Sl B.data.toList q) ∧ Hid (Two w wr v6 v7 p q)) (fun _ _ _ _ i _ => n - (intOf i).toNat)
    case atStart => exact ⟨0, G, ⟨#[]⟩, [], [], by omega, rfl, rfl, rfl, by have := hG.out.2.2; omega, by decide, by simp, by simp, Lib.hid ⟨hG.out.start, rfl, rfl, rfl⟩, Lib.hid (Two.start w)⟩
    case round =>
      obtain ⟨k, A, B, p, q, hk, rfl, rfl, rfl, hA, hB, hpl, hql, hst, htw⟩ := hrel
      by_cases hlt : k < n
      · obtain ⟨x, hxx⟩ : ∃ x, xs.getD k ByteArray.empty = x := ⟨_, rfl⟩
        have hc0 := Lib.hid (show w.cell? ⟨g, off + k, none⟩ = some (.string x) by rw [← hxx]; exact hcell.out k hlt)
        have hc : wr.cell? ⟨g, off + k, none⟩ = some (.string x) := (htw.out.1.2.cell (lt_of_cell hc0.out)).trans hc0.out
        clear hxx
        by_cases h50 : 50 < (x.size : Int)
        · have T1 := Lib.hid (HT.out.on htw.out.1.2)
          go_wp2_with (go_at_call 13; refine (awake_any _ T1.out).mono ?_; rintro e w5 ⟨rfl, hb⟩)
          go_ret
          exact ⟨rfl, htw.out.1.2.trans (hb.mono htw.out.1.2.size)⟩
        · have h50' : decide (50 < (x.size : Int)) = false := by simp only [decide_eq_false_iff_not]; omega
          have hAs : A.size ≤ 2100 := by omega
          have hBs : B.size ≤ 2100 := by omega
          have hxs : x.size ≤ 50 := by omega
          have hGs : G.size ≤ 2 := hG.out.2.2
          by_cases h0 : x.size = 0
          · have he := empty_toList x h0
            have HPT := Lib.hid (show NM.pl true x.data.toList = true by rw [ByteArray.toList_eq] at he; rw [he]; rfl)
            go_wp2_with (first
              | ((go_at_call 21; refine (plain_true x _ (by omega)).mono ?_; rw [HPT.out]; rintro e w' ⟨rfl, rfl⟩))
              | (at_builtin; refine wpList_append_own_at _ rfl _ _ 34 rfl w.heap.size 9 i0 (.string ⟨#[]⟩) 1 16 Tryd.underlying34 HI.out.1 HI.out.2.1 HI.out.2.2.1 HI.out.2.2.2 rfl (by decide) _ _ _ rfl (htw.out.2.1.1.alloc _) ⟨_, 0, none⟩ 1 1 [.string x] rfl rfl (new_cell _ _ _) (one_str _) (by unfold maxLen; omega) (by omega) (by have := htw.out.1.2.size; simp; omega) ?_))
            intro v7' wb hown hgrow _ hat
            have HR7 := Lib.hid (htw.out.right (tv_self x) hown hgrow hat)
            have hcb : wb.cell? ⟨g, off + k, none⟩ = some (.string x) := (HR7.out.1.2.cell (lt_of_cell hc0.out)).trans hc0.out
            clear hown hgrow hat
            go_wp2
            go_roundw
            case rel =>
              refine ⟨k + 1, A, B ++ x ++ ⟨#[10]⟩, p, q ++ [x.data.toList], by omega, by go_num, rfl, rfl, ?_, ?_, ?_, ?_, Lib.hid ⟨hst.out.1, ?_⟩, HR7⟩
              · omega
              · rw [app_size3]; show B.size + x.size + 1 ≤ _; omega
              · omega
              · rw [List.length_append, List.length_singleton]; omega
              · rw [app_data3]; exact hst.out.2.line x.data.toList (NM.pl_ok _ HPT.out)
            case measure => simp [intOf]; omega
          · have hp0 : 0 < x.size := by omega
            have he := full_toList x hp0
            have he' := full_isEmpty x hp0
            have hne := Lib.hid (show x.data.toList ≠ [] by rw [← ByteArray.toList_eq]; exact he)
            cases hpf : NM.pl false x.data.toList
            · cases hpt : NM.pl true x.data.toList
              · go_wp2_with (first
                  | ((go_at_call 21; refine (plain_any x _ _ (by omega)).mono ?_; (first | rw [hpf] | rw [hpt]); rintro e w' ⟨rfl, rfl⟩)))
                go_roundw
                case rel => exact ⟨k + 1, A, B, p, q, by omega, by go_num, rfl, rfl, by omega, by omega, by omega, by omega, hst, htw⟩
                case measure => simp [intOf]; omega
              · have HPT := Lib.hid hpt
                go_wp2_with (first
                  | ((go_at_call 21; refine (plain_any x _ _ (by omega)).mono ?_; (first | rw [hpf] | rw [hpt]); rintro e w' ⟨rfl, rfl⟩))
                  | (at_builtin; refine wpList_append_own_at _ rfl _ _ 34 rfl w.heap.size 9 i0 (.string ⟨#[]⟩) 1 16 Tryd.underlying34 HI.out.1 HI.out.2.1 HI.out.2.2.1 HI.out.2.2.2 rfl (by decide) _ _ _ rfl (htw.out.2.1.1.alloc _) ⟨_, 0, none⟩ 1 1 [.string x] rfl rfl (new_cell _ _ _) (one_str _) (by unfold maxLen; omega) (by omega) (by have := htw.out.1.2.size; simp; omega) ?_))
                intro v7' wb hown hgrow _ hat
                have HR7 := Lib.hid (htw.out.right (tv_self x) hown hgrow hat)
                have hcb : wb.cell? ⟨g, off + k, none⟩ = some (.string x) := (HR7.out.1.2.cell (lt_of_cell hc0.out)).trans hc0.out
                clear hown hgrow hat
                go_wp2
                go_roundw
                case rel =>
                  refine ⟨k + 1, A, B ++ x ++ ⟨#[10]⟩, p, q ++ [x.data.toList], by omega, by go_num, rfl, rfl, ?_, ?_, ?_, ?_, Lib.hid ⟨hst.out.1, ?_⟩, HR7⟩
                  · omega
                  · rw [app_size3]; show B.size + x.size + 1 ≤ _; omega
                  · omega
                  · rw [List.length_append, List.length_singleton]; omega
                  · rw [app_data3]; exact hst.out.2.line x.data.toList (NM.pl_ok _ HPT.out)
                case measure => simp [intOf]; omega
            · have hpt := NM.pl_line _ hpf
              have HPT := Lib.hid hpt
              have HPF := Lib.hid (NM.pl_sep _ hpf)
              go_wp2_with (first
                | ((go_at_call 21; refine (plain_any x _ _ (by omega)).mono ?_; (first | rw [hpf] | rw [hpt]); rintro e w' ⟨rfl, rfl⟩))
                | (at_builtin; refine wpList_append_own_at _ rfl _ _ 34 rfl w.heap.size 9 i0 (.string ⟨#[]⟩) 1 16 Tryd.underlying34 HI.out.1 HI.out.2.1 HI.out.2.2.1 HI.out.2.2.2 rfl (by decide) _ _ _ rfl (htw.out.1.1.alloc _) ⟨_, 0, none⟩ 1 1 [.string x] rfl rfl (new_cell _ _ _) (one_str _) (by unfold maxLen; omega) (by omega) (by have := htw.out.1.2.size; simp; omega) ?_))
              intro v6' wa hown hgrow _ hat
              have HR6 := Lib.hid (htw.out.left (tv_self x) hown hgrow hat)
              have hca : wa.cell? ⟨g, off + k, none⟩ = some (.string x) := (HR6.out.1.2.cell (lt_of_cell hc0.out)).trans hc0.out
              clear hown hgrow hat
              go_wp2_with (first
                | ((go_at_call 21; refine (plain_any x _ _ (by omega)).mono ?_; (first | rw [hpf] | rw [hpt]); rintro e w' ⟨rfl, rfl⟩))
                | (at_builtin; refine wpList_append_own_at _ rfl _ _ 34 rfl w.heap.size 9 i0 (.string ⟨#[]⟩) 1 16 Tryd.underlying34 HI.out.1 HI.out.2.1 HI.out.2.2.1 HI.out.2.2.2 rfl (by decide) _ _ _ rfl (HR6.out.2.1.1.alloc _) ⟨_, 0, none⟩ 1 1 [.string x] rfl rfl (new_cell _ _ _) (one_str _) (by unfold maxLen; omega) (by omega) (by have := HR6.out.1.2.size; simp; omega) ?_))
              intro v7' wb hown hgrow _ hat
              have HR7 := Lib.hid (HR6.out.right (tv_self x) hown hgrow hat)
              have hcb : wb.cell? ⟨g, off + k, none⟩ = some (.string x) := (HR7.out.1.2.cell (lt_of_cell hc0.out)).trans hc0.out
              clear hown hgrow hat
              go_wp2
              go_roundw
              case rel =>
                refine ⟨k + 1, A ++ x ++ G, B ++ x ++ ⟨#[10]⟩, p ++ [x.data.toList], q ++ [x.data.toList], by omega, by go_num, rfl, rfl, ?_, ?_, ?_, ?_, Lib.hid ⟨?_, ?_⟩, HR7⟩
                · rw [app_size3]; have := hG.out.2.2; omega
                · rw [app_size3]; show B.size + x.size + 1 ≤ _; omega
                · rw [List.length_append, List.length_singleton]; omega
                · rw [List.length_append, List.length_singleton]; omega
                · rw [app_data3]; exact hst.out.1.word _ _ HPF.out hne.out hG.out.1 hG.out.2.1
                · rw [app_data3]; exact hst.out.2.line x.data.toList (NM.pl_ok _ HPT.out)
              case measure => simp [intOf]; omega
      · obtain rfl : k = n := by omega
        have HL := Lib.hid (hst.out.2.done (by rw [NM.len_eq]; omega) (by omega))
        have HW := Lib.hid hst.out.1.done
        go_wp2_with (fail)
        refine (lines_any B _ (by omega)).mono ?_
        rw [HL.out.1, HL.out.2]
        rintro e w1 ⟨m, rfl, hr⟩
        have R1 := Lib.hid hr
        clear hr
        go_wp2_with (fail)
        refine (words_any A _ (by omega)).mono ?_
        rw [HW.out]
        rintro e w2 ⟨v2, rfl, hr⟩
        have R2 := Lib.hid hr
        have B12 := Lib.hid (R1.out.2.trans (hr.2.mono R1.out.2.size))
        have O6 := Lib.hid (own_below htw.out.1.1 B12.out)
        have O7 := Lib.hid (own_below htw.out.2.1.1 B12.out)
        have OM := Lib.hid (own_below R1.out.1 hr.2)
        have B2 := Lib.hid (htw.out.1.2.trans (B12.out.mono htw.out.1.2.size))
        have T2 := Lib.hid (HT.out.on B2.out)
        clear hr
        go_wp2_with (fail)
        refine (texts_own v2 _ _ _ _ w2 (by omega) R2.out.1 O6.out).mono ?_
        rintro e w3 ⟨rfl, hd⟩
        have OM3 := Lib.hid (own_below OM.out hd.below)
        have O73 := Lib.hid (own_below O7.out hd.below)
        have B3 := Lib.hid (B2.out.trans (hd.below.mono B2.out.size))
        have T3 := Lib.hid (T2.out.on hd.below)
        clear hd
        go_wp2_with (fail)
        refine (texts_own m _ _ _ _ w3 (by omega) OM3.out O73.out).mono ?_
        rintro e w4 ⟨rfl, hd⟩
        have B4 := Lib.hid (B3.out.trans (hd.below.mono B3.out.size))
        have T4 := Lib.hid (T3.out.on hd.below)
        clear hd
        go_wp2_with (fail)
        refine (awake_any _ T4.out).mono ?_
        rintro e w5 ⟨rfl, hb⟩
        have B5 := Lib.hid (B4.out.trans (hb.mono B4.out.size))
        clear hb
        go_wp2
        go_ret
        exact ⟨rfl, B5.out⟩
  · go_enter Tryd.func8, Tryd.ntmps8
    go_wp2
    have hG := Lib.hid gap3
    generalize (⟨#[44, 44]⟩ : ByteArray) = G at *
    clear hm
    go_loopw [6, 7, 8, 9, 10] (fun v6 v7 a b i wr => ∃ (k : Nat) (A B : ByteArray) (p q : List (List UInt8)), k ≤ n ∧ i = .int .i64 k ∧ a = .string A ∧ b = .string B ∧ A.size ≤ 2 + 52 * k ∧ B.size ≤ 51 * k ∧ p.length ≤ k ∧ q.length ≤ k ∧ Hid (NM.Sw A.data.toList p ∧ NM.Sl B.data.toList q) ∧ Hid (Two w wr v6 v7 p q)) (fun _ _ _ _ i _ => n - (intOf i).toNat)
    case atStart => exact ⟨0, G, ⟨#[]⟩, [], [], by omega, rfl, rfl, rfl, by have := hG.out.2.2; omega, by decide, by simp, by simp, Lib.hid ⟨hG.out.start, rfl, rfl, rfl⟩, Lib.hid (Two.start w)⟩
    case round =>
      obtain ⟨k, A, B, p, q, hk, rfl, rfl, rfl, hA, hB, hpl, hql, hst, htw⟩ := hrel
      by_cases hlt : k < n
      · obtain ⟨x, hxx⟩ : ∃ x, xs.getD k ByteArray.empty = x := ⟨_, rfl⟩
        have hc0 := Lib.hid (show w.cell? ⟨g, off + k, none⟩ = some (.string x) by rw [← hxx]; exact hcell.out k hlt)
        have hc : wr.cell? ⟨g, off + k, none⟩ = some (.string x) := (htw.out.1.2.cell (lt_of_cell hc0.out)).trans hc0.out
        clear hxx
        by_cases h50 : 50 < (x.size : Int)
        · have T1 := Lib.hid (HT.out.on htw.out.1.2)
          go_wp2_with (go_at_call 13; refine (awake_any _ T1.out).mono ?_; rintro e w5 ⟨rfl, hb⟩)
          go_ret
          exact ⟨rfl, htw.out.1.2.trans (hb.mono htw.out.1.2.size)⟩
        · have h50' : decide (50 < (x.size : Int)) = false := by simp only [decide_eq_false_iff_not]; omega
          have hAs : A.size ≤ 2100 := by omega
          have hBs : B.size ≤ 2100 := by omega
          have hxs : x.size ≤ 50 := by omega
          have hGs : G.size ≤ 2 := hG.out.2.2
          by_cases h0 : x.size = 0
          · have he := empty_toList x h0
            have HPT := Lib.hid (show NM.pl true x.data.toList = true by rw [ByteArray.toList_eq] at he; rw [he]; rfl)
            go_wp2_with (first
              | ((go_at_call 21; refine (plain_true x _ (by omega)).mono ?_; rw [HPT.out]; rintro e w' ⟨rfl, rfl⟩))
              | (at_builtin; refine wpList_append_own_at _ rfl _ _ 34 rfl w.heap.size 9 i0 (.string ⟨#[]⟩) 1 16 Tryd.underlying34 HI.out.1 HI.out.2.1 HI.out.2.2.1 HI.out.2.2.2 rfl (by decide) _ _ _ rfl (htw.out.2.1.1.alloc _) ⟨_, 0, none⟩ 1 1 [.string x] rfl rfl (new_cell _ _ _) (one_str _) (by unfold maxLen; omega) (by omega) (by have := htw.out.1.2.size; simp; omega) ?_))
            intro v7' wb hown hgrow _ hat
            have HR7 := Lib.hid (htw.out.right (tv_self x) hown hgrow hat)
            have hcb : wb.cell? ⟨g, off + k, none⟩ = some (.string x) := (HR7.out.1.2.cell (lt_of_cell hc0.out)).trans hc0.out
            clear hown hgrow hat
            go_wp2
            go_roundw
            case rel =>
              refine ⟨k + 1, A, B ++ x ++ ⟨#[10]⟩, p, q ++ [x.data.toList], by omega, by go_num, rfl, rfl, ?_, ?_, ?_, ?_, Lib.hid ⟨hst.out.1, ?_⟩, HR7⟩
              · omega
              · rw [app_size3]; show B.size + x.size + 1 ≤ _; omega
              · omega
              · rw [List.length_append, List.length_singleton]; omega
              · rw [app_data3]; exact hst.out.2.line x.data.toList (NM.pl_ok _ HPT.out)
            case measure => simp [intOf]; omega
          · have hp0 : 0 < x.size := by omega
            have he := full_toList x hp0
            have he' := full_isEmpty x hp0
            have hne := Lib.hid (show x.data.toList ≠ [] by rw [← ByteArray.toList_eq]; exact he)
            cases hpf : NM.pl false x.data.toList
            · cases hpt : NM.pl true x.data.toList
              · go_wp2_with (first
                  | ((go_at_call 21; refine (plain_any x _ _ (by omega)).mono ?_; (first | rw [hpf] | rw [hpt]); rintro e w' ⟨rfl, rfl⟩)))
                go_roundw
                case rel => exact ⟨k + 1, A, B, p, q, by omega, by go_num, rfl, rfl, by omega, by omega, by omega, by omega, hst, htw⟩
                case measure => simp [intOf]; omega
              · have HPT := Lib.hid hpt
                go_wp2_with (first
                  | ((go_at_call 21; refine (plain_any x _ _ (by omega)).mono ?_; (first | rw [hpf] | rw [hpt]); rintro e w' ⟨rfl, rfl⟩))
                  | (at_builtin; refine wpList_append_own_at _ rfl _ _ 34 rfl w.heap.size 9 i0 (.string ⟨#[]⟩) 1 16 Tryd.underlying34 HI.out.1 HI.out.2.1 HI.out.2.2.1 HI.out.2.2.2 rfl (by decide) _ _ _ rfl (htw.out.2.1.1.alloc _) ⟨_, 0, none⟩ 1 1 [.string x] rfl rfl (new_cell _ _ _) (one_str _) (by unfold maxLen; omega) (by omega) (by have := htw.out.1.2.size; simp; omega) ?_))
                intro v7' wb hown hgrow _ hat
                have HR7 := Lib.hid (htw.out.right (tv_self x) hown hgrow hat)
                have hcb : wb.cell? ⟨g, off + k, none⟩ = some (.string x) := (HR7.out.1.2.cell (lt_of_cell hc0.out)).trans hc0.out
                clear hown hgrow hat
                go_wp2
                go_roundw
                case rel =>
                  refine ⟨k + 1, A, B ++ x ++ ⟨#[10]⟩, p, q ++ [x.data.toList], by omega, by go_num, rfl, rfl, ?_, ?_, ?_, ?_, Lib.hid ⟨hst.out.1, ?_⟩, HR7⟩
                  · omega
                  · rw [app_size3]; show B.size + x.size + 1 ≤ _; omega
                  · omega
                  · rw [List.length_append, List.length_singleton]; omega
                  · rw [app_data3]; exact hst.out.2.line x.data.toList (NM.pl_ok _ HPT.out)
                case measure => simp [intOf]; omega
            · have hpt := NM.pl_line _ hpf
              have HPT := Lib.hid hpt
              have HPF := Lib.hid (NM.pl_sep _ hpf)
              go_wp2_with (first
                | ((go_at_call 21; refine (plain_any x _ _ (by omega)).mono ?_; (first | rw [hpf] | rw [hpt]); rintro e w' ⟨rfl, rfl⟩))
                | (at_builtin; refine wpList_append_own_at _ rfl _ _ 34 rfl w.heap.size 9 i0 (.string ⟨#[]⟩) 1 16 Tryd.underlying34 HI.out.1 HI.out.2.1 HI.out.2.2.1 HI.out.2.2.2 rfl (by decide) _ _ _ rfl (htw.out.1.1.alloc _) ⟨_, 0, none⟩ 1 1 [.string x] rfl rfl (new_cell _ _ _) (one_str _) (by unfold maxLen; omega) (by omega) (by have := htw.out.1.2.size; simp; omega) ?_))
              intro v6' wa hown hgrow _ hat
              have HR6 := Lib.hid (htw.out.left (tv_self x) hown hgrow hat)
              have hca : wa.cell? ⟨g, off + k, none⟩ = some (.string x) := (HR6.out.1.2.cell (lt_of_cell hc0.out)).trans hc0.out
              clear hown hgrow hat
              go_wp2_with (first
                | ((go_at_call 21; refine (plain_any x _ _ (by omega)).mono ?_; (first | rw [hpf] | rw [hpt]); rintro e w' ⟨rfl, rfl⟩))
                | (at_builtin; refine wpList_append_own_at _ rfl _ _ 34 rfl w.heap.size 9 i0 (.string ⟨#[]⟩) 1 16 Tryd.underlying34 HI.out.1 HI.out.2.1 HI.out.2.2.1 HI.out.2.2.2 rfl (by decide) _ _ _ rfl (HR6.out.2.1.1.alloc _) ⟨_, 0, none⟩ 1 1 [.string x] rfl rfl (new_cell _ _ _) (one_str _) (by unfold maxLen; omega) (by omega) (by have := HR6.out.1.2.size; simp; omega) ?_))
              intro v7' wb hown hgrow _ hat
              have HR7 := Lib.hid (HR6.out.right (tv_self x) hown hgrow hat)
              have hcb : wb.cell? ⟨g, off + k, none⟩ = some (.string x) := (HR7.out.1.2.cell (lt_of_cell hc0.out)).trans hc0.out
              clear hown hgrow hat
              go_wp2
              go_roundw
              case rel =>
                refine ⟨k + 1, A ++ x ++ G, B ++ x ++ ⟨#[10]⟩, p ++ [x.data.toList], q ++ [x.data.toList], by omega, by go_num, rfl, rfl, ?_, ?_, ?_, ?_, Lib.hid ⟨?_, ?_⟩, HR7⟩
                · rw [app_size3]; have := hG.out.2.2; omega
                · rw [app_size3]; show B.size + x.size + 1 ≤ _; omega
                · rw [List.length_append, List.length_singleton]; omega
                · rw [List.length_append, List.length_singleton]; omega
                · rw [app_data3]; exact hst.out.1.word _ _ HPF.out hne.out hG.out.1 hG.out.2.1
                · rw [app_data3]; exact hst.out.2.line x.data.toList (NM.pl_ok _ HPT.out)
              case measure => simp [intOf]; omega
      · obtain rfl : k = n := by omega
        have HL := Lib.hid (hst.out.2.done (by rw [NM.len_eq]; omega) (by omega))
        have HW := Lib.hid hst.out.1.done
        go_wp2_with (fail)
        refine (lines_any B _ (by omega)).mono ?_
        rw [HL.out.1, HL.out.2]
        rintro e w1 ⟨m, rfl, hr⟩
        have R1 := Lib.hid hr
        clear hr
        go_wp2_with (fail)
        refine (words_any A _ (by omega)).mono ?_
        rw [HW.out]
        rintro e w2 ⟨v2, rfl, hr⟩
        have R2 := Lib.hid hr
        have B12 := Lib.hid (R1.out.2.trans (hr.2.mono R1.out.2.size))
        have O6 := Lib.hid (own_below htw.out.1.1 B12.out)
        have O7 := Lib.hid (own_below htw.out.2.1.1 B12.out)
        have OM := Lib.hid (own_below R1.out.1 hr.2)
        have B2 := Lib.hid (htw.out.1.2.trans (B12.out.mono htw.out.1.2.size))
        have T2 := Lib.hid (HT.out.on B2.out)
        clear hr
        go_wp2_with (fail)
        refine (texts_own v2 _ _ _ _ w2 (by omega) R2.out.1 O6.out).mono ?_
        rintro e w3 ⟨rfl, hd⟩
        have OM3 := Lib.hid (own_below OM.out hd.below)
        have O73 := Lib.hid (own_below O7.out hd.below)
        have B3 := Lib.hid (B2.out.trans (hd.below.mono B2.out.size))
        have T3 := Lib.hid (T2.out.on hd.below)
        clear hd
        go_wp2_with (fail)
        refine (texts_own m _ _ _ _ w3 (by omega) OM3.out O73.out).mono ?_
        rintro e w4 ⟨rfl, hd⟩
        have B4 := Lib.hid (B3.out.trans (hd.below.mono B3.out.size))
        have T4 := Lib.hid (T3.out.on hd.below)
        clear hd
        go_wp2_with (fail)
        refine (awake_any _ T4.out).mono ?_
        rintro e w5 ⟨rfl, hb⟩
        have B5 := Lib.hid (B4.out.trans (hb.mono B4.out.size))
        clear hb
        go_wp2
        go_ret
        exact ⟨rfl, B5.out⟩
set_option maxHeartbeats 1600000 in
set_option maxRecDepth 100000 in
theorem joined_none (ad : Option Addr) (c : Nat) (b : Int) (w : World) (hb0 : 0 ≤ b) (hb1 : b < 256) (ht : Tabs w) :
    Calls Tryd.prog 8 #[.slice ad 0 c, .int .u8 b] w fun e w' => e = .returned (.bool true) ∧ Below w.heap.size w w' := by
  have HT := Lib.hid ht
  clear ht
  have hcases : b % 4 = 0 ∨ b % 4 = 1 ∨ b % 4 = 2 ∨ b % 4 = 3 := by omega
  rcases hcases with hm | hm | hm | hm
  · go_enter Tryd.func8, Tryd.ntmps8
    go_wp2
    have hG := Lib.hid gap0
    generalize (⟨#[32]⟩ : ByteArray) = G at *
    clear hm
    go_loopw [6, 7, 8, 9, 10] (fun v6 v7 a b i wr => ∃ (k : Nat) (A B : ByteArray) (p q : List (List UInt8)), k ≤ 0 ∧ i = .int .i64 k ∧ a = .string A ∧ b = .string B ∧ A.size ≤ 2 + 52 * k ∧ B.size ≤ 51 * k ∧ p.length ≤ k ∧ q.length ≤ k ∧ Hid (NM.Sw A.data.toList p ∧ NM.Sl B.data.toList q) ∧ Hid (Two w wr v6 v7 p q)) (fun _ _ _ _ i _ => 0 - (intOf i).toNat)
    case atStart => exact ⟨0, G, ⟨#[]⟩, [], [], by omega, rfl, rfl, rfl, by have := hG.out.2.2; omega, by decide, by simp, by simp, Lib.hid ⟨hG.out.start, rfl, rfl, rfl⟩, Lib.hid (Two.start w)⟩
    case round =>
      obtain ⟨k, A, B, p, q, hk, rfl, rfl, rfl, hA, hB, hpl, hql, hst, htw⟩ := hrel
      obtain rfl : k = 0 := by omega
      have HL := Lib.hid (hst.out.2.done (by rw [NM.len_eq]; omega) (by omega))
      have HW := Lib.hid hst.out.1.done
      go_wp2_with (fail)
      refine (lines_any B _ (by omega)).mono ?_
      rw [HL.out.1, HL.out.2]
      rintro e w1 ⟨m, rfl, hr⟩
      have R1 := Lib.hid hr
      clear hr
      go_wp2_with (fail)
      refine (words_any A _ (by omega)).mono ?_
      rw [HW.out]
      rintro e w2 ⟨v2, rfl, hr⟩
      have R2 := Lib.hid hr
      have B12 := Lib.hid (R1.out.2.trans (hr.2.mono R1.out.2.size))
      have O6 := Lib.hid (own_below htw.out.1.1 B12.out)
      have O7 := Lib.hid (own_below htw.out.2.1.1 B12.out)
      have OM := Lib.hid (own_below R1.out.1 hr.2)
      have B2 := Lib.hid (htw.out.1.2.trans (B12.out.mono htw.out.1.2.size))
      have T2 := Lib.hid (HT.out.on B2.out)
      clear hr
      go_wp2_with (fail)
      refine (texts_own v2 _ _ _ _ w2 (by omega) R2.out.1 O6.out).mono ?_
      rintro e w3 ⟨rfl, hd⟩
      have OM3 := Lib.hid (own_below OM.out hd.below)
      have O73 := Lib.hid (own_below O7.out hd.below)
      have B3 := Lib.hid (B2.out.trans (hd.below.mono B2.out.size))
      have T3 := Lib.hid (T2.out.on hd.below)
      clear hd
      go_wp2_with (fail)
      refine (texts_own m _ _ _ _ w3 (by omega) OM3.out O73.out).mono ?_
      rintro e w4 ⟨rfl, hd⟩
      have B4 := Lib.hid (B3.out.trans (hd.below.mono B3.out.size))
      have T4 := Lib.hid (T3.out.on hd.below)
      clear hd
      go_wp2_with (fail)
      refine (awake_any _ T4.out).mono ?_
      rintro e w5 ⟨rfl, hb⟩
      have B5 := Lib.hid (B4.out.trans (hb.mono B4.out.size))
      clear hb
      go_wp2
      go_ret
      exact ⟨rfl, B5.out⟩
  · go_enter Tryd.func8, Tryd.ntmps8
    go_wp2
    have hG := Lib.hid gap1
    generalize (⟨#[44, 32]⟩ : ByteArray) = G at *
    clear hm
    go_loopw [6, 7, 8, 9, 10] (fun v6 v7 a b i wr => ∃ (k : Nat) (A B : ByteArray) (p q : List (List UInt8)), k ≤ 0 ∧ i = .int .i64 k ∧ a = .string A ∧ b = .string B ∧ A.size ≤ 2 + 52 * k ∧ B.size ≤ 51 * k ∧ p.length ≤ k ∧ q.length ≤ k ∧ Hid (NM.Sw A.data.toList p ∧ NM.Sl B.data.toList q) ∧ Hid (Two w wr v6 v7 p q)) (fun _ _ _ _ i _ => 0 - (intOf i).toNat)
    case atStart => exact ⟨0, G, ⟨#[]⟩, [], [], by omega, rfl, rfl, rfl, by have := hG.out.2.2; omega, by decide, by simp, by simp, Lib.hid ⟨hG.out.start, rfl, rfl, rfl⟩, Lib.hid (Two.start w)⟩
    case round =>
      obtain ⟨k, A, B, p, q, hk, rfl, rfl, rfl, hA, hB, hpl, hql, hst, htw⟩ := hrel
      obtain rfl : k = 0 := by omega
      have HL := Lib.hid (hst.out.2.done (by rw [NM.len_eq]; omega) (by omega))
      have HW := Lib.hid hst.out.1.done
      go_wp2_with (fail)
      refine (lines_any B _ (by omega)).mono ?_
      rw [HL.out.1, HL.out.2]
      rintro e w1 ⟨m, rfl, hr⟩
      have R1 := Lib.hid hr
      clear hr
      go_wp2_with (fail)
      refine (words_any A _ (by omega)).mono ?_
      rw [HW.out]
      rintro e w2 ⟨v2, rfl, hr⟩
      have R2 := Lib.hid hr
      have B12 := Lib.hid (R1.out.2.trans (hr.2.mono R1.out.2.size))
      have O6 := Lib.hid (own_below htw.out.1.1 B12.out)
      have O7 := Lib.hid (own_below htw.out.2.1.1 B12.out)
      have OM := Lib.hid (own_below R1.out.1 hr.2)
      have B2 := Lib.hid (htw.out.1.2.trans (B12.out.mono htw.out.1.2.size))
      have T2 := Lib.hid (HT.out.on B2.out)
      clear hr
      go_wp2_with (fail)
      refine (texts_own v2 _ _ _ _ w2 (by omega) R2.out.1 O6.out).mono ?_
      rintro e w3 ⟨rfl, hd⟩
      have OM3 := Lib.hid (own_below OM.out hd.below)
      have O73 := Lib.hid (own_below O7.out hd.below)
      have B3 := Lib.hid (B2.out.trans (hd.below.mono B2.out.size))
      have T3 := Lib.hid (T2.out.on hd.below)
      clear hd
      go_wp2_with (fail)
      refine (texts_own m _ _ _ _ w3 (by omega) OM3.out O73.out).mono ?_
      rintro e w4 ⟨rfl, hd⟩
      have B4 := Lib.hid (B3.out.trans (hd.below.mono B3.out.size))
      have T4 := Lib.hid (T3.out.on hd.below)
      clear hd
      go_wp2_with (fail)
      refine (awake_any _ T4.out).mono ?_
      rintro e w5 ⟨rfl, hb⟩
      have B5 := Lib.hid (B4.out.trans (hb.mono B4.out.size))
      clear hb
      go_wp2
      go_ret
      exact ⟨rfl, B5.out⟩
  · go_enter Tryd.func8, Tryd.ntmps8
    go_wp2
    have hG := Lib.hid gap2
    generalize (⟨#[9]⟩ : ByteArray) = G at *
    clear hm
    go_loopw [6, 7, 8, 9, 10] (fun v6 v7 a b i wr => ∃ (k : Nat) (A B : ByteArray) (p q : List (List UInt8)), k ≤ 0 ∧ i = .int .i64 k ∧ a = .string A ∧ b = .string B ∧ A.size ≤ 2 + 52 * k ∧ B.size ≤ 51 * k ∧ p.length ≤ k ∧ q.length ≤ k ∧ Hid (NM.Sw A.data.toList p ∧ NM.Sl B.data.toList q) ∧ Hid (Two w wr v6 v7 p q)) (fun _ _ _ _ i _ => 0 - (intOf i).toNat)
    case atStart => exact ⟨0, G, ⟨#[]⟩, [], [], by omega, rfl, rfl, rfl, by have := hG.out.2.2; omega, by decide, by simp, by simp, Lib.hid ⟨hG.out.start, rfl, rfl, rfl⟩, Lib.hid (Two.start w)⟩
    case round =>
      obtain ⟨k, A, B, p, q, hk, rfl, rfl, rfl, hA, hB, hpl, hql, hst, htw⟩ := hrel
      obtain rfl : k = 0 := by omega
      have HL := Lib.hid (hst.out.2.done (by rw [NM.len_eq]; omega) (by omega))
      have HW := Lib.hid hst.out.1.done
      go_wp2_with (fail)
      refine (lines_any B _ (by omega)).mono ?_
      rw [HL.out.1, HL.out.2]
      rintro e w1 ⟨m, rfl, hr⟩
      have R1 := Lib.hid hr
      clear hr
      go_wp2_with (fail)
      refine (words_any A _ (by omega)).mono ?_
      rw [HW.out]
      rintro e w2 ⟨v2, rfl, hr⟩
      have R2 := Lib.hid hr
      have B12 := Lib.hid (R1.out.2.trans (hr.2.mono R1.out.2.size))
      have O6 := Lib.hid (own_below htw.out.1.1 B12.out)
      have O7 := Lib.hid (own_below htw.out.2.1.1 B12.out)
      have OM := Lib.hid (own_below R1.out.1 hr.2)
      have B2 := Lib.hid (htw.out.1.2.trans (B12.out.mono htw.out.1.2.size))
      have T2 := Lib.hid (HT.out.on B2.out)
      clear hr
      go_wp2_with (fail)
      refine (texts_own v2 _ _ _ _ w2 (by omega) R2.out.1 O6.out).mono ?_
      rintro e w3 ⟨rfl, hd⟩
      have OM3 := Lib.hid (own_below OM.out hd.below)
      have O73 := Lib.hid (own_below O7.out hd.below)
      have B3 := Lib.hid (B2.out.trans (hd.below.mono B2.out.size))
      have T3 := Lib.hid (T2.out.on hd.below)
      clear hd
      go_wp2_with (fail)
      refine (texts_own m _ _ _ _ w3 (by omega) OM3.out O73.out).mono ?_
      rintro e w4 ⟨rfl, hd⟩
      have B4 := Lib.hid (B3.out.trans (hd.below.mono B3.out.size))
      have T4 := Lib.hid (T3.out.on hd.below)
      clear hd
      go_wp2_with (fail)
      refine (awake_any _ T4.out).mono ?_
      rintro e w5 ⟨rfl, hb⟩
      have B5 := Lib.hid (B4.out.trans (hb.mono B4.out.size))
      clear hb
      go_wp2
      go_ret
      exact ⟨rfl, B5.out⟩
  · go_enter Tryd.func8, Tryd.ntmps8
    go_wp2
    have hG := Lib.hid gap3
    generalize (⟨#[44, 44]⟩ : ByteArray) = G at *
    clear hm
    go_loopw [6, 7, 8, 9, 10] (fun v6 v7 a b i wr => ∃ (k : Nat) (A B : ByteArray) (p q : List (List UInt8)), k ≤ 0 ∧ i = .int .i64 k ∧ a = .string A ∧ b = .string B ∧ A.size ≤ 2 + 52 * k ∧ B.size ≤ 51 * k ∧ p.length ≤ k ∧ q.length ≤ k ∧ Hid (NM.Sw A.data.toList p ∧ NM.Sl B.data.toList q) ∧ Hid (Two w wr v6 v7 p q)) (fun _ _ _ _ i _ => 0 - (intOf i).toNat)
    case atStart => exact ⟨0, G, ⟨#[]⟩, [], [], by omega, rfl, rfl, rfl, by have := hG.out.2.2; omega, by decide, by simp, by simp, Lib.hid ⟨hG.out.start, rfl, rfl, rfl⟩, Lib.hid (Two.start w)⟩
    case round =>
      obtain ⟨k, A, B, p, q, hk, rfl, rfl, rfl, hA, hB, hpl, hql, hst, htw⟩ := hrel
      obtain rfl : k = 0 := by omega
      have HL := Lib.hid (hst.out.2.done (by rw [NM.len_eq]; omega) (by omega))
      have HW := Lib.hid hst.out.1.done
      go_wp2_with (fail)
      refine (lines_any B _ (by omega)).mono ?_
      rw [HL.out.1, HL.out.2]
      rintro e w1 ⟨m, rfl, hr⟩
      have R1 := Lib.hid hr
      clear hr
      go_wp2_with (fail)
      refine (words_any A _ (by omega)).mono ?_
      rw [HW.out]
      rintro e w2 ⟨v2, rfl, hr⟩
      have R2 := Lib.hid hr
      have B12 := Lib.hid (R1.out.2.trans (hr.2.mono R1.out.2.size))
      have O6 := Lib.hid (own_below htw.out.1.1 B12.out)
      have O7 := Lib.hid (own_below htw.out.2.1.1 B12.out)
      have OM := Lib.hid (own_below R1.out.1 hr.2)
      have B2 := Lib.hid (htw.out.1.2.trans (B12.out.mono htw.out.1.2.size))
      have T2 := Lib.hid (HT.out.on B2.out)
      clear hr
      go_wp2_with (fail)
      refine (texts_own v2 _ _ _ _ w2 (by omega) R2.out.1 O6.out).mono ?_
      rintro e w3 ⟨rfl, hd⟩
      have OM3 := Lib.hid (own_below OM.out hd.below)
      have O73 := Lib.hid (own_below O7.out hd.below)
      have B3 := Lib.hid (B2.out.trans (hd.below.mono B2.out.size))
      have T3 := Lib.hid (T2.out.on hd.below)
      clear hd
      go_wp2_with (fail)
      refine (texts_own m _ _ _ _ w3 (by omega) OM3.out O73.out).mono ?_
      rintro e w4 ⟨rfl, hd⟩
      have B4 := Lib.hid (B3.out.trans (hd.below.mono B3.out.size))
      have T4 := Lib.hid (T3.out.on hd.below)
      clear hd
      go_wp2_with (fail)
      refine (awake_any _ T4.out).mono ?_
      rintro e w5 ⟨rfl, hb⟩
      have B5 := Lib.hid (B4.out.trans (hb.mono B4.out.size))
      clear hb
      go_wp2
      go_ret
      exact ⟨rfl, B5.out⟩
theorem joined_long (ad : Option Addr) (n c : Nat) (b : Int) (w : World) (hn : 40 < (n : Int)) (ht : Tabs w) :
    Calls Tryd.prog 8 #[.slice ad n c, .int .u8 b] w fun e w' => e = .returned (.bool true) ∧ Below w.heap.size w w' := by
  have HT := Lib.hid ht
  clear ht
  go_enter Tryd.func8, Tryd.ntmps8
  go_wp2_with (go_at_call 13; refine (awake_any _ HT.out).mono ?_; rintro e w1 ⟨rfl, hb⟩)
  go_ret
  exact ⟨rfl, hb⟩
theorem joined_law (ad : Option Addr) (n c : Nat) (xs : List ByteArray) (b : Int) (w : World) (hA : ArgTexts w ad n xs) (hb0 : 0 ≤ b) (hb1 : b < 256) (ht : Tabs w) :
    Calls Tryd.prog 8 #[.slice ad n c, .int .u8 b] w fun e w' => e = .returned (.bool true) ∧ Below w.heap.size w w' := by
  by_cases hn : 40 < n
  · exact joined_long ad n c b w (by omega) ht
  · rcases hA.2 with rfl | ⟨g, off, rfl, hc⟩
    · exact joined_none ad c b w hb0 hb1 ht
    · exact joined_some g off n c b xs w (by omega) hb0 hb1 (Lib.hid hc) ht
end Go.Proofs.YtfeekgepmemanaaDoor
