/-
  What parts answers: a line, taken apart. No condition but lengths, and that the library's one number is a number.
-/
import Derived.Test.YtcilhippjiichaaDoorWalkM
namespace Go.Proofs.YtcilhippjiichaaDoor
open Go.RowKit Go.Maps S02
/-- The library's number. -/
def Mx (w : World) : Prop := ∃ m, w.cell? ⟨0, 0, none⟩ = some (.int .i64 m)
theorem Mx.on {w w' : World} (h : Mx w) (hb : Below w.heap.size w w') : Mx w' := by
  obtain ⟨m, h⟩ := h
  exact ⟨m, (hb.cell (lt_of_cell h)).trans h⟩
/-- A line as a value. -/
def lnV (word : List UInt8) (a : Nat) (v : Value) (s : Nat) : Value := .agg #[NM.tv word, .int .u32 a, v, .int .u8 s]
/-- What parts leaves. -/
def PtPost (w : World) (l : List UInt8) (e : Ending) (w' : World) : Prop :=
  Below w.heap.size w w' ∧ ((∃ (x : RM.Ln) (v : Value), RM.rd l = some x ∧ e = .returned (.tuple #[lnV (RM.wdK x.k) x.a v x.s, .bool true]) ∧ w'.ownsRow w.heap.size 5 1 v x.bs.length (byC x.bs)) ∨
    (RM.rd l = none ∧ e = .returned (.tuple #[lnV [] 0 (.slice none 0 0) 0, .bool false])))
theorem split_any (s : ByteArray) (w : World) (hs : s.size ≤ 100000) (hm : Mx w) : ∃ xs : List ByteArray, xs.map (·.data.toList) = RM.sp s.data.toList ∧ xs.length ≤ 100001 ∧
    Calls Tryd.prog 56 #[.string s, .string ⟨#[32]⟩] w fun e w' => e = .returned (.slice (some ⟨w.heap.size, 0, none⟩) xs.length xs.length) ∧ w' = w.alloc (.cells (xs.map Value.string).toArray 9) := by
  obtain ⟨m, hm⟩ := hm
  have h := Tryd.strings_Split s ⟨#[32]⟩ m w (by omega) hm (by decide)
  have hl := Lib.splitB_all ⟨#[32]⟩ (by decide) 0 (Lib.countB s ⟨#[32]⟩) s rfl
  have hc := Lib.countB_le ⟨#[32]⟩ (by decide) s.size s (Nat.le_refl _)
  refine ⟨Lib.splitB ⟨#[32]⟩ 0 (Lib.countB s ⟨#[32]⟩) s, ?_, by omega, ?_⟩
  · rw [Lib.splitB_data]
    exact RM.sp_split s.data.toList
  · rw [hl]
    exact h
theorem getD_x (xs : List ByteArray) (W : World) (P : Nat) (h : W.heap[P]? = some (.cells (xs.map Value.string).toArray 9 (0, 0))) (j : Nat) (hj : j < xs.length) : W.cell? ⟨P, j, none⟩ = some (.string (xs.getD j ⟨#[]⟩)) := by
  refine cell_of h ?_
  rw [List.getElem?_toArray, List.getElem?_map, List.getD_eq_getElem?_getD, List.getElem?_eq_getElem hj]
  rfl
/-- Where the parts and the line that is made of them lie. -/
structure PZ (w W : World) (xs : List ByteArray) (x0 : ByteArray) (a : Int) (dv : Value) (sm : Int) : Prop where
  rz : W.heap[w.heap.size]? = some (.cells #[.string ⟨#[]⟩, .int .u32 0, .slice none 0 0, .int .u8 0] 70 (0, 0))
  pz : W.heap[w.heap.size + 1]? = some (.cells (xs.map Value.string).toArray 9 (0, 0))
  lz : W.heap[w.heap.size + 2]? = some (.cells #[.string x0, .int .u32 a, dv, .int .u8 sm] 70 (0, 0))
  old : Below w.heap.size w W
theorem PZ.below {w W W' : World} {xs : List ByteArray} {x0 : ByteArray} {a : Int} {dv : Value} {sm : Int} (h : PZ w W xs x0 a dv sm) (hb : Below W.heap.size W W') : PZ w W' xs x0 a dv sm :=
  ⟨(hb.block _ (lt_of_heap h.rz)).trans h.rz, (hb.block _ (lt_of_heap h.pz)).trans h.pz, (hb.block _ (lt_of_heap h.lz)).trans h.lz, h.old.trans (hb.mono h.old.size)⟩
theorem PZ.new (w : World) (xs : List ByteArray) (x0 : ByteArray) : PZ w (((w.alloc (.cells #[.string ⟨#[]⟩, .int .u32 0, .slice none 0 0, .int .u8 0] 70)).alloc (.cells (xs.map Value.string).toArray 9)).alloc (.cells #[.string x0, .int .u32 0, .slice none 0 0, .int .u8 0] 70)) xs x0 0 (.slice none 0 0) 0 := by
  have h1 := heap_alloc_new w (.cells #[.string ⟨#[]⟩, .int .u32 0, .slice none 0 0, .int .u8 0] 70)
  have h2 := heap_alloc_new (w.alloc (.cells #[.string ⟨#[]⟩, .int .u32 0, .slice none 0 0, .int .u8 0] 70)) (.cells (xs.map Value.string).toArray 9)
  have h3 := heap_alloc_new ((w.alloc (.cells #[.string ⟨#[]⟩, .int .u32 0, .slice none 0 0, .int .u8 0] 70)).alloc (.cells (xs.map Value.string).toArray 9)) (.cells #[.string x0, .int .u32 0, .slice none 0 0, .int .u8 0] 70)
  have e1 : (w.alloc (.cells #[.string ⟨#[]⟩, .int .u32 0, .slice none 0 0, .int .u8 0] 70)).heap.size = w.heap.size + 1 := by simp
  have e2 : ((w.alloc (.cells #[.string ⟨#[]⟩, .int .u32 0, .slice none 0 0, .int .u8 0] 70)).alloc (.cells (xs.map Value.string).toArray 9)).heap.size = w.heap.size + 2 := by simp
  rw [e1] at h2
  rw [e2] at h3
  exact ⟨(Below.heap_alloc _ _ _ (by omega)).trans ((Below.heap_alloc _ _ _ (by omega)).trans h1), (Below.heap_alloc _ _ _ (by omega)).trans h2, h3, (below_two w _ _).alloc (by omega) _⟩
theorem PtPost.no {w w' : World} {l : List UInt8} (h : RM.rd l = none) (hb : Below w.heap.size w w') : PtPost w l (.returned (.tuple #[.agg #[.string ⟨#[]⟩, .int .u32 0, .slice none 0 0, .int .u8 0], .bool false])) w' := ⟨hb, .inr ⟨h, rfl⟩⟩
theorem PtPost.yes {w w' : World} {l : List UInt8} {k a sm : Nat} {bs : List UInt8} {v : Value} {x0 : ByteArray} (h : RM.rd l = some ⟨k, a, bs, sm⟩) (hx : x0.data.toList = RM.wdK k) (hb : Below w.heap.size w w') (ho : w'.ownsRow w.heap.size 5 1 v bs.length (byC bs)) : PtPost w l (.returned (.tuple #[.agg #[.string x0, .int .u32 a, v, .int .u8 sm], .bool true])) w' :=
  ⟨hb, .inl ⟨⟨k, a, bs, sm⟩, v, h, by rw [lnV, ← hx]; rfl, ho⟩⟩
theorem PZ.four {w W : World} {xs : List ByteArray} {x0 : ByteArray} {a : Int} {dv : Value} {sm : Int} (h : PZ w W xs x0 a dv sm) (u0 u1 u2 u3 : Value) : Below w.heap.size w ((((W.setCell ⟨w.heap.size, 0, none⟩ u0).setCell ⟨w.heap.size, 1, none⟩ u1).setCell ⟨w.heap.size, 2, none⟩ u2).setCell ⟨w.heap.size, 3, none⟩ u3) :=
  (((h.old.setCell (Nat.le_refl _) _).setCell (Nat.le_refl _) _).setCell (Nat.le_refl _) _).setCell (Nat.le_refl _) _
theorem own_four {W : World} {N n : Nat} {v u0 u1 u2 u3 : Value} {xs : List Value} {cs : Array Value} {f : Nat × Nat} (h : W.ownsRow N 5 1 v n xs) (hk : W.heap[N]? = some (.cells cs 70 f)) : ((((W.setCell ⟨N, 0, none⟩ u0).setCell ⟨N, 1, none⟩ u1).setCell ⟨N, 2, none⟩ u2).setCell ⟨N, 3, none⟩ u3).ownsRow N 5 1 v n xs := by
  refine own_keep h fun k e => ?_
  obtain ⟨_, _, c, hc⟩ := own_lt h e
  have hne : k ≠ N := kind_ne hc hk (by decide)
  rw [heap_other hne, heap_other hne, heap_other hne, heap_other hne]
/-- The address and the sum are laid into the line, in either order. -/
theorem PZ.fin {w W : World} {xs : List ByteArray} {x0 : ByteArray} {dv : Value} {a b : Int} (h : PZ w W xs x0 0 dv 0) : PZ w ((W.setCell ⟨w.heap.size + 2, 1, none⟩ (.int .u32 a)).setCell ⟨w.heap.size + 2, 3, none⟩ (.int .u8 b)) xs x0 a dv b :=
  ⟨(heap_other (by omega)).trans ((heap_other (by omega)).trans h.rz), (heap_other (by omega)).trans ((heap_other (by omega)).trans h.pz), by rw [heap_set (heap_set h.lz)]; rfl, (h.old.setCell (by show _ ≤ _ + 2; omega) _).setCell (by show _ ≤ _ + 2; omega) _⟩
theorem PZ.fin' {w W : World} {xs : List ByteArray} {x0 : ByteArray} {dv : Value} {a b : Int} (h : PZ w W xs x0 0 dv 0) : PZ w ((W.setCell ⟨w.heap.size + 2, 3, none⟩ (.int .u8 b)).setCell ⟨w.heap.size + 2, 1, none⟩ (.int .u32 a)) xs x0 a dv b :=
  ⟨(heap_other (by omega)).trans ((heap_other (by omega)).trans h.rz), (heap_other (by omega)).trans ((heap_other (by omega)).trans h.pz), by rw [heap_set (heap_set h.lz)]; rfl, (h.old.setCell (by show _ ≤ _ + 2; omega) _).setCell (by show _ ≤ _ + 2; omega) _⟩
theorem PZ.drew {w W : World} {xs : List ByteArray} {x0 : ByteArray} {a : Int} {dv : Value} {sm : Int} (h : PZ w W xs x0 a dv sm) : PZ w W.drew xs x0 a dv sm := ⟨h.rz, h.pz, h.lz, h.old.drew⟩
theorem PZ.dat {w W : World} {xs : List ByteArray} {x0 : ByteArray} {a : Int} {dv : Value} {sm : Int} (h : PZ w W xs x0 a dv sm) (v : Value) : PZ w (W.setCell ⟨w.heap.size + 2, 2, none⟩ v) xs x0 a v sm :=
  ⟨(heap_other (by omega)).trans h.rz, (heap_other (by omega)).trans h.pz, by rw [heap_set h.lz]; rfl, h.old.setCell (by show _ ≤ _ + 2; omega) _⟩
theorem own_L {w W : World} {xs : List ByteArray} {x0 : ByteArray} {a : Int} {dv : Value} {sm : Int} (h : PZ w W xs x0 a dv sm) {v : Value} {n B : Nat} {ys : List Value} (ho : W.ownsRow B 5 1 v n ys) (o : Nat) (u : Value) : (W.setCell ⟨w.heap.size + 2, o, none⟩ u).ownsRow B 5 1 v n ys := by
  refine own_keep ho fun k e => ?_
  obtain ⟨_, _, c, hc⟩ := own_lt ho e
  exact heap_other (kind_ne hc h.lz (by decide))
theorem PZ.fst_ {w W : World} {xs : List ByteArray} {x0 : ByteArray} {dv : Value} {a b c : Int} (h : PZ w W xs x0 a dv b) : PZ w (W.setCell ⟨w.heap.size + 2, 1, none⟩ (.int .u32 c)) xs x0 c dv b :=
  ⟨(heap_other (by omega)).trans h.rz, (heap_other (by omega)).trans h.pz, by rw [heap_set h.lz]; rfl, h.old.setCell (by show _ ≤ _ + 2; omega) _⟩
theorem below_drew (w : World) : Below w.heap.size w w.drew := (Below.refl _ _).drew
theorem own_first {W : World} {B : Nat} {v : Value} {bs : List UInt8} (h : W.ownsRow B 5 1 v bs.length (byC bs)) (h0 : bs ≠ []) : ∃ g c, v = .slice (some ⟨g, 0, none⟩) bs.length c ∧ B ≤ g ∧ W.cell? ⟨g, 0, none⟩ = some (.int .u8 (bs.getD 0 0).toNat) ∧ (∃ cs, W.heap[g]? = some (.cells cs 5 (0, 0))) := by
  have hl : 0 < bs.length := List.length_pos_iff.mpr h0
  rcases h.2 with ⟨_, h1⟩ | ⟨g, cap, cur, rfl, h1, h2, _⟩
  · exact absurd (List.eq_nil_of_length_eq_zero h1) h0
  · refine ⟨g, cap, rfl, h1, ?_, cur, h2⟩
    rw [h.cellAt 0 (by omega), byC, List.getElem?_map, getD_some hl]
    rfl
theorem own_base {W : World} {B B' e size n : Nat} {v : Value} {xs : List Value} (h : W.ownsRow B e size v n xs) (hb : B' ≤ B) : W.ownsRow B' e size v n xs := by
  refine ⟨h.1, ?_⟩
  rcases h.2 with h' | ⟨g, cap, cur, rfl, h1, h2⟩
  · exact .inl h'
  · exact .inr ⟨g, cap, cur, rfl, by omega, h2⟩
theorem lit_of {x : ByteArray} {l : List UInt8} (h : x.data.toList = l) : x = ⟨l.toArray⟩ := by
  subst h; rfl
theorem lit_not {x : ByteArray} {l : List UInt8} (h : x.data.toList ≠ l) : (x.toList == l) = false ∧ ¬ x.toList = l := by
  rw [ByteArray.toList_eq]
  exact ⟨by simpa using h, h⟩
theorem own_blk {w w' : World} {B e size n : Nat} {v : Value} {xs : List Value} (h : w.ownsRow B e size v n xs) (hb : Below w.heap.size w w') : w'.ownsRow B e size v n xs := own_keep h fun k hk => hb.block k (own_lt h hk).2.1
theorem list3 {α : Type} {l : List α} (h : l.length = 3) : ∃ a b c, l = [a, b, c] := by
  match l, h with
  | [a, b, c], _ => exact ⟨a, b, c, rfl⟩
theorem list4 {α : Type} {l : List α} (h : l.length = 4) : ∃ a b c d, l = [a, b, c, d] := by
  match l, h with
  | [a, b, c, d], _ => exact ⟨a, b, c, d, rfl⟩
set_option maxHeartbeats 16000000 in
theorem parts_any (s : ByteArray) (w : World) (hs : s.size ≤ 100000) (hm : Mx w) : Calls Tryd.prog 46 #[.string s] w (PtPost w s.data.toList) := by
  obtain ⟨xs, hx1, hx2, hx3⟩ := split_any s (w.alloc (.cells #[.string ⟨#[]⟩, .int .u32 0, .slice none 0 0, .int .u8 0] 70)) hs (hm.on (below_one w _))
  have hx0 : 0 < xs.length := by
    have h1 := congrArg List.length hx1
    have h2 := List.length_pos_iff.mpr (RM.sp_ne s.data.toList)
    rw [List.length_map] at h1
    omega
  have HX3 := Lib.hid (hx3.mono fun e w' h => (⟨h.1, h.2.symm⟩ : _ ∧ _ = w'))
  have HX1 := Lib.hid hx1
  have HXL := Lib.hid (fun (x : ByteArray) (h : x ∈ xs) => show x.size ≤ 100000 by
    have := RM.sp_len s.data.toList x.data.toList (by rw [← hx1]; exact List.mem_map.2 ⟨x, h, rfl⟩)
    rw [NM.len_eq, NM.len_eq] at this
    omega)
  obtain ⟨n, hn⟩ : ∃ n, xs.length = n := ⟨_, rfl⟩
  obtain ⟨x0, he0⟩ : ∃ x0, xs.getD 0 ⟨#[]⟩ = x0 := ⟨_, rfl⟩
  have HPN := Lib.hid (PZ.new w xs x0)
  obtain ⟨W1, hW1⟩ : ∃ W1, (w.alloc (.cells #[.string ⟨#[]⟩, .int .u32 0, .slice none 0 0, .int .u8 0] 70)).alloc (.cells (xs.map Value.string).toArray 9) = W1 := ⟨_, rfl⟩
  have hc0 : W1.cell? ⟨w.heap.size + 1, 0, none⟩ = some (.string x0) := by
    rw [← he0, ← hW1]
    refine getD_x xs _ (w.heap.size + 1) ?_ 0 hx0
    have := heap_alloc_new (w.alloc (.cells #[.string ⟨#[]⟩, .int .u32 0, .slice none 0 0, .int .u8 0] 70)) (.cells (xs.map Value.string).toArray 9)
    simpa using this
  have hsz : W1.heap.size = w.heap.size + 2 := by rw [← hW1]; simp
  rw [hn] at hx0 hx2 HX3
  rw [hW1] at HPN HX3
  have HN := Lib.hid hn
  have HE0 := Lib.hid he0
  have HC0 := Lib.hid hc0
  have HSZ := Lib.hid hsz
  have HSL := Lib.hid (show (RM.sp s.data.toList).length = n by rw [← hx1, List.length_map]; exact hn)
  have HS0 := Lib.hid (show (RM.sp s.data.toList).getD 0 [] = x0.data.toList by
    rw [← hx1, ← he0, List.getD_eq_getElem?_getD, List.getD_eq_getElem?_getD, List.getElem?_map]
    cases h : xs[0]? with
    | none => rw [List.getElem?_eq_none_iff] at h; omega
    | some x => rfl)
  clear hx1 hx3 hn he0 hW1 hc0 hsz hm hs
  go_enter Tryd.func46, Tryd.ntmps46
  go_upto_region 2 with (go_at_call 56; refine HX3.out.mono ?_; rintro e w2 ⟨rfl, rfl⟩)
  have c0 := HC0.out
  go_upto_region 4 with fail
  clear c0
  rw [HSZ.out]
  obtain ⟨W2, hW2⟩ : ∃ W2, W1.alloc (.cells #[.string x0, .int .u32 0, .slice none 0 0, .int .u8 0] 70) = W2 := ⟨_, rfl⟩
  rw [hW2] at HPN ⊢
  clear hW2 HX3 HC0 HSZ
  have l0 := cell_of (o := 0) HPN.out.lz rfl
  by_cases hst : x0.data.toList = RM.wStart
  · by_cases h3 : n = 3
    · obtain ⟨y0, x1, x2, rfl⟩ := list3 (HN.out.trans h3)
      obtain rfl : y0 = x0 := HE0.out
      have hs1 := HXL.out x1 (by simp)
      have hs2 := HXL.out x2 (by simp)
      have HSP := Lib.hid (show RM.sp s.data.toList = [RM.wStart, x1.data.toList, x2.data.toList] by rw [← HX1.out, ← hst]; rfl)
      have e0 := lit_of hst
      unfold RM.wStart at e0
      subst e0 h3
      clear hst HX1 HXL HN HE0 HSL HS0 hx0 hx2
      go_upto_region 8 with fail
      clear l0
      cases hA : RM.isA x1.data.toList
      · have HNO := Lib.hid (RM.rd_three_no HSP.out (.inr (.inl hA)))
        have p1 := cell_of (o := 1) HPN.out.pz rfl
        go_upto_region 12 with (first
          | (go_at_call 58; refine (address_no x1 _ hs1 hA).mono ?_; rintro e w5 ⟨N5, rfl, hb5⟩; have HPN5 := Lib.hid (HPN.out.below hb5); clear hb5; have p9 := cell_of (o := 2) HPN5.out.pz rfl)
          | (go_at_call 57; refine (data_may x2 1 _ (by omega) hs2).mono ?_; rintro e w6 ⟨v6, b6, rfl, hb6⟩; have HPN6 := Lib.hid (HPN5.out.below hb6); clear hb6))
        have r0 := cell_of (o := 0) HPN6.out.rz rfl
        have r1 := cell_of (o := 1) HPN6.out.rz rfl
        have r2 := cell_of (o := 2) HPN6.out.rz rfl
        have r3 := cell_of (o := 3) HPN6.out.rz rfl
        have rf : ∀ o, w6.frozen? ⟨w.heap.size, o, none⟩ = false := fun o => unfrozen HPN6.out.rz
        go_wp2
        refine bodyPost_ret (v := .tuple #[.agg #[.string ⟨#[]⟩, .int .u32 0, .slice none 0 0, .int .u8 0], .bool false]) (by simp [results, Tryd.results46, go_sem, r0, r1, r2, r3]) rfl ?_
        exact PtPost.no HNO.out (HPN6.out.four _ _ _ _)
      · by_cases hD : RM.isD 1 x2.data.toList
        · have HAA := Lib.hid (RM.isA_open hA)
          have hvA := RM.val_lt' HAA.out.1 HAA.out.2 (by decide)
          have hvA' : NM.val 16 x1.data.toList < 4294967296 := hvA
          have HAC := Lib.hid (fun W => address_yes x1 W hs1 hA)
          obtain ⟨Av, hAv⟩ : ∃ Av, NM.val 16 x1.data.toList = Av := ⟨_, rfl⟩
          rw [hAv] at HAC hvA'
          have HAV := Lib.hid hAv
          clear hvA hAv
          have p1 := cell_of (o := 1) HPN.out.pz rfl
          go_upto_region 14 with (first
            | (go_at_call 58; refine (HAC.out _).mono ?_; rintro e w5 ⟨rfl, hb5⟩; have HPN5 := Lib.hid (HPN.out.below hb5); have HB5 := Lib.hid hb5; clear hb5; have p9 := cell_of (o := 2) HPN5.out.pz rfl)
            | (go_at_call 57; refine (data_yes x2 1 _ (by omega) hs2 hD).mono ?_; rintro e w6 ⟨v6, bs6, rfl, hb6, h61, h62, h63, h64⟩; have HPN6 := Lib.hid (HPN5.out.below hb6); have HB6 := Lib.hid hb6; have HO6 := Lib.hid h64; have HD6 := Lib.hid h61; obtain ⟨g6, c6, rfl, hg6, k6, hk6⟩ := own_first h64 h62; have H62 := Lib.hid h62; have H63 := Lib.hid h63; clear hb6 h61 h62 h63 h64))
          obtain ⟨cs6, hk6⟩ := hk6
          have hne6 : ¬ g6 = w.heap.size + 2 := kind_ne hk6 HPN6.out.lz (by decide)
          have hne6' : (g6 == w.heap.size + 2) = false := by simpa using hne6
          have HLV := Lib.hid (RM.one_dg H62.out H63.out)
          have hbl : bs6.length = 1 := by have := H63.out; have := List.length_pos_iff.mpr H62.out; omega
          rw [hbl]
          clear hbl hk6
          have hbv := (bs6.getD 0 0).toNat_lt
          obtain ⟨Bv, hBv⟩ : ∃ Bv, (bs6.getD 0 0).toNat = Bv := ⟨_, rfl⟩
          rw [hBv] at k6 HLV hbv
          have hbv' : (Bv : Int) < 256 := by omega
          clear hBv hbv
          have HPN7 := Lib.hid HPN6.out.drew
          have m0 := cell_of (o := 0) HPN6.out.lz rfl
          have m1 := cell_of (o := 1) HPN6.out.lz rfl
          have m2 := cell_of (o := 2) HPN6.out.lz rfl
          have mc3 := cell_of (o := 3) HPN6.out.lz rfl
          have mf : ∀ o, w6.frozen? ⟨w.heap.size + 2, o, none⟩ = false := fun o => unfrozen HPN6.out.lz
          go_region
          have HRD := Lib.hid (show RM.rd s.data.toList = some ⟨3, Av, [], Bv⟩ from by
            rw [RM.rd_three HSP.out HAA.out.1 HAA.out.2 (by rw [← HD6.out]; exact RM.al_dg _) (by rw [← HD6.out]; exact HLV.out.1), HAV.out, ← HD6.out, HLV.out.2])
          obtain ⟨W8, hW8⟩ : ∃ W8, ((w6.setCell ⟨w.heap.size + 2, 1, none⟩ (.int .u32 Av)).setCell ⟨w.heap.size + 2, 3, none⟩ (.int .u8 Bv)).drew = W8 := ⟨_, rfl⟩
          have HPN8 := Lib.hid (show PZ w W8 [⟨#[115, 116, 97, 114, 116]⟩, x1, x2] ⟨#[115, 116, 97, 114, 116]⟩ Av (.slice none 0 0) Bv from hW8 ▸ HPN6.out.fin.drew)
          have HOW := Lib.hid (World.ownsRow_nil W8 w.heap.size 5 1)
          rw [hW8]
          clear hW8 m0 m1 m2 mc3 mf k6 p1 p9
          have m0 := cell_of (o := 0) HPN8.out.lz rfl
          have m1 := cell_of (o := 1) HPN8.out.lz rfl
          have m2 := cell_of (o := 2) HPN8.out.lz rfl
          have mc3 := cell_of (o := 3) HPN8.out.lz rfl
          have r0 := cell_of (o := 0) HPN8.out.rz rfl
          have r1 := cell_of (o := 1) HPN8.out.rz rfl
          have r2 := cell_of (o := 2) HPN8.out.rz rfl
          have r3 := cell_of (o := 3) HPN8.out.rz rfl
          have rf : ∀ o, W8.frozen? ⟨w.heap.size, o, none⟩ = false := fun o => unfrozen HPN8.out.rz
          go_wp2
          refine bodyPost_ret (v := .tuple #[.agg #[.string ⟨#[115, 116, 97, 114, 116]⟩, .int .u32 Av, (.slice none 0 0), .int .u8 Bv], .bool true]) (by simp [results, Tryd.results46, go_sem, r0, r1, r2, r3]) rfl ?_
          exact PtPost.yes HRD.out rfl (HPN8.out.four _ _ _ _) (own_four HOW.out HPN8.out.rz)
        · have HNO := Lib.hid (RM.rd_three_no HSP.out (.inr (.inr hD)))
          have HAC := Lib.hid (fun W => address_yes x1 W hs1 hA)
          generalize NM.val 16 x1.data.toList = Av at *
          have p1 := cell_of (o := 1) HPN.out.pz rfl
          go_upto_region 12 with (first
            | (go_at_call 58; refine (HAC.out _).mono ?_; rintro e w5 ⟨rfl, hb5⟩; have HPN5 := Lib.hid (HPN.out.below hb5); clear hb5; have p9 := cell_of (o := 2) HPN5.out.pz rfl)
            | (go_at_call 57; refine (data_no x2 1 _ (by omega) hs2 hD).mono ?_; rintro e w6 ⟨rfl, hb6⟩; have HPN6 := Lib.hid (HPN5.out.below hb6); clear hb6))
          have r0 := cell_of (o := 0) HPN6.out.rz rfl
          have r1 := cell_of (o := 1) HPN6.out.rz rfl
          have r2 := cell_of (o := 2) HPN6.out.rz rfl
          have r3 := cell_of (o := 3) HPN6.out.rz rfl
          have rf : ∀ o, w6.frozen? ⟨w.heap.size, o, none⟩ = false := fun o => unfrozen HPN6.out.rz
          go_wp2
          refine bodyPost_ret (v := .tuple #[.agg #[.string ⟨#[]⟩, .int .u32 0, .slice none 0 0, .int .u8 0], .bool false]) (by simp [results, Tryd.results46, go_sem, r0, r1, r2, r3]) rfl ?_
          exact PtPost.no HNO.out (HPN6.out.four _ _ _ _)
    · have h3' : ((n : Int) == 3) = false := by simp; omega
      have e0 := lit_of hst
      unfold RM.wStart at e0
      have r0 := cell_of (o := 0) HPN.out.rz rfl
      have r1 := cell_of (o := 1) HPN.out.rz rfl
      have r2 := cell_of (o := 2) HPN.out.rz rfl
      have r3 := cell_of (o := 3) HPN.out.rz rfl
      have rf : ∀ o, W2.frozen? ⟨w.heap.size, o, none⟩ = false := fun o => unfrozen HPN.out.rz
      have HNO := Lib.hid (show RM.rd s.data.toList = none from RM.rd_many_no (fun h => absurd (HSL.out.symm.trans h) h3) (fun _ => by rw [HS0.out, hst]; exact ⟨by decide, by decide⟩))
      subst e0
      clear HX1 HXL HE0 HN hst
      go_wp2
      refine bodyPost_ret (v := .tuple #[.agg #[.string ⟨#[]⟩, .int .u32 0, .slice none 0 0, .int .u8 0], .bool false]) (by simp [results, Tryd.results46, go_sem, r0, r1, r2, r3]) rfl ?_
      exact PtPost.no HNO.out (HPN.out.four _ _ _ _)
  · obtain ⟨q1, q2⟩ := lit_not hst
    unfold RM.wStart at q1 q2
    by_cases hw : x0.data.toList = RM.wSeg
    · by_cases h4 : n = 4
      · obtain ⟨y0, x1, x2, x3, rfl⟩ := list4 (HN.out.trans h4)
        obtain rfl : y0 = x0 := HE0.out
        have hs1 := HXL.out x1 (by simp)
        have hs2 := HXL.out x2 (by simp)
        have hs3 := HXL.out x3 (by simp)
        have HSP := Lib.hid (show RM.sp s.data.toList = [RM.wdK 1, x1.data.toList, x2.data.toList, x3.data.toList] by rw [← HX1.out]; show _ = [RM.wSeg, _, _, _]; rw [← hw]; rfl)
        have e0 := lit_of hw
        unfold RM.wSeg at e0
        subst e0 h4
        clear hst hw q1 q2 HX1 HXL HN HE0 HSL HS0 hx0 hx2
        have p2 := cell_of (o := 2) HPN.out.pz rfl
        by_cases hD16 : RM.isD 16 x2.data.toList
        · go_upto_region 8 with (go_at_call 57; refine (data_yes x2 16 _ (by omega) hs2 hD16).mono ?_; rintro e w3 ⟨v3, bs3, rfl, hb3, h31, h32, h33, h34⟩; have HPN3 := Lib.hid (HPN.out.below hb3); have HO3 := Lib.hid (own_base h34 (HPN.out.old.size)); have HD3 := Lib.hid h31; have H32 := Lib.hid h32; have H33 := Lib.hid h33; obtain ⟨g3, c3, hv3, -, -, -⟩ := own_first h34 h32; clear hb3 h31 h32 h33 h34; obtain ⟨m3, hm3⟩ : ∃ m3, bs3.length = m3 := ⟨_, rfl⟩; rw [hm3] at hv3; subst hv3; have HM3 := Lib.hid hm3; rw [hm3] at HO3 H33; clear hm3; have l2 := cell_of (o := 2) HPN3.out.lz rfl; have lf : w3.frozen? ⟨w.heap.size + 2, 2, none⟩ = false := unfrozen HPN3.out.lz)
          have HPN4 := Lib.hid (HPN3.out.dat (.slice (some ⟨g3, 0, none⟩) m3 c3))
          have HO4 := Lib.hid (own_L HPN3.out HO3.out 2 (.slice (some ⟨g3, 0, none⟩) m3 c3))
          obtain ⟨W4, hW4⟩ : ∃ W4, w3.setCell ⟨w.heap.size + 2, 2, none⟩ (.slice (some ⟨g3, 0, none⟩) m3 c3) = W4 := ⟨_, rfl⟩
          rw [hW4] at HPN4 HO4 ⊢
          clear hW4 l0 l2 lf p2
          cases hA : RM.isA x1.data.toList
          · have HNO := Lib.hid (RM.rd_four_no HSP.out (.inr (.inl hA)))
            have p1 := cell_of (o := 1) HPN4.out.pz rfl
            go_upto_region 12 with (first
              | (go_at_call 58; refine (address_no x1 _ hs1 hA).mono ?_; rintro e w5 ⟨N5, rfl, hb5⟩; have HPN5 := Lib.hid (HPN4.out.below hb5); clear hb5; have p9 := cell_of (o := 3) HPN5.out.pz rfl)
              | (go_at_call 57; refine (data_may x3 1 _ (by omega) hs3).mono ?_; rintro e w6 ⟨v6, b6, rfl, hb6⟩; have HPN6 := Lib.hid (HPN5.out.below hb6); clear hb6))
            have r0 := cell_of (o := 0) HPN6.out.rz rfl
            have r1 := cell_of (o := 1) HPN6.out.rz rfl
            have r2 := cell_of (o := 2) HPN6.out.rz rfl
            have r3 := cell_of (o := 3) HPN6.out.rz rfl
            have rf : ∀ o, w6.frozen? ⟨w.heap.size, o, none⟩ = false := fun o => unfrozen HPN6.out.rz
            go_wp2
            refine bodyPost_ret (v := .tuple #[.agg #[.string ⟨#[]⟩, .int .u32 0, .slice none 0 0, .int .u8 0], .bool false]) (by simp [results, Tryd.results46, go_sem, r0, r1, r2, r3]) rfl ?_
            exact PtPost.no HNO.out (HPN6.out.four _ _ _ _)
          · by_cases hD : RM.isD 1 x3.data.toList
            · have HAA := Lib.hid (RM.isA_open hA)
              have hvA := RM.val_lt' HAA.out.1 HAA.out.2 (by decide)
              have hvA' : NM.val 16 x1.data.toList < 4294967296 := hvA
              have HAC := Lib.hid (fun W => address_yes x1 W hs1 hA)
              obtain ⟨Av, hAv⟩ : ∃ Av, NM.val 16 x1.data.toList = Av := ⟨_, rfl⟩
              rw [hAv] at HAC hvA'
              have HAV := Lib.hid hAv
              clear hvA hAv
              have p1 := cell_of (o := 1) HPN4.out.pz rfl
              go_upto_region 14 with (first
                | (go_at_call 58; refine (HAC.out _).mono ?_; rintro e w5 ⟨rfl, hb5⟩; have HPN5 := Lib.hid (HPN4.out.below hb5); have HB5 := Lib.hid hb5; clear hb5; have p9 := cell_of (o := 3) HPN5.out.pz rfl)
                | (go_at_call 57; refine (data_yes x3 1 _ (by omega) hs3 hD).mono ?_; rintro e w6 ⟨v6, bs6, rfl, hb6, h61, h62, h63, h64⟩; have HPN6 := Lib.hid (HPN5.out.below hb6); have HB6 := Lib.hid hb6; have HO6 := Lib.hid h64; have HD6 := Lib.hid h61; obtain ⟨g6, c6, rfl, hg6, k6, hk6⟩ := own_first h64 h62; have H62 := Lib.hid h62; have H63 := Lib.hid h63; clear hb6 h61 h62 h63 h64))
              obtain ⟨cs6, hk6⟩ := hk6
              have hne6 : ¬ g6 = w.heap.size + 2 := kind_ne hk6 HPN6.out.lz (by decide)
              have hne6' : (g6 == w.heap.size + 2) = false := by simpa using hne6
              have HLV := Lib.hid (RM.one_dg H62.out H63.out)
              have hbl : bs6.length = 1 := by have := H63.out; have := List.length_pos_iff.mpr H62.out; omega
              rw [hbl]
              clear hbl hk6
              have hbv := (bs6.getD 0 0).toNat_lt
              obtain ⟨Bv, hBv⟩ : ∃ Bv, (bs6.getD 0 0).toNat = Bv := ⟨_, rfl⟩
              rw [hBv] at k6 HLV hbv
              have hbv' : (Bv : Int) < 256 := by omega
              clear hBv hbv
              have HPN7 := Lib.hid HPN6.out.drew
              have m0 := cell_of (o := 0) HPN6.out.lz rfl
              have m1 := cell_of (o := 1) HPN6.out.lz rfl
              have m2 := cell_of (o := 2) HPN6.out.lz rfl
              have mc3 := cell_of (o := 3) HPN6.out.lz rfl
              have mf : ∀ o, w6.frozen? ⟨w.heap.size + 2, o, none⟩ = false := fun o => unfrozen HPN6.out.lz
              go_region
              have HRD := Lib.hid (show RM.rd s.data.toList = some ⟨1, Av, bs3, Bv⟩ from by
                have hsp := HSP.out
                rw [← HD3.out] at hsp
                rw [RM.rd_four (k := 1) (by omega) hsp H32.out (HM3.out.symm ▸ H33.out) HAA.out.1 HAA.out.2 (by rw [← HD6.out]; exact RM.al_dg _) (by rw [← HD6.out]; exact HLV.out.1), HAV.out, ← HD6.out, HLV.out.2])
              obtain ⟨W8, hW8⟩ : ∃ W8, ((w6.setCell ⟨w.heap.size + 2, 1, none⟩ (.int .u32 Av)).setCell ⟨w.heap.size + 2, 3, none⟩ (.int .u8 Bv)).drew = W8 := ⟨_, rfl⟩
              have HPN8 := Lib.hid (show PZ w W8 [⟨#[115, 101, 103]⟩, x1, x2, x3] ⟨#[115, 101, 103]⟩ Av (.slice (some ⟨g3, 0, none⟩) m3 c3) Bv from hW8 ▸ HPN6.out.fin.drew)
              have HOW := Lib.hid (show W8.ownsRow w.heap.size 5 1 (.slice (some ⟨g3, 0, none⟩) m3 c3) bs3.length (byC bs3) from HM3.out.symm ▸ hW8 ▸ own_blk (own_L HPN6.out.fst_ (own_L HPN6.out (own_blk (own_blk HO4.out HB5.out) HB6.out) 1 _) 3 _) (below_drew _))
              rw [hW8]
              clear hW8 m0 m1 m2 mc3 mf k6 p1 p9
              have m0 := cell_of (o := 0) HPN8.out.lz rfl
              have m1 := cell_of (o := 1) HPN8.out.lz rfl
              have m2 := cell_of (o := 2) HPN8.out.lz rfl
              have mc3 := cell_of (o := 3) HPN8.out.lz rfl
              have r0 := cell_of (o := 0) HPN8.out.rz rfl
              have r1 := cell_of (o := 1) HPN8.out.rz rfl
              have r2 := cell_of (o := 2) HPN8.out.rz rfl
              have r3 := cell_of (o := 3) HPN8.out.rz rfl
              have rf : ∀ o, W8.frozen? ⟨w.heap.size, o, none⟩ = false := fun o => unfrozen HPN8.out.rz
              go_wp2
              refine bodyPost_ret (v := .tuple #[.agg #[.string ⟨#[115, 101, 103]⟩, .int .u32 Av, (.slice (some ⟨g3, 0, none⟩) m3 c3), .int .u8 Bv], .bool true]) (by simp [results, Tryd.results46, go_sem, r0, r1, r2, r3]) rfl ?_
              exact PtPost.yes HRD.out rfl (HPN8.out.four _ _ _ _) (own_four HOW.out HPN8.out.rz)
            · have HNO := Lib.hid (RM.rd_four_no HSP.out (.inr (.inr (.inr hD))))
              have HAC := Lib.hid (fun W => address_yes x1 W hs1 hA)
              generalize NM.val 16 x1.data.toList = Av at *
              have p1 := cell_of (o := 1) HPN4.out.pz rfl
              go_upto_region 12 with (first
                | (go_at_call 58; refine (HAC.out _).mono ?_; rintro e w5 ⟨rfl, hb5⟩; have HPN5 := Lib.hid (HPN4.out.below hb5); clear hb5; have p9 := cell_of (o := 3) HPN5.out.pz rfl)
                | (go_at_call 57; refine (data_no x3 1 _ (by omega) hs3 hD).mono ?_; rintro e w6 ⟨rfl, hb6⟩; have HPN6 := Lib.hid (HPN5.out.below hb6); clear hb6))
              have r0 := cell_of (o := 0) HPN6.out.rz rfl
              have r1 := cell_of (o := 1) HPN6.out.rz rfl
              have r2 := cell_of (o := 2) HPN6.out.rz rfl
              have r3 := cell_of (o := 3) HPN6.out.rz rfl
              have rf : ∀ o, w6.frozen? ⟨w.heap.size, o, none⟩ = false := fun o => unfrozen HPN6.out.rz
              go_wp2
              refine bodyPost_ret (v := .tuple #[.agg #[.string ⟨#[]⟩, .int .u32 0, .slice none 0 0, .int .u8 0], .bool false]) (by simp [results, Tryd.results46, go_sem, r0, r1, r2, r3]) rfl ?_
              exact PtPost.no HNO.out (HPN6.out.four _ _ _ _)
        · have HNO := Lib.hid (show RM.rd s.data.toList = none from RM.rd_four_no HSP.out (.inr (.inr (.inl hD16))))
          go_upto_region 8 with (go_at_call 57; refine (data_no x2 16 _ (by omega) hs2 hD16).mono ?_; rintro e w3 ⟨rfl, hb3⟩; have HPN3 := Lib.hid (HPN.out.below hb3); clear hb3; have l2 := cell_of (o := 2) HPN3.out.lz rfl; have lf : w3.frozen? ⟨w.heap.size + 2, 2, none⟩ = false := unfrozen HPN3.out.lz)
          have HPN4 := Lib.hid (HPN3.out.dat (.slice none 0 0))
          obtain ⟨W4, hW4⟩ : ∃ W4, w3.setCell ⟨w.heap.size + 2, 2, none⟩ (.slice none 0 0) = W4 := ⟨_, rfl⟩
          rw [hW4] at HPN4 ⊢
          clear hW4 l0 l2 lf p2
          have r0 := cell_of (o := 0) HPN4.out.rz rfl
          have r1 := cell_of (o := 1) HPN4.out.rz rfl
          have r2 := cell_of (o := 2) HPN4.out.rz rfl
          have r3 := cell_of (o := 3) HPN4.out.rz rfl
          have rf : ∀ o, W4.frozen? ⟨w.heap.size, o, none⟩ = false := fun o => unfrozen HPN4.out.rz
          go_wp2
          refine bodyPost_ret (v := .tuple #[.agg #[.string ⟨#[]⟩, .int .u32 0, .slice none 0 0, .int .u8 0], .bool false]) (by simp [results, Tryd.results46, go_sem, r0, r1, r2, r3]) rfl ?_
          exact PtPost.no HNO.out (HPN4.out.four _ _ _ _)

      · have h4' : ((n : Int) == 4) = false := by simp; omega
        have e0 := lit_of hw
        unfold RM.wSeg at e0
        have r0 := cell_of (o := 0) HPN.out.rz rfl
        have r1 := cell_of (o := 1) HPN.out.rz rfl
        have r2 := cell_of (o := 2) HPN.out.rz rfl
        have r3 := cell_of (o := 3) HPN.out.rz rfl
        have rf : ∀ o, W2.frozen? ⟨w.heap.size, o, none⟩ = false := fun o => unfrozen HPN.out.rz
        have HNO := Lib.hid (show RM.rd s.data.toList = none from RM.rd_many_no (fun _ => by rw [HS0.out, hw]; decide) (fun h => absurd (HSL.out.symm.trans h) h4))
        subst e0
        clear HX1 HXL HE0 HN hst hw q1 q2
        go_wp2
        refine bodyPost_ret (v := .tuple #[.agg #[.string ⟨#[]⟩, .int .u32 0, .slice none 0 0, .int .u8 0], .bool false]) (by simp [results, Tryd.results46, go_sem, r0, r1, r2, r3]) rfl ?_
        exact PtPost.no HNO.out (HPN.out.four _ _ _ _)
    · obtain ⟨q3, q4⟩ := lit_not hw
      unfold RM.wSeg at q3 q4
      by_cases hx : x0.data.toList = RM.wAnd
      · by_cases h4 : n = 4
        · obtain ⟨y0, x1, x2, x3, rfl⟩ := list4 (HN.out.trans h4)
          obtain rfl : y0 = x0 := HE0.out
          have hs1 := HXL.out x1 (by simp)
          have hs2 := HXL.out x2 (by simp)
          have hs3 := HXL.out x3 (by simp)
          have HSP := Lib.hid (show RM.sp s.data.toList = [RM.wdK 2, x1.data.toList, x2.data.toList, x3.data.toList] by rw [← HX1.out]; show _ = [RM.wAnd, _, _, _]; rw [← hx]; rfl)
          have e0 := lit_of hx
          unfold RM.wAnd at e0
          subst e0 h4
          clear hst hw hx q1 q2 q3 q4 HX1 HXL HN HE0 HSL HS0 hx0 hx2
          have p2 := cell_of (o := 2) HPN.out.pz rfl
          by_cases hD16 : RM.isD 16 x2.data.toList
          · go_upto_region 8 with (go_at_call 57; refine (data_yes x2 16 _ (by omega) hs2 hD16).mono ?_; rintro e w3 ⟨v3, bs3, rfl, hb3, h31, h32, h33, h34⟩; have HPN3 := Lib.hid (HPN.out.below hb3); have HO3 := Lib.hid (own_base h34 (HPN.out.old.size)); have HD3 := Lib.hid h31; have H32 := Lib.hid h32; have H33 := Lib.hid h33; obtain ⟨g3, c3, hv3, -, -, -⟩ := own_first h34 h32; clear hb3 h31 h32 h33 h34; obtain ⟨m3, hm3⟩ : ∃ m3, bs3.length = m3 := ⟨_, rfl⟩; rw [hm3] at hv3; subst hv3; have HM3 := Lib.hid hm3; rw [hm3] at HO3 H33; clear hm3; have l2 := cell_of (o := 2) HPN3.out.lz rfl; have lf : w3.frozen? ⟨w.heap.size + 2, 2, none⟩ = false := unfrozen HPN3.out.lz)
            have HPN4 := Lib.hid (HPN3.out.dat (.slice (some ⟨g3, 0, none⟩) m3 c3))
            have HO4 := Lib.hid (own_L HPN3.out HO3.out 2 (.slice (some ⟨g3, 0, none⟩) m3 c3))
            obtain ⟨W4, hW4⟩ : ∃ W4, w3.setCell ⟨w.heap.size + 2, 2, none⟩ (.slice (some ⟨g3, 0, none⟩) m3 c3) = W4 := ⟨_, rfl⟩
            rw [hW4] at HPN4 HO4 ⊢
            clear hW4 l0 l2 lf p2
            cases hA : RM.isA x1.data.toList
            · have HNO := Lib.hid (RM.rd_four_no HSP.out (.inr (.inl hA)))
              have p1 := cell_of (o := 1) HPN4.out.pz rfl
              go_upto_region 12 with (first
                | (go_at_call 58; refine (address_no x1 _ hs1 hA).mono ?_; rintro e w5 ⟨N5, rfl, hb5⟩; have HPN5 := Lib.hid (HPN4.out.below hb5); clear hb5; have p9 := cell_of (o := 3) HPN5.out.pz rfl)
                | (go_at_call 57; refine (data_may x3 1 _ (by omega) hs3).mono ?_; rintro e w6 ⟨v6, b6, rfl, hb6⟩; have HPN6 := Lib.hid (HPN5.out.below hb6); clear hb6))
              have r0 := cell_of (o := 0) HPN6.out.rz rfl
              have r1 := cell_of (o := 1) HPN6.out.rz rfl
              have r2 := cell_of (o := 2) HPN6.out.rz rfl
              have r3 := cell_of (o := 3) HPN6.out.rz rfl
              have rf : ∀ o, w6.frozen? ⟨w.heap.size, o, none⟩ = false := fun o => unfrozen HPN6.out.rz
              go_wp2
              refine bodyPost_ret (v := .tuple #[.agg #[.string ⟨#[]⟩, .int .u32 0, .slice none 0 0, .int .u8 0], .bool false]) (by simp [results, Tryd.results46, go_sem, r0, r1, r2, r3]) rfl ?_
              exact PtPost.no HNO.out (HPN6.out.four _ _ _ _)
            · by_cases hD : RM.isD 1 x3.data.toList
              · have HAA := Lib.hid (RM.isA_open hA)
                have hvA := RM.val_lt' HAA.out.1 HAA.out.2 (by decide)
                have hvA' : NM.val 16 x1.data.toList < 4294967296 := hvA
                have HAC := Lib.hid (fun W => address_yes x1 W hs1 hA)
                obtain ⟨Av, hAv⟩ : ∃ Av, NM.val 16 x1.data.toList = Av := ⟨_, rfl⟩
                rw [hAv] at HAC hvA'
                have HAV := Lib.hid hAv
                clear hvA hAv
                have p1 := cell_of (o := 1) HPN4.out.pz rfl
                go_upto_region 14 with (first
                  | (go_at_call 58; refine (HAC.out _).mono ?_; rintro e w5 ⟨rfl, hb5⟩; have HPN5 := Lib.hid (HPN4.out.below hb5); have HB5 := Lib.hid hb5; clear hb5; have p9 := cell_of (o := 3) HPN5.out.pz rfl)
                  | (go_at_call 57; refine (data_yes x3 1 _ (by omega) hs3 hD).mono ?_; rintro e w6 ⟨v6, bs6, rfl, hb6, h61, h62, h63, h64⟩; have HPN6 := Lib.hid (HPN5.out.below hb6); have HB6 := Lib.hid hb6; have HO6 := Lib.hid h64; have HD6 := Lib.hid h61; obtain ⟨g6, c6, rfl, hg6, k6, hk6⟩ := own_first h64 h62; have H62 := Lib.hid h62; have H63 := Lib.hid h63; clear hb6 h61 h62 h63 h64))
                obtain ⟨cs6, hk6⟩ := hk6
                have hne6 : ¬ g6 = w.heap.size + 2 := kind_ne hk6 HPN6.out.lz (by decide)
                have hne6' : (g6 == w.heap.size + 2) = false := by simpa using hne6
                have HLV := Lib.hid (RM.one_dg H62.out H63.out)
                have hbl : bs6.length = 1 := by have := H63.out; have := List.length_pos_iff.mpr H62.out; omega
                rw [hbl]
                clear hbl hk6
                have hbv := (bs6.getD 0 0).toNat_lt
                obtain ⟨Bv, hBv⟩ : ∃ Bv, (bs6.getD 0 0).toNat = Bv := ⟨_, rfl⟩
                rw [hBv] at k6 HLV hbv
                have hbv' : (Bv : Int) < 256 := by omega
                clear hBv hbv
                have HPN7 := Lib.hid HPN6.out.drew
                have m0 := cell_of (o := 0) HPN6.out.lz rfl
                have m1 := cell_of (o := 1) HPN6.out.lz rfl
                have m2 := cell_of (o := 2) HPN6.out.lz rfl
                have mc3 := cell_of (o := 3) HPN6.out.lz rfl
                have mf : ∀ o, w6.frozen? ⟨w.heap.size + 2, o, none⟩ = false := fun o => unfrozen HPN6.out.lz
                go_region
                have HRD := Lib.hid (show RM.rd s.data.toList = some ⟨2, Av, bs3, Bv⟩ from by
                  have hsp := HSP.out
                  rw [← HD3.out] at hsp
                  rw [RM.rd_four (k := 2) (by omega) hsp H32.out (HM3.out.symm ▸ H33.out) HAA.out.1 HAA.out.2 (by rw [← HD6.out]; exact RM.al_dg _) (by rw [← HD6.out]; exact HLV.out.1), HAV.out, ← HD6.out, HLV.out.2])
                obtain ⟨W8, hW8⟩ : ∃ W8, ((w6.setCell ⟨w.heap.size + 2, 1, none⟩ (.int .u32 Av)).setCell ⟨w.heap.size + 2, 3, none⟩ (.int .u8 Bv)).drew = W8 := ⟨_, rfl⟩
                have HPN8 := Lib.hid (show PZ w W8 [⟨#[97, 110, 100]⟩, x1, x2, x3] ⟨#[97, 110, 100]⟩ Av (.slice (some ⟨g3, 0, none⟩) m3 c3) Bv from hW8 ▸ HPN6.out.fin.drew)
                have HOW := Lib.hid (show W8.ownsRow w.heap.size 5 1 (.slice (some ⟨g3, 0, none⟩) m3 c3) bs3.length (byC bs3) from HM3.out.symm ▸ hW8 ▸ own_blk (own_L HPN6.out.fst_ (own_L HPN6.out (own_blk (own_blk HO4.out HB5.out) HB6.out) 1 _) 3 _) (below_drew _))
                rw [hW8]
                clear hW8 m0 m1 m2 mc3 mf k6 p1 p9
                have m0 := cell_of (o := 0) HPN8.out.lz rfl
                have m1 := cell_of (o := 1) HPN8.out.lz rfl
                have m2 := cell_of (o := 2) HPN8.out.lz rfl
                have mc3 := cell_of (o := 3) HPN8.out.lz rfl
                have r0 := cell_of (o := 0) HPN8.out.rz rfl
                have r1 := cell_of (o := 1) HPN8.out.rz rfl
                have r2 := cell_of (o := 2) HPN8.out.rz rfl
                have r3 := cell_of (o := 3) HPN8.out.rz rfl
                have rf : ∀ o, W8.frozen? ⟨w.heap.size, o, none⟩ = false := fun o => unfrozen HPN8.out.rz
                go_wp2
                refine bodyPost_ret (v := .tuple #[.agg #[.string ⟨#[97, 110, 100]⟩, .int .u32 Av, (.slice (some ⟨g3, 0, none⟩) m3 c3), .int .u8 Bv], .bool true]) (by simp [results, Tryd.results46, go_sem, r0, r1, r2, r3]) rfl ?_
                exact PtPost.yes HRD.out rfl (HPN8.out.four _ _ _ _) (own_four HOW.out HPN8.out.rz)
              · have HNO := Lib.hid (RM.rd_four_no HSP.out (.inr (.inr (.inr hD))))
                have HAC := Lib.hid (fun W => address_yes x1 W hs1 hA)
                generalize NM.val 16 x1.data.toList = Av at *
                have p1 := cell_of (o := 1) HPN4.out.pz rfl
                go_upto_region 12 with (first
                  | (go_at_call 58; refine (HAC.out _).mono ?_; rintro e w5 ⟨rfl, hb5⟩; have HPN5 := Lib.hid (HPN4.out.below hb5); clear hb5; have p9 := cell_of (o := 3) HPN5.out.pz rfl)
                  | (go_at_call 57; refine (data_no x3 1 _ (by omega) hs3 hD).mono ?_; rintro e w6 ⟨rfl, hb6⟩; have HPN6 := Lib.hid (HPN5.out.below hb6); clear hb6))
                have r0 := cell_of (o := 0) HPN6.out.rz rfl
                have r1 := cell_of (o := 1) HPN6.out.rz rfl
                have r2 := cell_of (o := 2) HPN6.out.rz rfl
                have r3 := cell_of (o := 3) HPN6.out.rz rfl
                have rf : ∀ o, w6.frozen? ⟨w.heap.size, o, none⟩ = false := fun o => unfrozen HPN6.out.rz
                go_wp2
                refine bodyPost_ret (v := .tuple #[.agg #[.string ⟨#[]⟩, .int .u32 0, .slice none 0 0, .int .u8 0], .bool false]) (by simp [results, Tryd.results46, go_sem, r0, r1, r2, r3]) rfl ?_
                exact PtPost.no HNO.out (HPN6.out.four _ _ _ _)
          · have HNO := Lib.hid (show RM.rd s.data.toList = none from RM.rd_four_no HSP.out (.inr (.inr (.inl hD16))))
            go_upto_region 8 with (go_at_call 57; refine (data_no x2 16 _ (by omega) hs2 hD16).mono ?_; rintro e w3 ⟨rfl, hb3⟩; have HPN3 := Lib.hid (HPN.out.below hb3); clear hb3; have l2 := cell_of (o := 2) HPN3.out.lz rfl; have lf : w3.frozen? ⟨w.heap.size + 2, 2, none⟩ = false := unfrozen HPN3.out.lz)
            have HPN4 := Lib.hid (HPN3.out.dat (.slice none 0 0))
            obtain ⟨W4, hW4⟩ : ∃ W4, w3.setCell ⟨w.heap.size + 2, 2, none⟩ (.slice none 0 0) = W4 := ⟨_, rfl⟩
            rw [hW4] at HPN4 ⊢
            clear hW4 l0 l2 lf p2
            have r0 := cell_of (o := 0) HPN4.out.rz rfl
            have r1 := cell_of (o := 1) HPN4.out.rz rfl
            have r2 := cell_of (o := 2) HPN4.out.rz rfl
            have r3 := cell_of (o := 3) HPN4.out.rz rfl
            have rf : ∀ o, W4.frozen? ⟨w.heap.size, o, none⟩ = false := fun o => unfrozen HPN4.out.rz
            go_wp2
            refine bodyPost_ret (v := .tuple #[.agg #[.string ⟨#[]⟩, .int .u32 0, .slice none 0 0, .int .u8 0], .bool false]) (by simp [results, Tryd.results46, go_sem, r0, r1, r2, r3]) rfl ?_
            exact PtPost.no HNO.out (HPN4.out.four _ _ _ _)

        · have h4' : ((n : Int) == 4) = false := by simp; omega
          have e0 := lit_of hx
          unfold RM.wAnd at e0
          have r0 := cell_of (o := 0) HPN.out.rz rfl
          have r1 := cell_of (o := 1) HPN.out.rz rfl
          have r2 := cell_of (o := 2) HPN.out.rz rfl
          have r3 := cell_of (o := 3) HPN.out.rz rfl
          have rf : ∀ o, W2.frozen? ⟨w.heap.size, o, none⟩ = false := fun o => unfrozen HPN.out.rz
          have HNO := Lib.hid (show RM.rd s.data.toList = none from RM.rd_many_no (fun _ => by rw [HS0.out, hx]; decide) (fun h => absurd (HSL.out.symm.trans h) h4))
          subst e0
          clear HX1 HXL HE0 HN hst hw hx q1 q2 q3 q4
          go_wp2
          refine bodyPost_ret (v := .tuple #[.agg #[.string ⟨#[]⟩, .int .u32 0, .slice none 0 0, .int .u8 0], .bool false]) (by simp [results, Tryd.results46, go_sem, r0, r1, r2, r3]) rfl ?_
          exact PtPost.no HNO.out (HPN.out.four _ _ _ _)
      · obtain ⟨q5, q6⟩ := lit_not hx
        unfold RM.wAnd at q5 q6

        have r0 := cell_of (o := 0) HPN.out.rz rfl
        have r1 := cell_of (o := 1) HPN.out.rz rfl
        have r2 := cell_of (o := 2) HPN.out.rz rfl
        have r3 := cell_of (o := 3) HPN.out.rz rfl
        have rf : ∀ o, W2.frozen? ⟨w.heap.size, o, none⟩ = false := fun o => unfrozen HPN.out.rz
        have HNO := Lib.hid (show RM.rd s.data.toList = none from RM.rd_many_no (fun _ => by rw [HS0.out]; exact hst) (fun _ => by rw [HS0.out]; exact ⟨hw, hx⟩))
        clear HX1 HXL HE0 HN hst hw hx HS0
        go_wp2
        refine bodyPost_ret (v := .tuple #[.agg #[.string ⟨#[]⟩, .int .u32 0, .slice none 0 0, .int .u8 0], .bool false]) (by simp [results, Tryd.results46, go_sem, r0, r1, r2, r3]) rfl ?_
        exact PtPost.no HNO.out (HPN.out.four _ _ _ _)
end Go.Proofs.YtcilhippjiichaaDoor
