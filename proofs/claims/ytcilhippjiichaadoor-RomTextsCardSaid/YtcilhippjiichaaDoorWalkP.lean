/-
  What taken answers: a line that stands behind another one, taken apart, or why not. No condition but lengths, and that the library's one number is a number.
-/
import Derived.Test.YtcilhippjiichaaDoorWalkO
namespace Go.Proofs.YtcilhippjiichaaDoor
open Go.RowKit Go.Maps S02
namespace RM
/-- Why a line is not taken behind another one: a code. -/
def tkE (kl al nl : Nat) (t : List UInt8) : Int := match rd t with
  | none => 2
  | some x => if fl kl al nl x.k x.a = true then (if x.s = sm x.a x.bs then 0 else 11) else 2
end RM
/-- What taken leaves. -/
def TkPost (w : World) (kl al nl : Nat) (t : List UInt8) (e : Ending) (w' : World) : Prop :=
  Below w.heap.size w w' ∧ ((RM.tkE kl al nl t ≠ 0 ∧ e = .returned (.tuple #[lnV [] 0 (.slice none 0 0) 0, .int .i64 (RM.tkE kl al nl t)])) ∨
    (RM.tkE kl al nl t = 0 ∧ ∃ (x : RM.Ln) (v : Value), RM.rd t = some x ∧ RM.fl kl al nl x.k x.a = true ∧ x.s = RM.sm x.a x.bs ∧ e = .returned (.tuple #[lnV (RM.wdK x.k) x.a v x.s, .int .i64 0]) ∧ w'.ownsRow w.heap.size 5 1 v x.bs.length (byC x.bs)))
theorem TkPost.bad {w w' : World} {kl al nl : Nat} {t : List UInt8} {E : Int} (h : RM.tkE kl al nl t = E) (h0 : E ≠ 0) (hb : Below w.heap.size w w') : TkPost w kl al nl t (.returned (.tuple #[.agg #[.string ⟨#[]⟩, .int .u32 0, .slice none 0 0, .int .u8 0], .int .i64 E])) w' :=
  ⟨hb, .inl ⟨by rw [h]; exact h0, by rw [h]; rfl⟩⟩
theorem below_four {w W : World} {R : Nat} (h : Below w.heap.size w W) (hR : w.heap.size ≤ R) (u0 u1 u2 u3 : Value) : Below w.heap.size w ((((W.setCell ⟨R, 0, none⟩ u0).setCell ⟨R, 1, none⟩ u1).setCell ⟨R, 2, none⟩ u2).setCell ⟨R, 3, none⟩ u3) :=
  (((h.setCell hR _).setCell hR _).setCell hR _).setCell hR _
theorem own_four' {W : World} {R B n : Nat} {v u0 u1 u2 u3 : Value} {xs : List Value} {cs : Array Value} {f : Nat × Nat} (h : W.ownsRow B 5 1 v n xs) (hk : W.heap[R]? = some (.cells cs 70 f)) : ((((W.setCell ⟨R, 0, none⟩ u0).setCell ⟨R, 1, none⟩ u1).setCell ⟨R, 2, none⟩ u2).setCell ⟨R, 3, none⟩ u3).ownsRow B 5 1 v n xs := by
  refine own_keep h fun k e => ?_
  obtain ⟨_, _, c, hc⟩ := own_lt h e
  have hne : k ≠ R := kind_ne hc hk (by decide)
  rw [heap_other hne, heap_other hne, heap_other hne, heap_other hne]
theorem below_out {w0 w w' : World} (h : Below w0.heap.size w0 w) (hb : Below w.heap.size w w') : Below w0.heap.size w0 w' := h.trans (hb.mono h.size)
/-- The line, the one ahead of it, and the answer, in memory. -/
structure TZ (w W : World) (L : Nat) (lv : Array Value) (x : Array Value) : Prop where
  lz : W.heap[w.heap.size]? = some (.cells lv 70 (0, 0))
  rz : W.heap[w.heap.size + 1]? = some (.cells #[.string ⟨#[]⟩, .int .u32 0, .slice none 0 0, .int .u8 0] 70 (0, 0))
  xz : W.heap[L]? = some (.cells x 70 (0, 0))
  old : Below w.heap.size w W
theorem TZ.below {w W W' : World} {L : Nat} {lv x : Array Value} (h : TZ w W L lv x) (hb : Below W.heap.size W W') : TZ w W' L lv x :=
  ⟨(hb.block _ (lt_of_heap h.lz)).trans h.lz, (hb.block _ (lt_of_heap h.rz)).trans h.rz, (hb.block _ (lt_of_heap h.xz)).trans h.xz, h.old.trans (hb.mono h.old.size)⟩
theorem f3_heap {w W : World} {L : Nat} {t : TypeId} {x0 x1 x2 x3 : Value} (h : W.heap[L]? = some (.cells #[x0, x1, x2, x3] t (0, 0))) (hb : Below w.heap.size w W) : W.cell? ⟨L, 3, none⟩ = some x3 ∧ W.cell? ⟨L, 1, none⟩ = some x1 ∧ W.cell? ⟨L, 2, none⟩ = some x2 ∧ w.heap.size ≤ W.heap.size ∧ Hid (Below w.heap.size w W) :=
  ⟨cell_of h rfl, cell_of h rfl, cell_of h rfl, hb.size, Lib.hid hb⟩
theorem g3_drew {w w1 v : World} {p q r : Addr} {x y z : Value} (h : v.cell? p = some x ∧ v.cell? q = some y ∧ v.cell? r = some z ∧ w.heap.size ≤ v.heap.size ∧ w1.heap.size ≤ v.heap.size ∧ Hid (Below w1.heap.size w1 v)) : v.drew.cell? p = some x ∧ v.drew.cell? q = some y ∧ v.drew.cell? r = some z ∧ w.heap.size ≤ v.drew.heap.size ∧ w1.heap.size ≤ v.drew.heap.size ∧ Hid (Below w1.heap.size w1 v.drew) := by
  obtain ⟨c0, c1, c2, hN, hM, hB⟩ := h
  exact ⟨c0, c1, c2, hN, hM, Lib.hid hB.out.drew⟩
theorem g3_call {w w1 v v' : World} {p q r : Addr} {x y z : Value} (h : v.cell? p = some x ∧ v.cell? q = some y ∧ v.cell? r = some z ∧ w.heap.size ≤ v.heap.size ∧ w1.heap.size ≤ v.heap.size ∧ Hid (Below w1.heap.size w1 v)) (hb : Below v.heap.size v v') : v'.cell? p = some x ∧ v'.cell? q = some y ∧ v'.cell? r = some z ∧ w.heap.size ≤ v'.heap.size ∧ w1.heap.size ≤ v'.heap.size ∧ Hid (Below w1.heap.size w1 v') := by
  obtain ⟨c0, c1, c2, hN, hM, hB⟩ := h
  exact ⟨cell_below hb c0, cell_below hb c1, cell_below hb c2, Nat.le_trans hN hb.size, Nat.le_trans hM hb.size, Lib.hid (hB.out.trans (hb.mono hM))⟩
set_option maxHeartbeats 8000000 in
theorem taken_any (s s2 : ByteArray) (kl al nl c2 m2 : Nat) (A2 : Option Addr) (w : World) (hs : s.size ≤ 100000) (hm : Mx w) (h2 : s2.data.toList = RM.wd0 kl) (hkl : kl = 0 ∨ kl = 1 ∨ kl = 2 ∨ kl = 3) (hal : al < 4294967296) (hnl : nl ≤ 1000) :
    Calls Tryd.prog 33 #[.string s, .agg #[.string s2, .int .u32 al, .slice A2 nl c2, .int .u8 m2]] w (TkPost w kl al nl s.data.toList) := by
  have HB2 := Lib.hid (below_two w (.cells #[.string s2, .int .u32 al, .slice A2 nl c2, .int .u8 m2] 70) (.cells #[.string ⟨#[]⟩, .int .u32 0, .slice none 0 0, .int .u8 0] 70))
  have HI1 := Lib.hid (show ((w.alloc (.cells #[.string s2, .int .u32 al, .slice A2 nl c2, .int .u8 m2] 70)).alloc (.cells #[.string ⟨#[]⟩, .int .u32 0, .slice none 0 0, .int .u8 0] 70)).heap[w.heap.size]? = some (.cells #[.string s2, .int .u32 al, .slice A2 nl c2, .int .u8 m2] 70 (0, 0)) from (Below.heap_alloc _ _ _ (by simp)).trans (heap_alloc_new w _))
  have HI2 := Lib.hid (show ((w.alloc (.cells #[.string s2, .int .u32 al, .slice A2 nl c2, .int .u8 m2] 70)).alloc (.cells #[.string ⟨#[]⟩, .int .u32 0, .slice none 0 0, .int .u8 0] 70)).heap[w.heap.size + 1]? = some (.cells #[.string ⟨#[]⟩, .int .u32 0, .slice none 0 0, .int .u8 0] 70 (0, 0)) by
    have := heap_alloc_new (w.alloc (.cells #[.string s2, .int .u32 al, .slice A2 nl c2, .int .u8 m2] 70)) (.cells #[.string ⟨#[]⟩, .int .u32 0, .slice none 0 0, .int .u8 0] 70)
    simpa using this)
  obtain ⟨W0, hW0⟩ : ∃ W0, (w.alloc (.cells #[.string s2, .int .u32 al, .slice A2 nl c2, .int .u8 m2] 70)).alloc (.cells #[.string ⟨#[]⟩, .int .u32 0, .slice none 0 0, .int .u8 0] 70) = W0 := ⟨_, rfl⟩
  rw [hW0] at HB2 HI1 HI2
  have HP := Lib.hid ((parts_any s W0 hs (hm.on HB2.out)))
  cases hr : RM.rd s.data.toList with
  | none =>
    have HE := Lib.hid (show RM.tkE kl al nl s.data.toList = 2 by unfold RM.tkE; rw [hr])
    have HP2 := Lib.hid (HP.out.mono fun e w' h => (show e = .returned (.tuple #[.agg #[.string ⟨#[]⟩, .int .u32 0, .slice none 0 0, .int .u8 0], .bool false]) ∧ Below W0.heap.size W0 w' by
      obtain ⟨hb, h | h⟩ := h
      · obtain ⟨x, v, hx, -⟩ := h
        rw [hr] at hx
        cases hx
      · exact ⟨h.2, hb⟩))
    clear HP hm h2 hkl hr
    go_enter Tryd.func33, Tryd.ntmps33
    go_upto_region 1 with fail
    clear hW0
    go_upto_region 2 with (go_at_call 46; refine HP2.out.mono ?_; rintro e w2 ⟨rfl, hb2⟩; have HB3 := Lib.hid (below_out HB2.out hb2); have HI3 := Lib.hid ((hb2.block _ (lt_of_heap HI2.out)).trans HI2.out); clear hb2)
    have HB4 := Lib.hid (HB3.out.alloc HB3.out.size (.cells #[.string ⟨#[]⟩, .int .u32 0, .slice none 0 0, .int .u8 0] 70))
    have HI4 := Lib.hid ((Below.heap_alloc w2 (.cells #[.string ⟨#[]⟩, .int .u32 0, .slice none 0 0, .int .u8 0] 70) _ (lt_of_heap HI3.out)).trans HI3.out)
    obtain ⟨W4, hW4⟩ : ∃ W4, w2.alloc (.cells #[.string ⟨#[]⟩, .int .u32 0, .slice none 0 0, .int .u8 0] 70) = W4 := ⟨_, rfl⟩
    rw [hW4] at HB4 HI4 ⊢
    clear hW4
    have r0 := cell_of (o := 0) HI4.out rfl
    have r1 := cell_of (o := 1) HI4.out rfl
    have r2 := cell_of (o := 2) HI4.out rfl
    have r3 := cell_of (o := 3) HI4.out rfl
    have rf : ∀ o, W4.frozen? ⟨w.heap.size + 1, o, none⟩ = false := fun o => unfrozen HI4.out
    go_wp2
    refine bodyPost_ret (v := .tuple #[.agg #[.string ⟨#[]⟩, .int .u32 0, .slice none 0 0, .int .u8 0], .int .i64 2]) (by simp [results, Tryd.results33, go_sem, r0, r1, r2, r3]) rfl ?_
    exact TkPost.bad HE.out (by decide) (below_four HB4.out (by omega) _ _ _ _)
  | some x =>
    obtain ⟨xk, xa, xb, xs⟩ := x
    obtain ⟨⟨hk, hxa, hxs, -, hxb⟩, -⟩ := RM.rd_some.1 hr
    simp only [] at hk hxa hxs hxb
    obtain ⟨x0, hx0⟩ : ∃ x0 : ByteArray, x0.data.toList = RM.wdK xk := ⟨⟨(RM.wdK xk).toArray⟩, rfl⟩
    have HP2 := Lib.hid (HP.out.mono fun e w' h => (show ∃ A c, e = .returned (.tuple #[.agg #[.string x0, .int .u32 xa, .slice A xb.length c, .int .u8 xs], .bool true]) ∧ Below W0.heap.size W0 w' ∧ w'.ownsRow W0.heap.size 5 1 (.slice A xb.length c) xb.length (byC xb) by
      obtain ⟨hb, h | h⟩ := h
      · obtain ⟨x, v, hx, he, ho⟩ := h
        rw [hr] at hx
        injection hx with hx
        subst hx
        obtain ⟨A, c, rfl⟩ := by_form (ByR.of_own ho)
        refine ⟨A, c, ?_, hb, ho⟩
        rw [he, lnV, ← hx0]
        rfl
      · rw [hr] at h
        cases h.1))
    obtain ⟨nb, hnb⟩ : ∃ nb, xb.length = nb := ⟨_, rfl⟩
    rw [hnb] at HP2 hxb
    have HNB := Lib.hid hnb
    have HFO := Lib.hid (fun (A : Option Addr) (c : Nat) (W : World) => follows_any x0 s2 xa nb c xs al nl c2 m2 xk kl A A2 W hx0 hk h2 hkl hxa hal hnl)
    have HX0 := Lib.hid hx0
    have HRR := Lib.hid hr
    clear HP hm h2 hkl hr hx0 hnb hk
    cases hf : RM.fl kl al nl xk xa
    · have HE := Lib.hid (show RM.tkE kl al nl s.data.toList = 2 by unfold RM.tkE; rw [HRR.out]; simp only [hf]; rfl)
      rw [hf] at HFO
      clear hf
      go_enter Tryd.func33, Tryd.ntmps33
      go_upto_region 1 with fail
      clear hW0
      go_upto_region 2 with (go_at_call 46; refine HP2.out.mono ?_; rintro e w2 ⟨A, c, rfl, hb2, ho2⟩; have HB3 := Lib.hid (below_out HB2.out hb2); have HI3 := Lib.hid ((hb2.block _ (lt_of_heap HI2.out)).trans HI2.out); have HJ3 := Lib.hid ((hb2.block _ (lt_of_heap HI1.out)).trans HI1.out); clear hb2 ho2)
      have HTZ := Lib.hid (show TZ w (w2.alloc (.cells #[.string x0, .int .u32 xa, .slice A nb c, .int .u8 xs] 70)) w2.heap.size #[.string s2, .int .u32 al, .slice A2 nl c2, .int .u8 m2] #[.string x0, .int .u32 xa, .slice A nb c, .int .u8 xs] from
        ⟨(Below.heap_alloc w2 _ _ (lt_of_heap HJ3.out)).trans HJ3.out, (Below.heap_alloc w2 _ _ (lt_of_heap HI3.out)).trans HI3.out, heap_alloc_new _ _, HB3.out.alloc HB3.out.size _⟩)
      obtain ⟨L, hL⟩ : ∃ L, w2.heap.size = L := ⟨_, rfl⟩
      obtain ⟨W4, hW4⟩ : ∃ W4, w2.alloc (.cells #[.string x0, .int .u32 xa, .slice A nb c, .int .u8 xs] 70) = W4 := ⟨_, rfl⟩
      rw [hW4, hL] at HTZ
      rw [hW4, hL]
      clear hW4 hL
      have l0 := cell_of (o := 0) HTZ.out.lz rfl
      have l1 := cell_of (o := 1) HTZ.out.lz rfl
      have l2 := cell_of (o := 2) HTZ.out.lz rfl
      have l3 := cell_of (o := 3) HTZ.out.lz rfl
      have x0 := cell_of (o := 0) HTZ.out.xz rfl
      have x1 := cell_of (o := 1) HTZ.out.xz rfl
      have x2 := cell_of (o := 2) HTZ.out.xz rfl
      have x3 := cell_of (o := 3) HTZ.out.xz rfl
      go_upto_region 3 with (go_at_call 47; refine (HFO.out _ _ _).mono ?_; rintro e w5 ⟨rfl, hb5⟩; have HTZ5 := Lib.hid (HTZ.out.below hb5); clear hb5)
      have r0 := cell_of (o := 0) HTZ5.out.rz rfl
      have r1 := cell_of (o := 1) HTZ5.out.rz rfl
      have r2 := cell_of (o := 2) HTZ5.out.rz rfl
      have r3 := cell_of (o := 3) HTZ5.out.rz rfl
      have rf : ∀ o, w5.frozen? ⟨w.heap.size + 1, o, none⟩ = false := fun o => unfrozen HTZ5.out.rz
      go_wp2
      refine bodyPost_ret (v := .tuple #[.agg #[.string ⟨#[]⟩, .int .u32 0, .slice none 0 0, .int .u8 0], .int .i64 2]) (by simp [results, Tryd.results33, go_sem, r0, r1, r2, r3]) rfl ?_
      exact TkPost.bad HE.out (by decide) (below_four HTZ5.out.old (by omega) _ _ _ _)
    · by_cases hsm : xs = RM.sm xa xb
      · have HE := Lib.hid (show RM.tkE kl al nl s.data.toList = 0 by unfold RM.tkE; rw [HRR.out]; simp only [hf, hsm]; simp)
        have HSM := Lib.hid hsm
        have HFL := Lib.hid hf
        have HSO := Lib.hid (fun (A : Option Addr) (c : Nat) (W : World) (h : ByR W (.slice A nb c) xb) => sumOf_any (a := xa) h hxa (by rw [HNB.out]; omega))
        rw [hf] at HFO
        rw [← hsm] at HSO
        clear hf hsm
        go_enter Tryd.func33, Tryd.ntmps33
        go_upto_region 1 with fail
        clear hW0
        go_upto_region 2 with (go_at_call 46; refine HP2.out.mono ?_; rintro e w2 ⟨A, c, rfl, hb2, ho2⟩; have HB3 := Lib.hid (below_out HB2.out hb2); have HI3 := Lib.hid ((hb2.block _ (lt_of_heap HI2.out)).trans HI2.out); have HJ3 := Lib.hid ((hb2.block _ (lt_of_heap HI1.out)).trans HI1.out); have HO3 := Lib.hid ho2; clear hb2 ho2)
        have HTZ := Lib.hid (show TZ w (w2.alloc (.cells #[.string x0, .int .u32 xa, .slice A nb c, .int .u8 xs] 70)) w2.heap.size #[.string s2, .int .u32 al, .slice A2 nl c2, .int .u8 m2] #[.string x0, .int .u32 xa, .slice A nb c, .int .u8 xs] from
          ⟨(Below.heap_alloc w2 _ _ (lt_of_heap HJ3.out)).trans HJ3.out, (Below.heap_alloc w2 _ _ (lt_of_heap HI3.out)).trans HI3.out, heap_alloc_new _ _, HB3.out.alloc HB3.out.size _⟩)
        have HO4 := Lib.hid (own_blk HO3.out (below_one w2 (.cells #[.string x0, .int .u32 xa, .slice A nb c, .int .u8 xs] 70)))
        obtain ⟨L, hL⟩ : ∃ L, w2.heap.size = L := ⟨_, rfl⟩
        obtain ⟨W4, hW4⟩ : ∃ W4, w2.alloc (.cells #[.string x0, .int .u32 xa, .slice A nb c, .int .u8 xs] 70) = W4 := ⟨_, rfl⟩
        rw [hW4, hL] at HTZ
        rw [hW4] at HO4
        rw [hW4, hL]
        clear hW4 hL
        have l0 := cell_of (o := 0) HTZ.out.lz rfl
        have l1 := cell_of (o := 1) HTZ.out.lz rfl
        have l2 := cell_of (o := 2) HTZ.out.lz rfl
        have l3 := cell_of (o := 3) HTZ.out.lz rfl
        have x0' := cell_of (o := 0) HTZ.out.xz rfl
        have x1' := cell_of (o := 1) HTZ.out.xz rfl
        have x2' := cell_of (o := 2) HTZ.out.xz rfl
        have x3' := cell_of (o := 3) HTZ.out.xz rfl
        go_upto_region 4 with (go_at_call 47; refine (HFO.out _ _ _).mono ?_; rintro e w5 ⟨rfl, hb5⟩; have HTZ5 := Lib.hid (HTZ.out.below hb5); have HO5 := Lib.hid (own_blk HO4.out hb5); clear hb5)
        clear l0 l1 l2 l3 x0' x1' x2' x3'
        have HBY := Lib.hid (show ByR w5 (.slice A nb c) xb from ByR.of_own (by rw [HNB.out]; exact HO5.out))
        have HS := Lib.hid (show w5.cell? ⟨L, 3, none⟩ = some (.int .u8 xs) ∧ w5.cell? ⟨L, 1, none⟩ = some (.int .u32 xa) ∧ w5.cell? ⟨L, 2, none⟩ = some (.slice A nb c) ∧ w.heap.size ≤ w5.heap.size ∧ w5.heap.size ≤ w5.heap.size ∧ Hid (Below w5.heap.size w5 w5) from ⟨cell_of HTZ5.out.xz rfl, cell_of HTZ5.out.xz rfl, cell_of HTZ5.out.xz rfl, HTZ5.out.old.size, Nat.le_refl _, Lib.hid (Below.refl _ _)⟩)
        go_region_held3 (fun v => v.cell? ⟨L, 3, none⟩ = some (.int .u8 xs) ∧ v.cell? ⟨L, 1, none⟩ = some (.int .u32 xa) ∧ v.cell? ⟨L, 2, none⟩ = some (.slice A nb c) ∧ w.heap.size ≤ v.heap.size ∧ w5.heap.size ≤ v.heap.size ∧ Hid (Below w5.heap.size w5 v)) (first | exact g3_drew HS.out | exact g3_call (g3_drew HS.out) hb6)
          (first | (go_at_call 41; refine (HSO.out _ _ _ (HBY.out.below (g3_drew HS.out).2.2.2.2.2.out)).mono ?_; rintro e w6 ⟨rfl, hb6⟩))
        all_goals
          rename_i hHeld
          obtain ⟨y3, y1, y2, hN, hM, hB⟩ := hHeld
          have HTZ6 := Lib.hid (HTZ5.out.below hB.out)
          have HO6 := Lib.hid (own_blk HO5.out hB.out)
          have z0 := cell_of (o := 0) HTZ6.out.xz rfl
          have z1 := cell_of (o := 1) HTZ6.out.xz rfl
          have z2 := cell_of (o := 2) HTZ6.out.xz rfl
          have z3 := cell_of (o := 3) HTZ6.out.xz rfl
          clear y3 y1 y2
          have r0 := cell_of (o := 0) HTZ6.out.rz rfl
          have r1 := cell_of (o := 1) HTZ6.out.rz rfl
          have r2 := cell_of (o := 2) HTZ6.out.rz rfl
          have r3 := cell_of (o := 3) HTZ6.out.rz rfl
          have rf : ∀ o, World.frozen? _ ⟨w.heap.size + 1, o, none⟩ = false := fun o => unfrozen HTZ6.out.rz
          clear hB
          go_wp2
          refine bodyPost_ret (v := .tuple #[.agg #[.string x0, .int .u32 xa, .slice A nb c, .int .u8 xs], .int .i64 0]) (by simp [results, Tryd.results33, go_sem, r0, r1, r2, r3]) rfl ?_
          refine ⟨below_four HTZ6.out.old (by omega) _ _ _ _, .inr ⟨HE.out, _, .slice A nb c, HRR.out, HFL.out, HSM.out, ?_, ?_⟩⟩
          · rw [lnV, ← HX0.out]; rfl
          · refine own_four' (own_base ?_ (show w.heap.size ≤ W0.heap.size from HB2.out.size)) HTZ6.out.rz
            simp only [HNB.out]
            exact HO6.out
      · have HE := Lib.hid (show RM.tkE kl al nl s.data.toList = 11 by unfold RM.tkE; rw [HRR.out]; simp only [hf, if_neg hsm]; simp)
        have hne : ((xs : Int) == (RM.sm xa xb : Int)) = false := by simp; omega
        have HSO := Lib.hid (fun (A : Option Addr) (c : Nat) (W : World) (h : ByR W (.slice A nb c) xb) => sumOf_any (a := xa) h hxa (by rw [HNB.out]; omega))
        rw [hf] at HFO
        obtain ⟨S, hS⟩ : ∃ S, RM.sm xa xb = S := ⟨_, rfl⟩
        rw [hS] at HSO hne
        clear hf hsm hS
        go_enter Tryd.func33, Tryd.ntmps33
        go_upto_region 1 with fail
        clear hW0
        go_upto_region 2 with (go_at_call 46; refine HP2.out.mono ?_; rintro e w2 ⟨A, c, rfl, hb2, ho2⟩; have HB3 := Lib.hid (below_out HB2.out hb2); have HI3 := Lib.hid ((hb2.block _ (lt_of_heap HI2.out)).trans HI2.out); have HJ3 := Lib.hid ((hb2.block _ (lt_of_heap HI1.out)).trans HI1.out); have HO3 := Lib.hid ho2; clear hb2 ho2)
        have HTZ := Lib.hid (show TZ w (w2.alloc (.cells #[.string x0, .int .u32 xa, .slice A nb c, .int .u8 xs] 70)) w2.heap.size #[.string s2, .int .u32 al, .slice A2 nl c2, .int .u8 m2] #[.string x0, .int .u32 xa, .slice A nb c, .int .u8 xs] from
          ⟨(Below.heap_alloc w2 _ _ (lt_of_heap HJ3.out)).trans HJ3.out, (Below.heap_alloc w2 _ _ (lt_of_heap HI3.out)).trans HI3.out, heap_alloc_new _ _, HB3.out.alloc HB3.out.size _⟩)
        have HO4 := Lib.hid (own_blk HO3.out (below_one w2 (.cells #[.string x0, .int .u32 xa, .slice A nb c, .int .u8 xs] 70)))
        obtain ⟨L, hL⟩ : ∃ L, w2.heap.size = L := ⟨_, rfl⟩
        obtain ⟨W4, hW4⟩ : ∃ W4, w2.alloc (.cells #[.string x0, .int .u32 xa, .slice A nb c, .int .u8 xs] 70) = W4 := ⟨_, rfl⟩
        rw [hW4, hL] at HTZ
        rw [hW4] at HO4
        rw [hW4, hL]
        clear hW4 hL
        have l0 := cell_of (o := 0) HTZ.out.lz rfl
        have l1 := cell_of (o := 1) HTZ.out.lz rfl
        have l2 := cell_of (o := 2) HTZ.out.lz rfl
        have l3 := cell_of (o := 3) HTZ.out.lz rfl
        have x0' := cell_of (o := 0) HTZ.out.xz rfl
        have x1' := cell_of (o := 1) HTZ.out.xz rfl
        have x2' := cell_of (o := 2) HTZ.out.xz rfl
        have x3' := cell_of (o := 3) HTZ.out.xz rfl
        go_upto_region 4 with (go_at_call 47; refine (HFO.out _ _ _).mono ?_; rintro e w5 ⟨rfl, hb5⟩; have HTZ5 := Lib.hid (HTZ.out.below hb5); have HO5 := Lib.hid (own_blk HO4.out hb5); clear hb5)
        clear l0 l1 l2 l3 x0' x1' x2' x3'
        have HBY := Lib.hid (show ByR w5 (.slice A nb c) xb from ByR.of_own (by rw [HNB.out]; exact HO5.out))
        have HS := Lib.hid (show w5.cell? ⟨L, 3, none⟩ = some (.int .u8 xs) ∧ w5.cell? ⟨L, 1, none⟩ = some (.int .u32 xa) ∧ w5.cell? ⟨L, 2, none⟩ = some (.slice A nb c) ∧ w.heap.size ≤ w5.heap.size ∧ w5.heap.size ≤ w5.heap.size ∧ Hid (Below w5.heap.size w5 w5) from ⟨cell_of HTZ5.out.xz rfl, cell_of HTZ5.out.xz rfl, cell_of HTZ5.out.xz rfl, HTZ5.out.old.size, Nat.le_refl _, Lib.hid (Below.refl _ _)⟩)
        go_region_held3 (fun v => v.cell? ⟨L, 3, none⟩ = some (.int .u8 xs) ∧ v.cell? ⟨L, 1, none⟩ = some (.int .u32 xa) ∧ v.cell? ⟨L, 2, none⟩ = some (.slice A nb c) ∧ w.heap.size ≤ v.heap.size ∧ w5.heap.size ≤ v.heap.size ∧ Hid (Below w5.heap.size w5 v)) (first | exact g3_drew HS.out | exact g3_call (g3_drew HS.out) hb6)
          (first | (go_at_call 41; refine (HSO.out _ _ _ (HBY.out.below (g3_drew HS.out).2.2.2.2.2.out)).mono ?_; rintro e w6 ⟨rfl, hb6⟩))
        all_goals
          rename_i hHeld
          obtain ⟨y3, y1, y2, hN, hM, hB⟩ := hHeld
          have HTZ6 := Lib.hid (HTZ5.out.below hB.out)
          have r0 := cell_of (o := 0) HTZ6.out.rz rfl
          have r1 := cell_of (o := 1) HTZ6.out.rz rfl
          have r2 := cell_of (o := 2) HTZ6.out.rz rfl
          have r3 := cell_of (o := 3) HTZ6.out.rz rfl
          have rf : ∀ o, World.frozen? _ ⟨w.heap.size + 1, o, none⟩ = false := fun o => unfrozen HTZ6.out.rz
          clear hB
          go_wp2
          refine bodyPost_ret (v := .tuple #[.agg #[.string ⟨#[]⟩, .int .u32 0, .slice none 0 0, .int .u8 0], .int .i64 11]) (by simp [results, Tryd.results33, go_sem, r0, r1, r2, r3]) rfl ?_
          exact TkPost.bad HE.out (by decide) (below_four HTZ6.out.old (by omega) _ _ _ _)
end Go.Proofs.YtcilhippjiichaaDoor
