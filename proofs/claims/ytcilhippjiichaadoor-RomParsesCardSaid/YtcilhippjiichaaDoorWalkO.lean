/-
  What follows answers: whether a line may stand behind another one. No condition but lengths.
-/
import Derived.Test.YtcilhippjiichaaDoorWalkN
import Derived.Deep.RegionHeld3
namespace Go.Proofs.YtcilhippjiichaaDoor
open Go.RowKit Go.Maps S02
namespace RM
/-- A line's word; none ahead of the first line. -/
def wd0 (k : Nat) : List UInt8 := if k = 0 then [] else wdK k
/-- May a line of a kind at an address stand behind another one? -/
def fl (kl al nl k a : Nat) : Bool := if kl = 3 then false else if k = 2 then decide (nl = 16) && decide (al + nl = a) else true
end RM
theorem f3_drew {w v : World} {p q r : Addr} {x y z : Value} (h : v.cell? p = some x ∧ v.cell? q = some y ∧ v.cell? r = some z ∧ w.heap.size ≤ v.heap.size ∧ Hid (Below w.heap.size w v)) : v.drew.cell? p = some x ∧ v.drew.cell? q = some y ∧ v.drew.cell? r = some z ∧ w.heap.size ≤ v.drew.heap.size ∧ Hid (Below w.heap.size w v.drew) := by
  obtain ⟨c0, c1, c2, hN, hB⟩ := h
  exact ⟨c0, c1, c2, hN, Lib.hid hB.out.drew⟩
theorem f3_call {w v v' : World} {p q r : Addr} {x y z : Value} (h : v.cell? p = some x ∧ v.cell? q = some y ∧ v.cell? r = some z ∧ w.heap.size ≤ v.heap.size ∧ Hid (Below w.heap.size w v)) (hb : Below v.heap.size v v') : v'.cell? p = some x ∧ v'.cell? q = some y ∧ v'.cell? r = some z ∧ w.heap.size ≤ v'.heap.size ∧ Hid (Below w.heap.size w v') := by
  obtain ⟨c0, c1, c2, hN, hB⟩ := h
  exact ⟨cell_below hb c0, cell_below hb c1, cell_below hb c2, Nat.le_trans hN hb.size, Lib.hid (hB.out.trans (hb.mono hN))⟩
theorem f3_end {w v : World} {p q r : Addr} {x y z : Value} (h : v.cell? p = some x ∧ v.cell? q = some y ∧ v.cell? r = some z ∧ w.heap.size ≤ v.heap.size ∧ Hid (Below w.heap.size w v)) : Below w.heap.size w v := h.2.2.2.2.out
set_option maxHeartbeats 4000000 in
theorem follows_any (s1 s2 : ByteArray) (a1 n1 c1 m1 a2 n2 c2 m2 k kl : Nat) (A1 A2 : Option Addr) (w : World) (h1 : s1.data.toList = RM.wdK k) (hk : k = 1 ∨ k = 2 ∨ k = 3) (h2 : s2.data.toList = RM.wd0 kl) (hkl : kl = 0 ∨ kl = 1 ∨ kl = 2 ∨ kl = 3) (ha1 : a1 < 4294967296) (ha2 : a2 < 4294967296) (hn : n2 ≤ 1000) :
    Calls Tryd.prog 47 #[.agg #[.string s1, .int .u32 a1, .slice A1 n1 c1, .int .u8 m1], .agg #[.string s2, .int .u32 a2, .slice A2 n2 c2, .int .u8 m2]] w fun e w' => e = .returned (.bool (RM.fl kl a2 n2 k a1)) ∧ Below w.heap.size w w' := by
  have HB2 := Lib.hid (below_two w (.cells #[.string s1, .int .u32 a1, .slice A1 n1 c1, .int .u8 m1] 70) (.cells #[.string s2, .int .u32 a2, .slice A2 n2 c2, .int .u8 m2] 70))
  have HI1 := Lib.hid (show ((w.alloc (.cells #[.string s1, .int .u32 a1, .slice A1 n1 c1, .int .u8 m1] 70)).alloc (.cells #[.string s2, .int .u32 a2, .slice A2 n2 c2, .int .u8 m2] 70)).heap[w.heap.size]? = some (.cells #[.string s1, .int .u32 a1, .slice A1 n1 c1, .int .u8 m1] 70 (0, 0)) from (Below.heap_alloc _ _ _ (by simp)).trans (heap_alloc_new w _))
  have HI2 := Lib.hid (show ((w.alloc (.cells #[.string s1, .int .u32 a1, .slice A1 n1 c1, .int .u8 m1] 70)).alloc (.cells #[.string s2, .int .u32 a2, .slice A2 n2 c2, .int .u8 m2] 70)).heap[w.heap.size + 1]? = some (.cells #[.string s2, .int .u32 a2, .slice A2 n2 c2, .int .u8 m2] 70 (0, 0)) by
    have := heap_alloc_new (w.alloc (.cells #[.string s1, .int .u32 a1, .slice A1 n1 c1, .int .u8 m1] 70)) (.cells #[.string s2, .int .u32 a2, .slice A2 n2 c2, .int .u8 m2] 70)
    simpa using this)
  obtain ⟨W0, hW0⟩ : ∃ W0, (w.alloc (.cells #[.string s1, .int .u32 a1, .slice A1 n1 c1, .int .u8 m1] 70)).alloc (.cells #[.string s2, .int .u32 a2, .slice A2 n2 c2, .int .u8 m2] 70) = W0 := ⟨_, rfl⟩
  rw [hW0] at HB2 HI1 HI2
  by_cases hs2 : kl = 3
  · have e2 := lit_of (h2.trans (show RM.wd0 kl = [115, 116, 97, 114, 116] by subst hs2; rfl))
    subst e2
    have HF := Lib.hid (show RM.fl kl a2 n2 k a1 = false by unfold RM.fl; rw [if_pos hs2])
    clear h1 hk h2 hkl hs2
    go_enter Tryd.func47, Tryd.ntmps47
    go_upto_region 1 with fail
    have d0 := cell_of (o := 0) HI2.out rfl
    clear hW0
    go_wp2
    go_ret
    exact ⟨S02.ret_bool HF.out.symm, HB2.out⟩
  · have hq := lit_not (x := s2) (l := [115, 116, 97, 114, 116]) (by
      rw [h2]
      rcases hkl with rfl | rfl | rfl | rfl
      · decide
      · decide
      · decide
      · exact absurd rfl hs2)
    obtain ⟨q1, q2⟩ := hq
    by_cases hand : k = 2
    · have e1 := lit_of (h1.trans (show RM.wdK k = [97, 110, 100] by subst hand; rfl))
      subst e1
      by_cases h16 : n2 = 16
      · have HF := Lib.hid (show RM.fl kl a2 n2 k a1 = ((((a2 + 16 : Nat) : Int)) == (a1 : Int)) by
          unfold RM.fl
          rw [if_neg hs2, if_pos hand, h16]
          simp only [decide_true, Bool.true_and]
          rw [Bool.eq_iff_iff]
          simp only [decide_eq_true_eq, beq_iff_eq]
          omega)
        subst h16
        clear h1 hk h2 hkl hs2 hand
        go_enter Tryd.func47, Tryd.ntmps47
        go_upto_region 1 with fail
        have d0 := cell_of (o := 0) HI2.out rfl
        have d1 := cell_of (o := 1) HI2.out rfl
        have d2 := cell_of (o := 2) HI2.out rfl
        have e0 := cell_of (o := 0) HI1.out rfl
        have e1 := cell_of (o := 1) HI1.out rfl
        clear hW0
        go_upto_region 4 with fail
        have HS := Lib.hid (show W0.cell? ⟨w.heap.size, 1, none⟩ = some (.int .u32 a1) ∧ W0.cell? ⟨w.heap.size + 1, 1, none⟩ = some (.int .u32 a2) ∧ W0.cell? ⟨w.heap.size + 1, 2, none⟩ = some (.slice A2 16 c2) ∧ w.heap.size ≤ W0.heap.size ∧ Hid (Below w.heap.size w W0) from ⟨e1, d1, d2, HB2.out.size, HB2⟩)
        clear d0 d1 d2 e0 e1
        go_region_held3 (fun v => v.cell? ⟨w.heap.size, 1, none⟩ = some (.int .u32 a1) ∧ v.cell? ⟨w.heap.size + 1, 1, none⟩ = some (.int .u32 a2) ∧ v.cell? ⟨w.heap.size + 1, 2, none⟩ = some (.slice A2 16 c2) ∧ w.heap.size ≤ v.heap.size ∧ Hid (Below w.heap.size w v)) (first | exact f3_drew HS.out | exact f3_call (f3_drew HS.out) hb4)
          (first | (go_at_call 24; refine (end_any _ _ _ _ _ ha2 (by omega)).mono ?_; rintro e w4 ⟨rfl, hb4⟩))
        all_goals
          rename_i hHeld
          have HE := Lib.hid (f3_end hHeld)
          clear hHeld
          go_wp2
          go_ret
          exact ⟨S02.ret_bool (by rw [HF.out, show IntKind.i64.wrap (a1 : Int) = a1 from by rw [IntKind.wrap_i64]; omega]; rfl), HE.out⟩
      · have h16' : ((n2 : Int) == 16) = false := by simp; omega
        have HF := Lib.hid (show RM.fl kl a2 n2 k a1 = false by unfold RM.fl; rw [if_neg hs2, if_pos hand, decide_eq_false h16]; rfl)
        clear h1 hk h2 hkl hs2 hand h16
        go_enter Tryd.func47, Tryd.ntmps47
        go_upto_region 1 with fail
        have d0 := cell_of (o := 0) HI2.out rfl
        have d2 := cell_of (o := 2) HI2.out rfl
        have e0 := cell_of (o := 0) HI1.out rfl
        clear hW0
        go_upto_region 4 with fail
        go_quiet (fail)
        go_wp2
        go_ret
        exact ⟨S02.ret_bool HF.out.symm, below_drewN HB2.out _⟩
    · have HF := Lib.hid (show RM.fl kl a2 n2 k a1 = true by unfold RM.fl; rw [if_neg hs2, if_neg hand])
      obtain ⟨q3, q4⟩ := lit_not (x := s1) (l := [97, 110, 100]) (by
        rw [h1]
        rcases hk with rfl | rfl | rfl
        · decide
        · exact absurd rfl hand
        · decide)
      clear h1 hk h2 hkl hs2 hand
      go_enter Tryd.func47, Tryd.ntmps47
      go_upto_region 1 with fail
      have d0 := cell_of (o := 0) HI2.out rfl
      have e0 := cell_of (o := 0) HI1.out rfl
      clear hW0
      go_wp2
      go_ret
      exact ⟨S02.ret_bool HF.out.symm, HB2.out⟩
end Go.Proofs.YtcilhippjiichaaDoor
