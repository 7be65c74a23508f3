/-
  The law Texts returns true at every image and all bytes, and leaves all that was in memory as it was, where the tables are as their texts lay them.
-/
import Derived.Test.YtcilhippjiichaaDoorLsA
namespace Go.Proofs.YtcilhippjiichaaDoor
open Go.RowKit Go.Maps S02
theorem text_any {w : World} {st : Nat} {sv : Value} {l : List (Nat × List UInt8)} (hs : SgR w sv l) (hst : st < 4294967296) (hn : l.length ≤ 1000000) (hd : ∀ p ∈ l, p.1 < 4294967296 ∧ p.2.length ≤ 1000000) (ht : Tabs w) :
    Calls Tryd.prog 16 #[.agg #[.int .u32 st, sv]] w fun e w' => e = .returned (.string ⟨(RM.TX st l).toArray⟩) ∧ Below w.heap.size w w' := by
  unfold RM.TX
  by_cases h : RM.rt l = 0
  · rw [if_pos h]; exact text_yes hs hst h ht
  · rw [if_neg h]; exact text_no hs hn hd h
theorem rtext_any {w : World} {st : Nat} {sv : Value} {l : List (Nat × List UInt8)} (hs : SgR w sv l) (hst : st < 4294967296) (hn : l.length ≤ 1000000) (hd : ∀ p ∈ l, p.1 < 4294967296 ∧ p.2.length ≤ 1000000) :
    Calls Tryd.prog 17 #[.agg #[.int .u32 st, sv]] w fun e w' => e = .returned (.string ⟨(RM.TX st l).toArray⟩) ∧ Below w.heap.size w w' := by
  unfold RM.TX
  by_cases h : RM.rt l = 0
  · rw [if_pos h]; exact rtext_yes hs hst h
  · rw [if_neg h]; exact rtext_no hs hn hd h
set_option maxHeartbeats 4000000 in
theorem texts_walk {w : World} {st : Nat} {sv bv : Value} {l : List (Nat × List UInt8)} {b : List UInt8} (hst : st < 4294967296) (hs : SgR w sv l) (ha : ∀ p ∈ l, p.1 < 4294967296) (hb : ByR w bv b) (hbl : b.length ≤ 9223372036854775807) (ht : Tw w) :
    Calls Tryd.prog 4 #[.agg #[.int .u32 st, sv], bv] w fun e w' => e = .returned (.bool true) ∧ Below w.heap.size w w' := by
  have H9 := Lib.hid (fun (W : World) (hb : Below w.heap.size w W) => light_any (st := st) (hs.below hb))
  have HAW := Lib.hid (fun (W : World) (hb : Below w.heap.size w W) => ht.wake hb)
  obtain ⟨sa, sc, rfl⟩ := sv_form hs
  obtain ⟨ba, bc, rfl⟩ := by_form hb
  obtain ⟨n, hn⟩ : ∃ n, l.length = n := ⟨_, rfl⟩
  obtain ⟨m, hm⟩ : ∃ m, b.length = m := ⟨_, rfl⟩
  rw [hn] at H9 hs ⊢
  rw [hm] at hb hbl ⊢
  obtain ⟨W0, hW0⟩ : ∃ W0, w.alloc (.cells #[.int .u32 st, .slice sa n sc] 25) = W0 := ⟨_, rfl⟩
  have HB0 := Lib.hid (show Below w.heap.size w W0 from hW0 ▸ (Below.refl _ w).alloc (Nat.le_refl _) _)
  have HI0 := Lib.hid (show W0.heap[w.heap.size]? = some (.cells #[.int .u32 st, .slice sa n sc] 25 (0, 0)) from hW0 ▸ heap_alloc_new w _)
  cases hf : ltB l
  · rw [hf] at H9
    clear hs ha ht hf hn hb hm
    go_enter Tryd.func4, Tryd.ntmps4
    go_upto_region 1 with fail
    have c0 := cell_of (o := 0) HI0.out rfl
    have c1 := cell_of (o := 1) HI0.out rfl
    clear hW0
    go_wp2_with (first
      | (go_at_call 9; refine (H9.out _ HB0.out).mono ?_; rintro e w1 ⟨rfl, hb1⟩; have HB1 := Lib.hid (HB0.out.trans (hb1.mono HB0.out.size)); clear hb1)
      | (go_at_call 10; refine (HAW.out _ HB1.out).mono ?_; rintro e w2 ⟨rfl, hb2⟩; have HB2 := Lib.hid (HB1.out.trans (hb2.mono HB1.out.size)); clear hb2))
    go_ret
    exact ⟨rfl, HB2.out⟩
  · by_cases h300 : m ≤ 300
    · obtain ⟨f1, f2, -⟩ := ltB_open hf
      have HL := Lib.hid (fun (W : World) (hb : Below w.heap.size w W) => text_any (st := st) (hs.below hb) hst (by omega) (fun p hp => ⟨ha p hp, by have := f2 p hp; omega⟩) (ht.on hb).1)
      have HR := Lib.hid (fun (W : World) (hb : Below w.heap.size w W) => rtext_any (st := st) (hs.below hb) hst (by omega) (fun p hp => ⟨ha p hp, by have := f2 p hp; omega⟩))
      have HS := Lib.hid (fun (W : World) (hb' : Below w.heap.size w W) => sum_any (hb.below hb') (by omega))
      have HT := Lib.hid (fun (W : World) (hb' : Below w.heap.size w W) => rsum_any (hb.below hb') (by omega))
      rw [hf] at H9
      have h300' : (m : Int) ≤ 300 := by omega
      clear hs ha ht hf hn f1 f2 hb hm
      obtain ⟨X, hX⟩ : ∃ X : ByteArray, ⟨(RM.TX st l).toArray⟩ = X := ⟨_, rfl⟩
      rw [hX] at HL HR
      clear hX
      generalize RM.ng (RM.tot b) = S at *
      go_enter Tryd.func4, Tryd.ntmps4
      go_upto_region 1 with fail
      have c0 := cell_of (o := 0) HI0.out rfl
      have c1 := cell_of (o := 1) HI0.out rfl
      clear hW0
      go_upto_region 3 with (go_at_call 9; refine (H9.out _ HB0.out).mono ?_; rintro e w1 ⟨rfl, hb1⟩; have HB1 := Lib.hid (HB0.out.trans (hb1.mono HB0.out.size)); have HI1 := Lib.hid ((hb1.block _ (lt_of_heap HI0.out)).trans HI0.out); clear hb1)
      have d0 := cell_of (o := 0) HI1.out rfl
      have d1 := cell_of (o := 1) HI1.out rfl
      clear c0 c1
      have HBd := Lib.hid HB1.out.drew
      go_region_with (first
        | (go_at_call 16; refine (HL.out _ HBd.out).mono ?_; rintro e w2 ⟨rfl, hr1⟩; have HB2 := Lib.hid (HBd.out.trans (hr1.mono HBd.out.size)); have HI2 := Lib.hid ((hr1.block _ (lt_of_heap HI1.out)).trans HI1.out); have e0 := cell_of (o := 0) HI2.out rfl; have e1 := cell_of (o := 1) HI2.out rfl; clear hr1)
        | (go_at_call 17; refine (HR.out _ HB2.out).mono ?_; rintro e w3 ⟨rfl, hr2⟩; have HB3 := Lib.hid (HB2.out.trans (hr2.mono HB2.out.size)); clear hr2)
        | (go_at_call 18; refine (HS.out _ HB3.out).mono ?_; rintro e w4 ⟨rfl, rfl⟩)
        | (go_at_call 19; refine (HT.out _ HB3.out).mono ?_; rintro e w4 ⟨rfl, rfl⟩)
        | (go_at_call 10; refine (HAW.out _ HB3.out).mono ?_; rintro e w5 ⟨rfl, hb5⟩; have HB5 := Lib.hid (HB3.out.trans (hb5.mono HB3.out.size)); clear hb5))
      all_goals
        go_wp2
        go_ret
        exact ⟨rfl, HB5.out⟩
    · have h300' : (300 : Int) < m := by omega
      rw [hf] at H9
      clear hs ha ht hf hn hb hm
      go_enter Tryd.func4, Tryd.ntmps4
      go_upto_region 1 with fail
      have c0 := cell_of (o := 0) HI0.out rfl
      have c1 := cell_of (o := 1) HI0.out rfl
      clear hW0
      go_wp2_with (first
        | (go_at_call 9; refine (H9.out _ HB0.out).mono ?_; rintro e w1 ⟨rfl, hb1⟩; have HB1 := Lib.hid (HB0.out.trans (hb1.mono HB0.out.size)); clear hb1)
        | (go_at_call 10; refine (HAW.out _ HB1.out).mono ?_; rintro e w2 ⟨rfl, hb2⟩; have HB2 := Lib.hid (HB1.out.trans (hb2.mono HB1.out.size)); clear hb2))
      go_ret
      exact ⟨rfl, HB2.out⟩
theorem texts_law (st : Nat) (sv : Value) (l : List (Nat × List UInt8)) (bv : Value) (b : List UInt8) (w : World) (hst : st < 4294967296) (hs : SgR w sv l) (ha : ∀ p ∈ l, p.1 < 4294967296) (hb : ByR w bv b) (hbl : b.length ≤ maxLen) (ht : Tw w) : Calls Tryd.prog 4 #[.agg #[.int .u32 st, sv], bv] w fun e w' => e = .returned (.bool true) ∧ Below w.heap.size w w' := texts_walk hst hs ha hb (by unfold maxLen at hbl; omega) ht
end Go.Proofs.YtcilhippjiichaaDoor
