/-
  The law Loads returns true at every size and image, and leaves all that was in memory as it was, where the tables are as their texts lay them.
-/
import Derived.Test.YtcilhippjiichaaDoorLsB
namespace Go.Proofs.YtcilhippjiichaaDoor
open Go.RowKit Go.Maps S02
theorem ldB_len (size : Int) (l : List (Nat × List UInt8)) : (ldB size l).length ≤ 16384 := by
  unfold ldB
  by_cases h : RM.ldE size l = 0
  · rw [if_pos h]
    have h1 : ¬ (size < 64 ∨ 16384 < size ∨ size % 64 ≠ 0) := by
      intro h2
      unfold RM.ldE at h
      rw [if_pos h2] at h
      cases h
    simp
    omega
  · rw [if_neg h]
    simp
set_option maxHeartbeats 4000000 in
theorem loads_walk {w : World} {size : Int} {st : Nat} {sv : Value} {l : List (Nat × List UInt8)} (hs : SgR w sv l) (ha : ∀ p ∈ l, p.1 < 4294967296) (ht : Tw w) :
    Calls Tryd.prog 3 #[.int .i64 size, .agg #[.int .u32 st, sv]] w fun e w' => e = .returned (.bool true) ∧ Below w.heap.size w w' := by
  have H9 := Lib.hid (fun (W : World) (hb : Below w.heap.size w W) => light_any (st := st) (hs.below hb))
  have HAW := Lib.hid (fun (W : World) (hb : Below w.heap.size w W) => ht.wake hb)
  obtain ⟨sa, sc, rfl⟩ := sv_form hs
  obtain ⟨n, hn⟩ : ∃ n, l.length = n := ⟨_, rfl⟩
  rw [hn] at H9 hs ⊢
  obtain ⟨W0, hW0⟩ : ∃ W0, w.alloc (.cells #[.int .u32 st, .slice sa n sc] 25) = W0 := ⟨_, rfl⟩
  have HB0 := Lib.hid (show Below w.heap.size w W0 from hW0 ▸ (Below.refl _ w).alloc (Nat.le_refl _) _)
  have HI0 := Lib.hid (show W0.heap[w.heap.size]? = some (.cells #[.int .u32 st, .slice sa n sc] 25 (0, 0)) from hW0 ▸ heap_alloc_new w _)
  cases hf : ltB l
  · rw [hf] at H9
    clear hs ha ht hf hn
    go_enter Tryd.func3, Tryd.ntmps3
    go_upto_region 1 with fail
    have c0 := cell_of (o := 0) HI0.out rfl
    have c1 := cell_of (o := 1) HI0.out rfl
    clear hW0
    go_wp2_with (first
      | (go_at_call 9; refine (H9.out _ HB0.out).mono ?_; rintro e w1 ⟨rfl, hb1⟩; have HB1 := Lib.hid (HB0.out.trans (hb1.mono HB0.out.size)); clear hb1)
      | (go_at_call 10; refine (HAW.out _ HB1.out).mono ?_; rintro e w2 ⟨rfl, hb2⟩; have HB2 := Lib.hid (HB1.out.trans (hb2.mono HB1.out.size)); clear hb2))
    go_ret
    exact ⟨rfl, HB2.out⟩
  · obtain ⟨f1, f2, -⟩ := ltB_open hf
    have bd : ∀ p ∈ l, p.1 < 4294967296 ∧ p.2.length ≤ 1000000 := fun p hp => ⟨ha p hp, by have := f2 p hp; omega⟩
    have HL := Lib.hid (fun (W : World) (hb : Below w.heap.size w W) => load_any (st := st) (size := size) (hs.below hb) (by omega) bd)
    have HR := Lib.hid (fun (W : World) (hb : Below w.heap.size w W) => rload_any (st := st) (size := size) (hs.below hb) (by omega) bd)
    have HG := Lib.hid (fun (W : World) (hb : Below w.heap.size w W) => right_any (st := st) (hs.below hb) (by omega) bd)
    have HH := Lib.hid (fun (W : World) (hb : Below w.heap.size w W) => rright_any (st := st) (hs.below hb) (by omega) bd)
    unfold LdPost at HL HR
    have HM := Lib.hid (ldB_len size l)
    rw [hf] at H9
    clear hs ha ht hf hn f1 f2 bd
    generalize RM.ldE size l = E at *
    generalize RM.rt l = G at *
    generalize ldB size l = M at *
    go_enter Tryd.func3, Tryd.ntmps3
    go_upto_region 1 with fail
    have c0 := cell_of (o := 0) HI0.out rfl
    have c1 := cell_of (o := 1) HI0.out rfl
    clear hW0
    go_upto_region 3 with (go_at_call 9; refine (H9.out _ HB0.out).mono ?_; rintro e w1 ⟨rfl, hb1⟩; have HB1 := Lib.hid (HB0.out.trans (hb1.mono HB0.out.size)); have HI1 := Lib.hid ((hb1.block _ (lt_of_heap HI0.out)).trans HI0.out); clear hb1)
    have d0 := cell_of (o := 0) HI1.out rfl
    have d1 := cell_of (o := 1) HI1.out rfl
    clear c0 c1
    go_upto_region 4 with (go_at_call 11; refine (HL.out _ HB1.out).mono ?_; rintro e w2 ⟨v1, rfl, hv1, hb2⟩; have HV1 := Lib.hid hv1; have HB2 := Lib.hid (HB1.out.trans (hb2.mono HB1.out.size)); have HI2 := Lib.hid ((hb2.block _ (lt_of_heap HI1.out)).trans HI1.out); clear hv1 hb2)
    have e0 := cell_of (o := 0) HI2.out rfl
    have e1 := cell_of (o := 1) HI2.out rfl
    clear d0 d1
    go_upto_region 5 with (go_at_call 12; refine (HR.out _ HB2.out).mono ?_; rintro e w3 ⟨v2, rfl, hv2, hb3⟩; have HV2 := Lib.hid hv2; have HV1' := Lib.hid (HV1.out.below hb3); have HB3 := Lib.hid (HB2.out.trans (hb3.mono HB2.out.size)); have HI3 := Lib.hid ((hb3.block _ (lt_of_heap HI2.out)).trans HI2.out); clear hv2 hb3)
    clear e0 e1
    have g0 := cell_of (o := 0) HI3.out rfl
    have g1 := cell_of (o := 1) HI3.out rfl
    have HBd := Lib.hid HB3.out.drew
    have hdr : Below w3.heap.size w3 w3.drew := (Below.refl _ w3).drew
    have HSM := Lib.hid (bytes_same (HV1'.out.below hdr) (HV2.out.below hdr) (by have := HM.out; omega))
    clear hdr
    go_region_with (first
      | (go_at_call 13; refine HSM.out.mono ?_; rintro e w4 ⟨rfl, hd4⟩; have HB4 := Lib.hid (HBd.out.trans (hd4.below.mono HBd.out.size)); have HI4 := Lib.hid ((hd4.below.block _ (lt_of_heap HI3.out)).trans HI3.out); have k0 := cell_of (o := 0) HI4.out rfl; have k1 := cell_of (o := 1) HI4.out rfl; clear hd4)
      | (go_at_call 14; refine (HG.out _ HB4.out).mono ?_; rintro e w5 ⟨rfl, hb5⟩; have HB5 := Lib.hid (HB4.out.trans (hb5.mono HB4.out.size)); have HI5 := Lib.hid ((hb5.block _ (lt_of_heap HI4.out)).trans HI4.out); have m0 := cell_of (o := 0) HI5.out rfl; have m1 := cell_of (o := 1) HI5.out rfl; clear hb5)
      | (go_at_call 15; refine (HH.out _ HB5.out).mono ?_; rintro e w6 ⟨rfl, hb6⟩; have HB6 := Lib.hid (HB5.out.trans (hb6.mono HB5.out.size)); clear hb6)
      | (go_at_call 10; refine (HAW.out _ HB6.out).mono ?_; rintro e w7 ⟨rfl, hb7⟩; have HB7 := Lib.hid (HB6.out.trans (hb7.mono HB6.out.size)); clear hb7))
    all_goals
      go_wp2
      go_ret
      exact ⟨rfl, HB7.out⟩
theorem loads_law (size : Int) (st : Nat) (sv : Value) (l : List (Nat × List UInt8)) (w : World) (_ : st < 4294967296) (hs : SgR w sv l) (ha : ∀ p ∈ l, p.1 < 4294967296) (ht : Tw w) : Calls Tryd.prog 3 #[.int .i64 size, .agg #[.int .u32 st, sv]] w fun e w' => e = .returned (.bool true) ∧ Below w.heap.size w w' := loads_walk hs ha ht
end Go.Proofs.YtcilhippjiichaaDoor
