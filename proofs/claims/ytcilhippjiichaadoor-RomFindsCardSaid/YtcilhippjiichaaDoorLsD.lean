/-
  The law Back returns true at every image and text, and leaves all that was in memory as it was, where the tables are as their texts lay them.
-/
import Derived.Test.YtcilhippjiichaaDoorLsC
namespace Go.Proofs.YtcilhippjiichaaDoor
open Go.RowKit Go.Maps S02
namespace RM
theorem tx_size {st : Nat} {l : List (Nat × List UInt8)} (h : rt l = 0) (hst : st < 4294967296) : (tx st l).length ≤ 1000000 := by
  have h2 := fl10_len (lnT st l) (lnT_good h hst)
  rw [← tx_lines] at h2
  obtain ⟨o1, o2, -⟩ := rt_open h
  have h3 := bt_le (by decide) o2
  have h4 := lnLs_len l
  have h5 : (lnT st l).length = (lnLs l).length + 1 := by unfold lnT; rw [List.length_append]; rfl
  omega
end RM
/-- What Parse leaves, read of whatever is there. -/
theorem parse_read (s : ByteArray) (w : World) (hs : s.size ≤ 9223372036854775807) (hm : Mx w) {l : List (Nat × List UInt8)} {st n : Nat} {E : Int} (h : RM.PA s.data.toList = (l, st, n, E)) :
    Calls Tryd.prog 20 #[.string s] w fun e w' => ∃ a c, e = .returned (.tuple #[.agg #[.int .u32 st, .slice a l.length c], .int .i64 n, .int .i64 E]) ∧ SgR w' (.slice a l.length c) l ∧ Below w.heap.size w w' := by
  have HA := parse_any s w hs hm
  unfold PsPost at HA
  rw [h] at HA
  refine HA.mono ?_
  rintro e w' ⟨v, ps, rfl, hsg, hl, hb⟩
  have hS := SgR.of_sg hsg hl
  obtain ⟨a, c, rfl⟩ := sv_form hS
  exact ⟨a, c, rfl, hS, hb⟩
/-- The text of an image is read as it. -/
theorem parse_text {w : World} {st : Nat} {l : List (Nat × List UInt8)} (h : RM.rt l = 0) (hst : st < 4294967296) (hm : Mx w) :
    Calls Tryd.prog 20 #[.string ⟨(RM.tx st l).toArray⟩] w fun e w' => ∃ a c, e = .returned (.tuple #[.agg #[.int .u32 st, .slice a l.length c], .int .i64 0, .int .i64 0]) ∧ SgR w' (.slice a l.length c) l ∧ Below w.heap.size w w' := by
  obtain ⟨T, hT, h1, h2⟩ := bt_of (RM.tx st l)
  have h3 := RM.tx_size h hst
  rw [hT]
  exact parse_read (n := 0) T w (by omega) hm (by rw [h1]; exact RM.PA_tx h hst)
/-- What was read has its text. -/
theorem text_read {w : World} {s : ByteArray} {l : List (Nat × List UInt8)} {st n : Nat} {v : Value} (h : RM.PA s.data.toList = (l, st, n, 0)) (hs : SgR w v l) (ht : Tabs w) :
    Calls Tryd.prog 16 #[.agg #[.int .u32 st, v]] w fun e w' => e = .returned (.string s) ∧ Below w.heap.size w w' := by
  obtain ⟨h1, h2, -, h4⟩ := RM.PA_back h
  have e : (⟨(RM.tx st l).toArray⟩ : ByteArray) = s := by rw [h2]
  have := text_yes hs h4 h1 ht
  rwa [e] at this
set_option maxHeartbeats 4000000 in
theorem back_light {w : World} {st : Nat} {sv : Value} {l : List (Nat × List UInt8)} (s : ByteArray) (hs : SgR w sv l) (ht : Tw w) (hf : ltB l = false ∨ (5000 : Int) < s.size) :
    Calls Tryd.prog 6 #[.agg #[.int .u32 st, sv], .string s] w fun e w' => e = .returned (.bool true) ∧ Below w.heap.size w w' := by
  have H9 := Lib.hid (fun (W : World) (hb : Below w.heap.size w W) => light_any (st := st) (hs.below hb))
  have HAW := Lib.hid (fun (W : World) (hb : Below w.heap.size w W) => ht.wake hb)
  obtain ⟨sa, sc, rfl⟩ := sv_form hs
  obtain ⟨n, hn⟩ : ∃ n, l.length = n := ⟨_, rfl⟩
  rw [hn] at H9 hs ⊢
  obtain ⟨W0, hW0⟩ : ∃ W0, w.alloc (.cells #[.int .u32 st, .slice sa n sc] 25) = W0 := ⟨_, rfl⟩
  have HB0 := Lib.hid (show Below w.heap.size w W0 from hW0 ▸ (Below.refl _ w).alloc (Nat.le_refl _) _)
  have HI0 := Lib.hid (show W0.heap[w.heap.size]? = some (.cells #[.int .u32 st, .slice sa n sc] 25 (0, 0)) from hW0 ▸ heap_alloc_new w _)
  by_cases h0 : ltB l = false
  · rw [h0] at H9
    clear hs ht hf hn h0
    go_enter Tryd.func6, Tryd.ntmps6
    go_upto_region 1 with fail
    have c0 := cell_of (o := 0) HI0.out rfl
    have c1 := cell_of (o := 1) HI0.out rfl
    clear hW0
    go_wp2_with (first
      | (go_at_call 9; refine (H9.out _ HB0.out).mono ?_; rintro e w1 ⟨rfl, hb1⟩; have HB1 := Lib.hid (HB0.out.trans (hb1.mono HB0.out.size)); clear hb1)
      | (go_at_call 10; refine (HAW.out _ HB1.out).mono ?_; rintro e w2 ⟨rfl, hb2⟩; have HB2 := Lib.hid (HB1.out.trans (hb2.mono HB1.out.size)); clear hb2))
    go_ret
    exact ⟨rfl, HB2.out⟩
  · have h1 := hf.resolve_left h0
    rw [Bool.not_eq_false] at h0
    rw [h0] at H9
    clear hs ht hf hn h0
    go_enter Tryd.func6, Tryd.ntmps6
    go_upto_region 1 with fail
    have c0 := cell_of (o := 0) HI0.out rfl
    have c1 := cell_of (o := 1) HI0.out rfl
    clear hW0
    go_wp2_with (first
      | (go_at_call 9; refine (H9.out _ HB0.out).mono ?_; rintro e w1 ⟨rfl, hb1⟩; have HB1 := Lib.hid (HB0.out.trans (hb1.mono HB0.out.size)); clear hb1)
      | (go_at_call 10; refine (HAW.out _ HB1.out).mono ?_; rintro e w2 ⟨rfl, hb2⟩; have HB2 := Lib.hid (HB1.out.trans (hb2.mono HB1.out.size)); clear hb2))
    go_ret
    exact ⟨rfl, HB2.out⟩
set_option maxHeartbeats 4000000 in
theorem back_yy {w : World} {st : Nat} {sv : Value} {l : List (Nat × List UInt8)} (s : ByteArray) (hst : st < 4294967296) (hs : SgR w sv l) (ha : ∀ p ∈ l, p.1 < 4294967296) (ht : Tw w) (hf : ltB l = true) (h5 : (s.size : Int) ≤ 5000) (hr : RM.rt l = 0) {m : List (Nat × List UInt8)} {t q : Nat} (hp : RM.PA s.data.toList = (m, t, q, 0)) :
    Calls Tryd.prog 6 #[.agg #[.int .u32 st, sv], .string s] w fun e w' => e = .returned (.bool true) ∧ Below w.heap.size w w' := by
  have H9 := Lib.hid (fun (W : World) (hb : Below w.heap.size w W) => light_any (st := st) (hs.below hb))
  have HAW := Lib.hid (fun (W : World) (hb : Below w.heap.size w W) => ht.wake hb)
  obtain ⟨f1, f2, -⟩ := ltB_open hf
  have bd : ∀ p ∈ l, p.1 < 4294967296 ∧ p.2.length ≤ 1000000 := fun p hp => ⟨ha p hp, by have := f2 p hp; omega⟩
  have HG := Lib.hid (fun (W : World) (hb : Below w.heap.size w W) => right_any (st := st) (hs.below hb) (by omega) bd)
  have HQ := Lib.hid (fun (W : World) (hb : Below w.heap.size w W) => parse_read s W (by omega) (ht.on hb).2 hp)
  have HQT := Lib.hid (fun (W : World) (hb : Below w.heap.size w W) (v : Value) (hv : SgR W v m) => text_read hp hv (ht.on hb).1)
  have HQM := Lib.hid (RM.rt_open (RM.PA_back hp).1)
  have HQR := Lib.hid (fun (W : World) (v : Value) (hv : SgR W v m) => right_any (st := t) hv (by have := HQM.out.1; omega) (fun p hp => by have := (HQM.out.2.2 p hp).2; omega))
  rw [(RM.PA_back hp).1] at HQR
  obtain ⟨mm, hmm⟩ : ∃ mm, m.length = mm := ⟨_, rfl⟩
  rw [hmm] at HQ
  have HT := Lib.hid (fun (W : World) (hb : Below w.heap.size w W) => text_yes (hs.below hb) hst hr (ht.on hb).1)
  have HP := Lib.hid (fun (W : World) (hb : Below w.heap.size w W) => parse_text hr hst (ht.on hb).2)
  have HS := Lib.hid hs
  have HD := Lib.hid (show ∀ p ∈ l, p.2.length ≤ 100000 from fun p hp => by have := f2 p hp; omega)
  have HL := Lib.hid (show l.length ≤ 100000 by omega)
  rw [hr] at HG
  obtain ⟨X, hX⟩ : ∃ X : ByteArray, ⟨(RM.tx st l).toArray⟩ = X := ⟨_, rfl⟩
  rw [hX] at HT HP
  clear hX
  obtain ⟨sa, sc, rfl⟩ := sv_form hs
  obtain ⟨n, hn⟩ : ∃ n, l.length = n := ⟨_, rfl⟩
  rw [hn] at H9 HG HT HP HS ⊢
  rw [hf] at H9
  obtain ⟨W0, hW0⟩ : ∃ W0, w.alloc (.cells #[.int .u32 st, .slice sa n sc] 25) = W0 := ⟨_, rfl⟩
  have HB0 := Lib.hid (show Below w.heap.size w W0 from hW0 ▸ (Below.refl _ w).alloc (Nat.le_refl _) _)
  have HI0 := Lib.hid (show W0.heap[w.heap.size]? = some (.cells #[.int .u32 st, .slice sa n sc] 25 (0, 0)) from hW0 ▸ heap_alloc_new w _)
  clear hs ha ht hf hn hr hp f1 f2 bd hmm hst
  go_enter Tryd.func6, Tryd.ntmps6
  go_upto_region 1 with fail
  have c0 := cell_of (o := 0) HI0.out rfl
  have c1 := cell_of (o := 1) HI0.out rfl
  clear hW0
  go_upto_region 3 with (go_at_call 9; refine (H9.out _ HB0.out).mono ?_; rintro e w1 ⟨rfl, hb⟩; have HB1 := Lib.hid (HB0.out.trans (hb.mono HB0.out.size)); have HI1 := Lib.hid ((hb.block _ (lt_of_heap HI0.out)).trans HI0.out); clear hb)
  clear c0 c1
  have d0 := cell_of (o := 0) HI1.out rfl
  have d1 := cell_of (o := 1) HI1.out rfl
  go_upto_region 4 with (go_at_call 14; refine (HG.out _ HB1.out).mono ?_; rintro e w2 ⟨rfl, hb⟩; have HB2 := Lib.hid (HB1.out.trans (hb.mono HB1.out.size)); have HI2 := Lib.hid ((hb.block _ (lt_of_heap HI1.out)).trans HI1.out); clear hb)
  clear d0 d1
  have e0 := cell_of (o := 0) HI2.out rfl
  have e1 := cell_of (o := 1) HI2.out rfl
  go_upto_region 5 with (first
    | (go_at_call 16; refine (HT.out _ HB2.out).mono ?_; rintro e w3 ⟨rfl, hb⟩; have HB3 := Lib.hid (HB2.out.trans (hb.mono HB2.out.size)); have HI3 := Lib.hid ((hb.block _ (lt_of_heap HI2.out)).trans HI2.out); clear hb)
    | (go_at_call 20; refine (HP.out _ HB3.out).mono ?_; rintro e w4 ⟨xa, xc, rfl, hx, hb⟩; have HX := Lib.hid hx; have HB4 := Lib.hid (HB3.out.trans (hb.mono HB3.out.size)); have HI4 := Lib.hid ((hb.block _ (lt_of_heap HI3.out)).trans HI3.out); clear hb hx))
  clear e0 e1
  obtain ⟨W5, hW5⟩ : ∃ W5, w4.alloc (.cells #[.int .u32 st, .slice xa n xc] 25) = W5 := ⟨_, rfl⟩
  obtain ⟨B5, hB5⟩ : ∃ B5, w4.heap.size = B5 := ⟨_, rfl⟩
  have hal : Below w4.heap.size w4 W5 := hW5 ▸ (Below.refl _ w4).alloc (Nat.le_refl _) _
  have hO : W5.heap[B5]? = some (.cells #[.int .u32 st, .slice xa n xc] 25 (0, 0)) := hB5 ▸ hW5 ▸ heap_alloc_new w4 _
  have HB5 := Lib.hid (HB4.out.trans (hal.mono HB4.out.size))
  have HI5 := Lib.hid ((hal.block _ (lt_of_heap HI4.out)).trans HI4.out)
  have HSM := Lib.hid (image_same (st := st) (HX.out.below hal) (HS.out.below HB5.out) HL.out HD.out)
  have g0 := cell_of (o := 0) HI5.out rfl
  have g1 := cell_of (o := 1) HI5.out rfl
  have k0 := cell_of (o := 0) hO rfl
  have k1 := cell_of (o := 1) hO rfl
  rw [hW5, hB5]
  clear hW5 hB5 hO hal
  go_upto_region 9 with (go_at_call 22; refine HSM.out.mono ?_; rintro e w6 ⟨rfl, hb⟩; have HB6 := Lib.hid (HB5.out.trans (hb.mono HB5.out.size)); clear hb)
  clear g0 g1 k0 k1
  go_upto_region 10 with (go_at_call 20; refine (HQ.out _ HB6.out).mono ?_; rintro e w7 ⟨xa', xc', rfl, hx, hb⟩; have HX' := Lib.hid hx; have HB7 := Lib.hid (HB6.out.trans (hb.mono HB6.out.size)); clear hb hx)
  obtain ⟨W8, hW8⟩ : ∃ W8, w7.alloc (.cells #[.int .u32 t, .slice xa' mm xc'] 25) = W8 := ⟨_, rfl⟩
  obtain ⟨B8, hB8⟩ : ∃ B8, w7.heap.size = B8 := ⟨_, rfl⟩
  have hal : Below w7.heap.size w7 W8 := hW8 ▸ (Below.refl _ w7).alloc (Nat.le_refl _) _
  have HI8 := Lib.hid (show W8.heap[B8]? = some (.cells #[.int .u32 t, .slice xa' mm xc'] 25 (0, 0)) from hB8 ▸ hW8 ▸ heap_alloc_new w7 _)
  have HB8 := Lib.hid (HB7.out.trans (hal.mono HB7.out.size))
  have HX8 := Lib.hid (HX'.out.below hal)
  have k0 := cell_of (o := 0) HI8.out rfl
  have k1 := cell_of (o := 1) HI8.out rfl
  rw [hW8, hB8]
  clear hW8 hB8 hal
  go_wp2_with (first
    | (go_at_call 14; refine (HQR.out _ _ HX8.out).mono ?_; rintro e w9 ⟨rfl, hb⟩; have HB9 := Lib.hid (HB8.out.trans (hb.mono HB8.out.size)); have HX9 := Lib.hid (HX8.out.below hb); have HI9 := Lib.hid ((hb.block _ (lt_of_heap HI8.out)).trans HI8.out); have q0 := cell_of (o := 0) HI9.out rfl; have q1 := cell_of (o := 1) HI9.out rfl; clear hb)
    | (go_at_call 16; refine (HQT.out _ HB9.out _ HX9.out).mono ?_; rintro e w10 ⟨rfl, hb⟩; have HB10 := Lib.hid (HB9.out.trans (hb.mono HB9.out.size)); clear hb)
    | (go_at_call 10; refine (HAW.out _ HB10.out).mono ?_; rintro e w11 ⟨rfl, hb⟩; have HB11 := Lib.hid (HB10.out.trans (hb.mono HB10.out.size)); clear hb))
  go_ret
  exact ⟨rfl, HB11.out⟩
set_option maxHeartbeats 4000000 in
theorem back_yn {w : World} {st : Nat} {sv : Value} {l : List (Nat × List UInt8)} (s : ByteArray) (hst : st < 4294967296) (hs : SgR w sv l) (ha : ∀ p ∈ l, p.1 < 4294967296) (ht : Tw w) (hf : ltB l = true) (h5 : (s.size : Int) ≤ 5000) (hr : RM.rt l = 0) {m : List (Nat × List UInt8)} {t q : Nat} {E : Int} (hp : RM.PA s.data.toList = (m, t, q, E)) (hE : E ≠ 0) :
    Calls Tryd.prog 6 #[.agg #[.int .u32 st, sv], .string s] w fun e w' => e = .returned (.bool true) ∧ Below w.heap.size w w' := by
  have H9 := Lib.hid (fun (W : World) (hb : Below w.heap.size w W) => light_any (st := st) (hs.below hb))
  have HAW := Lib.hid (fun (W : World) (hb : Below w.heap.size w W) => ht.wake hb)
  obtain ⟨f1, f2, -⟩ := ltB_open hf
  have bd : ∀ p ∈ l, p.1 < 4294967296 ∧ p.2.length ≤ 1000000 := fun p hp => ⟨ha p hp, by have := f2 p hp; omega⟩
  have HG := Lib.hid (fun (W : World) (hb : Below w.heap.size w W) => right_any (st := st) (hs.below hb) (by omega) bd)
  have HQ := Lib.hid (fun (W : World) (hb : Below w.heap.size w W) => parse_read s W (by omega) (ht.on hb).2 hp)
  have hE1 : (E == 0) = false := by simpa using hE
  have hE2 : (E != 0) = true := by simpa using hE
  obtain ⟨mm, hmm⟩ : ∃ mm, m.length = mm := ⟨_, rfl⟩
  rw [hmm] at HQ
  have HT := Lib.hid (fun (W : World) (hb : Below w.heap.size w W) => text_yes (hs.below hb) hst hr (ht.on hb).1)
  have HP := Lib.hid (fun (W : World) (hb : Below w.heap.size w W) => parse_text hr hst (ht.on hb).2)
  have HS := Lib.hid hs
  have HD := Lib.hid (show ∀ p ∈ l, p.2.length ≤ 100000 from fun p hp => by have := f2 p hp; omega)
  have HL := Lib.hid (show l.length ≤ 100000 by omega)
  rw [hr] at HG
  obtain ⟨X, hX⟩ : ∃ X : ByteArray, ⟨(RM.tx st l).toArray⟩ = X := ⟨_, rfl⟩
  rw [hX] at HT HP
  clear hX
  obtain ⟨sa, sc, rfl⟩ := sv_form hs
  obtain ⟨n, hn⟩ : ∃ n, l.length = n := ⟨_, rfl⟩
  rw [hn] at H9 HG HT HP HS ⊢
  rw [hf] at H9
  obtain ⟨W0, hW0⟩ : ∃ W0, w.alloc (.cells #[.int .u32 st, .slice sa n sc] 25) = W0 := ⟨_, rfl⟩
  have HB0 := Lib.hid (show Below w.heap.size w W0 from hW0 ▸ (Below.refl _ w).alloc (Nat.le_refl _) _)
  have HI0 := Lib.hid (show W0.heap[w.heap.size]? = some (.cells #[.int .u32 st, .slice sa n sc] 25 (0, 0)) from hW0 ▸ heap_alloc_new w _)
  clear hs ha ht hf hn hr hp f1 f2 bd hmm hst hE
  go_enter Tryd.func6, Tryd.ntmps6
  go_upto_region 1 with fail
  have c0 := cell_of (o := 0) HI0.out rfl
  have c1 := cell_of (o := 1) HI0.out rfl
  clear hW0
  go_upto_region 3 with (go_at_call 9; refine (H9.out _ HB0.out).mono ?_; rintro e w1 ⟨rfl, hb⟩; have HB1 := Lib.hid (HB0.out.trans (hb.mono HB0.out.size)); have HI1 := Lib.hid ((hb.block _ (lt_of_heap HI0.out)).trans HI0.out); clear hb)
  clear c0 c1
  have d0 := cell_of (o := 0) HI1.out rfl
  have d1 := cell_of (o := 1) HI1.out rfl
  go_upto_region 4 with (go_at_call 14; refine (HG.out _ HB1.out).mono ?_; rintro e w2 ⟨rfl, hb⟩; have HB2 := Lib.hid (HB1.out.trans (hb.mono HB1.out.size)); have HI2 := Lib.hid ((hb.block _ (lt_of_heap HI1.out)).trans HI1.out); clear hb)
  clear d0 d1
  have e0 := cell_of (o := 0) HI2.out rfl
  have e1 := cell_of (o := 1) HI2.out rfl
  go_upto_region 5 with (first
    | (go_at_call 16; refine (HT.out _ HB2.out).mono ?_; rintro e w3 ⟨rfl, hb⟩; have HB3 := Lib.hid (HB2.out.trans (hb.mono HB2.out.size)); have HI3 := Lib.hid ((hb.block _ (lt_of_heap HI2.out)).trans HI2.out); clear hb)
    | (go_at_call 20; refine (HP.out _ HB3.out).mono ?_; rintro e w4 ⟨xa, xc, rfl, hx, hb⟩; have HX := Lib.hid hx; have HB4 := Lib.hid (HB3.out.trans (hb.mono HB3.out.size)); have HI4 := Lib.hid ((hb.block _ (lt_of_heap HI3.out)).trans HI3.out); clear hb hx))
  clear e0 e1
  obtain ⟨W5, hW5⟩ : ∃ W5, w4.alloc (.cells #[.int .u32 st, .slice xa n xc] 25) = W5 := ⟨_, rfl⟩
  obtain ⟨B5, hB5⟩ : ∃ B5, w4.heap.size = B5 := ⟨_, rfl⟩
  have hal : Below w4.heap.size w4 W5 := hW5 ▸ (Below.refl _ w4).alloc (Nat.le_refl _) _
  have hO : W5.heap[B5]? = some (.cells #[.int .u32 st, .slice xa n xc] 25 (0, 0)) := hB5 ▸ hW5 ▸ heap_alloc_new w4 _
  have HB5 := Lib.hid (HB4.out.trans (hal.mono HB4.out.size))
  have HI5 := Lib.hid ((hal.block _ (lt_of_heap HI4.out)).trans HI4.out)
  have HSM := Lib.hid (image_same (st := st) (HX.out.below hal) (HS.out.below HB5.out) HL.out HD.out)
  have g0 := cell_of (o := 0) HI5.out rfl
  have g1 := cell_of (o := 1) HI5.out rfl
  have k0 := cell_of (o := 0) hO rfl
  have k1 := cell_of (o := 1) hO rfl
  rw [hW5, hB5]
  clear hW5 hB5 hO hal
  go_upto_region 9 with (go_at_call 22; refine HSM.out.mono ?_; rintro e w6 ⟨rfl, hb⟩; have HB6 := Lib.hid (HB5.out.trans (hb.mono HB5.out.size)); clear hb)
  clear g0 g1 k0 k1
  go_upto_region 10 with (go_at_call 20; refine (HQ.out _ HB6.out).mono ?_; rintro e w7 ⟨xa', xc', rfl, hx, hb⟩; have HB7 := Lib.hid (HB6.out.trans (hb.mono HB6.out.size)); clear hb hx)
  obtain ⟨W8, hW8⟩ : ∃ W8, w7.alloc (.cells #[.int .u32 t, .slice xa' mm xc'] 25) = W8 := ⟨_, rfl⟩
  have HB8 := Lib.hid (show Below w.heap.size w W8 from hW8 ▸ HB7.out.alloc HB7.out.size _)
  rw [hW8]
  clear hW8
  go_wp2_with (go_at_call 10; refine (HAW.out _ HB8.out).mono ?_; rintro e w11 ⟨rfl, hb⟩; have HB11 := Lib.hid (HB8.out.trans (hb.mono HB8.out.size)); clear hb)
  go_ret
  exact ⟨rfl, HB11.out⟩
set_option maxHeartbeats 4000000 in
theorem back_ny {w : World} {st : Nat} {sv : Value} {l : List (Nat × List UInt8)} (s : ByteArray) (_hst : st < 4294967296) (hs : SgR w sv l) (ha : ∀ p ∈ l, p.1 < 4294967296) (ht : Tw w) (hf : ltB l = true) (h5 : (s.size : Int) ≤ 5000) (hr : RM.rt l ≠ 0) {m : List (Nat × List UInt8)} {t q : Nat} (hp : RM.PA s.data.toList = (m, t, q, 0)) :
    Calls Tryd.prog 6 #[.agg #[.int .u32 st, sv], .string s] w fun e w' => e = .returned (.bool true) ∧ Below w.heap.size w w' := by
  have H9 := Lib.hid (fun (W : World) (hb : Below w.heap.size w W) => light_any (st := st) (hs.below hb))
  have HAW := Lib.hid (fun (W : World) (hb : Below w.heap.size w W) => ht.wake hb)
  obtain ⟨f1, f2, -⟩ := ltB_open hf
  have bd : ∀ p ∈ l, p.1 < 4294967296 ∧ p.2.length ≤ 1000000 := fun p hp => ⟨ha p hp, by have := f2 p hp; omega⟩
  have HG := Lib.hid (fun (W : World) (hb : Below w.heap.size w W) => right_any (st := st) (hs.below hb) (by omega) bd)
  have HQ := Lib.hid (fun (W : World) (hb : Below w.heap.size w W) => parse_read s W (by omega) (ht.on hb).2 hp)
  have HQT := Lib.hid (fun (W : World) (hb : Below w.heap.size w W) (v : Value) (hv : SgR W v m) => text_read hp hv (ht.on hb).1)
  have HQM := Lib.hid (RM.rt_open (RM.PA_back hp).1)
  have HQR := Lib.hid (fun (W : World) (v : Value) (hv : SgR W v m) => right_any (st := t) hv (by have := HQM.out.1; omega) (fun p hp => by have := (HQM.out.2.2 p hp).2; omega))
  rw [(RM.PA_back hp).1] at HQR
  obtain ⟨mm, hmm⟩ : ∃ mm, m.length = mm := ⟨_, rfl⟩
  rw [hmm] at HQ
  have HT := Lib.hid (fun (W : World) (hb : Below w.heap.size w W) => text_no (st := st) (hs.below hb) (by omega) bd hr)
  have hr1 : (RM.rt l == 0) = false := by simpa using hr
  have hr2 : (RM.rt l != 0) = true := by simpa using hr
  generalize RM.rt l = R at *
  obtain ⟨sa, sc, rfl⟩ := sv_form hs
  obtain ⟨n, hn⟩ : ∃ n, l.length = n := ⟨_, rfl⟩
  rw [hn] at H9 HG HT ⊢
  rw [hf] at H9
  obtain ⟨W0, hW0⟩ : ∃ W0, w.alloc (.cells #[.int .u32 st, .slice sa n sc] 25) = W0 := ⟨_, rfl⟩
  have HB0 := Lib.hid (show Below w.heap.size w W0 from hW0 ▸ (Below.refl _ w).alloc (Nat.le_refl _) _)
  have HI0 := Lib.hid (show W0.heap[w.heap.size]? = some (.cells #[.int .u32 st, .slice sa n sc] 25 (0, 0)) from hW0 ▸ heap_alloc_new w _)
  clear hs ha ht hf hn hr hp f1 f2 bd hmm _hst
  go_enter Tryd.func6, Tryd.ntmps6
  go_upto_region 1 with fail
  have c0 := cell_of (o := 0) HI0.out rfl
  have c1 := cell_of (o := 1) HI0.out rfl
  clear hW0
  go_upto_region 3 with (go_at_call 9; refine (H9.out _ HB0.out).mono ?_; rintro e w1 ⟨rfl, hb⟩; have HB1 := Lib.hid (HB0.out.trans (hb.mono HB0.out.size)); have HI1 := Lib.hid ((hb.block _ (lt_of_heap HI0.out)).trans HI0.out); clear hb)
  clear c0 c1
  have d0 := cell_of (o := 0) HI1.out rfl
  have d1 := cell_of (o := 1) HI1.out rfl
  go_upto_region 7 with (go_at_call 14; refine (HG.out _ HB1.out).mono ?_; rintro e w2 ⟨rfl, hb⟩; have HB2 := Lib.hid (HB1.out.trans (hb.mono HB1.out.size)); have HI2 := Lib.hid ((hb.block _ (lt_of_heap HI1.out)).trans HI1.out); clear hb)
  clear d0 d1
  have e0 := cell_of (o := 0) HI2.out rfl
  have e1 := cell_of (o := 1) HI2.out rfl
  go_upto_region 9 with (go_at_call 16; refine (HT.out _ HB2.out).mono ?_; rintro e w3 ⟨rfl, hb⟩; have HB6 := Lib.hid (HB2.out.trans (hb.mono HB2.out.size)); clear hb)
  clear e0 e1
  go_upto_region 10 with (go_at_call 20; refine (HQ.out _ HB6.out).mono ?_; rintro e w7 ⟨xa', xc', rfl, hx, hb⟩; have HX' := Lib.hid hx; have HB7 := Lib.hid (HB6.out.trans (hb.mono HB6.out.size)); clear hb hx)
  obtain ⟨W8, hW8⟩ : ∃ W8, w7.alloc (.cells #[.int .u32 t, .slice xa' mm xc'] 25) = W8 := ⟨_, rfl⟩
  obtain ⟨B8, hB8⟩ : ∃ B8, w7.heap.size = B8 := ⟨_, rfl⟩
  have hal : Below w7.heap.size w7 W8 := hW8 ▸ (Below.refl _ w7).alloc (Nat.le_refl _) _
  have HI8 := Lib.hid (show W8.heap[B8]? = some (.cells #[.int .u32 t, .slice xa' mm xc'] 25 (0, 0)) from hB8 ▸ hW8 ▸ heap_alloc_new w7 _)
  have HB8 := Lib.hid (HB7.out.trans (hal.mono HB7.out.size))
  have HX8 := Lib.hid (HX'.out.below hal)
  have k0 := cell_of (o := 0) HI8.out rfl
  have k1 := cell_of (o := 1) HI8.out rfl
  rw [hW8, hB8]
  clear hW8 hB8 hal
  go_wp2_with (first
    | (go_at_call 14; refine (HQR.out _ _ HX8.out).mono ?_; rintro e w9 ⟨rfl, hb⟩; have HB9 := Lib.hid (HB8.out.trans (hb.mono HB8.out.size)); have HX9 := Lib.hid (HX8.out.below hb); have HI9 := Lib.hid ((hb.block _ (lt_of_heap HI8.out)).trans HI8.out); have q0 := cell_of (o := 0) HI9.out rfl; have q1 := cell_of (o := 1) HI9.out rfl; clear hb)
    | (go_at_call 16; refine (HQT.out _ HB9.out _ HX9.out).mono ?_; rintro e w10 ⟨rfl, hb⟩; have HB10 := Lib.hid (HB9.out.trans (hb.mono HB9.out.size)); clear hb)
    | (go_at_call 10; refine (HAW.out _ HB10.out).mono ?_; rintro e w11 ⟨rfl, hb⟩; have HB11 := Lib.hid (HB10.out.trans (hb.mono HB10.out.size)); clear hb))
  go_ret
  exact ⟨rfl, HB11.out⟩
set_option maxHeartbeats 4000000 in
theorem back_nn {w : World} {st : Nat} {sv : Value} {l : List (Nat × List UInt8)} (s : ByteArray) (_hst : st < 4294967296) (hs : SgR w sv l) (ha : ∀ p ∈ l, p.1 < 4294967296) (ht : Tw w) (hf : ltB l = true) (h5 : (s.size : Int) ≤ 5000) (hr : RM.rt l ≠ 0) {m : List (Nat × List UInt8)} {t q : Nat} {E : Int} (hp : RM.PA s.data.toList = (m, t, q, E)) (hE : E ≠ 0) :
    Calls Tryd.prog 6 #[.agg #[.int .u32 st, sv], .string s] w fun e w' => e = .returned (.bool true) ∧ Below w.heap.size w w' := by
  have H9 := Lib.hid (fun (W : World) (hb : Below w.heap.size w W) => light_any (st := st) (hs.below hb))
  have HAW := Lib.hid (fun (W : World) (hb : Below w.heap.size w W) => ht.wake hb)
  obtain ⟨f1, f2, -⟩ := ltB_open hf
  have bd : ∀ p ∈ l, p.1 < 4294967296 ∧ p.2.length ≤ 1000000 := fun p hp => ⟨ha p hp, by have := f2 p hp; omega⟩
  have HG := Lib.hid (fun (W : World) (hb : Below w.heap.size w W) => right_any (st := st) (hs.below hb) (by omega) bd)
  have HQ := Lib.hid (fun (W : World) (hb : Below w.heap.size w W) => parse_read s W (by omega) (ht.on hb).2 hp)
  have hE1 : (E == 0) = false := by simpa using hE
  have hE2 : (E != 0) = true := by simpa using hE
  obtain ⟨mm, hmm⟩ : ∃ mm, m.length = mm := ⟨_, rfl⟩
  rw [hmm] at HQ
  have HT := Lib.hid (fun (W : World) (hb : Below w.heap.size w W) => text_no (st := st) (hs.below hb) (by omega) bd hr)
  have hr1 : (RM.rt l == 0) = false := by simpa using hr
  have hr2 : (RM.rt l != 0) = true := by simpa using hr
  generalize RM.rt l = R at *
  obtain ⟨sa, sc, rfl⟩ := sv_form hs
  obtain ⟨n, hn⟩ : ∃ n, l.length = n := ⟨_, rfl⟩
  rw [hn] at H9 HG HT ⊢
  rw [hf] at H9
  obtain ⟨W0, hW0⟩ : ∃ W0, w.alloc (.cells #[.int .u32 st, .slice sa n sc] 25) = W0 := ⟨_, rfl⟩
  have HB0 := Lib.hid (show Below w.heap.size w W0 from hW0 ▸ (Below.refl _ w).alloc (Nat.le_refl _) _)
  have HI0 := Lib.hid (show W0.heap[w.heap.size]? = some (.cells #[.int .u32 st, .slice sa n sc] 25 (0, 0)) from hW0 ▸ heap_alloc_new w _)
  clear hs ha ht hf hn hr hp f1 f2 bd hmm _hst hE
  go_enter Tryd.func6, Tryd.ntmps6
  go_upto_region 1 with fail
  have c0 := cell_of (o := 0) HI0.out rfl
  have c1 := cell_of (o := 1) HI0.out rfl
  clear hW0
  go_upto_region 3 with (go_at_call 9; refine (H9.out _ HB0.out).mono ?_; rintro e w1 ⟨rfl, hb⟩; have HB1 := Lib.hid (HB0.out.trans (hb.mono HB0.out.size)); have HI1 := Lib.hid ((hb.block _ (lt_of_heap HI0.out)).trans HI0.out); clear hb)
  clear c0 c1
  have d0 := cell_of (o := 0) HI1.out rfl
  have d1 := cell_of (o := 1) HI1.out rfl
  go_upto_region 7 with (go_at_call 14; refine (HG.out _ HB1.out).mono ?_; rintro e w2 ⟨rfl, hb⟩; have HB2 := Lib.hid (HB1.out.trans (hb.mono HB1.out.size)); have HI2 := Lib.hid ((hb.block _ (lt_of_heap HI1.out)).trans HI1.out); clear hb)
  clear d0 d1
  have e0 := cell_of (o := 0) HI2.out rfl
  have e1 := cell_of (o := 1) HI2.out rfl
  go_upto_region 9 with (go_at_call 16; refine (HT.out _ HB2.out).mono ?_; rintro e w3 ⟨rfl, hb⟩; have HB6 := Lib.hid (HB2.out.trans (hb.mono HB2.out.size)); clear hb)
  clear e0 e1
  go_upto_region 10 with (go_at_call 20; refine (HQ.out _ HB6.out).mono ?_; rintro e w7 ⟨xa', xc', rfl, hx, hb⟩; have HB7 := Lib.hid (HB6.out.trans (hb.mono HB6.out.size)); clear hb hx)
  obtain ⟨W8, hW8⟩ : ∃ W8, w7.alloc (.cells #[.int .u32 t, .slice xa' mm xc'] 25) = W8 := ⟨_, rfl⟩
  have HB8 := Lib.hid (show Below w.heap.size w W8 from hW8 ▸ HB7.out.alloc HB7.out.size _)
  rw [hW8]
  clear hW8
  go_wp2_with (go_at_call 10; refine (HAW.out _ HB8.out).mono ?_; rintro e w11 ⟨rfl, hb⟩; have HB11 := Lib.hid (HB8.out.trans (hb.mono HB8.out.size)); clear hb)
  go_ret
  exact ⟨rfl, HB11.out⟩
theorem back_law (st : Nat) (sv : Value) (l : List (Nat × List UInt8)) (s : ByteArray) (w : World) (hst : st < 4294967296) (hs : SgR w sv l) (ha : ∀ p ∈ l, p.1 < 4294967296) (_ : s.size ≤ maxLen) (ht : Tw w) : Calls Tryd.prog 6 #[.agg #[.int .u32 st, sv], .string s] w fun e w' => e = .returned (.bool true) ∧ Below w.heap.size w w' := by
  by_cases hf : ltB l = true
  · by_cases h5 : (s.size : Int) ≤ 5000
    · obtain ⟨m, t, q, E, hp⟩ : ∃ m t q E, RM.PA s.data.toList = (m, t, q, E) := ⟨_, _, _, _, rfl⟩
      by_cases hr : RM.rt l = 0
      · by_cases hE : E = 0
        · subst hE; exact back_yy s hst hs ha ht hf h5 hr hp
        · exact back_yn s hst hs ha ht hf h5 hr hp hE
      · by_cases hE : E = 0
        · subst hE; exact back_ny s hst hs ha ht hf h5 hr hp
        · exact back_nn s hst hs ha ht hf h5 hr hp hE
    · exact back_light s hs ht (.inr (by omega))
  · exact back_light s hs ht (.inl (by simpa using hf))
end Go.Proofs.YtcilhippjiichaaDoor
