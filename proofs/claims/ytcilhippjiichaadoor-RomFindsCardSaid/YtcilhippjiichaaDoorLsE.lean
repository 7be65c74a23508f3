/-
  The law Finds returns true at every image, place and byte, and leaves all that was in memory as it was, where the tables are as their texts lay them.
-/
import Derived.Test.YtcilhippjiichaaDoorLsD
namespace Go.Proofs.YtcilhippjiichaaDoor
open Go.RowKit Go.Maps S02
/-- The law's own look at a byte: is it a digit? -/
def dgB (c : Nat) : Bool := (decide (48 ≤ c) && decide (c ≤ 57)) || (decide (97 ≤ c) && decide (c ≤ 102))
theorem digit_any (c : Nat) (w : World) : Calls Tryd.prog 23 #[.int .u8 c] w fun e w' => e = .returned (.bool (dgB c)) ∧ w' = w := by
  by_cases h1 : c < 48
  · have e : dgB c = false := by unfold dgB; rw [decide_eq_false (by omega : ¬ 48 ≤ c), decide_eq_false (by omega : ¬ 97 ≤ c)]; rfl
    have h2 : decide (48 ≤ (c : Int)) = false := by simpa using by omega
    have h3 : decide (97 ≤ (c : Int)) = false := by simpa using by omega
    clear h1
    go_enter Tryd.func23, Tryd.ntmps23
    go_wp2
    go_ret
    exact ⟨S02.ret_bool e.symm, rfl⟩
  · by_cases h2 : c ≤ 57
    · have e : dgB c = true := by unfold dgB; rw [decide_eq_true (by omega : 48 ≤ c), decide_eq_true h2]; rfl
      have h3 : decide (48 ≤ (c : Int)) = true := by simpa using by omega
      have h4 : decide ((c : Int) ≤ 57) = true := by simpa using by omega
      clear h1 h2
      go_enter Tryd.func23, Tryd.ntmps23
      go_wp2
      go_ret
      exact ⟨S02.ret_bool e.symm, rfl⟩
    · by_cases h3 : c < 97
      · have e : dgB c = false := by unfold dgB; rw [decide_eq_false h2, decide_eq_false (by omega : ¬ 97 ≤ c), Bool.and_false]; rfl
        have h4 : decide (48 ≤ (c : Int)) = true := by simpa using by omega
        have h5 : decide ((c : Int) ≤ 57) = false := by simpa using by omega
        have h6 : decide (97 ≤ (c : Int)) = false := by simpa using by omega
        clear h1 h2 h3
        go_enter Tryd.func23, Tryd.ntmps23
        go_wp2
        go_ret
        exact ⟨S02.ret_bool e.symm, rfl⟩
      · by_cases h7 : c ≤ 102
        · have e : dgB c = true := by unfold dgB; rw [decide_eq_true (by omega : 97 ≤ c), decide_eq_true h7, Bool.true_and, Bool.or_true]
          have h4 : decide (48 ≤ (c : Int)) = true := by simpa using by omega
          have h5 : decide ((c : Int) ≤ 57) = false := by simpa using by omega
          have h6 : decide (97 ≤ (c : Int)) = true := by simpa using by omega
          have h8 : decide ((c : Int) ≤ 102) = true := by simpa using by omega
          clear h1 h2 h3 h7
          go_enter Tryd.func23, Tryd.ntmps23
          go_wp2
          go_ret
          exact ⟨S02.ret_bool e.symm, rfl⟩
        · have e : dgB c = false := by unfold dgB; rw [decide_eq_false h2, decide_eq_false h7, Bool.and_false, Bool.and_false]; rfl
          have h4 : decide (48 ≤ (c : Int)) = true := by simpa using by omega
          have h5 : decide ((c : Int) ≤ 57) = false := by simpa using by omega
          have h6 : decide (97 ≤ (c : Int)) = true := by simpa using by omega
          have h8 : decide ((c : Int) ≤ 102) = false := by simpa using by omega
          clear h1 h2 h3 h7
          go_enter Tryd.func23, Tryd.ntmps23
          go_wp2
          go_ret
          exact ⟨S02.ret_bool e.symm, rfl⟩
set_option maxHeartbeats 4000000 in
theorem find_heavy {w : World} {st : Nat} {sv : Value} {l : List (Nat × List UInt8)} (i : Int) (c : UInt8) (hs : SgR w sv l) (ht : Tw w) (hf : ltB l = false) :
    Calls Tryd.prog 7 #[.agg #[.int .u32 st, sv], .int .i64 i, .int .u8 c.toNat] w fun e w' => e = .returned (.bool true) ∧ Below w.heap.size w w' := by
  have H9 := Lib.hid (fun (W : World) (hb : Below w.heap.size w W) => light_any (st := st) (hs.below hb))
  have HAW := Lib.hid (fun (W : World) (hb : Below w.heap.size w W) => ht.wake hb)
  obtain ⟨sa, sc, rfl⟩ := sv_form hs
  obtain ⟨n, hn⟩ : ∃ n, l.length = n := ⟨_, rfl⟩
  rw [hn] at H9 ⊢
  rw [hf] at H9
  obtain ⟨W0, hW0⟩ : ∃ W0, w.alloc (.cells #[.int .u32 st, .slice sa n sc] 25) = W0 := ⟨_, rfl⟩
  have HB0 := Lib.hid (show Below w.heap.size w W0 from hW0 ▸ (Below.refl _ w).alloc (Nat.le_refl _) _)
  have HI0 := Lib.hid (show W0.heap[w.heap.size]? = some (.cells #[.int .u32 st, .slice sa n sc] 25 (0, 0)) from hW0 ▸ heap_alloc_new w _)
  clear hs ht hf hn
  generalize c.toNat = cc at *
  go_enter Tryd.func7, Tryd.ntmps7
  go_upto_region 1 with fail
  have c0 := cell_of (o := 0) HI0.out rfl
  have c1 := cell_of (o := 1) HI0.out rfl
  clear hW0
  go_wp2_with (first
    | (go_at_call 9; refine (H9.out _ HB0.out).mono ?_; rintro e w1 ⟨rfl, hb1⟩; have HB1 := Lib.hid (HB0.out.trans (hb1.mono HB0.out.size)); have HI1 := Lib.hid ((hb1.block _ (lt_of_heap HI0.out)).trans HI0.out); clear hb1)
    | (go_at_call 10; refine (HAW.out _ HB1.out).mono ?_; rintro e w2 ⟨rfl, hb2⟩; have HB2 := Lib.hid (HB1.out.trans (hb2.mono HB1.out.size)); clear hb2))
  go_ret
  exact ⟨rfl, HB2.out⟩
set_option maxHeartbeats 4000000 in
theorem find_other {w : World} {st : Nat} {sv : Value} {l : List (Nat × List UInt8)} (i : Int) (c : UInt8) (hs : SgR w sv l) (ht : Tw w) (hf : ltB l = true) (hd : dgB c.toNat = false) :
    Calls Tryd.prog 7 #[.agg #[.int .u32 st, sv], .int .i64 i, .int .u8 c.toNat] w fun e w' => e = .returned (.bool true) ∧ Below w.heap.size w w' := by
  have H9 := Lib.hid (fun (W : World) (hb : Below w.heap.size w W) => light_any (st := st) (hs.below hb))
  have HAW := Lib.hid (fun (W : World) (hb : Below w.heap.size w W) => ht.wake hb)
  have HD := Lib.hid (fun W => digit_any c.toNat W)
  rw [hd] at HD
  obtain ⟨sa, sc, rfl⟩ := sv_form hs
  obtain ⟨n, hn⟩ : ∃ n, l.length = n := ⟨_, rfl⟩
  rw [hn] at H9 ⊢
  rw [hf] at H9
  obtain ⟨W0, hW0⟩ : ∃ W0, w.alloc (.cells #[.int .u32 st, .slice sa n sc] 25) = W0 := ⟨_, rfl⟩
  have HB0 := Lib.hid (show Below w.heap.size w W0 from hW0 ▸ (Below.refl _ w).alloc (Nat.le_refl _) _)
  have HI0 := Lib.hid (show W0.heap[w.heap.size]? = some (.cells #[.int .u32 st, .slice sa n sc] 25 (0, 0)) from hW0 ▸ heap_alloc_new w _)
  clear hs ht hf hn hd
  generalize c.toNat = cc at *
  go_enter Tryd.func7, Tryd.ntmps7
  go_upto_region 1 with fail
  have c0 := cell_of (o := 0) HI0.out rfl
  have c1 := cell_of (o := 1) HI0.out rfl
  clear hW0
  go_wp2_with (first
    | (go_at_call 9; refine (H9.out _ HB0.out).mono ?_; rintro e w1 ⟨rfl, hb1⟩; have HB1 := Lib.hid (HB0.out.trans (hb1.mono HB0.out.size)); have HI1 := Lib.hid ((hb1.block _ (lt_of_heap HI0.out)).trans HI0.out); clear hb1)
    | (go_at_call 23; refine (HD.out _).mono ?_; rintro e w3 ⟨rfl, rfl⟩)
    | (go_at_call 10; refine (HAW.out _ HB1.out).mono ?_; rintro e w2 ⟨rfl, hb2⟩; have HB2 := Lib.hid (HB1.out.trans (hb2.mono HB1.out.size)); clear hb2))
  go_ret
  exact ⟨rfl, HB2.out⟩
set_option maxHeartbeats 4000000 in
theorem find_low {w : World} {st : Nat} {sv : Value} {l : List (Nat × List UInt8)} (i : Int) (c : UInt8) (T : ByteArray) (hst : st < 4294967296) (hs : SgR w sv l) (ha : ∀ p ∈ l, p.1 < 4294967296) (ht : Tw w) (hf : ltB l = true) (hd : dgB c.toNat = true) (hT : (⟨(RM.TX st l).toArray⟩ : ByteArray) = T) (hi : i < 0) :
    Calls Tryd.prog 7 #[.agg #[.int .u32 st, sv], .int .i64 i, .int .u8 c.toNat] w fun e w' => e = .returned (.bool true) ∧ Below w.heap.size w w' := by
  have H9 := Lib.hid (fun (W : World) (hb : Below w.heap.size w W) => light_any (st := st) (hs.below hb))
  have HAW := Lib.hid (fun (W : World) (hb : Below w.heap.size w W) => ht.wake hb)
  have HD := Lib.hid (fun W => digit_any c.toNat W)
  rw [hd] at HD
  obtain ⟨f1, f2, -⟩ := ltB_open hf
  have HT := Lib.hid (fun (W : World) (hb : Below w.heap.size w W) => text_any (st := st) (hs.below hb) hst (by omega) (fun p hp => ⟨ha p hp, by have := f2 p hp; omega⟩) (ht.on hb).1)
  rw [hT] at HT
  obtain ⟨sa, sc, rfl⟩ := sv_form hs
  obtain ⟨n, hn⟩ : ∃ n, l.length = n := ⟨_, rfl⟩
  rw [hn] at H9 HT ⊢
  rw [hf] at H9
  obtain ⟨W0, hW0⟩ : ∃ W0, w.alloc (.cells #[.int .u32 st, .slice sa n sc] 25) = W0 := ⟨_, rfl⟩
  have HB0 := Lib.hid (show Below w.heap.size w W0 from hW0 ▸ (Below.refl _ w).alloc (Nat.le_refl _) _)
  have HI0 := Lib.hid (show W0.heap[w.heap.size]? = some (.cells #[.int .u32 st, .slice sa n sc] 25 (0, 0)) from hW0 ▸ heap_alloc_new w _)
  clear hs ha ht hf hn f1 f2 hT hst hd
  generalize c.toNat = cc at *
  go_enter Tryd.func7, Tryd.ntmps7
  go_upto_region 1 with fail
  have c0 := cell_of (o := 0) HI0.out rfl
  have c1 := cell_of (o := 1) HI0.out rfl
  clear hW0
  go_upto_region 3 with (first
    | (go_at_call 9; refine (H9.out _ HB0.out).mono ?_; rintro e w1 ⟨rfl, hb1⟩; have HB1 := Lib.hid (HB0.out.trans (hb1.mono HB0.out.size)); have HI1 := Lib.hid ((hb1.block _ (lt_of_heap HI0.out)).trans HI0.out); clear hb1)
    | (go_at_call 23; refine (HD.out _).mono ?_; rintro e w3 ⟨rfl, rfl⟩))
  clear c0 c1
  have d0 := cell_of (o := 0) HI1.out rfl
  have d1 := cell_of (o := 1) HI1.out rfl
  go_upto_region 4 with (go_at_call 16; refine (HT.out _ HB1.out).mono ?_; rintro e w4 ⟨rfl, hb4⟩; have HB4 := Lib.hid (HB1.out.trans (hb4.mono HB1.out.size)); clear hb4)
  clear d0 d1
  go_wp2_with (first
    | (go_at_call 10; refine (HAW.out _ HB4.out).mono ?_; rintro e w6 ⟨rfl, hb2⟩; have HB6 := Lib.hid (HB4.out.trans (hb2.mono HB4.out.size)); clear hb2))
  go_ret
  exact ⟨rfl, HB6.out⟩
set_option maxHeartbeats 4000000 in
theorem find_high {w : World} {st : Nat} {sv : Value} {l : List (Nat × List UInt8)} (i : Int) (c : UInt8) (T : ByteArray) (hst : st < 4294967296) (hs : SgR w sv l) (ha : ∀ p ∈ l, p.1 < 4294967296) (ht : Tw w) (hf : ltB l = true) (hd : dgB c.toNat = true) (hT : (⟨(RM.TX st l).toArray⟩ : ByteArray) = T) (hi0 : 0 ≤ i) (hi : (T.size : Int) ≤ i) :
    Calls Tryd.prog 7 #[.agg #[.int .u32 st, sv], .int .i64 i, .int .u8 c.toNat] w fun e w' => e = .returned (.bool true) ∧ Below w.heap.size w w' := by
  have H9 := Lib.hid (fun (W : World) (hb : Below w.heap.size w W) => light_any (st := st) (hs.below hb))
  have HAW := Lib.hid (fun (W : World) (hb : Below w.heap.size w W) => ht.wake hb)
  have HD := Lib.hid (fun W => digit_any c.toNat W)
  rw [hd] at HD
  obtain ⟨f1, f2, -⟩ := ltB_open hf
  have HT := Lib.hid (fun (W : World) (hb : Below w.heap.size w W) => text_any (st := st) (hs.below hb) hst (by omega) (fun p hp => ⟨ha p hp, by have := f2 p hp; omega⟩) (ht.on hb).1)
  rw [hT] at HT
  have hi1 : decide (i < 0) = false := by simpa using hi0
  obtain ⟨sa, sc, rfl⟩ := sv_form hs
  obtain ⟨n, hn⟩ : ∃ n, l.length = n := ⟨_, rfl⟩
  rw [hn] at H9 HT ⊢
  rw [hf] at H9
  obtain ⟨W0, hW0⟩ : ∃ W0, w.alloc (.cells #[.int .u32 st, .slice sa n sc] 25) = W0 := ⟨_, rfl⟩
  have HB0 := Lib.hid (show Below w.heap.size w W0 from hW0 ▸ (Below.refl _ w).alloc (Nat.le_refl _) _)
  have HI0 := Lib.hid (show W0.heap[w.heap.size]? = some (.cells #[.int .u32 st, .slice sa n sc] 25 (0, 0)) from hW0 ▸ heap_alloc_new w _)
  clear hs ha ht hf hn f1 f2 hT hst hd
  generalize c.toNat = cc at *
  go_enter Tryd.func7, Tryd.ntmps7
  go_upto_region 1 with fail
  have c0 := cell_of (o := 0) HI0.out rfl
  have c1 := cell_of (o := 1) HI0.out rfl
  clear hW0
  go_upto_region 3 with (first
    | (go_at_call 9; refine (H9.out _ HB0.out).mono ?_; rintro e w1 ⟨rfl, hb1⟩; have HB1 := Lib.hid (HB0.out.trans (hb1.mono HB0.out.size)); have HI1 := Lib.hid ((hb1.block _ (lt_of_heap HI0.out)).trans HI0.out); clear hb1)
    | (go_at_call 23; refine (HD.out _).mono ?_; rintro e w3 ⟨rfl, rfl⟩))
  clear c0 c1
  have d0 := cell_of (o := 0) HI1.out rfl
  have d1 := cell_of (o := 1) HI1.out rfl
  go_upto_region 4 with (go_at_call 16; refine (HT.out _ HB1.out).mono ?_; rintro e w4 ⟨rfl, hb4⟩; have HB4 := Lib.hid (HB1.out.trans (hb4.mono HB1.out.size)); clear hb4)
  clear d0 d1
  go_wp2_with (first
    | (go_at_call 10; refine (HAW.out _ HB4.out).mono ?_; rintro e w6 ⟨rfl, hb2⟩; have HB6 := Lib.hid (HB4.out.trans (hb2.mono HB4.out.size)); clear hb2))
  go_ret
  exact ⟨rfl, HB6.out⟩
set_option maxHeartbeats 4000000 in
theorem find_none {w : World} {st : Nat} {sv : Value} {l : List (Nat × List UInt8)} (i : Int) (c : UInt8) (T : ByteArray) (hst : st < 4294967296) (hs : SgR w sv l) (ha : ∀ p ∈ l, p.1 < 4294967296) (ht : Tw w) (hf : ltB l = true) (hd : dgB c.toNat = true) (hT : (⟨(RM.TX st l).toArray⟩ : ByteArray) = T) (k : Nat) (hk : i = k) (hkl : k < T.size) (hb : dgB (T[k]'hkl).toNat = false) :
    Calls Tryd.prog 7 #[.agg #[.int .u32 st, sv], .int .i64 i, .int .u8 c.toNat] w fun e w' => e = .returned (.bool true) ∧ Below w.heap.size w w' := by
  have H9 := Lib.hid (fun (W : World) (hb : Below w.heap.size w W) => light_any (st := st) (hs.below hb))
  have HAW := Lib.hid (fun (W : World) (hb : Below w.heap.size w W) => ht.wake hb)
  have HD := Lib.hid (fun W => digit_any c.toNat W)
  rw [hd] at HD
  obtain ⟨f1, f2, -⟩ := ltB_open hf
  have HT := Lib.hid (fun (W : World) (hb : Below w.heap.size w W) => text_any (st := st) (hs.below hb) hst (by omega) (fun p hp => ⟨ha p hp, by have := f2 p hp; omega⟩) (ht.on hb).1)
  rw [hT] at HT
  subst hk
  have HE := Lib.hid (fun W => digit_any (T[k]'hkl).toNat W)
  rw [hb] at HE
  obtain ⟨sa, sc, rfl⟩ := sv_form hs
  obtain ⟨n, hn⟩ : ∃ n, l.length = n := ⟨_, rfl⟩
  rw [hn] at H9 HT ⊢
  rw [hf] at H9
  obtain ⟨W0, hW0⟩ : ∃ W0, w.alloc (.cells #[.int .u32 st, .slice sa n sc] 25) = W0 := ⟨_, rfl⟩
  have HB0 := Lib.hid (show Below w.heap.size w W0 from hW0 ▸ (Below.refl _ w).alloc (Nat.le_refl _) _)
  have HI0 := Lib.hid (show W0.heap[w.heap.size]? = some (.cells #[.int .u32 st, .slice sa n sc] 25 (0, 0)) from hW0 ▸ heap_alloc_new w _)
  clear hs ha ht hf hn f1 f2 hT hst hd hb
  generalize c.toNat = cc at *
  go_enter Tryd.func7, Tryd.ntmps7
  go_upto_region 1 with fail
  have c0 := cell_of (o := 0) HI0.out rfl
  have c1 := cell_of (o := 1) HI0.out rfl
  clear hW0
  go_upto_region 3 with (first
    | (go_at_call 9; refine (H9.out _ HB0.out).mono ?_; rintro e w1 ⟨rfl, hb1⟩; have HB1 := Lib.hid (HB0.out.trans (hb1.mono HB0.out.size)); have HI1 := Lib.hid ((hb1.block _ (lt_of_heap HI0.out)).trans HI0.out); clear hb1)
    | (go_at_call 23; refine (HD.out _).mono ?_; rintro e w3 ⟨rfl, rfl⟩))
  clear c0 c1
  have d0 := cell_of (o := 0) HI1.out rfl
  have d1 := cell_of (o := 1) HI1.out rfl
  go_upto_region 4 with (go_at_call 16; refine (HT.out _ HB1.out).mono ?_; rintro e w4 ⟨rfl, hb4⟩; have HB4 := Lib.hid (HB1.out.trans (hb4.mono HB1.out.size)); clear hb4)
  clear d0 d1
  go_wp2_with (first
    | (go_at_call 23; refine (HE.out _).mono ?_; rintro e w5 ⟨rfl, rfl⟩)
    | (go_at_call 10; refine (HAW.out _ HB4.out).mono ?_; rintro e w6 ⟨rfl, hb2⟩; have HB6 := Lib.hid (HB4.out.trans (hb2.mono HB4.out.size)); clear hb2))
  go_ret
  exact ⟨rfl, HB6.out⟩
set_option maxHeartbeats 4000000 in
theorem find_same {w : World} {st : Nat} {sv : Value} {l : List (Nat × List UInt8)} (i : Int) (c : UInt8) (T : ByteArray) (hst : st < 4294967296) (hs : SgR w sv l) (ha : ∀ p ∈ l, p.1 < 4294967296) (ht : Tw w) (hf : ltB l = true) (hd : dgB c.toNat = true) (hT : (⟨(RM.TX st l).toArray⟩ : ByteArray) = T) (k : Nat) (hk : i = k) (hkl : k < T.size) (hb : T[k]'hkl = c) :
    Calls Tryd.prog 7 #[.agg #[.int .u32 st, sv], .int .i64 i, .int .u8 c.toNat] w fun e w' => e = .returned (.bool true) ∧ Below w.heap.size w w' := by
  have H9 := Lib.hid (fun (W : World) (hb : Below w.heap.size w W) => light_any (st := st) (hs.below hb))
  have HAW := Lib.hid (fun (W : World) (hb : Below w.heap.size w W) => ht.wake hb)
  have HD := Lib.hid (fun W => digit_any c.toNat W)
  rw [hd] at HD
  obtain ⟨f1, f2, -⟩ := ltB_open hf
  have HT := Lib.hid (fun (W : World) (hb : Below w.heap.size w W) => text_any (st := st) (hs.below hb) hst (by omega) (fun p hp => ⟨ha p hp, by have := f2 p hp; omega⟩) (ht.on hb).1)
  rw [hT] at HT
  subst hk
  obtain ⟨sa, sc, rfl⟩ := sv_form hs
  obtain ⟨n, hn⟩ : ∃ n, l.length = n := ⟨_, rfl⟩
  rw [hn] at H9 HT ⊢
  rw [hf] at H9
  obtain ⟨W0, hW0⟩ : ∃ W0, w.alloc (.cells #[.int .u32 st, .slice sa n sc] 25) = W0 := ⟨_, rfl⟩
  have HB0 := Lib.hid (show Below w.heap.size w W0 from hW0 ▸ (Below.refl _ w).alloc (Nat.le_refl _) _)
  have HI0 := Lib.hid (show W0.heap[w.heap.size]? = some (.cells #[.int .u32 st, .slice sa n sc] 25 (0, 0)) from hW0 ▸ heap_alloc_new w _)
  clear hs ha ht hf hn f1 f2 hT hst hd
  go_enter Tryd.func7, Tryd.ntmps7
  go_upto_region 1 with fail
  have c0 := cell_of (o := 0) HI0.out rfl
  have c1 := cell_of (o := 1) HI0.out rfl
  clear hW0
  go_upto_region 3 with (first
    | (go_at_call 9; refine (H9.out _ HB0.out).mono ?_; rintro e w1 ⟨rfl, hb1⟩; have HB1 := Lib.hid (HB0.out.trans (hb1.mono HB0.out.size)); have HI1 := Lib.hid ((hb1.block _ (lt_of_heap HI0.out)).trans HI0.out); clear hb1)
    | (go_at_call 23; refine (HD.out _).mono ?_; rintro e w3 ⟨rfl, rfl⟩))
  clear c0 c1
  have d0 := cell_of (o := 0) HI1.out rfl
  have d1 := cell_of (o := 1) HI1.out rfl
  go_upto_region 4 with (go_at_call 16; refine (HT.out _ HB1.out).mono ?_; rintro e w4 ⟨rfl, hb4⟩; have HB4 := Lib.hid (HB1.out.trans (hb4.mono HB1.out.size)); clear hb4)
  clear d0 d1
  go_wp2_with (first
    | (go_at_call 23; refine (HD.out _).mono ?_; rintro e w5 ⟨rfl, rfl⟩)
    | (go_at_call 10; refine (HAW.out _ HB4.out).mono ?_; rintro e w6 ⟨rfl, hb2⟩; have HB6 := Lib.hid (HB4.out.trans (hb2.mono HB4.out.size)); clear hb2))
  go_ret
  exact ⟨rfl, HB6.out⟩
end Go.Proofs.YtcilhippjiichaaDoor
