/-
  The law Lays returns true at every size and image, and leaves all that was in memory as it was, where the tables are as their texts lay them.
-/
import Derived.Test.YtcilhippjiichaaDoorLsC
import Derived.Test.YtcilhippjiichaaDoorMathH
import Derived.Deep.QuietTactic
import Derived.BigQuiet
namespace Go.Proofs.YtcilhippjiichaaDoor
open Go.RowKit Go.Maps S02
set_option maxHeartbeats 4000000 in
theorem lays_heavy {w : World} {size : Int} {st : Nat} {sv : Value} {l : List (Nat × List UInt8)} (hs : SgR w sv l) (ht : Tw w) (hf : ltB l = false) :
    Calls Tryd.prog 8 #[.int .i64 size, .agg #[.int .u32 st, sv]] w fun e w' => e = .returned (.bool true) ∧ Below w.heap.size w w' := by
  have H9 := Lib.hid (fun (W : World) (hb : Below w.heap.size w W) => light_any (st := st) (hs.below hb))
  have HAW := Lib.hid (fun (W : World) (hb : Below w.heap.size w W) => ht.wake hb)
  obtain ⟨sa, sc, rfl⟩ := sv_form hs
  obtain ⟨n, hn⟩ : ∃ n, l.length = n := ⟨_, rfl⟩
  rw [hn] at H9 ⊢
  rw [hf] at H9
  obtain ⟨W0, hW0⟩ : ∃ W0, w.alloc (.cells #[.int .u32 st, .slice sa n sc] 25) = W0 := ⟨_, rfl⟩
  have HB0 := Lib.hid (show Below w.heap.size w W0 from hW0 ▸ (Below.refl _ w).alloc (Nat.le_refl _) _)
  have HI0 := Lib.hid (show W0.heap[w.heap.size]? = some (.cells #[.int .u32 st, .slice sa n sc] 25 (0, 0)) from hW0 ▸ heap_alloc_new w _)
  clear hs ht hf hn
  go_enter Tryd.func8, Tryd.ntmps8
  go_upto_region 1 with fail
  have c0 := cell_of (o := 0) HI0.out rfl
  have c1 := cell_of (o := 1) HI0.out rfl
  clear hW0
  go_wp2_with (first
    | (go_at_call 9; refine (H9.out _ HB0.out).mono ?_; rintro e w1 ⟨rfl, hb1⟩; have HB1 := Lib.hid (HB0.out.trans (hb1.mono HB0.out.size)); clear hb1)
    | (go_at_call 10; refine (HAW.out _ HB1.out).mono ?_; rintro e w2 ⟨rfl, hb2⟩; have HB2 := Lib.hid (HB1.out.trans (hb2.mono HB1.out.size)); clear hb2))
  go_ret
  exact ⟨rfl, HB2.out⟩
set_option maxHeartbeats 4000000 in
theorem lays_bad {w : World} {size : Int} {st : Nat} {sv : Value} {l : List (Nat × List UInt8)} (hs : SgR w sv l) (ha : ∀ p ∈ l, p.1 < 4294967296) (ht : Tw w) (hf : ltB l = true) (hE : RM.ldE size l ≠ 0) :
    Calls Tryd.prog 8 #[.int .i64 size, .agg #[.int .u32 st, sv]] w fun e w' => e = .returned (.bool true) ∧ Below w.heap.size w w' := by
  have H9 := Lib.hid (fun (W : World) (hb : Below w.heap.size w W) => light_any (st := st) (hs.below hb))
  have HAW := Lib.hid (fun (W : World) (hb : Below w.heap.size w W) => ht.wake hb)
  obtain ⟨f1, f2, -⟩ := ltB_open hf
  have HL := Lib.hid (fun (W : World) (hb : Below w.heap.size w W) => load_any (st := st) (size := size) (hs.below hb) (by omega) (fun p hp => ⟨ha p hp, by have := f2 p hp; omega⟩))
  unfold LdPost at HL
  have HM : ldB size l = [] := by unfold ldB; rw [if_neg hE]
  rw [HM] at HL
  have hE1 : (RM.ldE size l == 0) = false := by simpa using hE
  have hE2 : (RM.ldE size l != 0) = true := by simpa using hE
  generalize RM.ldE size l = E at *
  obtain ⟨sa, sc, rfl⟩ := sv_form hs
  obtain ⟨n, hn⟩ : ∃ n, l.length = n := ⟨_, rfl⟩
  rw [hn] at H9 HL ⊢
  rw [hf] at H9
  obtain ⟨W0, hW0⟩ : ∃ W0, w.alloc (.cells #[.int .u32 st, .slice sa n sc] 25) = W0 := ⟨_, rfl⟩
  have HB0 := Lib.hid (show Below w.heap.size w W0 from hW0 ▸ (Below.refl _ w).alloc (Nat.le_refl _) _)
  have HI0 := Lib.hid (show W0.heap[w.heap.size]? = some (.cells #[.int .u32 st, .slice sa n sc] 25 (0, 0)) from hW0 ▸ heap_alloc_new w _)
  clear hs ha ht hf hn f1 f2 HM hE
  go_enter Tryd.func8, Tryd.ntmps8
  go_upto_region 1 with fail
  have c0 := cell_of (o := 0) HI0.out rfl
  have c1 := cell_of (o := 1) HI0.out rfl
  clear hW0
  go_upto_region 3 with (go_at_call 9; refine (H9.out _ HB0.out).mono ?_; rintro e w1 ⟨rfl, hb1⟩; have HB1 := Lib.hid (HB0.out.trans (hb1.mono HB0.out.size)); have HI1 := Lib.hid ((hb1.block _ (lt_of_heap HI0.out)).trans HI0.out); clear hb1)
  clear c0 c1
  have d0 := cell_of (o := 0) HI1.out rfl
  have d1 := cell_of (o := 1) HI1.out rfl
  go_wp2_with (first
    | (go_at_call 11; refine (HL.out _ HB1.out).mono ?_; rintro e w2 ⟨v1, rfl, hv1, hb2⟩; obtain ⟨va, vc, rfl⟩ := by_form hv1; have HB2 := Lib.hid (HB1.out.trans (hb2.mono HB1.out.size)); clear hb2 hv1)
    | (go_at_call 10; refine (HAW.out _ HB2.out).mono ?_; rintro e w3 ⟨rfl, hb3⟩; have HB3 := Lib.hid (HB2.out.trans (hb3.mono HB2.out.size)); clear hb3))
  go_ret
  exact ⟨rfl, HB3.out⟩
set_option maxHeartbeats 8000000 in
set_option maxRecDepth 100000 in
theorem lays_good {w : World} {z : Nat} {st : Nat} {sv : Value} {l : List (Nat × List UInt8)} (hs : SgR w sv l) (ha : ∀ p ∈ l, p.1 < 4294967296) (ht : Tw w) (hf : ltB l = true) (hE : RM.ldE z l = 0) (hz : 64 ≤ z) :
    Calls Tryd.prog 8 #[.int .i64 z, .agg #[.int .u32 st, sv]] w fun e w' => e = .returned (.bool true) ∧ Below w.heap.size w w' := by
  have H9 := Lib.hid (fun (W : World) (hb : Below w.heap.size w W) => light_any (st := st) (hs.below hb))
  have HAW := Lib.hid (fun (W : World) (hb : Below w.heap.size w W) => ht.wake hb)
  obtain ⟨f1, f2, -⟩ := ltB_open hf
  obtain ⟨e1, e2, e3⟩ := RM.ldE_open hE
  have HL := Lib.hid (fun (W : World) (hb : Below w.heap.size w W) => load_any (st := st) (size := z) (hs.below hb) (by omega) (fun p hp => ⟨ha p hp, by have := f2 p hp; omega⟩))
  unfold LdPost at HL
  have HM : ldB z l = (List.range z).map (RM.mby l) := by unfold ldB; rw [if_pos hE]; rfl
  rw [HM, hE] at HL
  have HTT := Lib.hid (RM.tot_mem hE)
  have HME := Lib.hid (fun j p k (hj : l[j]? = some p) hk => RM.mem_lay e1 (j := j) (p := p) (k := k) hj hk)
  have HEN := Lib.hid e3
  have HF2 := Lib.hid f2
  obtain ⟨ms, hms⟩ : ∃ ms, (List.range z).map (RM.mby l) = ms := ⟨_, rfl⟩
  have HMG := Lib.hid (show ∀ j, j < z → ms.getD j 0 = RM.mby l j from fun j hj => by
    rw [← hms, List.getD_eq_getElem?_getD, List.getElem?_map, List.getElem?_range hj]; rfl)
  have hml : ms.length = z := by rw [← hms]; simp
  have HML := Lib.hid hml
  rw [hms] at HL HTT
  have hz1 : (z : Int) ≤ 16384 := by omega
  have HSG := Lib.hid hs
  obtain ⟨sa, sc, rfl⟩ := sv_form hs
  obtain ⟨n, hn⟩ : ∃ n, l.length = n := ⟨_, rfl⟩
  have HN := Lib.hid hn
  have hn70 : n ≤ 70 := by omega
  rw [hn] at H9 HL HSG ⊢
  rw [hf] at H9
  obtain ⟨W0, hW0⟩ : ∃ W0, w.alloc (.cells #[.int .u32 st, .slice sa n sc] 25) = W0 := ⟨_, rfl⟩
  have HB0 := Lib.hid (show Below w.heap.size w W0 from hW0 ▸ (Below.refl _ w).alloc (Nat.le_refl _) _)
  have HI0 := Lib.hid (show W0.heap[w.heap.size]? = some (.cells #[.int .u32 st, .slice sa n sc] 25 (0, 0)) from hW0 ▸ heap_alloc_new w _)
  clear hs ha ht hf hn f1 f2 HM hE e1 e2 e3 hms hml
  go_enter Tryd.func8, Tryd.ntmps8
  go_upto_region 1 with fail
  have c0 := cell_of (o := 0) HI0.out rfl
  have c1 := cell_of (o := 1) HI0.out rfl
  clear hW0
  go_upto_region 3 with (go_at_call 9; refine (H9.out _ HB0.out).mono ?_; rintro e w1 ⟨rfl, hb1⟩; have HB1 := Lib.hid (HB0.out.trans (hb1.mono HB0.out.size)); have HI1 := Lib.hid ((hb1.block _ (lt_of_heap HI0.out)).trans HI0.out); clear hb1)
  clear c0 c1
  have d0 := cell_of (o := 0) HI1.out rfl
  have d1 := cell_of (o := 1) HI1.out rfl
  go_upto_region 6 with (go_at_call 11; refine (HL.out _ HB1.out).mono ?_; rintro e w2 ⟨v1, rfl, hv1, hb2⟩; obtain ⟨va, vc, rfl⟩ := by_form hv1; have HV := Lib.hid hv1; have HB2 := Lib.hid (HB1.out.trans (hb2.mono HB1.out.size)); have HI2 := Lib.hid ((hb2.block _ (lt_of_heap HI1.out)).trans HI1.out); clear hb2 hv1)
  clear d0 d1
  obtain ⟨g, o, rfl, -, hvc, -, hcell⟩ := by_at HV.out (j := 0) (by rw [HML.out]; omega)
  rw [HML.out] at hcell ⊢
  have HCE := Lib.hid hcell
  have HSW := Lib.hid (fun (W : World) (hd : S02.Dr w2 W) => HB2.out.trans (hd.below.mono HB2.out.size))
  clear hcell HV hvc
  go_wp2
  go_loopw [7, 9] (fun s i wr => ∃ k q : Nat, k ≤ n ∧ i = .int .i64 k ∧ s = .int .i64 q ∧ q ≤ 153000 * k ∧ Hid (q = RM.ts (l.take k)) ∧ Hid (S02.Dr w2 wr)) (fun _ i _ => n - (intOf i).toNat)
  case atStart => exact ⟨0, 0, by omega, rfl, rfl, by omega, Lib.hid rfl, Lib.hid (S02.Dr.refl _)⟩
  case round =>
    obtain ⟨k, q, hk, rfl, rfl, hq, hQ, hdr⟩ := hrel
    have c1 := (hdr.out.cell _).trans (cell_of (o := 1) HI2.out rfl)
    by_cases hlt : k < n
    · have hkl : k < l.length := by rw [HN.out]; exact hlt
      obtain ⟨⟨a, bs⟩, hp⟩ : ∃ p, l[k]? = some p := ⟨_, List.getElem?_eq_getElem hkl⟩
      have hmem := List.mem_of_getElem? hp
      have h600 := HF2.out (a, bs) hmem
      have hend := HEN.out (a, bs) hmem
      simp only [] at h600 hend
      obtain ⟨g1, o1, rfl, z1, da, dc, z2, z3⟩ := sg_at HSG.out hp
      obtain ⟨m, hm⟩ : ∃ m, bs.length = m := ⟨_, rfl⟩
      have HMM := Lib.hid hm
      have HTS := Lib.hid (show RM.ts (l.take (k + 1)) = RM.ts (l.take k) + RM.tot bs by rw [take_more hp, RM.ts_snoc])
      have HMB := Lib.hid (fun j hj => HME.out k (a, bs) j hp hj)
      rw [hm] at z2 z3 h600 hend
      have HZ1 := Lib.hid z1
      have HZ2 := Lib.hid z2
      have HZ3 := Lib.hid z3
      have y2 := cell_below (HSW.out _ hdr.out) z2
      clear z1 z2 z3 hm hp hkl hmem
      go_upto_region 11 with fail
      clear c1 y2
      go_loopw [7, 10] (fun s i wx => ∃ j r : Nat, j ≤ m ∧ i = .int .i64 j ∧ s = .int .i64 r ∧ r ≤ 153000 * k + 255 * j ∧ Hid (r = q + RM.tot (bs.take j)) ∧ Hid (S02.Dr w2 wx)) (fun _ i _ => m - (intOf i).toNat)
      case atStart => exact ⟨0, q, by omega, rfl, rfl, by omega, Lib.hid (by simp [RM.tot]), hdr⟩
      case round =>
        clear hdr
        obtain ⟨j, r, hj, rfl, rfl, hr, hR, hdr⟩ := hrel
        have c1 := (hdr.out.cell _).trans (cell_of (o := 1) HI2.out rfl)
        have y1 := cell_below (HSW.out _ hdr.out) HZ1.out
        have y2 := cell_below (HSW.out _ hdr.out) HZ2.out
        by_cases hjm : j < m
        · have hjb : j < bs.length := by rw [HMM.out]; exact hjm
          obtain ⟨g2, o2, rfl, -, -, -, hce⟩ := by_at HZ3.out (j := j) hjb
          have x1 := cell_below (HSW.out _ hdr.out) (hce j hjb)
          have x2 := (hdr.out.cell _).trans (HCE.out (a + j) (by omega))
          rw [HMG.out _ (by omega), HMB.out j hjb] at x2
          have HTA := Lib.hid (RM.tot_take hjb)
          have hb8 := (bs.getD j 0).toNat_lt
          generalize (bs.getD j 0).toNat = b at *
          have hge : decide ((z : Int) ≤ (a : Int) + j) = false := by simpa using by omega
          have hin : (a : Int) + j < z := by omega
          have htn : ((a : Int) + j).toNat = a + j := by omega
          clear hjb hce
          go_wp2
          go_quiet (fail)
          go_wp2
          go_roundw
          case rel => exact ⟨j + 1, r + b, by omega, by go_num, by go_num, by omega, Lib.hid (by rw [hR.out, HTA.out]; omega), Lib.hid (hdr.out.more _)⟩
          case measure => simp [intOf]; omega
        · have hjm' : decide (j < m) = false := by simpa using hjm
          have HR2 := Lib.hid (show r = RM.ts (l.take (k + 1)) by rw [hR.out, HTS.out, hQ.out, show j = bs.length by rw [HMM.out]; omega, List.take_length])
          have HRB := Lib.hid (show r ≤ 153000 * (k + 1) by omega)
          clear hjm hr hq hj hend h600 hz
          go_wp2
          go_roundw
          case rel => exact ⟨k + 1, r, by omega, by go_num, rfl, HRB.out, HR2, hdr⟩
          case measure => simp [intOf]; omega
    · have hlt' : decide (k < n) = false := by simpa using hlt
      obtain rfl : k = n := by omega
      have HQ2 := Lib.hid (show q = RM.tot ms by rw [hQ.out, HTT.out, ← HN.out, List.take_length])
      clear hlt
      go_upto_region 18 with fail
      clear c1
      go_loopw [8, 12] (fun s i wx => ∃ j r : Nat, j ≤ z ∧ i = .int .i64 j ∧ s = .int .i64 r ∧ r ≤ 255 * j ∧ Hid (r = RM.tot (ms.take j)) ∧ Hid (S02.Dr w2 wx)) (fun _ i _ => z - (intOf i).toNat)
      case atStart => exact ⟨0, 0, by omega, rfl, rfl, by omega, Lib.hid rfl, hdr⟩
      case round =>
        clear hdr
        obtain ⟨j, r, hj, rfl, rfl, hr, hR, hdr⟩ := hrel
        by_cases hjz : j < z
        · have x2 := (hdr.out.cell _).trans (HCE.out j (by omega))
          have HTA := Lib.hid (RM.tot_take (bs := ms) (k := j) (by rw [HML.out]; exact hjz))
          have hb8 := (ms.getD j 0).toNat_lt
          generalize (ms.getD j 0).toNat = b at *
          go_wp2
          go_roundw
          case rel => exact ⟨j + 1, r + b, by omega, by go_num, by go_num, by omega, Lib.hid (by rw [HTA.out, hR.out]), hdr⟩
          case measure => simp [intOf]; omega
        · have hjz' : decide (j < z) = false := by simpa using hjz
          obtain rfl : j = z := by omega
          have hrq : r = q := by rw [hR.out, HQ2.out, ← HML.out, List.take_length]
          subst hrq
          have HBZ := Lib.hid (HSW.out _ hdr.out)
          clear hjz
          go_wp2_with (go_at_call 10; refine (HAW.out _ HBZ.out).mono ?_; rintro e w9 ⟨rfl, hb9⟩; have HB9 := Lib.hid (HBZ.out.trans (hb9.mono HBZ.out.size)); clear hb9)
          go_ret
          exact ⟨rfl, HB9.out⟩
theorem lays_law (size : Int) (st : Nat) (sv : Value) (l : List (Nat × List UInt8)) (w : World) (_ : st < 4294967296) (hs : SgR w sv l) (ha : ∀ p ∈ l, p.1 < 4294967296) (ht : Tw w) : Calls Tryd.prog 8 #[.int .i64 size, .agg #[.int .u32 st, sv]] w fun e w' => e = .returned (.bool true) ∧ Below w.heap.size w w' := by
  by_cases hf : ltB l = true
  · by_cases hE : RM.ldE size l = 0
    · have h1 : 64 ≤ size := by
        unfold RM.ldE at hE
        split at hE
        · cases hE
        · omega
      obtain ⟨z, rfl⟩ : ∃ z : Nat, size = z := ⟨size.toNat, by omega⟩
      exact lays_good hs ha ht hf hE (by omega)
    · exact lays_bad hs ha ht hf hE
  · exact lays_heavy hs ht (by simpa using hf)
end Go.Proofs.YtcilhippjiichaaDoor
