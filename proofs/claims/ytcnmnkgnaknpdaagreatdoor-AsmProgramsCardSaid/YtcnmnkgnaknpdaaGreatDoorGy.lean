/-
  The law Programs returns true at every text and leaves all that was in memory as it was, where the tables are as their texts lay them.
-/
import Derived.Test.YtcnmnkgnaknpdaaGreatDoorGv
import Derived.Test.YtcnmnkgnaknpdaaGreatDoorGw

/-! RfV -/
namespace Go.Proofs.YtcnmnkgnaknpdaaGreatDoor
open Go.RowKit Go.Maps S01 S02 S06 S07
namespace AS
theorem asm_bd (s : List UInt8) : (asm s).segs.length ≤ 16384 ∧ (∀ p ∈ (asm s).segs, p.2.length ≤ 16384) ∧ (asm s).names.length ≤ 131072 := by
  by_cases h : NM.lE s = 0
  · obtain ⟨E, k, st, hF⟩ : ∃ E k st, first (NM.lL s) 0 ⟨[], 0, []⟩ = (E, k, st) := ⟨_, _, _, rfl⟩
    by_cases hE : E = 0
    · subst hE
      obtain ⟨E, k, m, hG⟩ : ∃ E k m, second st.names st.items (fun _ => 0) = (E, k, m) := ⟨_, _, _, rfl⟩
      by_cases hE : E = 0
      · subst hE
        rw [asm_3 h hF hG]
        obtain ⟨h1, h2⟩ := segs_len (cov st.items) m 16384
        exact ⟨h1, h2, (first_lL hF).1.nms⟩
      · rw [asm_2 h hF hG hE]
        simp
    · rw [asm_1 h hF hE]
      simp
  · rw [asm_0 h]
    simp
end AS
set_option maxHeartbeats 1600000 in
theorem programs_walk (s : ByteArray) (w : World) (ht : Tw w) : Calls Tryz.prog 3 #[.string s] w fun e w' => e = .returned (.bool true) ∧ Below w.heap.size w w' := by
  have HAW := Lib.hid (fun (W : World) (hb : Below w.heap.size w W) => ht.wake hb)
  by_cases h3 : s.size ≤ 3000
  · have HA := Lib.hid (fun (W : World) (hb : Below w.heap.size w W) => asmAll_any s W (by omega) (ht.on hb).1 (ht.on hb).five)
    have HR := Lib.hid (fun (W : World) => rasm_any s W (by omega))
    obtain ⟨h5, h6, h7⟩ := AS.asm_bd s.data.toList
    obtain ⟨A, hA⟩ : ∃ A, AS.asm s.data.toList = A := ⟨_, rfl⟩
    rw [hA] at HA HR h5 h6 h7
    obtain ⟨st, l, ns, ln, E⟩ := A
    simp only at h5 h6 h7
    have HBD := Lib.hid h6
    have HL := Lib.hid h5
    have HNL := Lib.hid h7
    have h3' : (s.size : Int) ≤ 3000 := by omega
    clear ht hA h5 h6 h7 h3
    go_enter Tryz.func3, Tryz.ntmps3
    go_upto_region 4 with (go_at_call 9; refine (HA.out _ (Below.refl _ w)).mono ?_; rintro e w1 ⟨sv, nv, rfl, hb1, hs1, hn1⟩; have HB1 := Lib.hid hb1; have HS1 := Lib.hid hs1; have HN1 := Lib.hid hn1; obtain ⟨sa, sc, rfl⟩ := sv_form hs1; obtain ⟨na, nc, rfl⟩ := nv_form hn1; clear hb1 hs1 hn1)
    obtain ⟨W1, hW1⟩ : ∃ W1, w1.alloc (.cells #[.int .u32 st, .slice sa l.length sc] 26) = W1 := ⟨_, rfl⟩
    obtain ⟨B1, hB1⟩ : ∃ B1, w1.heap.size = B1 := ⟨_, rfl⟩
    have hal1 : Below w1.heap.size w1 W1 := hW1 ▸ (Below.refl _ w1).alloc (Nat.le_refl _) _
    have HO1 := Lib.hid (show W1.heap[B1]? = some (.cells #[.int .u32 st, .slice sa l.length sc] 26 (0, 0)) from hB1 ▸ hW1 ▸ heap_alloc_new w1 _)
    have HB1' := Lib.hid (HB1.out.trans (hal1.mono HB1.out.size))
    have HS1' := Lib.hid (HS1.out.below hal1)
    have HN1' := Lib.hid (HN1.out.below hal1)
    rw [hW1, hB1]
    clear hW1 hB1 hal1 HS1 HN1 HB1
    go_upto_region 5 with (go_at_call 10; refine (HR.out _).mono ?_; rintro e w2 ⟨sv2, nv2, rfl, hb2, hs2, hn2⟩; have HB2 := Lib.hid hb2; have HS2 := Lib.hid hs2; have HN2 := Lib.hid hn2; obtain ⟨sa2, sc2, rfl⟩ := sv_form hs2; obtain ⟨na2, nc2, rfl⟩ := nv_form hn2; clear hb2 hs2 hn2)
    obtain ⟨W2, hW2⟩ : ∃ W2, w2.alloc (.cells #[.int .u32 st, .slice sa2 l.length sc2] 26) = W2 := ⟨_, rfl⟩
    obtain ⟨B2, hB2⟩ : ∃ B2, w2.heap.size = B2 := ⟨_, rfl⟩
    have hal2 : Below w2.heap.size w2 W2 := hW2 ▸ (Below.refl _ w2).alloc (Nat.le_refl _) _
    have hO2 : W2.heap[B2]? = some (.cells #[.int .u32 st, .slice sa2 l.length sc2] 26 (0, 0)) := hB2 ▸ hW2 ▸ heap_alloc_new w2 _
    have hbb : Below W1.heap.size W1 W2 := HB2.out.trans (hal2.mono HB2.out.size)
    have hO1 : W2.heap[B1]? = some (.cells #[.int .u32 st, .slice sa l.length sc] 26 (0, 0)) := (hbb.block _ (lt_of_heap HO1.out)).trans HO1.out
    have HB3 := Lib.hid (HB1'.out.trans (hbb.mono HB1'.out.size))
    have HI := Lib.hid (image_same (st := st) (HS1'.out.below hbb) (HS2.out.below hal2) (by have := HL.out; omega) (fun p hp => by have := HBD.out p hp; omega))
    have HNm := Lib.hid (fun (W : World) (hb : Below W2.heap.size W2 W) => names_same ((HN1'.out.below hbb).below hb) ((HN2.out.below hal2).below hb) (by have := HNL.out; omega))
    have c0 := cell_of (o := 0) hO1 rfl
    have c1 := cell_of (o := 1) hO1 rfl
    have d0 := cell_of (o := 0) hO2 rfl
    have d1 := cell_of (o := 1) hO2 rfl
    rw [hW2, hB2]
    clear hW2 hB2 hal2 hO1 hO2 hbb HS2 HN2 HB2 HS1' HN1' HO1
    go_wp2_with (first
      | (go_at_call 11; refine HI.out.mono ?_; rintro e w3 ⟨rfl, hb3⟩; have HB4 := Lib.hid hb3; clear hb3)
      | (go_at_call 12; refine (HNm.out _ HB4.out).mono ?_; rintro e w4 ⟨rfl, hd4⟩; have HB5 := Lib.hid (HB3.out.trans ((HB4.out.trans (hd4.below.mono HB4.out.size)).mono HB3.out.size)); clear hd4)
      | (go_at_call 8; refine (HAW.out _ HB5.out).mono ?_; rintro e w5 ⟨rfl, hb5⟩; have HB6 := Lib.hid (HB5.out.trans (hb5.mono HB5.out.size)); clear hb5))
    go_ret
    exact ⟨rfl, HB6.out⟩
  · have h3' : (3000 : Int) < s.size := by omega
    clear ht h3
    go_enter Tryz.func3, Tryz.ntmps3
    go_wp2_with (go_at_call 8; refine (HAW.out _ (Below.refl _ w)).mono ?_; rintro e w2 ⟨rfl, hb2⟩)
    go_ret
    exact ⟨rfl, hb2⟩
theorem programs_law (s : ByteArray) (w : World) (_ : s.size ≤ maxLen) (ht : Tw w) : Calls Tryz.prog 3 #[.string s] w fun e w' => e = .returned (.bool true) ∧ Below w.heap.size w w' := programs_walk s w ht
end Go.Proofs.YtcnmnkgnaknpdaaGreatDoor
