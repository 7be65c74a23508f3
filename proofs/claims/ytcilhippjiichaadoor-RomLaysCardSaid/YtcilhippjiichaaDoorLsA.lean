/-
  The law Parses returns true at every text and leaves all that was in memory as it was, where the tables are as their texts lay them.
-/
import Derived.Test.YtcilhippjiichaaDoorAwake
namespace Go.Proofs.YtcilhippjiichaaDoor
open Go.RowKit Go.Maps S02
/-- What the library's tables hold. -/
def Tw (w : World) : Prop := Tabs w ∧ Mx w
theorem Tw.on {w w' : World} (h : Tw w) (hb : Below w.heap.size w w') : Tw w' := ⟨h.1.on hb, h.2.on hb⟩
theorem Tw.wake {w w' : World} (h : Tw w) (hb : Below w.heap.size w w') : Calls Tryd.prog 10 #[] w' fun e w'' => e = .returned (.bool true) ∧ Below w'.heap.size w' w'' := awake_any w' (h.on hb).1 (h.on hb).2
namespace RM
/-- An image that was read is small. -/
theorem PA_small (s : List UInt8) : (PA s).1.length ≤ 64 ∧ ∀ p ∈ (PA s).1, p.2.length ≤ 16384 := by
  by_cases h : (PA s).2.2.2 = 0
  · obtain ⟨l, st, n, e⟩ : ∃ l st n, PA s = (l, st, n, 0) := ⟨_, _, _, by rw [← h]⟩
    obtain ⟨h1, -⟩ := PA_back e
    rw [e]
    obtain ⟨o1, -, o3⟩ := rt_open h1
    exact ⟨o1, fun p hp => by have := (o3 p hp).2; omega⟩
  · have key : ∀ (ls : List (List UInt8)) (k kl al nl st : Nat) (l : List (Nat × List UInt8)), (PL ls k kl al nl l st).2.2.2 = 0 ∨ (PL ls k kl al nl l st).1 = [] := by
      intro ls
      induction ls with
      | nil =>
        intro k kl al nl st l
        unfold PL
        split
        · exact .inl rfl
        · exact .inr rfl
      | cons t r ih =>
        intro k kl al nl st l
        by_cases he : lnE kl al nl l t = 0
        · cases hr : rd t with
          | none => rw [lnE_none hr] at he; cases he
          | some x => rw [PL_good hr he]; exact ih _ _ _ _ _ _
        · rw [PL_bad he]; exact .inr rfl
    have h2 : (PA s).1 = [] := by
      unfold PA at h ⊢
      split at h
      · rename_i h3
        rw [if_pos h3]
        exact (key _ _ _ _ _ _ _).resolve_left h
      · rename_i h3
        rw [if_neg h3]
    rw [h2]
    simp
end RM
set_option maxHeartbeats 1600000 in
theorem parses_walk (s : ByteArray) (w : World) (ht : Tw w) : Calls Tryd.prog 5 #[.string s] w fun e w' => e = .returned (.bool true) ∧ Below w.heap.size w w' := by
  have HAW := Lib.hid (fun (W : World) (hb : Below w.heap.size w W) => ht.wake hb)
  by_cases h3 : s.size ≤ 5000
  · have HA := Lib.hid (fun (W : World) (hb : Below w.heap.size w W) => parse_any s W (by omega) (ht.on hb).2)
    have HR := Lib.hid (fun (W : World) => rparse_any s W (by omega))
    unfold PsPost at HA HR
    obtain ⟨h5, h6⟩ := RM.PA_small s.data.toList
    obtain ⟨A, hA⟩ : ∃ A, RM.PA s.data.toList = A := ⟨_, rfl⟩
    rw [hA] at HA HR h5 h6
    obtain ⟨l, st, ln, E⟩ := A
    simp only at h5 h6
    have HBD := Lib.hid h6
    have HL := Lib.hid h5
    have h3' : (s.size : Int) ≤ 5000 := by omega
    clear ht hA h5 h6 h3
    go_enter Tryd.func5, Tryd.ntmps5
    go_upto_region 4 with (go_at_call 20; refine (HA.out _ (Below.refl _ w)).mono ?_; rintro e w1 ⟨sv, ps1, rfl, hs1, hl1, hb1⟩; have HB1 := Lib.hid hb1; have HS1 := Lib.hid (SgR.of_sg hs1 hl1); obtain ⟨sa, sc, rfl⟩ := sv_form HS1.out; clear hb1 hs1 hl1)
    obtain ⟨W1, hW1⟩ : ∃ W1, w1.alloc (.cells #[.int .u32 st, .slice sa l.length sc] 25) = W1 := ⟨_, rfl⟩
    obtain ⟨B1, hB1⟩ : ∃ B1, w1.heap.size = B1 := ⟨_, rfl⟩
    have hal1 : Below w1.heap.size w1 W1 := hW1 ▸ (Below.refl _ w1).alloc (Nat.le_refl _) _
    have HO1 := Lib.hid (show W1.heap[B1]? = some (.cells #[.int .u32 st, .slice sa l.length sc] 25 (0, 0)) from hB1 ▸ hW1 ▸ heap_alloc_new w1 _)
    have HB1' := Lib.hid (HB1.out.trans (hal1.mono HB1.out.size))
    have HS1' := Lib.hid (HS1.out.below hal1)
    rw [hW1, hB1]
    clear hW1 hB1 hal1 HS1 HB1
    go_upto_region 5 with (go_at_call 21; refine (HR.out _).mono ?_; rintro e w2 ⟨sv2, ps2, rfl, hs2, hl2, hb2⟩; have HB2 := Lib.hid hb2; have HS2 := Lib.hid (SgR.of_sg hs2 hl2); obtain ⟨sa2, sc2, rfl⟩ := sv_form HS2.out; clear hb2 hs2 hl2)
    obtain ⟨W2, hW2⟩ : ∃ W2, w2.alloc (.cells #[.int .u32 st, .slice sa2 l.length sc2] 25) = W2 := ⟨_, rfl⟩
    obtain ⟨B2, hB2⟩ : ∃ B2, w2.heap.size = B2 := ⟨_, rfl⟩
    have hal2 : Below w2.heap.size w2 W2 := hW2 ▸ (Below.refl _ w2).alloc (Nat.le_refl _) _
    have hO2 : W2.heap[B2]? = some (.cells #[.int .u32 st, .slice sa2 l.length sc2] 25 (0, 0)) := hB2 ▸ hW2 ▸ heap_alloc_new w2 _
    have hbb : Below W1.heap.size W1 W2 := HB2.out.trans (hal2.mono HB2.out.size)
    have hO1 : W2.heap[B1]? = some (.cells #[.int .u32 st, .slice sa l.length sc] 25 (0, 0)) := (hbb.block _ (lt_of_heap HO1.out)).trans HO1.out
    have HB3 := Lib.hid (HB1'.out.trans (hbb.mono HB1'.out.size))
    have HI := Lib.hid (image_same (st := st) (HS1'.out.below hbb) (HS2.out.below hal2) (by have := HL.out; omega) (fun p hp => by have := HBD.out p hp; omega))
    have c0 := cell_of (o := 0) hO1 rfl
    have c1 := cell_of (o := 1) hO1 rfl
    have d0 := cell_of (o := 0) hO2 rfl
    have d1 := cell_of (o := 1) hO2 rfl
    rw [hW2, hB2]
    clear hW2 hB2 hal2 hO1 hO2 hbb HS2 HB2 HS1' HO1
    go_wp2_with (first
      | (go_at_call 22; refine HI.out.mono ?_; rintro e w3 ⟨rfl, hb3⟩; have HB4 := Lib.hid (HB3.out.trans (hb3.mono HB3.out.size)); clear hb3)
      | (go_at_call 10; refine (HAW.out _ HB4.out).mono ?_; rintro e w5 ⟨rfl, hb5⟩; have HB6 := Lib.hid (HB4.out.trans (hb5.mono HB4.out.size)); clear hb5))
    go_ret
    exact ⟨rfl, HB6.out⟩
  · have h3' : (5000 : Int) < s.size := by omega
    clear ht h3
    go_enter Tryd.func5, Tryd.ntmps5
    go_wp2_with (go_at_call 10; refine (HAW.out _ (Below.refl _ w)).mono ?_; rintro e w2 ⟨rfl, hb2⟩)
    go_ret
    exact ⟨rfl, hb2⟩
theorem parses_law (s : ByteArray) (w : World) (_ : s.size ≤ maxLen) (ht : Tw w) : Calls Tryd.prog 5 #[.string s] w fun e w' => e = .returned (.bool true) ∧ Below w.heap.size w w' := parses_walk s w ht
end Go.Proofs.YtcilhippjiichaaDoor
