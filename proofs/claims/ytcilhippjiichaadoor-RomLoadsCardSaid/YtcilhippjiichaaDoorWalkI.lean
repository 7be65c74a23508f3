/-
  What the reference's line answers. No condition but lengths.
-/
import Derived.Test.YtcilhippjiichaaDoorWalkH
namespace Go.Proofs.YtcilhippjiichaaDoor
open Go.RowKit Go.Maps S02
theorem cat_eq {A B : ByteArray} {x y : List UInt8} (h1 : A.data.toList = x) (h2 : B.data.toList = y) : (A ++ B).data.toList = x ++ y := by rw [NM.data_app, h1, h2]
set_option maxHeartbeats 4000000 in
theorem rline_any {w : World} {v : Value} {bs : List UInt8} (s : ByteArray) (a : Nat) (h : ByR w v bs) (h0 : bs ≠ []) (hs : s.size ≤ 100) (ha : a < 4294967296) (hl : bs.length ≤ 100) :
    Calls Tryd.prog 28 #[.string s, .int .u32 a, v] w fun e w' => e = .returned (.string ⟨(RM.line s.data.toList a bs).toArray⟩) ∧ Below w.heap.size w w' := by
  obtain ⟨A, c, rfl⟩ := by_form h
  obtain ⟨n, hn⟩ : ∃ n, bs.length = n := ⟨_, rfl⟩
  have HSO := Lib.hid (fun (W : World) (hb : Below w.heap.size w W) => rsumOf_any (h.below hb) ha (by omega))
  rw [hn] at h hl HSO ⊢
  have HN := Lib.hid hn
  have HX := Lib.hid h
  obtain ⟨X, hX, hX1, hX2⟩ := bt_of (NM.hxs a 8)
  rw [NM.hxs_len] at hX2
  have HHX := Lib.hid (rhexs_any a w ha)
  rw [hX] at HHX
  have hsm := RM.sm_lt a bs
  obtain ⟨S, hS, hS1, hS2⟩ := bt_of (NM.hxs (RM.sm a bs) 2)
  have HTW := Lib.hid (fun W => two_any (RM.sm a bs) W hsm)
  rw [hS] at HTW
  rw [NM.hxs_len] at hS2
  have HX1 := Lib.hid hX1
  have HS1 := Lib.hid hS1
  have hXs : X.size ≤ 8 := by omega
  have hSs : S.size ≤ 2 := by omega
  have HL := Lib.hid (show RM.line s.data.toList a bs = s.data.toList ++ [32] ++ NM.hxs a 8 ++ [32] ++ RM.dg bs ++ [32] ++ NM.hxs (RM.sm a bs) 2 ++ [10] by unfold RM.line RM.px; rw [if_neg h0]; simp only [List.append_assoc])
  clear h hn h0 hX hX1 hX2 hS hS1 hS2 hsm
  generalize RM.sm a bs = sum at *
  go_enter Tryd.func28, Tryd.ntmps28
  go_wp2_with (go_at_call 29; refine HHX.out.mono ?_; rintro e w2 ⟨rfl, hb2⟩; have HB2 := Lib.hid hb2; clear hb2)
  go_loopw [7, 8] (fun o i wr => ∃ (k : Nat) (T : ByteArray), k ≤ n ∧ i = .int .i64 k ∧ o = .string T ∧ T.size ≤ 1000 ∧ Hid (T.data.toList = s.data.toList ++ [32] ++ NM.hxs a 8 ++ [32] ++ RM.dg (bs.take k)) ∧ Hid (Below w.heap.size w wr)) (fun _ i _ => n - (intOf i).toNat)
  case atStart => exact ⟨0, _, by omega, rfl, rfl, by simp; have : (⟨#[32]⟩ : ByteArray).size = 1 := rfl; omega, Lib.hid (by rw [List.take_zero]; exact (cat_eq (cat_eq (cat_eq rfl rfl) HX1.out) rfl).trans (by simp [RM.dg])), HB2⟩
  case round =>
    obtain ⟨k, T, hk, rfl, rfl, hT, hTL, hB⟩ := hrel
    by_cases hlt : k < n
    · have hkl : k < bs.length := by rw [HN.out]; exact hlt
      obtain ⟨g, o, rfl, -, -, -, hc⟩ := by_at HX.out hkl
      have hcell := cell_below hB.out (hc k hkl)
      have HTK := Lib.hid (show RM.dg (bs.take (k + 1)) = RM.dg (bs.take k) ++ NM.hxs (bs.getD k 0).toNat 2 by rw [take_more (getD_some hkl), RM.dg_snoc])
      have hx := (bs.getD k 0).toNat_lt
      generalize (bs.getD k 0).toNat = x at *
      obtain ⟨Y, hY, hY1, hY2⟩ := bt_of (NM.hxs x 2)
      have H1 := Lib.hid (fun W => two_any x W (by omega))
      rw [hY] at H1
      rw [NM.hxs_len] at hY2
      have HY1 := Lib.hid hY1
      have hYs : Y.size ≤ 2 := by omega
      have HSZ := Lib.hid (show (T ++ Y).size ≤ 1000 by
        rw [← NM.len_eq, cat_eq hTL.out hY1]
        simp only [List.length_append, NM.hxs_len, List.length_singleton, RM.dg_len, List.length_take, NM.len_eq]
        omega)
      clear hc hY hY1 hY2 hx hkl
      go_wp2_with (go_at_call 30; refine (H1.out _).mono ?_; rintro e w3 ⟨rfl, hb3⟩; have HB3 := Lib.hid (hB.out.trans (hb3.mono hB.out.size)); clear hb3)
      go_roundw
      case rel => exact ⟨k + 1, _, by omega, by go_num, rfl, HSZ.out, Lib.hid (by rw [cat_eq hTL.out HY1.out, HTK.out]; simp only [List.append_assoc]), HB3⟩
      case measure => simp [intOf]; omega
    · have hlt' : decide (k < n) = false := by simpa using hlt
      have HF := Lib.hid (show bs.take k = bs from List.take_of_length_le (by rw [HN.out]; omega))
      rw [HF.out] at hTL
      clear hlt
      go_wp2_with (first
        | (go_at_call 31; refine (HSO.out _ hB.out).mono ?_; rintro e w3 ⟨rfl, hb3⟩; have HB3 := Lib.hid (hB.out.trans (hb3.mono hB.out.size)); clear hb3)
        | (go_at_call 30; refine (HTW.out _).mono ?_; rintro e w4 ⟨rfl, hb4⟩; have HB4 := Lib.hid (HB3.out.trans (hb4.mono HB3.out.size)); clear hb4))
      go_ret
      exact ⟨S02.ret_str (by rw [HL.out]; exact cat_eq (cat_eq (cat_eq hTL.out rfl) HS1.out) rfl), HB4.out⟩
end Go.Proofs.YtcilhippjiichaaDoor
