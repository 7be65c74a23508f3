/-
  What address and data answer: what eight digits, and two digits each, stand for. No condition but lengths.
-/
import Derived.Test.YtcilhippjiichaaDoorGe
import Derived.Test.YtcilhippjiichaaDoorWalkK
import Derived.Test.YtcilhippjiichaaDoorGb
namespace Go.Proofs.YtcilhippjiichaaDoor
open Go.RowKit Go.Maps S02
theorem pre_data (s : ByteArray) : ((⟨#[48, 120]⟩ : ByteArray) ++ s).data.toList = 48 :: 120 :: s.data.toList := by rw [NM.data_app]; rfl
/-- What address leaves. -/
def AdPost (w : World) (s : List UInt8) (e : Ending) (w' : World) : Prop := ∃ n : Int, e = .returned (.tuple #[.int .u32 n, .bool (RM.isA s)]) ∧ (RM.isA s = true → n = NM.val 16 s) ∧ Below w.heap.size w w'
theorem AdPost.no {w w' : World} {s : List UInt8} {n : Int} (h : RM.isA s = false) (hb : Below w.heap.size w w') : AdPost w s (.returned (.tuple #[.int .u32 n, .bool false])) w' := ⟨n, by rw [h], (fun h' => by rw [h] at h'; cases h'), hb⟩
theorem AdPost.yes {w w' : World} {s : List UInt8} {n : Nat} (h : RM.isA s = true) (hn : NM.val 16 s = n) (hb : Below w.heap.size w w') : AdPost w s (.returned (.tuple #[.int .u32 n, .bool true])) w' := ⟨n, by rw [h], (fun _ => by rw [hn]), hb⟩
set_option maxHeartbeats 2000000 in
theorem address_any (s : ByteArray) (w : World) (hs : s.size ≤ 100000) : Calls Tryd.prog 58 #[.string s] w (AdPost w s.data.toList) := by
  have HP := Lib.hid (fun W => parse_any ((⟨#[48, 120]⟩ : ByteArray) ++ s) W (by rw [ByteArray.size_append]; show 2 + s.size ≤ _; omega))
  rw [pre_data] at HP
  have hlen := NM.len_eq s
  by_cases h8 : s.size = 8
  · have h8' : ((s.size : Int) == 8) = true := by simp [h8]
    cases ha : NM.al 16 s.data.toList
    · have HA := Lib.hid (show RM.isA s.data.toList = false by unfold RM.isA; rw [ha]; rfl)
      rw [RM.p_not _ (.inl ha)] at HP
      generalize NM.pN (48 :: 120 :: s.data.toList) = N at *
      clear ha hlen h8
      go_enter Tryd.func58, Tryd.ntmps58
      go_wp2_with (go_at_call 67; refine (HP.out _).mono ?_; rintro e w2 ⟨rfl, hb2⟩; have HB2 := Lib.hid hb2; clear hb2)
      go_ret2
      exact AdPost.no HA.out HB2.out
    · have hne : s.data.toList ≠ [] := fun e => by rw [e] at hlen; simp at hlen; omega
      obtain ⟨e1, e2⟩ := RM.p_yes s.data.toList ha hne (by omega)
      rw [e1, e2] at HP
      have HA := Lib.hid (show RM.isA s.data.toList = true by unfold RM.isA; rw [ha, hlen, h8]; rfl)
      have hv : NM.val 16 s.data.toList < 4294967296 := NM.val16_lt _ ha (by omega)
      obtain ⟨N, hN⟩ : ∃ N, NM.val 16 s.data.toList = N := ⟨_, rfl⟩
      rw [hN] at HP hv
      have HNN := Lib.hid hN
      clear hN
      have hv' : (N : Int) < 4294967296 := by omega
      have hv0 : (0 : Int) ≤ N := by omega
      clear ha hlen h8 e1 e2 hne hv
      go_enter Tryd.func58, Tryd.ntmps58
      go_wp2_with (go_at_call 67; refine (HP.out _).mono ?_; rintro e w2 ⟨rfl, hb2⟩; have HB2 := Lib.hid hb2; clear hb2)
      go_ret2
      exact AdPost.yes HA.out HNN.out HB2.out
  · have h8' : ((s.size : Int) == 8) = false := by simp; omega
    have HA := Lib.hid (show RM.isA s.data.toList = false by unfold RM.isA; rw [hlen, decide_eq_false h8, Bool.and_false])
    generalize NM.pN (48 :: 120 :: s.data.toList) = N at *
    generalize NM.pE (48 :: 120 :: s.data.toList) = E at *
    clear hlen h8
    by_cases hE : E = 0
    · have hE' : (E == 0) = true := by simp [hE]
      clear hE
      go_enter Tryd.func58, Tryd.ntmps58
      go_wp2_with (go_at_call 67; refine (HP.out _).mono ?_; rintro e w2 ⟨rfl, hb2⟩; have HB2 := Lib.hid hb2; clear hb2)
      go_ret2
      exact AdPost.no HA.out HB2.out
    · have hE' : (E == 0) = false := by simp [hE]
      go_enter Tryd.func58, Tryd.ntmps58
      go_wp2_with (go_at_call 67; refine (HP.out _).mono ?_; rintro e w2 ⟨rfl, hb2⟩; have HB2 := Lib.hid hb2; clear hb2)
      go_ret2
      exact AdPost.no HA.out HB2.out
/-- What data leaves: bytes in a row of its own, or none. -/
def DaPost (w : World) (most : Nat) (s : List UInt8) (e : Ending) (w' : World) : Prop :=
  ∃ v b, e = .returned (.tuple #[v, .bool b]) ∧ Below w.heap.size w w' ∧
    ((b = true ∧ ∃ bs, RM.dg bs = s ∧ bs ≠ [] ∧ bs.length ≤ most ∧ w'.ownsRow w.heap.size 5 1 v bs.length (byC bs)) ∨ (b = false ∧ v = .slice none 0 0 ∧ ¬ RM.isD most s))
theorem DaPost.no {w w' : World} {most : Nat} {s : List UInt8} (hb : Below w.heap.size w w') (h : ¬ RM.isD most s) : DaPost w most s (.returned (.tuple #[.slice none 0 0, .bool false])) w' := ⟨_, _, rfl, hb, .inr ⟨rfl, rfl, h⟩⟩
theorem isD_len {most : Nat} {s : List UInt8} (h : RM.isD most s) : s ≠ [] ∧ s.length % 2 = 0 ∧ s.length ≤ 2 * most ∧ NM.al 16 s = true := by
  obtain ⟨bs, rfl, h1, h2⟩ := h
  refine ⟨fun e => h1 ((RM.dg_nil_iff bs).1 e), ?_, ?_, RM.al_dg bs⟩
  · rw [RM.dg_len]; omega
  · rw [RM.dg_len]; omega
theorem wp_tail {l : List UInt8} {j : Nat} (h : j + 2 ≤ l.length) : l.take (j + 2) = l.take j ++ (l.drop j).take 2 := by
  rw [show l.take (j + 2) = (l.take j ++ l.drop j).take (j + 2) by rw [List.take_append_drop], List.take_append, List.take_of_length_le (by rw [List.length_take]; omega), List.length_take, Nat.min_eq_left (by omega), Nat.add_sub_cancel_left]
set_option maxHeartbeats 4000000 in
theorem data_loop (s : ByteArray) (most : Nat) (w : World) (hm : most ≤ 1000) (h0 : 0 < s.size) (h2 : s.size % 2 = 0) (hle : s.size ≤ 2 * most) : Calls Tryd.prog 57 #[.string s, .int .i64 most] w (DaPost w most s.data.toList) := by
  obtain ⟨i5, HI⟩ := info_parts u8_info
  have HI := Lib.hid HI
  have hlen := NM.len_eq s
  have HL := Lib.hid hlen
  have h0' : s.toList.isEmpty = false := S02.full_isEmpty s h0
  have h0'' : ¬ s.toList = [] := S02.full_toList s h0
  have h2' : ((s.size : Int) % 2 == 0) = true := by simp; omega
  have h2'' : ((s.size : Int) % 2 != 0) = false := by simp; omega
  have hle' : (s.size : Int) ≤ (most : Int) * 2 := by omega
  have hs2000 : s.size ≤ 2000 := by omega
  have H2 := Lib.hid h2
  have hm' : (most : Int) ≤ 1000 := by omega
  have HLE := Lib.hid hle
  clear h2 hlen hle
  go_enter Tryd.func57, Tryd.ntmps57
  go_wp2
  go_loopw [6, 7] (fun v f wr => ∃ (j f' : Nat) (bs : List UInt8), Hid (f' = 2 * j) ∧ f' ≤ s.size ∧ f = .int .i64 f' ∧ Hid (bs.length = j) ∧ Hid (RM.dg bs = s.data.toList.take f') ∧ Hid (wr.ownsRow w.heap.size 5 1 v j (byC bs)) ∧ Hid (Below w.heap.size w wr)) (fun _ f _ => s.size - (intOf f).toNat)
  case atStart => exact ⟨0, 0, [], Lib.hid rfl, by omega, rfl, Lib.hid rfl, Lib.hid rfl, Lib.hid ⟨rfl, .inl ⟨rfl, rfl⟩⟩, Lib.hid (Below.refl _ _)⟩
  case round =>
    obtain ⟨j, f, bs, hj, hf, rfl, hbl, hdg, hO, hB⟩ := hrel
    by_cases hlt : f < s.size
    · have hf2 : f + 2 ≤ s.size := by have := hj.out; have := H2.out; omega
      obtain ⟨X, hX⟩ : ∃ X, s.extract f (f + 2) = X := ⟨_, rfl⟩
      have hX1 : X.data.toList = (s.data.toList.drop f).take 2 := by rw [← hX, Lib.extract_data, show f + 2 - f = 2 by omega]
      have hX2 : X.data.toList.length = 2 := by rw [hX1, List.length_take, List.length_drop, HL.out]; omega
      have HT := Lib.hid (show s.data.toList.take (f + 2) = s.data.toList.take f ++ X.data.toList by rw [hX1]; exact wp_tail (by rw [HL.out]; exact hf2))
      have hXs : X.size = 2 := by rw [← NM.len_eq]; exact hX2
      have HP := Lib.hid (fun W => parse_any ((⟨#[48, 120]⟩ : ByteArray) ++ X) W (by rw [ByteArray.size_append, hXs]; decide))
      rw [pre_data] at HP
      have hf2' : (f : Int) + 2 ≤ s.size := by omega
      have htn : ((f : Int) + 2).toNat = f + 2 := by omega
      cases ha : NM.al 16 X.data.toList
      · rw [RM.p_not _ (.inl ha)] at HP
        generalize NM.pN (48 :: 120 :: X.data.toList) = N at *
        have HNO := Lib.hid (show ¬ RM.isD most s.data.toList from fun h => by
          have h4 := (isD_len h).2.2.2
          have h5 : NM.al 16 (s.data.toList.take (f + 2)) = true := NM.al_take _ h4
          rw [HT.out, RM.al_app, ha, Bool.and_false] at h5
          cases h5)
        have HXS := Lib.hid hX
        have hXsz : X.size ≤ 2 := by omega
        clear ha hX hX1 hX2 hXs
        go_wp2_with (go_at_call 67; rw [HXS.out]; refine (HP.out _).mono ?_; rintro e w2 ⟨rfl, hb2⟩; have HB2 := Lib.hid (hB.out.trans (hb2.mono hB.out.size)); clear hb2)
        go_ret2
        exact DaPost.no HB2.out HNO.out
      · have hne : X.data.toList ≠ [] := fun e => by rw [e] at hX2; cases hX2
        obtain ⟨e1, e2⟩ := RM.p_yes X.data.toList ha hne (by omega)
        rw [e1, e2] at HP
        have hbn := RM.hb_toNat X.data.toList ha hX2
        have HD := Lib.hid (show RM.dg (bs ++ [RM.hb X.data.toList]) = s.data.toList.take (f + 2) by rw [RM.dg_snoc, hdg.out, HT.out, RM.hb_dg _ ha hX2])
        have hv : (RM.hb X.data.toList).toNat < 256 := UInt8.toNat_lt _
        have HC := Lib.hid (byC_snoc bs (RM.hb X.data.toList))
        rw [hbn] at hv HC
        generalize RM.hb X.data.toList = bb at *
        generalize NM.val 16 X.data.toList = N at *
        have hv' : (N : Int) < 256 := by omega
        have hv0 : (0 : Int) ≤ N := by omega
        have HXS := Lib.hid hX
        have hXsz : X.size ≤ 2 := by omega
        have hj1000 : j ≤ 1000 := by have := hj.out; omega
        clear ha hX hX1 hX2 hXs hne e1 e2 hbn hv
        go_wp2_with (first
          | (go_at_call 67; rw [HXS.out]; refine (HP.out _).mono ?_; rintro e w2 ⟨rfl, hb2⟩; have HB2 := Lib.hid (hB.out.trans (hb2.mono hB.out.size)); have HO2 := Lib.hid (fun o => (own_keep hO.out fun k hk => hb2.block k (own_lt hO.out hk).2.1).alloc o); have HB3 := Lib.hid (fun o => HB2.out.alloc HB2.out.size o); clear hb2)
          | (at_builtin; refine wpList_append_lies _ rfl _ _ 28 rfl w.heap.size 5 i5 (.int .u8 0) 1 1 Tryd.underlying28 HI.out.1 HI.out.2.1 HI.out.2.2.1 HI.out.2.2.2 rfl (by decide) _ j (byC bs) rfl (HO2.out _) ⟨_, 0, none⟩ 1 1 [.int .u8 N] rfl rfl (S02.new_cell _ _ _) (fun u hu => by simp at hu; subst hu; rfl) (by decide) (by unfold maxLen; omega) (by omega) (HB3.out _).size _ rfl ?_; intro g' cap' w4 ho4 hg4 hv4 hl4; have HO4 := Lib.hid ho4; have HB4 := Lib.hid ((HB3.out _).grown hg4 (HB3.out _).size (fun k hk => (own_lt (HO2.out (.cells #[] 5)) hk).1)); clear ho4 hg4 hv4 hl4))
        go_roundw
        case rel => exact ⟨j + 1, f + 2, bs ++ [bb], Lib.hid (by have := hj.out; omega), by omega, by go_num, Lib.hid (by rw [List.length_append, hbl.out]; rfl), HD, Lib.hid (by rw [HC.out]; exact HO4.out), HB4⟩
        case measure => simp [intOf]; omega
    · have hlt' : decide (f < s.size) = false := by simpa using hlt
      obtain rfl : f = s.size := by omega
      have HF := Lib.hid (show RM.dg bs = s.data.toList by rw [hdg.out, ← HL.out, List.take_length])
      have hjb : ¬ j = 0 := by have := hj.out; omega
      have hjm : j ≤ most := by have := hj.out; have := HLE.out; omega
      clear hlt
      go_wp2
      go_ret2
      exact ⟨_, _, rfl, hB.out, .inl ⟨rfl, bs, HF.out, fun e => by have := hbl.out; rw [e] at this; exact hjb this.symm, by rw [hbl.out]; exact hjm, by rw [hbl.out]; exact hO.out⟩⟩
theorem data_any (s : ByteArray) (most : Nat) (w : World) (hm : most ≤ 1000) (hs : s.size ≤ 100000) : Calls Tryd.prog 57 #[.string s, .int .i64 most] w (DaPost w most s.data.toList) := by
  have hlen := NM.len_eq s
  by_cases h0 : s.size = 0
  · have HNO := Lib.hid (show ¬ RM.isD most s.data.toList from fun h => (isD_len h).1 (List.eq_nil_of_length_eq_zero (by omega)))
    obtain rfl : s = ⟨#[]⟩ := by cases s with | mk d => simp only [ByteArray.mk.injEq]; exact Array.toList_inj.mp (List.eq_nil_of_length_eq_zero (by rw [hlen]; exact h0))
    clear hlen h0 hs
    go_enter Tryd.func57, Tryd.ntmps57
    go_wp2
    go_ret2
    exact DaPost.no (Below.refl _ _) HNO.out
  · have h0' : s.toList.isEmpty = false := S02.full_isEmpty s (by omega)
    have h0'' : ¬ s.toList = [] := S02.full_toList s (by omega)
    by_cases h2 : s.size % 2 = 0
    · by_cases hle : s.size ≤ 2 * most
      · exact data_loop s most w hm (by omega) h2 hle
      · have HNO := Lib.hid (show ¬ RM.isD most s.data.toList from fun h => by have := (isD_len h).2.2.1; omega)
        have h2' : ((s.size : Int) % 2 == 0) = true := by simp; omega
        have h2'' : ((s.size : Int) % 2 != 0) = false := by simp; omega
        have hle' : (most : Int) * 2 < s.size := by omega
        have hm' : (most : Int) ≤ 1000 := by omega
        clear hlen h0 h2
        go_enter Tryd.func57, Tryd.ntmps57
        go_wp2
        go_ret2
        exact DaPost.no (Below.refl _ _) HNO.out
    · have HNO := Lib.hid (show ¬ RM.isD most s.data.toList from fun h => by have := (isD_len h).2.1; omega)
      have h2' : ((s.size : Int) % 2 == 0) = false := by simp; omega
      have h2'' : ((s.size : Int) % 2 != 0) = true := by simp; omega
      clear hlen h0 h2
      go_enter Tryd.func57, Tryd.ntmps57
      go_wp2
      go_ret2
      exact DaPost.no (Below.refl _ _) HNO.out
theorem data_yes (s : ByteArray) (most : Nat) (w : World) (hm : most ≤ 1000) (hs : s.size ≤ 100000) (h : RM.isD most s.data.toList) : Calls Tryd.prog 57 #[.string s, .int .i64 most] w fun e w' =>
    ∃ v bs, e = .returned (.tuple #[v, .bool true]) ∧ Below w.heap.size w w' ∧ RM.dg bs = s.data.toList ∧ bs ≠ [] ∧ bs.length ≤ most ∧ w'.ownsRow w.heap.size 5 1 v bs.length (byC bs) :=
  (data_any s most w hm hs).mono fun e w' ⟨v, b, he, hb, hc⟩ => by
    rcases hc with ⟨rfl, bs, h1, h2, h3, h4⟩ | ⟨-, -, h1⟩
    · exact ⟨v, bs, he, hb, h1, h2, h3, h4⟩
    · exact absurd h h1
theorem data_no (s : ByteArray) (most : Nat) (w : World) (hm : most ≤ 1000) (hs : s.size ≤ 100000) (h : ¬ RM.isD most s.data.toList) : Calls Tryd.prog 57 #[.string s, .int .i64 most] w fun e w' =>
    e = .returned (.tuple #[.slice none 0 0, .bool false]) ∧ Below w.heap.size w w' :=
  (data_any s most w hm hs).mono fun e w' ⟨v, b, he, hb, hc⟩ => by
    rcases hc with ⟨rfl, bs, h1, h2, h3, h4⟩ | ⟨rfl, rfl, h1⟩
    · exact absurd ⟨bs, h1, h2, h3⟩ h
    · exact ⟨he, hb⟩
theorem data_may (s : ByteArray) (most : Nat) (w : World) (hm : most ≤ 1000) (hs : s.size ≤ 100000) : Calls Tryd.prog 57 #[.string s, .int .i64 most] w fun e w' =>
    ∃ v b, e = .returned (.tuple #[v, .bool b]) ∧ Below w.heap.size w w' := (data_any s most w hm hs).mono fun _ _ ⟨v, b, he, hb, _⟩ => ⟨v, b, he, hb⟩
theorem address_yes (s : ByteArray) (w : World) (hs : s.size ≤ 100000) (h : RM.isA s.data.toList = true) : Calls Tryd.prog 58 #[.string s] w fun e w' => e = .returned (.tuple #[.int .u32 (NM.val 16 s.data.toList : Nat), .bool true]) ∧ Below w.heap.size w w' :=
  (address_any s w hs).mono fun _ _ ⟨n, he, hn, hb⟩ => ⟨by rw [he, hn h, h], hb⟩
theorem address_no (s : ByteArray) (w : World) (hs : s.size ≤ 100000) (h : RM.isA s.data.toList = false) : Calls Tryd.prog 58 #[.string s] w fun e w' => ∃ n : Int, e = .returned (.tuple #[.int .u32 n, .bool false]) ∧ Below w.heap.size w w' :=
  (address_any s w hs).mono fun _ _ ⟨n, he, _, hb⟩ => ⟨n, by rw [he, h], hb⟩
end Go.Proofs.YtcilhippjiichaaDoor
