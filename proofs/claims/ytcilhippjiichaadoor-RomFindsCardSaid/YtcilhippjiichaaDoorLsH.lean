/-
  The law Finds returns true at every image, place and byte, and leaves all that was in memory as it was, where the tables are as their texts lay them: all cases put together.
-/
import Derived.Test.YtcilhippjiichaaDoorLsF
namespace Go.Proofs.YtcilhippjiichaaDoor
open Go.RowKit Go.Maps S02
theorem dgB_open {c : UInt8} (h : dgB c.toNat = true) : NM.okb c = true ∧ c ≠ 10 := by
  unfold dgB at h
  rw [Bool.or_eq_true, Bool.and_eq_true, Bool.and_eq_true, decide_eq_true_eq, decide_eq_true_eq, decide_eq_true_eq, decide_eq_true_eq] at h
  exact NM.okb_in c (by omega) (by omega) (by omega)
theorem at_list (T : ByteArray) (k : Nat) (h : k < T.size) : T.data.toList.getD k 0 = T[k] := by
  have h' : k < T.data.toList.length := by rw [NM.len_eq]; exact h
  rw [List.getD_eq_getElem?_getD, List.getElem?_eq_getElem h']
  rfl
theorem cut_list (T : ByteArray) (k : Nat) (c : UInt8) (h : k < T.size) : (T.extract 0 k ++ ⟨#[c]⟩ ++ T.extract (k + 1) T.size).data.toList = T.data.toList.set k c := by
  have h' : k < T.data.toList.length := by rw [NM.len_eq]; exact h
  have hl : T.data.toList.length = T.size := NM.len_eq T
  rw [List.set_eq_take_append_cons_drop, if_pos h', ByteArray.data_append, ByteArray.data_append, Array.toList_append, Array.toList_append, Lib.extract_data, Lib.extract_data]
  rw [List.drop_zero, Nat.sub_zero, List.take_of_length_le (l := T.data.toList.drop (k + 1)) (by rw [List.length_drop]; omega)]
  simp
theorem finds_law (st : Nat) (sv : Value) (l : List (Nat × List UInt8)) (i c : Int) (w : World) (hst : st < 4294967296) (hs : SgR w sv l) (ha : ∀ p ∈ l, p.1 < 4294967296) (c0 : 0 ≤ c) (c1 : c < 256) (ht : Tw w) :
    Calls Tryd.prog 7 #[.agg #[.int .u32 st, sv], .int .i64 i, .int .u8 c] w fun e w' => e = .returned (.bool true) ∧ Below w.heap.size w w' := by
  obtain ⟨d, rfl⟩ : ∃ d : UInt8, c = (d.toNat : Int) := ⟨UInt8.ofNat c.toNat, by rw [UInt8.toNat_ofNat']; omega⟩
  cases hf : ltB l with
  | false => exact find_heavy i d hs ht hf
  | true =>
    cases hd : dgB d.toNat with
    | false => exact find_other i d hs ht hf hd
    | true =>
      obtain ⟨T, hT, h1, h2⟩ := bt_of (RM.TX st l)
      by_cases hi : i < 0
      · exact find_low i d T hst hs ha ht hf hd hT hi
      · by_cases hi2 : (T.size : Int) ≤ i
        · exact find_high i d T hst hs ha ht hf hd hT (by omega) hi2
        · obtain ⟨k, hk⟩ : ∃ k : Nat, i = k := ⟨i.toNat, by omega⟩
          have hkl : k < T.size := by omega
          cases hb : dgB (T[k]'hkl).toNat with
          | false => exact find_none i d T hst hs ha ht hf hd hT k hk hkl hb
          | true =>
            by_cases he : T[k]'hkl = d
            · exact find_same i d T hst hs ha ht hf hd hT k hk hkl he
            · have hr : RM.rt l = 0 := by
                by_cases hr : RM.rt l = 0
                · exact hr
                · unfold RM.TX at h2
                  rw [if_neg hr] at h2
                  rw [List.length_nil] at h2
                  omega
              have h3 : RM.TX st l = RM.tx st l := by unfold RM.TX; rw [if_pos hr]
              rw [h3] at h1 h2
              have hsz := RM.tx_size hr hst
              obtain ⟨hb1, hb2⟩ := dgB_open hb
              obtain ⟨hd1, hd2⟩ := dgB_open hd
              have hg := at_list T k hkl
              rw [h1] at hg
              obtain ⟨g1, g2⟩ := RM.PA_find hr hst (i := k) (c := d) (by omega) (by rw [hg]; exact hb2) hd1 hd2 (by rw [hg]; exact he)
              obtain ⟨m, t, q, E, hp⟩ : ∃ m t q E, RM.PA ((RM.tx st l).set k d) = (m, t, q, E) := ⟨_, _, _, _, rfl⟩
              rw [hp] at g1 g2
              exact find_main i d T hst hs ha ht hf hd hT k hk hkl hb he (by omega) _ rfl (by rw [cut_list T k d hkl, h1]; exact hp) g1 g2
end Go.Proofs.YtcilhippjiichaaDoor
