/-
  What the walks ask of the package-level variables; and what Name and Op answer, of the package and of the reference.
-/
import Derived.Test.YtfgkcjalfhbjjaaDoorS02WalkC
import Derived.Test.YtfgkcjalfhbjjaaDoorS02WalkL
import Derived.Test.YtfgkcjalfhbjjaaDoorMathB
import Derived.Deep.MidRow
import Derived.Lib.AppendIntMem
import Derived.Lib.SmallJoins
namespace Go.Proofs.YtfgkcjalfhbjjaaDoor
open Go.RowKit S02
/-- The variables read as their texts lay them; one holds some number. -/
def Tb (w : World) : Prop := Lib.TabIs Tryd.prog w "internal/strconv.uint64pow10" .u64 Lib.pow10Tab ∧ w.rangeAt 0 0 (TX.nmL.map NM.tv) ∧ ∃ m, w.cell? ⟨1, 0, none⟩ = some (.int .i64 m)
theorem lt_of_cell {w : World} {p : Addr} {v : Value} (h : w.cell? p = some v) : p.block < w.heap.size := by
  rcases Nat.lt_or_ge p.block w.heap.size with h1 | h1
  · exact h1
  · simp [World.cell?, Array.getElem?_eq_none h1] at h
theorem Tb.on {w w' : World} (h : Tb w) (hb : Below w.heap.size w w') : Tb w' := by
  obtain ⟨h1, h2, m, h3⟩ := h
  exact ⟨Joins.tab_stays (g := 2) (by kernel_rfl) h1 hb (Nat.le_refl _), fun j v hv => (hb.cell (lt_of_cell (h2 j v hv))).trans (h2 j v hv), m, (hb.cell (lt_of_cell h3)).trans h3⟩
theorem nmv_at (k : Nat) (hk : k < 64) : (TX.nmL.map NM.tv)[k]? = some (.string ⟨(TX.nmL.getD k []).toArray⟩) := by
  rw [List.getElem?_map, List.getElem?_eq_getElem (by rw [TX.nmL_len]; exact hk), List.getD_eq_getElem?_getD, List.getElem?_eq_getElem (by rw [TX.nmL_len]; exact hk)]
  rfl
theorem Tb.name {w : World} (h : Tb w) (k : Nat) (hk : k < 64) : w.cell? ⟨0, k, none⟩ = some (.string ⟨(TX.nmL.getD k []).toArray⟩) := by
  have := h.2.1 k _ (nmv_at k hk)
  rw [Nat.zero_add] at this
  exact this
theorem dec_any (n : Int) (w : World) (h0 : -9223372036854775808 ≤ n) (h1 : n ≤ 9223372036854775807) (ht : Tb w) :
    Calls Tryd.prog 41 #[.int .i64 n] w fun e w' => e = .returned (.string ⟨(Lib.itoa n).toArray⟩) ∧ Below w.heap.size w w' := by
  have HT := Lib.hid ht.1
  clear ht
  go_enter Tryd.func41, Tryd.ntmps41
  go_wp2_with (go_at_call 46; refine (Tryd.strconv_FormatInt_10 n h0 h1 _ HT.out).mono ?_; rintro e w' ⟨rfl, k, os, rfl⟩)
  go_ret
  exact ⟨rfl, Lib.below_grow _ _ (Nat.le_refl _) _ _⟩
theorem name_any (op : Int) (w : World) (ht : Tb w) : Calls Tryd.prog 9 #[.int .i64 op] w fun e w' => e = .returned (.string ⟨(TX.nm op).toArray⟩) ∧ w = w' := by
  by_cases h : 0 ≤ op ∧ op < 64
  · obtain ⟨k, rfl⟩ : ∃ k : Nat, op = k := ⟨op.toNat, by omega⟩
    have hk : k < 64 := by omega
    have hc := ht.name k hk
    have e : TX.nm (k : Int) = TX.nmL.getD k [] := by unfold TX.nm; rw [Int.toNat_natCast]
    rw [e]
    generalize TX.nmL.getD k [] = S at *
    clear ht e
    have h1 : decide ((k : Int) < 0) = false := by simp only [decide_eq_false_iff_not]; omega
    have h2 : decide ((64 : Int) ≤ k) = false := by simp only [decide_eq_false_iff_not]; omega
    have h3 : (k : Int) < 64 := by omega
    have h4 : (0 : Int) ≤ k := by omega
    go_enter Tryd.func9, Tryd.ntmps9
    go_wp2
    go_ret
    exact ⟨rfl, rfl⟩
  · have e : TX.nm op = [] := TX.nm_out (by omega)
    rw [e]
    clear ht e
    by_cases h0 : op < 0
    · go_enter Tryd.func9, Tryd.ntmps9
      go_wp2
      go_ret
      exact ⟨rfl, rfl⟩
    · have h1 : decide (op < 0) = false := by simpa using h0
      have h2 : decide ((64 : Int) ≤ op) = true := by simp only [decide_eq_true_iff]; omega
      go_enter Tryd.func9, Tryd.ntmps9
      go_wp2
      go_ret
      exact ⟨rfl, rfl⟩
theorem ret_int {k : IntKind} {a b : Int} (h : a = b) : Ending.returned (.int k a) = .returned (.int k b) := by rw [h]
theorem ba_eq {l : List UInt8} {s : ByteArray} (h : l = s.data.toList) : (⟨l.toArray⟩ : ByteArray) = s := by
  rw [h]
theorem ba_ne {l : List UInt8} {s : ByteArray} (h : ¬ (⟨l.toArray⟩ : ByteArray) = s) : l ≠ s.data.toList := fun e => h (ba_eq e)
theorem index_names (A : List Value) (k : Nat) (v : Value) (hk : k < 64) (h : A[k]? = some v) (w : World) : (Instr.index 39 (.agg A.toArray) (.int .i64 k)).run Tryd.prog w = .ok v w := by
  simp [Instr.index, run_underlying Tryd.underlying39, asIntOf, part, Tryd.isAgg9, Tryd.sizeOf9, h, hk, go_sem]
theorem eq_lists {l : List UInt8} {S s : ByteArray} (hS : (⟨l.toArray⟩ : ByteArray) = S) (h : S.toList = s.toList) : l = s.data.toList := by
  rw [← hS, ByteArray.toList_eq, ByteArray.toList_eq] at h
  exact h
theorem ne_lists {l : List UInt8} {S s : ByteArray} (hS : (⟨l.toArray⟩ : ByteArray) = S) (h : ¬ S.toList = s.toList) : l ≠ s.data.toList := fun e => h (by
  rw [← hS, ByteArray.toList_eq, ByteArray.toList_eq, e])
set_option maxHeartbeats 800000 in
theorem op_any (s : ByteArray) (w : World) (ht : Tb w) : Calls Tryd.prog 11 #[.string s] w fun e w' => e = .returned (.int .i64 (TX.oo s.data.toList)) ∧ w = w' := by
  have HR := Lib.hid ht.2.1
  have HN := Lib.hid nmv_at
  have HL := Lib.hid (show (TX.nmL.map NM.tv).length = 64 by rw [List.length_map]; rfl)
  clear ht
  generalize TX.nmL.map NM.tv = A at *
  go_enter Tryd.func11, Tryd.ntmps11
  go_wp2_with (refine wpList_load_mid rfl 39 _ rfl 0 0 rfl A _ HR.out Tryd.underlying39 rfl (by rw [HL.out]; kernel_rfl) ?_)
  go_loopw [6] (fun i wr => ∃ k : Nat, k ≤ 64 ∧ i = .int .i64 k ∧ Hid (∀ j, j < k → TX.nmL.getD j [] ≠ s.data.toList) ∧ w = wr) (fun i _ => 64 - (intOf i).toNat)
  case atStart => exact ⟨0, by omega, rfl, Lib.hid (fun j h => by omega), rfl⟩
  case round =>
    obtain ⟨k, hk, rfl, hn, rfl⟩ := hrel
    by_cases hlt : (k : Int) < 64
    · obtain ⟨S, hS⟩ : ∃ S, (⟨(TX.nmL.getD k []).toArray⟩ : ByteArray) = S := ⟨_, rfl⟩
      have hx := index_names A k _ (by omega) (HN.out k (by omega))
      rw [hS] at hx
      have HS := Lib.hid hS
      clear hS
      by_cases he : S.toList = s.toList
      · have hb : (S.toList == s.toList) = true := by simpa using he
        have HE := Lib.hid (TX.oo_at (by omega) hn.out (eq_lists HS.out he))
        go_wp2
        go_ret
        exact ⟨ret_int HE.out.symm, rfl⟩
      · have hb : (S.toList == s.toList) = false := by simpa using he
        have HE := Lib.hid (ne_lists HS.out he)
        go_wp2
        go_roundw
        case rel =>
          refine ⟨k + 1, by omega, by go_num, Lib.hid fun j hj => ?_, trivial⟩
          rcases Nat.lt_or_ge j k with h | h
          · exact hn.out j h
          · rw [show j = k by omega]; exact HE.out
        case measure => simp [intOf]; omega
    · obtain rfl : k = 64 := by omega
      have HE := Lib.hid (TX.oo_none hn.out)
      go_wp2
      go_ret
      exact ⟨ret_int HE.out.symm, rfl⟩
/-- The reference's row of names. -/
def nv : List Value := TX.nmL.tail.map NM.tv
theorem nv_at (k : Nat) (hk : k < 63) : nv[k]? = some (.string ⟨(TX.nmL.getD (k + 1) []).toArray⟩) := by
  have := nmv_at (k + 1) (by omega)
  unfold nv
  rw [List.map_tail, List.getElem?_tail]
  exact this
set_option maxRecDepth 100000 in
set_option maxHeartbeats 800000 in
theorem names_any (w : World) : Calls Tryd.prog 20 #[] w fun e w' => e = .returned (.slice (some ⟨w.heap.size, 0, none⟩) 63 63) ∧ w' = w.alloc (.cells nv.toArray 9) := by
  go_enter Tryd.func20, Tryd.ntmps20
  go_wp2
  go_ret
  exact ⟨rfl, rfl⟩
theorem nv_cell (w : World) (k : Nat) (hk : k < 63) (T : TypeId) : (w.alloc (.cells nv.toArray T)).cell? ⟨w.heap.size, k, none⟩ = some (.string ⟨(TX.nmL.getD (k + 1) []).toArray⟩) := by
  have h := nv_at k hk
  simp [go_sem, h]
theorem rname_any (op : Int) (w : World) : Calls Tryd.prog 10 #[.int .i64 op] w fun e w' => e = .returned (.string ⟨(TX.nm op).toArray⟩) ∧ Below w.heap.size w w' := by
  by_cases h : 1 ≤ op ∧ op < 64
  · obtain ⟨k, rfl⟩ : ∃ k : Nat, op = ((k + 1 : Nat) : Int) := ⟨(op - 1).toNat, by omega⟩
    have hc := nv_cell w k (by omega) 9
    have e : TX.nm ((k + 1 : Nat) : Int) = TX.nmL.getD (k + 1) [] := by unfold TX.nm; rw [Int.toNat_natCast]
    rw [e]
    generalize TX.nmL.getD (k + 1) [] = S at *
    clear e
    have hb := Lib.hid ((Below.refl _ w).alloc (Nat.le_refl _) (.cells nv.toArray 9))
    obtain ⟨W, hW⟩ : ∃ W, w.alloc (.cells nv.toArray 9) = W := ⟨_, rfl⟩
    rw [hW] at hc hb
    have HW := Lib.hid hW
    clear hW
    obtain ⟨h1, h2⟩ := h
    have h4 : ((k + 1 : Nat) : Int) = (k : Int) + 1 := by omega
    rw [h4] at h1 h2 ⊢
    have h3 : ¬ (63 : Int) < (k : Int) + 1 := by omega
    have h5 : ¬ (k : Int) + 1 < 1 := by omega
    have h6 : (0 : Int) ≤ k := by omega
    have h7 : (k : Int) < 63 := by omega
    go_enter Tryd.func10, Tryd.ntmps10
    go_wp2_with (go_at_call 20; refine (names_any _).mono ?_; rintro e w1 ⟨rfl, rfl⟩; rw [HW.out])
    go_ret
    exact ⟨rfl, hb.out⟩
  · have e : TX.nm op = [] := TX.nm_out (by omega)
    rw [e]
    have hb := Lib.hid ((Below.refl _ w).alloc (Nat.le_refl _) (.cells nv.toArray 9))
    obtain ⟨W, hW⟩ : ∃ W, w.alloc (.cells nv.toArray 9) = W := ⟨_, rfl⟩
    rw [hW] at hb
    have HW := Lib.hid hW
    clear hW
    clear e
    by_cases h0 : op < 1
    · go_enter Tryd.func10, Tryd.ntmps10
      go_wp2_with (go_at_call 20; refine (names_any _).mono ?_; rintro e w1 ⟨rfl, rfl⟩; rw [HW.out])
      go_ret
      exact ⟨rfl, hb.out⟩
    · have h1 : decide (op < 1) = false := by simpa using h0
      have h2 : decide ((63 : Int) < op) = true := by simp only [decide_eq_true_iff]; omega
      go_enter Tryd.func10, Tryd.ntmps10
      go_wp2_with (go_at_call 20; refine (names_any _).mono ?_; rintro e w1 ⟨rfl, rfl⟩; rw [HW.out])
      go_ret
      exact ⟨rfl, hb.out⟩
theorem ne_succ {s : ByteArray} {k : Nat} (h : ∀ j, j < k + 1 → TX.nmL.getD j [] ≠ s.data.toList) {S : ByteArray} (hS : (⟨(TX.nmL.getD (k + 1) []).toArray⟩ : ByteArray) = S) (he : ¬ S.toList = s.toList) : ∀ j, j < k + 1 + 1 → TX.nmL.getD j [] ≠ s.data.toList := fun j hj => by
  rcases Nat.lt_or_ge j (k + 1) with h1 | h1
  · exact h j h1
  · rw [show j = k + 1 by omega]; exact ne_lists hS he
set_option maxHeartbeats 800000 in
theorem rop_some (s : ByteArray) (w : World) (hz : s.data.toList ≠ []) : Calls Tryd.prog 12 #[.string s] w fun e w' => e = .returned (.int .i64 (TX.oo s.data.toList)) ∧ Below w.heap.size w w' := by
  have hb := Lib.hid ((Below.refl _ w).alloc (Nat.le_refl _) (.cells nv.toArray 9))
  have HC := Lib.hid (fun k hk => nv_cell w k hk 9)
  have HZ := Lib.hid hz
  clear hz
  obtain ⟨W, hW⟩ : ∃ W, w.alloc (.cells nv.toArray 9) = W := ⟨_, rfl⟩
  rw [hW] at hb HC
  have HW := Lib.hid hW
  clear hW
  go_enter Tryd.func12, Tryd.ntmps12
  go_wp2_with (go_at_call 20; refine (names_any _).mono ?_; rintro e w1 ⟨rfl, rfl⟩; rw [HW.out])
  go_loopw [4] (fun i wr => ∃ k : Nat, k ≤ 63 ∧ i = .int .i64 k ∧ Hid (∀ j, j < k + 1 → TX.nmL.getD j [] ≠ s.data.toList) ∧ W = wr) (fun i _ => 63 - (intOf i).toNat)
  case atStart => exact ⟨0, by omega, rfl, Lib.hid (fun j h => by rw [show j = 0 by omega]; exact fun e => HZ.out e.symm), rfl⟩
  case round =>
    obtain ⟨k, hk, rfl, hn, rfl⟩ := hrel
    by_cases hlt : (k : Int) < 63
    · obtain ⟨S, hS⟩ : ∃ S, (⟨(TX.nmL.getD (k + 1) []).toArray⟩ : ByteArray) = S := ⟨_, rfl⟩
      have hx := HC.out k (by omega)
      rw [hS] at hx
      have HS := Lib.hid hS
      clear hS
      by_cases he : S.toList = s.toList
      · have hb' : (S.toList == s.toList) = true := by simpa using he
        have HE := Lib.hid (TX.oo_at (by omega) hn.out (eq_lists HS.out he))
        go_wp2
        go_ret
        exact ⟨ret_int (by rw [HE.out]; omega), hb.out⟩
      · have hb' : (S.toList == s.toList) = false := by simpa using he
        have HE := Lib.hid (ne_succ hn.out HS.out he)
        go_wp2
        go_roundw
        case rel => exact ⟨k + 1, by omega, by go_num, HE, trivial⟩
        case measure => simp [intOf]; omega
    · obtain rfl : k = 63 := by omega
      have HE := Lib.hid (TX.oo_none hn.out)
      go_wp2
      go_ret
      exact ⟨ret_int HE.out.symm, hb.out⟩
set_option maxHeartbeats 800000 in
theorem rop_none (w : World) : Calls Tryd.prog 12 #[.string ⟨#[]⟩] w fun e w' => e = .returned (.int .i64 0) ∧ Below w.heap.size w w' := by
  have hb := Lib.hid ((Below.refl _ w).alloc (Nat.le_refl _) (.cells nv.toArray 9))
  have HC := Lib.hid (fun k hk => nv_cell w k hk 9)
  obtain ⟨W, hW⟩ : ∃ W, w.alloc (.cells nv.toArray 9) = W := ⟨_, rfl⟩
  rw [hW] at hb HC
  have HW := Lib.hid hW
  clear hW
  go_enter Tryd.func12, Tryd.ntmps12
  go_wp2_with (go_at_call 20; refine (names_any _).mono ?_; rintro e w1 ⟨rfl, rfl⟩; rw [HW.out])
  go_loopw [4] (fun i wr => ∃ k : Nat, k ≤ 63 ∧ i = .int .i64 k ∧ W = wr) (fun i _ => 63 - (intOf i).toNat)
  case atStart => exact ⟨0, by omega, rfl, rfl⟩
  case round =>
    obtain ⟨k, hk, rfl, rfl⟩ := hrel
    by_cases hlt : (k : Int) < 63
    · obtain ⟨S, hS⟩ : ∃ S, (⟨(TX.nmL.getD (k + 1) []).toArray⟩ : ByteArray) = S := ⟨_, rfl⟩
      have hx := HC.out k (by omega)
      rw [hS] at hx
      have he : ¬ S.toList = [] := fun e => TX.fin_ne ⟨k + 1, by omega⟩ (by simp) (by rw [← hS, ByteArray.toList_eq] at e; exact e)
      have hb' : (S.toList == []) = false := by simpa using he
      have hb2 : S.toList.isEmpty = false := by simpa using he
      clear hS
      go_wp2
      go_roundw
      case rel => exact ⟨k + 1, by omega, by go_num, trivial⟩
      case measure => simp [intOf]; omega
    · obtain rfl : k = 63 := by omega
      go_wp2
      go_ret
      exact ⟨rfl, hb.out⟩
theorem rop_any (s : ByteArray) (w : World) : Calls Tryd.prog 12 #[.string s] w fun e w' => e = .returned (.int .i64 (TX.oo s.data.toList)) ∧ Below w.heap.size w w' := by
  by_cases hz : s.data.toList = []
  · have : s = ⟨#[]⟩ := (ba_eq (l := []) (s := s) hz.symm).symm
    subst this
    exact rop_none w
  · exact rop_some s w hz
end Go.Proofs.YtfgkcjalfhbjjaaDoor
