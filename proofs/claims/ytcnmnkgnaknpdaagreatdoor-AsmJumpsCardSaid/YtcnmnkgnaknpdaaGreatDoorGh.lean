/-
  What the walks ask of the package-level variables; and what Name and Op answer, of the package and of the reference.
  What the small functions of the package and of the reference answer: an operand's text, the operands of a form, an instruction with one operand set, the number of a text, a cause's name.
  What the reference's small functions answer: what stands ahead of the first blank, the places behind blanks, the number at a place.
  What Print answers at every instruction, of the package and of the reference; neither changes memory that was there.
  What the reference's Print answers at every instruction; it changes no memory that was there.
  What the package's Parse answers at every text of at most 400,000 bytes; it changes no memory that was there.
-/
import Derived.Test.YtcnmnkgnaknpdaaGreatDoorGc
import Derived.Test.YtcnmnkgnaknpdaaGreatDoorGg
import Derived.Deep.MidRow
import Derived.Lib.AppendIntMem
import Derived.Lib.SmallJoins
import Derived.Test.YtcnmnkgnaknpdaaGreatDoorGf
import Derived.Maps.AppendAt
import Derived.Laws.OwnMore
import Derived.OwnWalk
import Derived.Deep.RegionHeld3

/-! S07WalkA -/
namespace Go.Proofs.YtcnmnkgnaknpdaaGreatDoor.S07
open Go.RowKit S02
/-- The variables read as their texts lay them; one holds some number. -/
def Tb (w : World) : Prop := Lib.TabIs Tryz.prog w "internal/strconv.uint64pow10" .u64 Lib.pow10Tab ∧ w.rangeAt 0 0 (TX.nmL.map NM.tv) ∧ ∃ m, w.cell? ⟨1, 0, none⟩ = some (.int .i64 m)
theorem lt_of_cell {w : World} {p : Addr} {v : Value} (h : w.cell? p = some v) : p.block < w.heap.size := by
  rcases Nat.lt_or_ge p.block w.heap.size with h1 | h1
  · exact h1
  · simp [World.cell?, Array.getElem?_eq_none h1] at h
theorem Tb.on {w w' : World} (h : Tb w) (hb : Below w.heap.size w w') : Tb w' := by
  obtain ⟨h1, h2, m, h3⟩ := h
  exact ⟨Joins.tab_stays (g := 2) (by kernel_rfl) h1 hb (Nat.le_refl _), fun j v hv => (hb.cell (lt_of_cell (h2 j v hv))).trans (h2 j v hv), m, (hb.cell (lt_of_cell h3)).trans h3⟩
theorem nmv_at (k : Nat) (hk : k < 64) : (TX.nmL.map NM.tv)[k]? = some (.string ⟨(TX.nmL.getD k []).toArray⟩) := by
  rw [List.getElem?_map, List.getElem?_eq_getElem (by rw [TX.nmL_len]; exact hk), List.getD_eq_getElem?_getD, List.getElem?_eq_getElem (by rw [TX.nmL_len]; exact hk)]
  rfl
theorem Tb.name {w : World} (h : Tb w) (k : Nat) (hk : k < 64) : w.cell? ⟨0, k, none⟩ = some (.string ⟨(TX.nmL.getD k []).toArray⟩) := by
  have := h.2.1 k _ (nmv_at k hk)
  rw [Nat.zero_add] at this
  exact this
theorem dec_any (n : Int) (w : World) (h0 : -9223372036854775808 ≤ n) (h1 : n ≤ 9223372036854775807) (ht : Tb w) :
    Calls Tryz.prog 19 #[.int .i64 n] w fun e w' => e = .returned (.string ⟨(Lib.itoa n).toArray⟩) ∧ Below w.heap.size w w' := by
  have HT := Lib.hid ht.1
  clear ht
  go_enter Tryz.func19, Tryz.ntmps19
  go_wp2_with (go_at_call 42; refine (Tryz.strconv_FormatInt_10 n h0 h1 _ HT.out).mono ?_; rintro e w' ⟨rfl, k, os, rfl⟩)
  go_ret
  exact ⟨rfl, Lib.below_grow _ _ (Nat.le_refl _) _ _⟩
theorem name_any (op : Int) (w : World) (ht : Tb w) : Calls Tryz.prog 39 #[.int .i64 op] w fun e w' => e = .returned (.string ⟨(TX.nm op).toArray⟩) ∧ w = w' := by
  by_cases h : 0 ≤ op ∧ op < 64
  · obtain ⟨k, rfl⟩ : ∃ k : Nat, op = k := ⟨op.toNat, by omega⟩
    have hk : k < 64 := by omega
    have hc := ht.name k hk
    have e : TX.nm (k : Int) = TX.nmL.getD k [] := by unfold TX.nm; rw [Int.toNat_natCast]
    rw [e]
    generalize TX.nmL.getD k [] = S at *
    clear ht e
    have h1 : decide ((k : Int) < 0) = false := by simp only [decide_eq_false_iff_not]; omega
    have h2 : decide ((64 : Int) ≤ k) = false := by simp only [decide_eq_false_iff_not]; omega
    have h3 : (k : Int) < 64 := by omega
    have h4 : (0 : Int) ≤ k := by omega
    go_enter Tryz.func39, Tryz.ntmps39
    go_wp2
    go_ret
    exact ⟨rfl, rfl⟩
  · have e : TX.nm op = [] := TX.nm_out (by omega)
    rw [e]
    clear ht e
    by_cases h0 : op < 0
    · go_enter Tryz.func39, Tryz.ntmps39
      go_wp2
      go_ret
      exact ⟨rfl, rfl⟩
    · have h1 : decide (op < 0) = false := by simpa using h0
      have h2 : decide ((64 : Int) ≤ op) = true := by simp only [decide_eq_true_iff]; omega
      go_enter Tryz.func39, Tryz.ntmps39
      go_wp2
      go_ret
      exact ⟨rfl, rfl⟩
theorem ret_int {k : IntKind} {a b : Int} (h : a = b) : Ending.returned (.int k a) = .returned (.int k b) := by rw [h]
theorem ba_eq {l : List UInt8} {s : ByteArray} (h : l = s.data.toList) : (⟨l.toArray⟩ : ByteArray) = s := by
  rw [h]
theorem ba_ne {l : List UInt8} {s : ByteArray} (h : ¬ (⟨l.toArray⟩ : ByteArray) = s) : l ≠ s.data.toList := fun e => h (ba_eq e)
theorem index_names (A : List Value) (k : Nat) (v : Value) (hk : k < 64) (h : A[k]? = some v) (w : World) : (Instr.index 136 (.agg A.toArray) (.int .i64 k)).run Tryz.prog w = .ok v w := by
  simp [Instr.index, run_underlying Tryz.underlying136, asIntOf, part, Tryz.isAgg9, Tryz.sizeOf9, h, hk, go_sem]
theorem eq_lists {l : List UInt8} {S s : ByteArray} (hS : (⟨l.toArray⟩ : ByteArray) = S) (h : S.toList = s.toList) : l = s.data.toList := by
  rw [← hS, ByteArray.toList_eq, ByteArray.toList_eq] at h
  exact h
theorem ne_lists {l : List UInt8} {S s : ByteArray} (hS : (⟨l.toArray⟩ : ByteArray) = S) (h : ¬ S.toList = s.toList) : l ≠ s.data.toList := fun e => h (by
  rw [← hS, ByteArray.toList_eq, ByteArray.toList_eq, e])
set_option maxHeartbeats 800000 in
theorem op_any (s : ByteArray) (w : World) (ht : Tb w) : Calls Tryz.prog 161 #[.string s] w fun e w' => e = .returned (.int .i64 (TX.oo s.data.toList)) ∧ w = w' := by
  have HR := Lib.hid ht.2.1
  have HN := Lib.hid nmv_at
  have HL := Lib.hid (show (TX.nmL.map NM.tv).length = 64 by rw [List.length_map]; rfl)
  clear ht
  generalize TX.nmL.map NM.tv = A at *
  go_enter Tryz.func161, Tryz.ntmps161
  go_wp2_with (refine wpList_load_mid rfl 136 _ rfl 0 0 rfl A _ HR.out Tryz.underlying136 rfl (by rw [HL.out]; kernel_rfl) ?_)
  go_loopw [6] (fun i wr => ∃ k : Nat, k ≤ 64 ∧ i = .int .i64 k ∧ Hid (∀ j, j < k → TX.nmL.getD j [] ≠ s.data.toList) ∧ w = wr) (fun i _ => 64 - (intOf i).toNat)
  case atStart => exact ⟨0, by omega, rfl, Lib.hid (fun j h => by omega), rfl⟩
  case round =>
    obtain ⟨k, hk, rfl, hn, rfl⟩ := hrel
    by_cases hlt : (k : Int) < 64
    · obtain ⟨S, hS⟩ : ∃ S, (⟨(TX.nmL.getD k []).toArray⟩ : ByteArray) = S := ⟨_, rfl⟩
      have hx := index_names A k _ (by omega) (HN.out k (by omega))
      rw [hS] at hx
      have HS := Lib.hid hS
      clear hS
      by_cases he : S.toList = s.toList
      · have hb : (S.toList == s.toList) = true := by simpa using he
        have HE := Lib.hid (TX.oo_at (by omega) hn.out (eq_lists HS.out he))
        go_wp2
        go_ret
        exact ⟨ret_int HE.out.symm, rfl⟩
      · have hb : (S.toList == s.toList) = false := by simpa using he
        have HE := Lib.hid (ne_lists HS.out he)
        go_wp2
        go_roundw
        case rel =>
          refine ⟨k + 1, by omega, by go_num, Lib.hid fun j hj => ?_, trivial⟩
          rcases Nat.lt_or_ge j k with h | h
          · exact hn.out j h
          · rw [show j = k by omega]; exact HE.out
        case measure => simp [intOf]; omega
    · obtain rfl : k = 64 := by omega
      have HE := Lib.hid (TX.oo_none hn.out)
      go_wp2
      go_ret
      exact ⟨ret_int HE.out.symm, rfl⟩
/-- The reference's row of names. -/
def nv : List Value := TX.nmL.tail.map NM.tv
theorem nv_at (k : Nat) (hk : k < 63) : nv[k]? = some (.string ⟨(TX.nmL.getD (k + 1) []).toArray⟩) := by
  have := nmv_at (k + 1) (by omega)
  unfold nv
  rw [List.map_tail, List.getElem?_tail]
  exact this
set_option maxRecDepth 100000 in
set_option maxHeartbeats 800000 in
theorem names_any (w : World) : Calls Tryz.prog 110 #[] w fun e w' => e = .returned (.slice (some ⟨w.heap.size, 0, none⟩) 63 63) ∧ w' = w.alloc (.cells nv.toArray 9) := by
  go_enter Tryz.func110, Tryz.ntmps110
  go_wp2
  go_ret
  exact ⟨rfl, rfl⟩
theorem nv_cell (w : World) (k : Nat) (hk : k < 63) (T : TypeId) : (w.alloc (.cells nv.toArray T)).cell? ⟨w.heap.size, k, none⟩ = some (.string ⟨(TX.nmL.getD (k + 1) []).toArray⟩) := by
  have h := nv_at k hk
  simp [go_sem, h]
theorem rname_any (op : Int) (w : World) : Calls Tryz.prog 63 #[.int .i64 op] w fun e w' => e = .returned (.string ⟨(TX.nm op).toArray⟩) ∧ Below w.heap.size w w' := by
  by_cases h : 1 ≤ op ∧ op < 64
  · obtain ⟨k, rfl⟩ : ∃ k : Nat, op = ((k + 1 : Nat) : Int) := ⟨(op - 1).toNat, by omega⟩
    have hc := nv_cell w k (by omega) 9
    have e : TX.nm ((k + 1 : Nat) : Int) = TX.nmL.getD (k + 1) [] := by unfold TX.nm; rw [Int.toNat_natCast]
    rw [e]
    generalize TX.nmL.getD (k + 1) [] = S at *
    clear e
    have hb := Lib.hid ((Below.refl _ w).alloc (Nat.le_refl _) (.cells nv.toArray 9))
    obtain ⟨W, hW⟩ : ∃ W, w.alloc (.cells nv.toArray 9) = W := ⟨_, rfl⟩
    rw [hW] at hc hb
    have HW := Lib.hid hW
    clear hW
    obtain ⟨h1, h2⟩ := h
    have h4 : ((k + 1 : Nat) : Int) = (k : Int) + 1 := by omega
    rw [h4] at h1 h2 ⊢
    have h3 : ¬ (63 : Int) < (k : Int) + 1 := by omega
    have h5 : ¬ (k : Int) + 1 < 1 := by omega
    have h6 : (0 : Int) ≤ k := by omega
    have h7 : (k : Int) < 63 := by omega
    go_enter Tryz.func63, Tryz.ntmps63
    go_wp2_with (go_at_call 110; refine (names_any _).mono ?_; rintro e w1 ⟨rfl, rfl⟩; rw [HW.out])
    go_ret
    exact ⟨rfl, hb.out⟩
  · have e : TX.nm op = [] := TX.nm_out (by omega)
    rw [e]
    have hb := Lib.hid ((Below.refl _ w).alloc (Nat.le_refl _) (.cells nv.toArray 9))
    obtain ⟨W, hW⟩ : ∃ W, w.alloc (.cells nv.toArray 9) = W := ⟨_, rfl⟩
    rw [hW] at hb
    have HW := Lib.hid hW
    clear hW
    clear e
    by_cases h0 : op < 1
    · go_enter Tryz.func63, Tryz.ntmps63
      go_wp2_with (go_at_call 110; refine (names_any _).mono ?_; rintro e w1 ⟨rfl, rfl⟩; rw [HW.out])
      go_ret
      exact ⟨rfl, hb.out⟩
    · have h1 : decide (op < 1) = false := by simpa using h0
      have h2 : decide ((63 : Int) < op) = true := by simp only [decide_eq_true_iff]; omega
      go_enter Tryz.func63, Tryz.ntmps63
      go_wp2_with (go_at_call 110; refine (names_any _).mono ?_; rintro e w1 ⟨rfl, rfl⟩; rw [HW.out])
      go_ret
      exact ⟨rfl, hb.out⟩
theorem ne_succ {s : ByteArray} {k : Nat} (h : ∀ j, j < k + 1 → TX.nmL.getD j [] ≠ s.data.toList) {S : ByteArray} (hS : (⟨(TX.nmL.getD (k + 1) []).toArray⟩ : ByteArray) = S) (he : ¬ S.toList = s.toList) : ∀ j, j < k + 1 + 1 → TX.nmL.getD j [] ≠ s.data.toList := fun j hj => by
  rcases Nat.lt_or_ge j (k + 1) with h1 | h1
  · exact h j h1
  · rw [show j = k + 1 by omega]; exact ne_lists hS he
set_option maxHeartbeats 800000 in
theorem rop_some (s : ByteArray) (w : World) (hz : s.data.toList ≠ []) : Calls Tryz.prog 102 #[.string s] w fun e w' => e = .returned (.int .i64 (TX.oo s.data.toList)) ∧ Below w.heap.size w w' := by
  have hb := Lib.hid ((Below.refl _ w).alloc (Nat.le_refl _) (.cells nv.toArray 9))
  have HC := Lib.hid (fun k hk => nv_cell w k hk 9)
  have HZ := Lib.hid hz
  clear hz
  obtain ⟨W, hW⟩ : ∃ W, w.alloc (.cells nv.toArray 9) = W := ⟨_, rfl⟩
  rw [hW] at hb HC
  have HW := Lib.hid hW
  clear hW
  go_enter Tryz.func102, Tryz.ntmps102
  go_wp2_with (go_at_call 110; refine (names_any _).mono ?_; rintro e w1 ⟨rfl, rfl⟩; rw [HW.out])
  go_loopw [4] (fun i wr => ∃ k : Nat, k ≤ 63 ∧ i = .int .i64 k ∧ Hid (∀ j, j < k + 1 → TX.nmL.getD j [] ≠ s.data.toList) ∧ W = wr) (fun i _ => 63 - (intOf i).toNat)
  case atStart => exact ⟨0, by omega, rfl, Lib.hid (fun j h => by rw [show j = 0 by omega]; exact fun e => HZ.out e.symm), rfl⟩
  case round =>
    obtain ⟨k, hk, rfl, hn, rfl⟩ := hrel
    by_cases hlt : (k : Int) < 63
    · obtain ⟨S, hS⟩ : ∃ S, (⟨(TX.nmL.getD (k + 1) []).toArray⟩ : ByteArray) = S := ⟨_, rfl⟩
      have hx := HC.out k (by omega)
      rw [hS] at hx
      have HS := Lib.hid hS
      clear hS
      by_cases he : S.toList = s.toList
      · have hb' : (S.toList == s.toList) = true := by simpa using he
        have HE := Lib.hid (TX.oo_at (by omega) hn.out (eq_lists HS.out he))
        go_wp2
        go_ret
        exact ⟨ret_int (by rw [HE.out]; omega), hb.out⟩
      · have hb' : (S.toList == s.toList) = false := by simpa using he
        have HE := Lib.hid (ne_succ hn.out HS.out he)
        go_wp2
        go_roundw
        case rel => exact ⟨k + 1, by omega, by go_num, HE, trivial⟩
        case measure => simp [intOf]; omega
    · obtain rfl : k = 63 := by omega
      have HE := Lib.hid (TX.oo_none hn.out)
      go_wp2
      go_ret
      exact ⟨ret_int HE.out.symm, hb.out⟩
set_option maxHeartbeats 800000 in
theorem rop_none (w : World) : Calls Tryz.prog 102 #[.string ⟨#[]⟩] w fun e w' => e = .returned (.int .i64 0) ∧ Below w.heap.size w w' := by
  have hb := Lib.hid ((Below.refl _ w).alloc (Nat.le_refl _) (.cells nv.toArray 9))
  have HC := Lib.hid (fun k hk => nv_cell w k hk 9)
  obtain ⟨W, hW⟩ : ∃ W, w.alloc (.cells nv.toArray 9) = W := ⟨_, rfl⟩
  rw [hW] at hb HC
  have HW := Lib.hid hW
  clear hW
  go_enter Tryz.func102, Tryz.ntmps102
  go_wp2_with (go_at_call 110; refine (names_any _).mono ?_; rintro e w1 ⟨rfl, rfl⟩; rw [HW.out])
  go_loopw [4] (fun i wr => ∃ k : Nat, k ≤ 63 ∧ i = .int .i64 k ∧ W = wr) (fun i _ => 63 - (intOf i).toNat)
  case atStart => exact ⟨0, by omega, rfl, rfl⟩
  case round =>
    obtain ⟨k, hk, rfl, rfl⟩ := hrel
    by_cases hlt : (k : Int) < 63
    · obtain ⟨S, hS⟩ : ∃ S, (⟨(TX.nmL.getD (k + 1) []).toArray⟩ : ByteArray) = S := ⟨_, rfl⟩
      have hx := HC.out k (by omega)
      rw [hS] at hx
      have he : ¬ S.toList = [] := fun e => TX.fin_ne ⟨k + 1, by omega⟩ (by simp) (by rw [← hS, ByteArray.toList_eq] at e; exact e)
      have hb' : (S.toList == []) = false := by simpa using he
      have hb2 : S.toList.isEmpty = false := by simpa using he
      clear hS
      go_wp2
      go_roundw
      case rel => exact ⟨k + 1, by omega, by go_num, trivial⟩
      case measure => simp [intOf]; omega
    · obtain rfl : k = 63 := by omega
      go_wp2
      go_ret
      exact ⟨rfl, hb.out⟩
theorem rop_any (s : ByteArray) (w : World) : Calls Tryz.prog 102 #[.string s] w fun e w' => e = .returned (.int .i64 (TX.oo s.data.toList)) ∧ Below w.heap.size w w' := by
  by_cases hz : s.data.toList = []
  · have : s = ⟨#[]⟩ := (ba_eq (l := []) (s := s) hz.symm).symm
    subst this
    exact rop_none w
  · exact rop_some s w hz
end Go.Proofs.YtcnmnkgnaknpdaaGreatDoor.S07
/-! S07WalkB -/
namespace Go.Proofs.YtcnmnkgnaknpdaaGreatDoor.S07
open Go.RowKit S02 S06
theorem ret_str {a b : ByteArray} (h : a.data.toList = b.data.toList) : Ending.returned (.string a) = .returned (.string b) := S02.ret_str h
theorem itoa_fits (r : Int) (h0 : -9223372036854775808 ≤ r) (h1 : r ≤ 9223372036854775807) : ¬ 9223372036854775807 < 1 + (Lib.itoa r).length := by
  have := Lib.itoa_length_le r h0 h1
  omega
theorem reg_any (r : Int) (w : World) (h0 : -9223372036854775808 ≤ r) (h1 : r ≤ 9223372036854775807) (ht : Tb w) :
    Calls Tryz.prog 71 #[.int .i64 r] w fun e w' => e = .returned (.string ⟨(114 :: Lib.itoa r).toArray⟩) ∧ Below w.heap.size w w' := by
  have HT := Lib.hid ht
  clear ht
  have HE := Lib.hid (show ((⟨#[114]⟩ : ByteArray) ++ ⟨(Lib.itoa r).toArray⟩).data.toList = (⟨(114 :: Lib.itoa r).toArray⟩ : ByteArray).data.toList by rw [NM.data_app]; rfl)
  have hl := itoa_fits r h0 h1
  go_enter Tryz.func71, Tryz.ntmps71
  go_wp2_with (go_at_call 19; refine (dec_any r _ h0 h1 HT.out).mono ?_; rintro e w1 ⟨rfl, hb⟩)
  go_ret
  exact ⟨ret_str HE.out, hb⟩
theorem below_new {w w1 : World} {x : Obj} (h : Below (w.alloc x).heap.size (w.alloc x) w1) : Below w.heap.size w w1 :=
  ((Below.refl _ w).alloc (Nat.le_refl _) x).trans (h.mono (by simp))
theorem Tb.new {w : World} (h : Tb w) (x : Obj) : Tb (w.alloc x) := h.on ((Below.refl _ w).alloc (Nat.le_refl _) x)
theorem written_0 (op d a b m : Int) (w : World) (h : 0 ≤ d ∧ d < 16) (ht : Tb w) :
    Calls Tryz.prog 41 #[.agg #[.int .i64 op, .int .i64 d, .int .i64 a, .int .i64 b, .int .i64 m], .int .i64 0] w fun e w' => e = .returned (.string ⟨(114 :: Lib.itoa d).toArray⟩) ∧ Below w.heap.size w w' := by
  have HT := Lib.hid (ht.new (.cells #[.int .i64 op, .int .i64 d, .int .i64 a, .int .i64 b, .int .i64 m] 45))
  clear ht
  have h0 : -9223372036854775808 ≤ d := by omega
  have h1 : d ≤ 9223372036854775807 := by omega
  clear h
  go_enter Tryz.func41, Tryz.ntmps41
  go_wp2_with (go_at_call 71; refine (reg_any d _ h0 h1 HT.out).mono ?_; rintro e w1 ⟨rfl, hb⟩)
  go_ret
  exact ⟨rfl, below_new hb⟩
theorem written_1 (op d a b m : Int) (w : World) (h : 0 ≤ a ∧ a < 16) (ht : Tb w) :
    Calls Tryz.prog 41 #[.agg #[.int .i64 op, .int .i64 d, .int .i64 a, .int .i64 b, .int .i64 m], .int .i64 1] w fun e w' => e = .returned (.string ⟨(114 :: Lib.itoa a).toArray⟩) ∧ Below w.heap.size w w' := by
  have HT := Lib.hid (ht.new (.cells #[.int .i64 op, .int .i64 d, .int .i64 a, .int .i64 b, .int .i64 m] 45))
  clear ht
  have h0 : -9223372036854775808 ≤ a := by omega
  have h1 : a ≤ 9223372036854775807 := by omega
  clear h
  go_enter Tryz.func41, Tryz.ntmps41
  go_wp2_with (go_at_call 71; refine (reg_any a _ h0 h1 HT.out).mono ?_; rintro e w1 ⟨rfl, hb⟩)
  go_ret
  exact ⟨rfl, below_new hb⟩
theorem written_2 (op d a b m : Int) (w : World) (h : 0 ≤ b ∧ b < 16) (ht : Tb w) :
    Calls Tryz.prog 41 #[.agg #[.int .i64 op, .int .i64 d, .int .i64 a, .int .i64 b, .int .i64 m], .int .i64 2] w fun e w' => e = .returned (.string ⟨(114 :: Lib.itoa b).toArray⟩) ∧ Below w.heap.size w w' := by
  have HT := Lib.hid (ht.new (.cells #[.int .i64 op, .int .i64 d, .int .i64 a, .int .i64 b, .int .i64 m] 45))
  clear ht
  have h0 : -9223372036854775808 ≤ b := by omega
  have h1 : b ≤ 9223372036854775807 := by omega
  clear h
  go_enter Tryz.func41, Tryz.ntmps41
  go_wp2_with (go_at_call 71; refine (reg_any b _ h0 h1 HT.out).mono ?_; rintro e w1 ⟨rfl, hb⟩)
  go_ret
  exact ⟨rfl, below_new hb⟩
theorem written_3 (op d a b m : Int) (w : World) (h : -131072 ≤ m ∧ m < 262144) (ht : Tb w) :
    Calls Tryz.prog 41 #[.agg #[.int .i64 op, .int .i64 d, .int .i64 a, .int .i64 b, .int .i64 m], .int .i64 3] w fun e w' => e = .returned (.string ⟨(Lib.itoa m).toArray⟩) ∧ Below w.heap.size w w' := by
  have HT := Lib.hid (ht.new (.cells #[.int .i64 op, .int .i64 d, .int .i64 a, .int .i64 b, .int .i64 m] 45))
  clear ht
  have h0 : -9223372036854775808 ≤ m := by omega
  have h1 : m ≤ 9223372036854775807 := by omega
  clear h
  go_enter Tryz.func41, Tryz.ntmps41
  go_wp2_with (go_at_call 19; refine (dec_any m _ h0 h1 HT.out).mono ?_; rintro e w1 ⟨rfl, hb⟩)
  go_ret
  exact ⟨rfl, below_new hb⟩
theorem written_any (op d a b m : Int) (o : Nat) (w : World) (ho : o ≤ 3) (hd : 0 ≤ d ∧ d < 16) (ha : 0 ≤ a ∧ a < 16) (hb : 0 ≤ b ∧ b < 16) (hm : -131072 ≤ m ∧ m < 262144) (ht : Tb w) :
    Calls Tryz.prog 41 #[.agg #[.int .i64 op, .int .i64 d, .int .i64 a, .int .i64 b, .int .i64 m], .int .i64 o] w fun e w' => e = .returned (.string ⟨(TX.wr d a b m o).toArray⟩) ∧ Below w.heap.size w w' := by
  have : o = 0 ∨ o = 1 ∨ o = 2 ∨ o = 3 := by omega
  rcases this with rfl | rfl | rfl | rfl
  · exact written_0 op d a b m w hd ht
  · exact written_1 op d a b m w ha ht
  · exact written_2 op d a b m w hb ht
  · exact written_3 op d a b m w hm ht
theorem field_0 (op d a b m : Int) (w : World) (h : 0 ≤ d ∧ d < 16) :
    Calls Tryz.prog 65 #[.agg #[.int .i64 op, .int .i64 d, .int .i64 a, .int .i64 b, .int .i64 m], .int .u8 100] w fun e w' => e = .returned (.string ⟨(114 :: Lib.itoa d).toArray⟩) ∧ Below w.heap.size w w' := by
  have h0 : -9223372036854775808 ≤ d := by omega
  have h1 : d ≤ 9223372036854775807 := by omega
  clear h
  have HE := Lib.hid (show ((⟨#[114]⟩ : ByteArray) ++ ⟨(Lib.itoa d).toArray⟩).data.toList = (⟨(114 :: Lib.itoa d).toArray⟩ : ByteArray).data.toList by rw [NM.data_app]; rfl)
  have hl := itoa_fits d h0 h1
  go_enter Tryz.func65, Tryz.ntmps65
  go_wp2_with (go_at_call 111; refine (rdec_any d _ h0 h1).mono ?_; rintro e w1 ⟨rfl, hb⟩)
  go_ret
  exact ⟨ret_str HE.out, below_new hb⟩
theorem field_1 (op d a b m : Int) (w : World) (h : 0 ≤ a ∧ a < 16) :
    Calls Tryz.prog 65 #[.agg #[.int .i64 op, .int .i64 d, .int .i64 a, .int .i64 b, .int .i64 m], .int .u8 97] w fun e w' => e = .returned (.string ⟨(114 :: Lib.itoa a).toArray⟩) ∧ Below w.heap.size w w' := by
  have h0 : -9223372036854775808 ≤ a := by omega
  have h1 : a ≤ 9223372036854775807 := by omega
  clear h
  have HE := Lib.hid (show ((⟨#[114]⟩ : ByteArray) ++ ⟨(Lib.itoa a).toArray⟩).data.toList = (⟨(114 :: Lib.itoa a).toArray⟩ : ByteArray).data.toList by rw [NM.data_app]; rfl)
  have hl := itoa_fits a h0 h1
  go_enter Tryz.func65, Tryz.ntmps65
  go_wp2_with (go_at_call 111; refine (rdec_any a _ h0 h1).mono ?_; rintro e w1 ⟨rfl, hb⟩)
  go_ret
  exact ⟨ret_str HE.out, below_new hb⟩
theorem field_2 (op d a b m : Int) (w : World) (h : 0 ≤ b ∧ b < 16) :
    Calls Tryz.prog 65 #[.agg #[.int .i64 op, .int .i64 d, .int .i64 a, .int .i64 b, .int .i64 m], .int .u8 98] w fun e w' => e = .returned (.string ⟨(114 :: Lib.itoa b).toArray⟩) ∧ Below w.heap.size w w' := by
  have h0 : -9223372036854775808 ≤ b := by omega
  have h1 : b ≤ 9223372036854775807 := by omega
  clear h
  have HE := Lib.hid (show ((⟨#[114]⟩ : ByteArray) ++ ⟨(Lib.itoa b).toArray⟩).data.toList = (⟨(114 :: Lib.itoa b).toArray⟩ : ByteArray).data.toList by rw [NM.data_app]; rfl)
  have hl := itoa_fits b h0 h1
  go_enter Tryz.func65, Tryz.ntmps65
  go_wp2_with (go_at_call 111; refine (rdec_any b _ h0 h1).mono ?_; rintro e w1 ⟨rfl, hb⟩)
  go_ret
  exact ⟨ret_str HE.out, below_new hb⟩
theorem field_3 (op d a b m : Int) (w : World) (h : -131072 ≤ m ∧ m < 262144) :
    Calls Tryz.prog 65 #[.agg #[.int .i64 op, .int .i64 d, .int .i64 a, .int .i64 b, .int .i64 m], .int .u8 105] w fun e w' => e = .returned (.string ⟨(Lib.itoa m).toArray⟩) ∧ Below w.heap.size w w' := by
  have h0 : -9223372036854775808 ≤ m := by omega
  have h1 : m ≤ 9223372036854775807 := by omega
  clear h
  go_enter Tryz.func65, Tryz.ntmps65
  go_wp2_with (go_at_call 111; refine (rdec_any m _ h0 h1).mono ?_; rintro e w1 ⟨rfl, hb⟩)
  go_ret
  exact ⟨rfl, below_new hb⟩
theorem field_any (op d a b m : Int) (o : Nat) (w : World) (ho : o ≤ 3) (hd : 0 ≤ d ∧ d < 16) (ha : 0 ≤ a ∧ a < 16) (hb : 0 ≤ b ∧ b < 16) (hm : -131072 ≤ m ∧ m < 262144) :
    Calls Tryz.prog 65 #[.agg #[.int .i64 op, .int .i64 d, .int .i64 a, .int .i64 b, .int .i64 m], .int .u8 (TX.lt o).toNat] w fun e w' => e = .returned (.string ⟨(TX.wr d a b m o).toArray⟩) ∧ Below w.heap.size w w' := by
  have : o = 0 ∨ o = 1 ∨ o = 2 ∨ o = 3 := by omega
  rcases this with rfl | rfl | rfl | rfl
  · exact field_0 op d a b m w hd
  · exact field_1 op d a b m w ha
  · exact field_2 op d a b m w hb
  · exact field_3 op d a b m w hm
/-- A form's operands as values. -/
def ov (f : Int) : List Value := (TX.os f).map fun (o : Nat) => Value.int .i64 (o : Int)
theorem operands_1 (w : World) : Calls Tryz.prog 40 #[.int .i64 1] w fun e w' => e = .returned (.slice (some ⟨w.heap.size, 0, none⟩) (TX.os 1).length (TX.os 1).length) ∧ w' = w.alloc (.cells (ov 1).toArray 92) := by
  go_enter Tryz.func40, Tryz.ntmps40
  go_wp2
  go_ret
  exact ⟨rfl, rfl⟩
theorem operands_2 (w : World) : Calls Tryz.prog 40 #[.int .i64 2] w fun e w' => e = .returned (.slice (some ⟨w.heap.size, 0, none⟩) (TX.os 2).length (TX.os 2).length) ∧ w' = w.alloc (.cells (ov 2).toArray 92) := by
  go_enter Tryz.func40, Tryz.ntmps40
  go_wp2
  go_ret
  exact ⟨rfl, rfl⟩
theorem operands_3 (w : World) : Calls Tryz.prog 40 #[.int .i64 3] w fun e w' => e = .returned (.slice (some ⟨w.heap.size, 0, none⟩) (TX.os 3).length (TX.os 3).length) ∧ w' = w.alloc (.cells (ov 3).toArray 92) := by
  go_enter Tryz.func40, Tryz.ntmps40
  go_wp2
  go_ret
  exact ⟨rfl, rfl⟩
theorem operands_4 (w : World) : Calls Tryz.prog 40 #[.int .i64 4] w fun e w' => e = .returned (.slice (some ⟨w.heap.size, 0, none⟩) (TX.os 4).length (TX.os 4).length) ∧ w' = w.alloc (.cells (ov 4).toArray 92) := by
  go_enter Tryz.func40, Tryz.ntmps40
  go_wp2
  go_ret
  exact ⟨rfl, rfl⟩
theorem operands_5 (w : World) : Calls Tryz.prog 40 #[.int .i64 5] w fun e w' => e = .returned (.slice (some ⟨w.heap.size, 0, none⟩) (TX.os 5).length (TX.os 5).length) ∧ w' = w.alloc (.cells (ov 5).toArray 92) := by
  go_enter Tryz.func40, Tryz.ntmps40
  go_wp2
  go_ret
  exact ⟨rfl, rfl⟩
theorem operands_6 (w : World) : Calls Tryz.prog 40 #[.int .i64 6] w fun e w' => e = .returned (.slice (some ⟨w.heap.size, 0, none⟩) (TX.os 6).length (TX.os 6).length) ∧ w' = w.alloc (.cells (ov 6).toArray 92) := by
  go_enter Tryz.func40, Tryz.ntmps40
  go_wp2
  go_ret
  exact ⟨rfl, rfl⟩
theorem operands_7 (w : World) : Calls Tryz.prog 40 #[.int .i64 7] w fun e w' => e = .returned (.slice (some ⟨w.heap.size, 0, none⟩) (TX.os 7).length (TX.os 7).length) ∧ w' = w.alloc (.cells (ov 7).toArray 92) := by
  go_enter Tryz.func40, Tryz.ntmps40
  go_wp2
  go_ret
  exact ⟨rfl, rfl⟩
theorem operands_8 (w : World) : Calls Tryz.prog 40 #[.int .i64 8] w fun e w' => e = .returned (.slice (some ⟨w.heap.size, 0, none⟩) (TX.os 8).length (TX.os 8).length) ∧ w' = w.alloc (.cells (ov 8).toArray 92) := by
  go_enter Tryz.func40, Tryz.ntmps40
  go_wp2
  go_ret
  exact ⟨rfl, rfl⟩
theorem operands_9 (w : World) : Calls Tryz.prog 40 #[.int .i64 9] w fun e w' => e = .returned (.slice (some ⟨w.heap.size, 0, none⟩) (TX.os 9).length (TX.os 9).length) ∧ w' = w.alloc (.cells (ov 9).toArray 92) := by
  go_enter Tryz.func40, Tryz.ntmps40
  go_wp2
  go_ret
  exact ⟨rfl, rfl⟩
theorem operands_11 (w : World) : Calls Tryz.prog 40 #[.int .i64 11] w fun e w' => e = .returned (.slice (some ⟨w.heap.size, 0, none⟩) (TX.os 11).length (TX.os 11).length) ∧ w' = w.alloc (.cells (ov 11).toArray 92) := by
  go_enter Tryz.func40, Tryz.ntmps40
  go_wp2
  go_ret
  exact ⟨rfl, rfl⟩
theorem operands_none (w : World) : Calls Tryz.prog 40 #[.int .i64 10] w fun e w' => e = .returned (.slice none 0 0) ∧ w = w' := by
  go_enter Tryz.func40, Tryz.ntmps40
  go_wp2
  go_ret
  exact ⟨rfl, rfl⟩
theorem operands_some (f : Int) (w : World) (hf : 1 ≤ f ∧ f ≤ 11) (h : ¬ f = 10) : Calls Tryz.prog 40 #[.int .i64 f] w fun e w' => e = .returned (.slice (some ⟨w.heap.size, 0, none⟩) (TX.os f).length (TX.os f).length) ∧ w' = w.alloc (.cells (ov f).toArray 92) := by
  have : f = 1 ∨ f = 2 ∨ f = 3 ∨ f = 4 ∨ f = 5 ∨ f = 6 ∨ f = 7 ∨ f = 8 ∨ f = 9 ∨ f = 11 := by omega
  rcases this with rfl | rfl | rfl | rfl | rfl | rfl | rfl | rfl | rfl | rfl
  · exact operands_1 w
  · exact operands_2 w
  · exact operands_3 w
  · exact operands_4 w
  · exact operands_5 w
  · exact operands_6 w
  · exact operands_7 w
  · exact operands_8 w
  · exact operands_9 w
  · exact operands_11 w
theorem fields_1 (w : World) : Calls Tryz.prog 64 #[.int .i64 1] w fun e w' => e = .returned (.string ⟨((TX.os 1).map TX.lt).toArray⟩) ∧ w = w' := by
  go_enter Tryz.func64, Tryz.ntmps64
  go_wp2
  go_ret
  exact ⟨rfl, rfl⟩
theorem fields_2 (w : World) : Calls Tryz.prog 64 #[.int .i64 2] w fun e w' => e = .returned (.string ⟨((TX.os 2).map TX.lt).toArray⟩) ∧ w = w' := by
  go_enter Tryz.func64, Tryz.ntmps64
  go_wp2
  go_ret
  exact ⟨rfl, rfl⟩
theorem fields_3 (w : World) : Calls Tryz.prog 64 #[.int .i64 3] w fun e w' => e = .returned (.string ⟨((TX.os 3).map TX.lt).toArray⟩) ∧ w = w' := by
  go_enter Tryz.func64, Tryz.ntmps64
  go_wp2
  go_ret
  exact ⟨rfl, rfl⟩
theorem fields_4 (w : World) : Calls Tryz.prog 64 #[.int .i64 4] w fun e w' => e = .returned (.string ⟨((TX.os 4).map TX.lt).toArray⟩) ∧ w = w' := by
  go_enter Tryz.func64, Tryz.ntmps64
  go_wp2
  go_ret
  exact ⟨rfl, rfl⟩
theorem fields_5 (w : World) : Calls Tryz.prog 64 #[.int .i64 5] w fun e w' => e = .returned (.string ⟨((TX.os 5).map TX.lt).toArray⟩) ∧ w = w' := by
  go_enter Tryz.func64, Tryz.ntmps64
  go_wp2
  go_ret
  exact ⟨rfl, rfl⟩
theorem fields_6 (w : World) : Calls Tryz.prog 64 #[.int .i64 6] w fun e w' => e = .returned (.string ⟨((TX.os 6).map TX.lt).toArray⟩) ∧ w = w' := by
  go_enter Tryz.func64, Tryz.ntmps64
  go_wp2
  go_ret
  exact ⟨rfl, rfl⟩
theorem fields_7 (w : World) : Calls Tryz.prog 64 #[.int .i64 7] w fun e w' => e = .returned (.string ⟨((TX.os 7).map TX.lt).toArray⟩) ∧ w = w' := by
  go_enter Tryz.func64, Tryz.ntmps64
  go_wp2
  go_ret
  exact ⟨rfl, rfl⟩
theorem fields_8 (w : World) : Calls Tryz.prog 64 #[.int .i64 8] w fun e w' => e = .returned (.string ⟨((TX.os 8).map TX.lt).toArray⟩) ∧ w = w' := by
  go_enter Tryz.func64, Tryz.ntmps64
  go_wp2
  go_ret
  exact ⟨rfl, rfl⟩
theorem fields_9 (w : World) : Calls Tryz.prog 64 #[.int .i64 9] w fun e w' => e = .returned (.string ⟨((TX.os 9).map TX.lt).toArray⟩) ∧ w = w' := by
  go_enter Tryz.func64, Tryz.ntmps64
  go_wp2
  go_ret
  exact ⟨rfl, rfl⟩
theorem fields_11 (w : World) : Calls Tryz.prog 64 #[.int .i64 11] w fun e w' => e = .returned (.string ⟨((TX.os 11).map TX.lt).toArray⟩) ∧ w = w' := by
  go_enter Tryz.func64, Tryz.ntmps64
  go_wp2
  go_ret
  exact ⟨rfl, rfl⟩
theorem fields_10 (w : World) : Calls Tryz.prog 64 #[.int .i64 10] w fun e w' => e = .returned (.string ⟨((TX.os 10).map TX.lt).toArray⟩) ∧ w = w' := by
  go_enter Tryz.func64, Tryz.ntmps64
  go_wp2
  go_ret
  exact ⟨rfl, rfl⟩
theorem fields_any (f : Int) (w : World) (hf : 1 ≤ f ∧ f ≤ 11) : Calls Tryz.prog 64 #[.int .i64 f] w fun e w' => e = .returned (.string ⟨((TX.os f).map TX.lt).toArray⟩) ∧ w = w' := by
  have : f = 1 ∨ f = 2 ∨ f = 3 ∨ f = 4 ∨ f = 5 ∨ f = 6 ∨ f = 7 ∨ f = 8 ∨ f = 9 ∨ f = 11 ∨ f = 10 := by omega
  rcases this with rfl | rfl | rfl | rfl | rfl | rfl | rfl | rfl | rfl | rfl | rfl
  · exact fields_1 w
  · exact fields_2 w
  · exact fields_3 w
  · exact fields_4 w
  · exact fields_5 w
  · exact fields_6 w
  · exact fields_7 w
  · exact fields_8 w
  · exact fields_9 w
  · exact fields_11 w
  · exact fields_10 w
theorem with_0 (op d a b m n : Int) (w : World) :
    Calls Tryz.prog 175 #[.agg #[.int .i64 op, .int .i64 d, .int .i64 a, .int .i64 b, .int .i64 m], .int .i64 0, .int .i64 n] w fun e w' => e = .returned (.agg #[.int .i64 op, .int .i64 n, .int .i64 a, .int .i64 b, .int .i64 m]) ∧ Below w.heap.size w w' := by
  go_enter Tryz.func175, Tryz.ntmps175
  go_wp2
  refine bodyPost_ret (v := .agg #[.int .i64 op, .int .i64 n, .int .i64 a, .int .i64 b, .int .i64 m]) (by simp [results, Tryz.results175, go_sem]) rfl ⟨rfl, ?_⟩
  repeat first | exact Below.refl _ _ | refine Below.setCell ?_ (by simp) _ | refine Below.alloc ?_ (by simp) _
theorem with_1 (op d a b m n : Int) (w : World) :
    Calls Tryz.prog 175 #[.agg #[.int .i64 op, .int .i64 d, .int .i64 a, .int .i64 b, .int .i64 m], .int .i64 1, .int .i64 n] w fun e w' => e = .returned (.agg #[.int .i64 op, .int .i64 d, .int .i64 n, .int .i64 b, .int .i64 m]) ∧ Below w.heap.size w w' := by
  go_enter Tryz.func175, Tryz.ntmps175
  go_wp2
  refine bodyPost_ret (v := .agg #[.int .i64 op, .int .i64 d, .int .i64 n, .int .i64 b, .int .i64 m]) (by simp [results, Tryz.results175, go_sem]) rfl ⟨rfl, ?_⟩
  repeat first | exact Below.refl _ _ | refine Below.setCell ?_ (by simp) _ | refine Below.alloc ?_ (by simp) _
theorem with_2 (op d a b m n : Int) (w : World) :
    Calls Tryz.prog 175 #[.agg #[.int .i64 op, .int .i64 d, .int .i64 a, .int .i64 b, .int .i64 m], .int .i64 2, .int .i64 n] w fun e w' => e = .returned (.agg #[.int .i64 op, .int .i64 d, .int .i64 a, .int .i64 n, .int .i64 m]) ∧ Below w.heap.size w w' := by
  go_enter Tryz.func175, Tryz.ntmps175
  go_wp2
  refine bodyPost_ret (v := .agg #[.int .i64 op, .int .i64 d, .int .i64 a, .int .i64 n, .int .i64 m]) (by simp [results, Tryz.results175, go_sem]) rfl ⟨rfl, ?_⟩
  repeat first | exact Below.refl _ _ | refine Below.setCell ?_ (by simp) _ | refine Below.alloc ?_ (by simp) _
theorem with_3 (op d a b m n : Int) (w : World) :
    Calls Tryz.prog 175 #[.agg #[.int .i64 op, .int .i64 d, .int .i64 a, .int .i64 b, .int .i64 m], .int .i64 3, .int .i64 n] w fun e w' => e = .returned (.agg #[.int .i64 op, .int .i64 d, .int .i64 a, .int .i64 b, .int .i64 n]) ∧ Below w.heap.size w w' := by
  go_enter Tryz.func175, Tryz.ntmps175
  go_wp2
  refine bodyPost_ret (v := .agg #[.int .i64 op, .int .i64 d, .int .i64 a, .int .i64 b, .int .i64 n]) (by simp [results, Tryz.results175, go_sem]) rfl ⟨rfl, ?_⟩
  repeat first | exact Below.refl _ _ | refine Below.setCell ?_ (by simp) _ | refine Below.alloc ?_ (by simp) _
theorem with_any (op n : Int) (q : Int × Int × Int × Int) (o : Nat) (w : World) (ho : o ≤ 3) :
    Calls Tryz.prog 175 #[.agg #[.int .i64 op, .int .i64 q.1, .int .i64 q.2.1, .int .i64 q.2.2.1, .int .i64 q.2.2.2], .int .i64 o, .int .i64 n] w fun e w' => e = .returned (.agg #[.int .i64 op, .int .i64 (TX.wth o n q).1, .int .i64 (TX.wth o n q).2.1, .int .i64 (TX.wth o n q).2.2.1, .int .i64 (TX.wth o n q).2.2.2]) ∧ Below w.heap.size w w' := by
  obtain ⟨d, a, b, m⟩ := q
  have : o = 0 ∨ o = 1 ∨ o = 2 ∨ o = 3 := by omega
  rcases this with rfl | rfl | rfl | rfl
  · exact with_0 op d a b m n w
  · exact with_1 op d a b m n w
  · exact with_2 op d a b m n w
  · exact with_3 op d a b m n w
theorem number_any (s : ByteArray) (w : World) (hs : s.size ≤ 9223372036854775807) : Calls Tryz.prog 176 #[.string s] w fun e w' => e = .returned (.int .i64 (TX.nb s.data.toList)) ∧ Below w.heap.size w w' := by
  have hz := S02.size_trim s [114]
  go_enter Tryz.func176, Tryz.ntmps176
  go_wp2_with (first
    | (go_at_call 183; refine (Tryz.strings_TrimPrefix _ _ _).mono ?_; rintro e w' ⟨rfl, rfl⟩)
    | (go_at_call 126; refine (S02.parse_any _ _ (by simpa using Nat.le_trans hz hs)).mono ?_; rintro e w1 ⟨rfl, hbel⟩))
  go_ret
  exact ⟨rfl, hbel⟩
theorem cs_none {n : Int} (h : ¬ (0 ≤ n ∧ n ≤ 10) ∧ ¬ (16 ≤ n ∧ n ≤ 18)) : TX.cs n = [] := by
  unfold TX.cs
  repeat rw [if_neg (by omega)]
end Go.Proofs.YtcnmnkgnaknpdaaGreatDoor.S07
/-! S07WalkC -/
namespace Go.Proofs.YtcnmnkgnaknpdaaGreatDoor.S07
open Go.RowKit S02 S06
theorem u8_eq {c d : UInt8} (h : (c.toNat : Int) = d.toNat) : c = d := UInt8.toNat_inj.1 (by omega)
set_option maxHeartbeats 800000 in
theorem head_any (s : ByteArray) (w : World) (hs : s.size ≤ 400000) : Calls Tryz.prog 104 #[.string s] w fun e w' => e = .returned (.string ⟨(TX.hd s.data.toList).toArray⟩) ∧ w = w' := by
  have hlen := Lib.hid (NM.len_eq s)
  go_enter Tryz.func104, Tryz.ntmps104
  go_wp2
  go_loopw [3] (fun i wr => ∃ k : Nat, k ≤ s.size ∧ i = .int .i64 k ∧ Hid (∀ j, j < k → s.data.toList.getD j 0 ≠ 32) ∧ w = wr) (fun i _ => s.size - (intOf i).toNat)
  case atStart => exact ⟨0, by omega, rfl, Lib.hid (fun j h => by omega), rfl⟩
  case round =>
    obtain ⟨k, hk, rfl, hn, rfl⟩ := hrel
    by_cases hlt : (k : Int) < s.size
    · have hk1 : k < s.size := by omega
      have hc := Lib.hid (NM.getD_eq s k hk1)
      by_cases he : (s[k].toNat : Int) = 32
      · have HE := Lib.hid (TX.hd_hit s.data.toList k (by rw [hlen.out]; exact hk1) hn.out (by rw [hc.out]; exact u8_eq he))
        go_wp2
        go_ret
        exact ⟨ret_str (by rw [HE.out, Lib.extract_data]; simp), rfl⟩
      · have HE := Lib.hid (show ∀ j, j < k + 1 → s.data.toList.getD j 0 ≠ 32 from fun j hj => by
          rcases Nat.lt_or_ge j k with h | h
          · exact hn.out j h
          · rw [show j = k by omega, hc.out]; exact fun e => he (by rw [e]; rfl))
        go_wp2
        go_roundw
        case rel => exact ⟨k + 1, by omega, by go_num, HE, trivial⟩
        case measure => simp [intOf]; omega
    · obtain rfl : k = s.size := by omega
      have HE := Lib.hid (TX.hd_miss s.data.toList (by rw [hlen.out]; exact hn.out))
      go_wp2
      go_ret
      exact ⟨ret_str (by rw [HE.out]), rfl⟩
theorem int_info : (Tryz.prog.info? 3).map (fun i => (i.zero, i.size, i.bytes)) = some (some (.int .i64 0), 1, 8) := by kernel_rfl
def iv (p : Nat) : Value := .int .i64 (p : Int)
/-- A row of numbers that the call owns; nothing below is changed. -/
def IRow (w wr : World) (v : Value) (acc : List Nat) : Prop := wr.ownsRow w.heap.size 3 1 v acc.length (acc.map iv) ∧ Below w.heap.size w wr
theorem IRow.start (w : World) : IRow w w (.slice none 0 0) [] := ⟨⟨rfl, .inl ⟨rfl, rfl⟩⟩, Below.refl _ w⟩
theorem IRow.app {w wn w1 : World} {v v' x : Value} {acc : List Nat} {y : Nat} {o : Obj} (h : IRow w wn v acc) (hx : x = iv y)
    (hown : w1.ownsRow w.heap.size 3 1 v' (acc.length + 1) (acc.map iv ++ [x])) (hg : (wn.alloc o).grownBy w1 v.ownBlock) : IRow w w1 v' (acc ++ [y]) := by
  subst hx
  refine ⟨by rw [List.length_append, List.map_append]; exact hown, ?_⟩
  refine (h.2.alloc h.2.size o).grown hg (by have := h.2.size; simp; omega) fun k hk => ?_
  rcases h.1.2 with ⟨rfl, _⟩ | ⟨g, cap, cur, rfl, hb, _⟩
  · simp [Value.ownBlock] at hk
  · simp only [Value.ownBlock, Option.some.injEq] at hk
    omega
theorem new_cell (w : World) (x : Value) (t : TypeId) : ∀ j u, [x][j]? = some u → (w.alloc (.cells #[x] t)).cell? ((⟨w.heap.size, 0, none⟩ : Addr).add j) = some u := by
  intro j u hj
  match j, hj with
  | 0, hj => simp at hj; subst hj; simp [Addr.add]
theorem one_int (n : Int) : ∀ u ∈ [Value.int .i64 n], u.oneCell' = true := by
  intro u hu; simp at hu; subst hu; rfl
set_option maxHeartbeats 1600000 in
theorem starts_any (s : ByteArray) (w : World) (hs : s.size ≤ 400000) : Calls Tryz.prog 105 #[.string s] w fun e w' => ∃ v, e = .returned v ∧ IRow w w' v (TX.bq 0 s.data.toList) := by
  obtain ⟨i0, HI⟩ := info_parts int_info
  have HI := Lib.hid HI
  have hlen := Lib.hid (NM.len_eq s)
  go_enter Tryz.func105, Tryz.ntmps105
  go_wp2
  go_loopw [3, 4] (fun v i wr => ∃ (k : Nat) (acc : List Nat), k ≤ s.size ∧ acc.length ≤ k ∧ i = .int .i64 k ∧ Hid (acc ++ TX.bq k (s.data.toList.drop k) = TX.bq 0 s.data.toList) ∧ Hid (IRow w wr v acc)) (fun _ i _ => s.size - (intOf i).toNat)
  case atStart => exact ⟨0, [], by omega, by simp, rfl, Lib.hid rfl, Lib.hid (IRow.start w)⟩
  case round =>
    obtain ⟨k, acc, hk, hacc, rfl, hq, hrow⟩ := hrel
    by_cases hlt : (k : Int) < s.size
    · have hk1 : k < s.size := by omega
      have hc := Lib.hid (NM.getD_eq s k hk1)
      have hst := Lib.hid (TX.bq_step s.data.toList k (by rw [hlen.out]; exact hk1))
      by_cases he : (s[k].toNat : Int) = 32
      · have HE := Lib.hid (show acc ++ [k + 1] ++ TX.bq (k + 1) (s.data.toList.drop (k + 1)) = TX.bq 0 s.data.toList by
          rw [← hq.out, hst.out, if_pos (by rw [hc.out]; exact u8_eq he), List.append_assoc])
        go_wp2_with (at_builtin; refine wpList_append_own _ rfl _ _ 175 rfl w.heap.size 3 i0 (.int .i64 0) 1 8 Tryz.underlying175 HI.out.1 HI.out.2.1 HI.out.2.2.1 HI.out.2.2.2 rfl (by decide) _ _ _ rfl (hrow.out.1.alloc _) ⟨_, 0, none⟩ 1 1 [.int .i64 ((k : Int) + 1)] rfl rfl (new_cell _ _ _) (one_int _) (by unfold maxLen; omega) (by omega) (by have := hrow.out.2.size; simp; omega) ?_)
        intro v' w1 hown hgrow _
        have HR := Lib.hid (hrow.out.app (show Value.int .i64 ((k : Int) + 1) = iv (k + 1) from rfl) hown hgrow)
        clear hown hgrow
        go_wp2
        go_roundw
        case rel => exact ⟨k + 1, acc ++ [k + 1], by omega, by rw [List.length_append, List.length_singleton]; omega, by go_num, HE, HR⟩
        case measure => simp [intOf]; omega
      · have HE := Lib.hid (show acc ++ TX.bq (k + 1) (s.data.toList.drop (k + 1)) = TX.bq 0 s.data.toList by
          rw [← hq.out, hst.out, if_neg (by rw [hc.out]; exact fun e => he (by rw [e]; rfl)), List.nil_append])
        go_wp2
        go_roundw
        case rel => exact ⟨k + 1, acc, by omega, by omega, by go_num, HE, hrow⟩
        case measure => simp [intOf]; omega
    · obtain rfl : k = s.size := by omega
      have HE := Lib.hid (show acc = TX.bq 0 s.data.toList by
        rw [← hq.out, List.drop_eq_nil_of_le (by rw [hlen.out]; omega)]
        simp [TX.bq])
      go_wp2
      go_ret
      rw [← HE.out]
      exact ⟨_, rfl, hrow.out⟩
theorem irow_open {w wr : World} {v : Value} {l : List Nat} (h : IRow w wr v l) :
    (l.length = 0 ∧ ∃ ao cap, v = .slice ao 0 cap) ∨ (∃ g cap, v = .slice (some ⟨g, 0, none⟩) l.length cap ∧ w.heap.size ≤ g ∧ g < wr.heap.size ∧ ∀ i, i < l.length → wr.cell? ⟨g, i, none⟩ = some (.int .i64 (l.getD i 0 : Nat))) := by
  have h1 := h.1
  rcases h1.2 with ⟨h0, h2⟩ | ⟨g, cap, cur, h0, hb, hg, _⟩
  · exact .inl ⟨h2, _, _, h0⟩
  · by_cases hz : l.length = 0
    · exact .inl ⟨hz, _, _, by rw [h0, hz]⟩
    · subst h0
      have hc : ∀ i, i < l.length → wr.cell? ⟨g, i, none⟩ = some (.int .i64 (l.getD i 0 : Nat)) := fun i hi => by
        rw [h1.cellAt i (by omega)]
        simp [hi, iv]
      exact .inr ⟨g, cap, rfl, hb, lt_of_cell (hc 0 (by omega)), hc⟩
set_option maxHeartbeats 1600000 in
theorem rnumber_minus (s : ByteArray) (p : Nat) (w : World) (hs : s.size ≤ 400000) (hpp : p ≤ 400100) (hp : p < s.size) (h45 : (s[p].toNat : Int) = 45) :
    Calls Tryz.prog 106 #[.string s, .int .i64 p] w fun e w' => e = .returned (.int .i64 (TX.rn s.data.toList p)) ∧ w = w' := by
  obtain ⟨D, hD⟩ : ∃ D, TX.dn 9 (s.data.toList.drop (p + 1)) 0 = D := ⟨_, rfl⟩
  have HR : Hid (TX.rn s.data.toList p = -(D : Int)) := Lib.hid (by rw [TX.rn_minus _ p (by rw [NM.len_eq]; exact hp) (by rw [NM.getD_eq s p hp]; exact u8_eq h45), hD])
  have HD := Lib.hid hD
  have hlen := Lib.hid (NM.len_eq s)
  clear hD
  have hp' : (p : Int) < s.size := by omega
  go_enter Tryz.func106, Tryz.ntmps106
  go_wp2
  go_loopw [1, 6, 7] (fun a n i wr => ∃ k q v : Nat, k ≤ 9 ∧ q ≤ p + 1 + k ∧ (v : Int) < 1000000000 ∧ a = .int .i64 q ∧ n = .int .i64 v ∧ i = .int .i64 k ∧ Hid (v < 10 ^ k) ∧ Hid (TX.dn (9 - k) (s.data.toList.drop q) v = D) ∧ w = wr) (fun _ _ i _ => 9 - (intOf i).toNat)
  case atStart => exact ⟨0, p + 1, 0, by omega, by omega, by omega, by first | rfl | go_num, rfl, rfl, Lib.hid (by decide), HD, rfl⟩
  case round =>
    obtain ⟨k, q, v, hk, hq, hv9, rfl, rfl, rfl, hv, hdn, rfl⟩ := hrel
    by_cases hk9 : (k : Int) < 9
    · have hk9' : decide ((k : Int) < 9) = true := by simpa using hk9
      have hv8 : (v : Int) < 100000000 := by
        have := Nat.lt_of_lt_of_le hv.out (Nat.pow_le_pow_right (by omega) (show k ≤ 8 by omega))
        rw [show (10 : Nat) ^ 8 = 100000000 by decide] at this
        omega
      by_cases hqs : (q : Int) < s.size
      · have hqs' : decide ((q : Int) < s.size) = true := by simpa using hqs
        have hq1 : q < s.size := by omega
        have hc := Lib.hid (NM.getD_eq s q hq1)
        have hcl : (s[q].toNat : Int) < 256 := by have := s[q].toNat_lt; omega
        by_cases h48 : (48 : Int) ≤ s[q].toNat
        · have h48' : decide ((48 : Int) ≤ s[q].toNat) = true := by simpa using h48
          by_cases h57 : (s[q].toNat : Int) ≤ 57
          · have h57' : decide ((s[q].toNat : Int) ≤ 57) = true := by simpa using h57
            have HN := Lib.hid (show TX.dn (9 - (k + 1)) (s.data.toList.drop (q + 1)) (10 * v + (s[q].toNat - 48)) = D by
              have := TX.dn_step s.data.toList q (9 - (k + 1)) v (by rw [hlen.out]; exact hq1) (by rw [hc.out]; omega)
              rw [show 9 - (k + 1) + 1 = 9 - k by omega, hdn.out, hc.out] at this
              exact this.symm)
            have HV := Lib.hid (show 10 * v + (s[q].toNat - 48) < 10 ^ (k + 1) by have := hv.out; rw [Nat.pow_succ]; omega)
            go_wp2
            go_roundw
            case rel => exact ⟨k + 1, q + 1, 10 * v + (s[q].toNat - 48), by omega, by omega, by omega, by go_num, congrArg (Value.int .i64) (by omega), by go_num, HV, HN, trivial⟩
            case measure => simp [intOf]; omega
          · have h57' : decide ((s[q].toNat : Int) ≤ 57) = false := by simpa using h57
            have HV := Lib.hid (show v = D by
              have := TX.dn_stop s.data.toList q (9 - (k + 1)) v (by rw [hlen.out]; exact hq1) (by rw [hc.out]; omega)
              rw [show 9 - (k + 1) + 1 = 9 - k by omega, hdn.out] at this
              exact this.symm)
            go_wp2
            go_ret
            exact ⟨ret_int (by rw [HR.out, HV.out]), rfl⟩
        · have h48' : decide ((48 : Int) ≤ s[q].toNat) = false := by simpa using h48
          have HV := Lib.hid (show v = D by
            have := TX.dn_stop s.data.toList q (9 - (k + 1)) v (by rw [hlen.out]; exact hq1) (by rw [hc.out]; omega)
            rw [show 9 - (k + 1) + 1 = 9 - k by omega, hdn.out] at this
            exact this.symm)
          go_wp2
          go_ret
          exact ⟨ret_int (by rw [HR.out, HV.out]), rfl⟩
      · have hqs' : decide ((q : Int) < s.size) = false := by simpa using hqs
        have HV := Lib.hid (show v = D by
          have := TX.dn_end s.data.toList q (9 - k) v (by rw [hlen.out]; omega)
          rw [hdn.out] at this
          exact this.symm)
        go_wp2
        go_ret
        exact ⟨ret_int (by rw [HR.out, HV.out]), rfl⟩
    · have hk9' : decide ((k : Int) < 9) = false := by simpa using hk9
      have HV := Lib.hid (show v = D by
        have := hdn.out
        rw [show 9 - k = 0 by omega, TX.dn] at this
        exact this)
      go_wp2
      go_ret
      exact ⟨ret_int (by rw [HR.out, HV.out]), rfl⟩
set_option maxHeartbeats 1600000 in
theorem rnumber_plus (s : ByteArray) (p : Nat) (w : World) (hs : s.size ≤ 400000) (hpp : p ≤ 400100) (h45 : ¬ (p < s.size ∧ s.data.toList.getD p 0 = 45)) :
    Calls Tryz.prog 106 #[.string s, .int .i64 p] w fun e w' => e = .returned (.int .i64 (TX.rn s.data.toList p)) ∧ w = w' := by
  obtain ⟨D, hD⟩ : ∃ D, TX.dn 9 (s.data.toList.drop (p)) 0 = D := ⟨_, rfl⟩
  have HR : Hid (TX.rn s.data.toList p = (D : Int)) := Lib.hid (by rw [TX.rn_plus _ p (by rw [NM.len_eq]; exact h45), hD])
  have HD := Lib.hid hD
  have hlen := Lib.hid (NM.len_eq s)
  clear hD
  have h45' : ∀ h : p < s.size, ¬ (s[p].toNat : Int) = 45 := fun h e => h45 ⟨h, by rw [NM.getD_eq s p h]; exact u8_eq e⟩
  clear h45
  by_cases hp : p < s.size
  · have hp' : (p : Int) < s.size := by omega
    have hp2 : decide ((p : Int) < s.size) = true := by simpa using hp'
    have h45 := h45' hp
    have h45b : ((s[p].toNat : Int) == 45) = false := by simp only [beq_eq_false_iff_ne]; exact h45
    clear h45'
    go_enter Tryz.func106, Tryz.ntmps106
    go_wp2
    go_loopw [1, 6, 7] (fun a n i wr => ∃ k q v : Nat, k ≤ 9 ∧ q ≤ p + k ∧ (v : Int) < 1000000000 ∧ a = .int .i64 q ∧ n = .int .i64 v ∧ i = .int .i64 k ∧ Hid (v < 10 ^ k) ∧ Hid (TX.dn (9 - k) (s.data.toList.drop q) v = D) ∧ w = wr) (fun _ _ i _ => 9 - (intOf i).toNat)
    case atStart => exact ⟨0, p, 0, by omega, by omega, by omega, by first | rfl | go_num, rfl, rfl, Lib.hid (by decide), HD, rfl⟩
    case round =>
      obtain ⟨k, q, v, hk, hq, hv9, rfl, rfl, rfl, hv, hdn, rfl⟩ := hrel
      by_cases hk9 : (k : Int) < 9
      · have hk9' : decide ((k : Int) < 9) = true := by simpa using hk9
        have hv8 : (v : Int) < 100000000 := by
          have := Nat.lt_of_lt_of_le hv.out (Nat.pow_le_pow_right (by omega) (show k ≤ 8 by omega))
          rw [show (10 : Nat) ^ 8 = 100000000 by decide] at this
          omega
        by_cases hqs : (q : Int) < s.size
        · have hqs' : decide ((q : Int) < s.size) = true := by simpa using hqs
          have hq1 : q < s.size := by omega
          have hc := Lib.hid (NM.getD_eq s q hq1)
          have hcl : (s[q].toNat : Int) < 256 := by have := s[q].toNat_lt; omega
          by_cases h48 : (48 : Int) ≤ s[q].toNat
          · have h48' : decide ((48 : Int) ≤ s[q].toNat) = true := by simpa using h48
            by_cases h57 : (s[q].toNat : Int) ≤ 57
            · have h57' : decide ((s[q].toNat : Int) ≤ 57) = true := by simpa using h57
              have HN := Lib.hid (show TX.dn (9 - (k + 1)) (s.data.toList.drop (q + 1)) (10 * v + (s[q].toNat - 48)) = D by
                have := TX.dn_step s.data.toList q (9 - (k + 1)) v (by rw [hlen.out]; exact hq1) (by rw [hc.out]; omega)
                rw [show 9 - (k + 1) + 1 = 9 - k by omega, hdn.out, hc.out] at this
                exact this.symm)
              have HV := Lib.hid (show 10 * v + (s[q].toNat - 48) < 10 ^ (k + 1) by have := hv.out; rw [Nat.pow_succ]; omega)
              go_wp2
              go_roundw
              case rel => exact ⟨k + 1, q + 1, 10 * v + (s[q].toNat - 48), by omega, by omega, by omega, by go_num, congrArg (Value.int .i64) (by omega), by go_num, HV, HN, trivial⟩
              case measure => simp [intOf]; omega
            · have h57' : decide ((s[q].toNat : Int) ≤ 57) = false := by simpa using h57
              have HV := Lib.hid (show v = D by
                have := TX.dn_stop s.data.toList q (9 - (k + 1)) v (by rw [hlen.out]; exact hq1) (by rw [hc.out]; omega)
                rw [show 9 - (k + 1) + 1 = 9 - k by omega, hdn.out] at this
                exact this.symm)
              go_wp2
              go_ret
              exact ⟨ret_int (by rw [HR.out, HV.out]), rfl⟩
          · have h48' : decide ((48 : Int) ≤ s[q].toNat) = false := by simpa using h48
            have HV := Lib.hid (show v = D by
              have := TX.dn_stop s.data.toList q (9 - (k + 1)) v (by rw [hlen.out]; exact hq1) (by rw [hc.out]; omega)
              rw [show 9 - (k + 1) + 1 = 9 - k by omega, hdn.out] at this
              exact this.symm)
            go_wp2
            go_ret
            exact ⟨ret_int (by rw [HR.out, HV.out]), rfl⟩
        · have hqs' : decide ((q : Int) < s.size) = false := by simpa using hqs
          have HV := Lib.hid (show v = D by
            have := TX.dn_end s.data.toList q (9 - k) v (by rw [hlen.out]; omega)
            rw [hdn.out] at this
            exact this.symm)
          go_wp2
          go_ret
          exact ⟨ret_int (by rw [HR.out, HV.out]), rfl⟩
      · have hk9' : decide ((k : Int) < 9) = false := by simpa using hk9
        have HV := Lib.hid (show v = D by
          have := hdn.out
          rw [show 9 - k = 0 by omega, TX.dn] at this
          exact this)
        go_wp2
        go_ret
        exact ⟨ret_int (by rw [HR.out, HV.out]), rfl⟩

  · have hp2 : decide ((p : Int) < s.size) = false := by simp only [decide_eq_false_iff_not]; omega
    clear h45'
    go_enter Tryz.func106, Tryz.ntmps106
    go_wp2
    go_loopw [1, 6, 7] (fun a n i wr => ∃ k q v : Nat, k ≤ 9 ∧ q ≤ p + k ∧ (v : Int) < 1000000000 ∧ a = .int .i64 q ∧ n = .int .i64 v ∧ i = .int .i64 k ∧ Hid (v < 10 ^ k) ∧ Hid (TX.dn (9 - k) (s.data.toList.drop q) v = D) ∧ w = wr) (fun _ _ i _ => 9 - (intOf i).toNat)
    case atStart => exact ⟨0, p, 0, by omega, by omega, by omega, by first | rfl | go_num, rfl, rfl, Lib.hid (by decide), HD, rfl⟩
    case round =>
      obtain ⟨k, q, v, hk, hq, hv9, rfl, rfl, rfl, hv, hdn, rfl⟩ := hrel
      by_cases hk9 : (k : Int) < 9
      · have hk9' : decide ((k : Int) < 9) = true := by simpa using hk9
        have hv8 : (v : Int) < 100000000 := by
          have := Nat.lt_of_lt_of_le hv.out (Nat.pow_le_pow_right (by omega) (show k ≤ 8 by omega))
          rw [show (10 : Nat) ^ 8 = 100000000 by decide] at this
          omega
        by_cases hqs : (q : Int) < s.size
        · have hqs' : decide ((q : Int) < s.size) = true := by simpa using hqs
          have hq1 : q < s.size := by omega
          have hc := Lib.hid (NM.getD_eq s q hq1)
          have hcl : (s[q].toNat : Int) < 256 := by have := s[q].toNat_lt; omega
          by_cases h48 : (48 : Int) ≤ s[q].toNat
          · have h48' : decide ((48 : Int) ≤ s[q].toNat) = true := by simpa using h48
            by_cases h57 : (s[q].toNat : Int) ≤ 57
            · have h57' : decide ((s[q].toNat : Int) ≤ 57) = true := by simpa using h57
              have HN := Lib.hid (show TX.dn (9 - (k + 1)) (s.data.toList.drop (q + 1)) (10 * v + (s[q].toNat - 48)) = D by
                have := TX.dn_step s.data.toList q (9 - (k + 1)) v (by rw [hlen.out]; exact hq1) (by rw [hc.out]; omega)
                rw [show 9 - (k + 1) + 1 = 9 - k by omega, hdn.out, hc.out] at this
                exact this.symm)
              have HV := Lib.hid (show 10 * v + (s[q].toNat - 48) < 10 ^ (k + 1) by have := hv.out; rw [Nat.pow_succ]; omega)
              go_wp2
              go_roundw
              case rel => exact ⟨k + 1, q + 1, 10 * v + (s[q].toNat - 48), by omega, by omega, by omega, by go_num, congrArg (Value.int .i64) (by omega), by go_num, HV, HN, trivial⟩
              case measure => simp [intOf]; omega
            · have h57' : decide ((s[q].toNat : Int) ≤ 57) = false := by simpa using h57
              have HV := Lib.hid (show v = D by
                have := TX.dn_stop s.data.toList q (9 - (k + 1)) v (by rw [hlen.out]; exact hq1) (by rw [hc.out]; omega)
                rw [show 9 - (k + 1) + 1 = 9 - k by omega, hdn.out] at this
                exact this.symm)
              go_wp2
              go_ret
              exact ⟨ret_int (by rw [HR.out, HV.out]), rfl⟩
          · have h48' : decide ((48 : Int) ≤ s[q].toNat) = false := by simpa using h48
            have HV := Lib.hid (show v = D by
              have := TX.dn_stop s.data.toList q (9 - (k + 1)) v (by rw [hlen.out]; exact hq1) (by rw [hc.out]; omega)
              rw [show 9 - (k + 1) + 1 = 9 - k by omega, hdn.out] at this
              exact this.symm)
            go_wp2
            go_ret
            exact ⟨ret_int (by rw [HR.out, HV.out]), rfl⟩
        · have hqs' : decide ((q : Int) < s.size) = false := by simpa using hqs
          have HV := Lib.hid (show v = D by
            have := TX.dn_end s.data.toList q (9 - k) v (by rw [hlen.out]; omega)
            rw [hdn.out] at this
            exact this.symm)
          go_wp2
          go_ret
          exact ⟨ret_int (by rw [HR.out, HV.out]), rfl⟩
      · have hk9' : decide ((k : Int) < 9) = false := by simpa using hk9
        have HV := Lib.hid (show v = D by
          have := hdn.out
          rw [show 9 - k = 0 by omega, TX.dn] at this
          exact this)
        go_wp2
        go_ret
        exact ⟨ret_int (by rw [HR.out, HV.out]), rfl⟩
theorem rnumber_any (s : ByteArray) (p : Nat) (w : World) (hs : s.size ≤ 400000) (hpp : p ≤ 400100) :
    Calls Tryz.prog 106 #[.string s, .int .i64 p] w fun e w' => e = .returned (.int .i64 (TX.rn s.data.toList p)) ∧ w = w' := by
  by_cases h : p < s.size ∧ s.data.toList.getD p 0 = 45
  · exact rnumber_minus s p w hs hpp h.1 (by rw [← NM.getD_eq s p h.1, h.2]; rfl)
  · exact rnumber_plus s p w hs hpp h
end Go.Proofs.YtcnmnkgnaknpdaaGreatDoor.S07
/-! S07WalkD -/
namespace Go.Proofs.YtcnmnkgnaknpdaaGreatDoor.S07
open Go.RowKit S02 S06
/-- What a round of Print keeps: the instruction and its operands lie where they lay. -/
def PW (w wr : World) (g h : Nat) (op d a b m : Int) (l : List Nat) : Prop :=
  At wr g op d a b m ∧ g < wr.heap.size ∧ h < wr.heap.size ∧ (∀ j, j < l.length → wr.cell? ⟨h, j, none⟩ = some (.int .i64 (l.getD j 4 : Nat))) ∧ Below w.heap.size w wr ∧ Tb wr
theorem PW.on {w wr w1 : World} {g h : Nat} {op d a b m : Int} {l : List Nat} (hp : PW w wr g h op d a b m l) (hb : Below wr.heap.size wr w1) : PW w w1 g h op d a b m l := by
  obtain ⟨hA, hg, hh, hc, hB, hT⟩ := hp
  exact ⟨hA.below hg hb, Nat.lt_of_lt_of_le hg hb.size, Nat.lt_of_lt_of_le hh hb.size, fun j hj => (hb.cell hh).trans (hc j hj), hB.trans (hb.mono hB.size), hT.on hb⟩
theorem ov_cell (w : World) (f : Int) (T : TypeId) (j : Nat) (hj : j < (TX.os f).length) : (w.alloc (.cells (ov f).toArray T)).cell? ⟨w.heap.size, j, none⟩ = some (.int .i64 ((TX.os f).getD j 4 : Nat)) := by
  have h : (ov f)[j]? = some (.int .i64 ((TX.os f).getD j 4 : Nat)) := by
    unfold ov
    rw [List.getElem?_map, List.getElem?_eq_getElem hj, List.getD_eq_getElem?_getD, List.getElem?_eq_getElem hj]
    rfl
  simp [go_sem, h]
theorem PW.start {w w1 : World} {op d a b m f : Int} (hb : Below (w.alloc (.cells #[.int .i64 op, .int .i64 d, .int .i64 a, .int .i64 b, .int .i64 m] 45)).heap.size (w.alloc (.cells #[.int .i64 op, .int .i64 d, .int .i64 a, .int .i64 b, .int .i64 m] 45)) w1) (ht : Tb w1) :
    PW w (w1.alloc (.cells (ov f).toArray 92)) w.heap.size w1.heap.size op d a b m (TX.os f) := by
  have hs : w.heap.size < w1.heap.size := Nat.lt_of_lt_of_le (by simp) hb.size
  refine ⟨((At.new w 45 op d a b m).below (by simp) hb).more hs _, by simp; omega, by simp, fun j hj => ov_cell w1 f 92 j hj, (below_new hb).alloc (Nat.le_of_lt hs) _, ht.new _⟩
theorem os_getD_le (f : Int) (k : Nat) (hk : k < (TX.os f).length) : (TX.os f).getD k 4 ≤ 3 := by
  refine TX.os_le f _ ?_
  rw [List.getD_eq_getElem?_getD, List.getElem?_eq_getElem hk]
  exact List.getElem_mem hk
theorem os_len (f : Int) : (TX.os f).length ≤ 3 := by
  rcases TX.os_shape f with e | ⟨o, e⟩ | ⟨o, p, e⟩ | ⟨o, p, q, e⟩ <;> rw [e] <;> simp
theorem ba_size (l : List UInt8) : (⟨l.toArray⟩ : ByteArray).size = l.length := by
  show l.toArray.size = _
  simp
theorem pr_step {op d a b m f : Int} {k : Nat} {S G Y : ByteArray} (hS : S.data.toList = TX.nm op ++ TX.jn d a b m (TX.os f) k) (hG : G.data.toList = if k = 0 then [32] else [44, 32]) (hY : (⟨(TX.wr d a b m ((TX.os f).getD k 4)).toArray⟩ : ByteArray) = Y) :
    (S ++ (G ++ Y)).data.toList = TX.nm op ++ TX.jn d a b m (TX.os f) (k + 1) := by
  rw [NM.data_app, NM.data_app, hS, hG, ← hY, TX.jn]
  simp [List.append_assoc]
set_option maxHeartbeats 800000 in
theorem print_bad (op d a b m : Int) (w : World) (h : ¬ IM.rc op d a b m = 0) :
    Calls Tryz.prog 18 #[.agg #[.int .i64 op, .int .i64 d, .int .i64 a, .int .i64 b, .int .i64 m]] w fun e w' => e = .returned (.string ⟨#[]⟩) ∧ Below w.heap.size w w' := by
  have H1 := Lib.hid (fun W => right_any op d a b m W)
  generalize IM.rc op d a b m = r at *
  have h' : (r == 0) = false := by simpa using h
  go_enter Tryz.func18, Tryz.ntmps18
  go_wp2_with (go_at_call 36; refine (H1.out _).mono ?_; rintro e w1 ⟨rfl, hb⟩)
  go_ret
  exact ⟨rfl, below_new hb⟩
set_option maxHeartbeats 1600000 in
theorem print_none (op d a b m : Int) (w : World) (h : IM.rc op d a b m = 0) (hf : IM.fm op = 10) (ht : Tb w) :
    Calls Tryz.prog 18 #[.agg #[.int .i64 op, .int .i64 d, .int .i64 a, .int .i64 b, .int .i64 m]] w fun e w' => e = .returned (.string ⟨(TX.nm op).toArray⟩) ∧ Below w.heap.size w w' := by
  have H1 := Lib.hid (fun W => right_any op d a b m W)
  have H2 := Lib.hid (fun W => form_any op W)
  rw [h] at H1
  rw [hf] at H2
  have HT := Lib.hid (ht.new (.cells #[.int .i64 op, .int .i64 d, .int .i64 a, .int .i64 b, .int .i64 m] 45))
  clear h hf ht
  go_enter Tryz.func18, Tryz.ntmps18
  go_wp2_with fail
  refine (H1.out _).mono ?_; rintro e w1 ⟨rfl, hb⟩
  have A1 := Lib.hid ((At.new w 45 op d a b m).below (by simp) hb)
  have B1 := Lib.hid (below_new hb)
  have T1 := Lib.hid (HT.out.on hb)
  clear hb HT
  obtain ⟨⟨c0, c1, c2, c3, c4⟩, f0, f1, f2, f3, f4⟩ := A1.out
  clear A1
  go_wp2_with (first
    | (go_at_call 39; refine (name_any _ _ T1.out).mono ?_; rintro e w2 ⟨rfl, rfl⟩)
    | (go_at_call 38; refine (H2.out _).mono ?_; rintro e w2 ⟨rfl, rfl⟩)
    | (go_at_call 40; refine (operands_none _).mono ?_; rintro e w2 ⟨rfl, rfl⟩))
  refine wp_loop_rounds 1 ?_
  rw [rounds_succ]
  go_wp2
  go_ret
  exact ⟨rfl, B1.out⟩
set_option maxHeartbeats 1600000 in
theorem print_some (op d a b m f : Int) (w : World) (h : IM.rc op d a b m = 0) (hf : IM.fm op = f) (hf1 : 1 ≤ f ∧ f ≤ 11) (hf2 : ¬ f = 10) (ht : Tb w) :
    Calls Tryz.prog 18 #[.agg #[.int .i64 op, .int .i64 d, .int .i64 a, .int .i64 b, .int .i64 m]] w fun e w' => e = .returned (.string ⟨(TX.nm op ++ TX.jn d a b m (TX.os f) (TX.os f).length).toArray⟩) ∧ Below w.heap.size w w' := by
  have H1 := Lib.hid (fun W => right_any op d a b m W)
  have H2 := Lib.hid (fun W => form_any op W)
  have HV := Lib.hid (TX.rc_parts h).2.2.2.2
  have HO := Lib.hid (IM.rc_ok h)
  rw [h] at H1
  rw [hf] at H2
  have HT := Lib.hid (ht.new (.cells #[.int .i64 op, .int .i64 d, .int .i64 a, .int .i64 b, .int .i64 m] 45))
  have hn := os_len f
  clear h hf ht
  go_enter Tryz.func18, Tryz.ntmps18
  go_wp2_with fail
  refine (H1.out _).mono ?_; rintro e w1 ⟨rfl, hb⟩
  have A1 := Lib.hid ((At.new w 45 op d a b m).below (by simp) hb)
  have T1 := Lib.hid (HT.out.on hb)
  have P1 := Lib.hid (PW.start (f := f) hb T1.out)
  clear hb HT
  obtain ⟨⟨c0, c1, c2, c3, c4⟩, f0, f1, f2, f3, f4⟩ := A1.out
  clear A1
  go_wp2_with (first
    | (go_at_call 39; refine (name_any _ _ T1.out).mono ?_; rintro e w2 ⟨rfl, rfl⟩)
    | (go_at_call 38; refine (H2.out _).mono ?_; rintro e w2 ⟨rfl, rfl⟩)
    | (go_at_call 40; refine (operands_some f _ hf1 hf2).mono ?_; rintro e w2 ⟨rfl, rfl⟩))
  clear c0 c1 c2 c3 c4 f0 f1 f2 f3 f4
  obtain ⟨n, hN⟩ : ∃ n, (TX.os f).length = n := ⟨_, rfl⟩
  have HN := Lib.hid hN
  rw [hN] at hn ⊢
  clear hN
  generalize w1.heap.size = g at *
  go_loopw [3, 4, 18] (fun s q i wr => ∃ (k : Nat) (S G : ByteArray), k ≤ n ∧ S.size ≤ 5 + 24 * k ∧ G.size ≤ 2 ∧ s = .string S ∧ q = .string G ∧ i = .int .i64 k ∧ Hid (S.data.toList = TX.nm op ++ TX.jn d a b m (TX.os f) k) ∧ Hid (G.data.toList = if k = 0 then [32] else [44, 32]) ∧ Hid (PW w wr w.heap.size g op d a b m (TX.os f))) (fun _ _ i _ => n - (intOf i).toNat)
  case atStart =>
    exact ⟨0, _, _, by omega, by rw [ba_size]; have := TX.nm_len op; omega, by decide, rfl, rfl, rfl, Lib.hid (by simp [TX.jn]), Lib.hid rfl, P1⟩
  case round =>
    obtain ⟨k, S, G, hk, hS, hG, rfl, rfl, rfl, hSl, hGl, hP⟩ := hrel
    by_cases hlt : (k : Int) < n
    · have ho := os_getD_le f k (by rw [HN.out]; omega)
      have hx := hP.out.2.2.2.1 k (by rw [HN.out]; omega)
      obtain ⟨Y, hY⟩ : ∃ Y, (⟨(TX.wr d a b m ((TX.os f).getD k 4)).toArray⟩ : ByteArray) = Y := ⟨_, rfl⟩
      have HY := Lib.hid hY
      have hYs : Y.size ≤ 22 := by
        rw [← hY, ba_size]
        exact TX.wr_len HO.out.2.1 HO.out.2.2.1 HO.out.2.2.2.1 HV.out _
      have HS' := Lib.hid (pr_step hSl.out hGl.out hY)
      clear hY
      generalize (TX.os f).getD k 4 = o at *
      have l1 : ¬ 9223372036854775807 < G.size + Y.size := by omega
      have l2 : ¬ 9223372036854775807 < S.size + (G.size + Y.size) := by omega
      obtain ⟨⟨c0, c1, c2, c3, c4⟩, f0, f1, f2, f3, f4⟩ := hP.out.1
      go_wp2_with (go_at_call 41; refine (written_any op d a b m o _ ho HO.out.2.1 HO.out.2.2.1 HO.out.2.2.2.1 HV.out hP.out.2.2.2.2.2).mono ?_; rw [HY.out]; rintro e w2 ⟨rfl, hb⟩)
      have P2 := Lib.hid (hP.out.on hb)
      go_roundw
      case rel =>
        exact ⟨k + 1, _, _, by omega, by simp; omega, by decide, rfl, rfl, by go_num, HS', Lib.hid (by rw [if_neg (by omega)]), P2⟩
      case measure => simp [intOf]; omega
    · obtain rfl : k = n := by omega
      go_wp2
      go_ret
      exact ⟨ret_str (by rw [hSl.out, HN.out]), hP.out.2.2.2.2.1⟩
theorem print_any (op d a b m : Int) (w : World) (ht : Tb w) :
    Calls Tryz.prog 18 #[.agg #[.int .i64 op, .int .i64 d, .int .i64 a, .int .i64 b, .int .i64 m]] w fun e w' => e = .returned (.string ⟨(TX.pr op d a b m).toArray⟩) ∧ Below w.heap.size w w' := by
  by_cases h : IM.rc op d a b m = 0
  · by_cases hf : IM.fm op = 10
    · have e : TX.pr op d a b m = TX.nm op := by
        unfold TX.pr
        rw [if_pos h, hf]
        simp [TX.os, TX.jn]
      rw [e]
      exact print_none op d a b m w h hf ht
    · have e : TX.pr op d a b m = TX.nm op ++ TX.jn d a b m (TX.os (IM.fm op)) (TX.os (IM.fm op)).length := by
        unfold TX.pr
        rw [if_pos h]
      rw [e]
      exact print_some op d a b m _ w h rfl (TX.fm_rng h) hf ht
  · rw [TX.pr_no h]
    exact print_bad op d a b m w h
end Go.Proofs.YtcnmnkgnaknpdaaGreatDoor.S07
/-! S07WalkE -/
namespace Go.Proofs.YtcnmnkgnaknpdaaGreatDoor.S07
open Go.RowKit S02 S06
theorem field_at (op d a b m : Int) (o : Nat) (c : UInt8) (w : World) (hc : c = TX.lt o) (ho : o ≤ 3) (hd : 0 ≤ d ∧ d < 16) (ha : 0 ≤ a ∧ a < 16) (hb : 0 ≤ b ∧ b < 16) (hm : -131072 ≤ m ∧ m < 262144) :
    Calls Tryz.prog 65 #[.agg #[.int .i64 op, .int .i64 d, .int .i64 a, .int .i64 b, .int .i64 m], .int .u8 c.toNat] w fun e w' => e = .returned (.string ⟨(TX.wr d a b m o).toArray⟩) ∧ Below w.heap.size w w' := by
  subst hc
  exact field_any op d a b m o w ho hd ha hb hm
/-- What a round keeps. -/
def QW (w wr : World) (g : Nat) (op d a b m : Int) : Prop := At wr g op d a b m ∧ g < wr.heap.size ∧ Below w.heap.size w wr
theorem QW.on {w wr w1 : World} {g : Nat} {op d a b m : Int} (hp : QW w wr g op d a b m) (hb : Below wr.heap.size wr w1) : QW w w1 g op d a b m := by
  obtain ⟨hA, hg, hB⟩ := hp
  exact ⟨hA.below hg hb, Nat.lt_of_lt_of_le hg hb.size, hB.trans (hb.mono hB.size)⟩
theorem QW.start {w w1 : World} {op d a b m : Int} (hb : Below (w.alloc (.cells #[.int .i64 op, .int .i64 d, .int .i64 a, .int .i64 b, .int .i64 m] 45)).heap.size (w.alloc (.cells #[.int .i64 op, .int .i64 d, .int .i64 a, .int .i64 b, .int .i64 m] 45)) w1) : QW w w1 w.heap.size op d a b m :=
  ⟨(At.new w 45 op d a b m).below (by simp) hb, Nat.lt_of_lt_of_le (by simp) hb.size, below_new hb⟩
def QS (w wr : World) (g : Nat) (op d a b m : Int) : Prop := wr.cell? ⟨g, 0, none⟩ = some (.int .i64 op) ∧ wr.cell? ⟨g, 1, none⟩ = some (.int .i64 d) ∧ wr.cell? ⟨g, 2, none⟩ = some (.int .i64 a) ∧ wr.cell? ⟨g, 3, none⟩ = some (.int .i64 b) ∧ wr.cell? ⟨g, 4, none⟩ = some (.int .i64 m) ∧ Hid (QW w wr g op d a b m)
theorem QS.of {w wr : World} {g : Nat} {op d a b m : Int} (h : QW w wr g op d a b m) : wr.cell? ⟨g, 0, none⟩ = some (.int .i64 op) ∧ wr.cell? ⟨g, 1, none⟩ = some (.int .i64 d) ∧ wr.cell? ⟨g, 2, none⟩ = some (.int .i64 a) ∧ wr.cell? ⟨g, 3, none⟩ = some (.int .i64 b) ∧ wr.cell? ⟨g, 4, none⟩ = some (.int .i64 m) ∧ Hid (QW w wr g op d a b m) :=
  ⟨h.1.1.1, h.1.1.2.1, h.1.1.2.2.1, h.1.1.2.2.2.1, h.1.1.2.2.2.2, Lib.hid h⟩
theorem QS.drew {w wr : World} {g : Nat} {op d a b m : Int} (h : QW w wr g op d a b m) : wr.drew.cell? ⟨g, 0, none⟩ = some (.int .i64 op) ∧ wr.drew.cell? ⟨g, 1, none⟩ = some (.int .i64 d) ∧ wr.drew.cell? ⟨g, 2, none⟩ = some (.int .i64 a) ∧ wr.drew.cell? ⟨g, 3, none⟩ = some (.int .i64 b) ∧ wr.drew.cell? ⟨g, 4, none⟩ = some (.int .i64 m) ∧ Hid (QW w wr.drew g op d a b m) :=
  QS.of (h.on (Below.refl _ _).drew)
theorem QS.call {w wr w1 : World} {g : Nat} {op d a b m : Int} (h : wr.cell? ⟨g, 0, none⟩ = some (.int .i64 op) ∧ wr.cell? ⟨g, 1, none⟩ = some (.int .i64 d) ∧ wr.cell? ⟨g, 2, none⟩ = some (.int .i64 a) ∧ wr.cell? ⟨g, 3, none⟩ = some (.int .i64 b) ∧ wr.cell? ⟨g, 4, none⟩ = some (.int .i64 m) ∧ Hid (QW w wr g op d a b m)) (hb : Below wr.heap.size wr w1) : w1.cell? ⟨g, 0, none⟩ = some (.int .i64 op) ∧ w1.cell? ⟨g, 1, none⟩ = some (.int .i64 d) ∧ w1.cell? ⟨g, 2, none⟩ = some (.int .i64 a) ∧ w1.cell? ⟨g, 3, none⟩ = some (.int .i64 b) ∧ w1.cell? ⟨g, 4, none⟩ = some (.int .i64 m) ∧ Hid (QW w w1 g op d a b m) :=
  QS.of (h.2.2.2.2.2.out.on hb)
theorem QS.end {w wr : World} {g : Nat} {op d a b m : Int} (h : wr.cell? ⟨g, 0, none⟩ = some (.int .i64 op) ∧ wr.cell? ⟨g, 1, none⟩ = some (.int .i64 d) ∧ wr.cell? ⟨g, 2, none⟩ = some (.int .i64 a) ∧ wr.cell? ⟨g, 3, none⟩ = some (.int .i64 b) ∧ wr.cell? ⟨g, 4, none⟩ = some (.int .i64 m) ∧ Hid (QW w wr g op d a b m)) : QW w wr g op d a b m := h.2.2.2.2.2.out
theorem rpr_step {op d a b m f : Int} {k : Nat} {S G Y : ByteArray} (hS : S.data.toList = TX.nm op ++ TX.jn d a b m (TX.os f) k) (hG : G.data.toList = if k = 0 then [32] else [44, 32]) (hY : (⟨(TX.wr d a b m ((TX.os f).getD k 4)).toArray⟩ : ByteArray) = Y) :
    (S ++ G ++ Y).data.toList = TX.nm op ++ TX.jn d a b m (TX.os f) (k + 1) := by
  rw [NM.data_app, NM.data_app, hS, hG, ← hY, TX.jn]
  simp [List.append_assoc]
theorem lts_size (f : Int) : (⟨((TX.os f).map TX.lt).toArray⟩ : ByteArray).size = (TX.os f).length := by rw [ba_size, List.length_map]
theorem lts_at {f : Int} {F : ByteArray} (hF : (⟨((TX.os f).map TX.lt).toArray⟩ : ByteArray) = F) (k : Nat) (hk : k < F.size) : F[k] = TX.lt ((TX.os f).getD k 4) := by
  have h1 := NM.getD_eq F k hk
  rw [← h1, ← hF]
  have hk' : k < (TX.os f).length := by rw [← hF, lts_size] at hk; exact hk
  simp [List.getD_eq_getElem?_getD, hk']
set_option maxHeartbeats 800000 in
theorem rprint_bad (op d a b m : Int) (w : World) (h : ¬ IM.rc op d a b m = 0) :
    Calls Tryz.prog 35 #[.agg #[.int .i64 op, .int .i64 d, .int .i64 a, .int .i64 b, .int .i64 m]] w fun e w' => e = .returned (.string ⟨#[]⟩) ∧ Below w.heap.size w w' := by
  have H1 := Lib.hid (fun W => rright_any op d a b m W)
  generalize IM.rc op d a b m = r at *
  have h' : (r == 0) = false := by simpa using h
  go_enter Tryz.func35, Tryz.ntmps35
  go_wp2_with (go_at_call 62; refine (H1.out _).mono ?_; rintro e w1 ⟨rfl, hb⟩)
  go_ret
  exact ⟨rfl, below_new hb⟩
set_option maxHeartbeats 1600000 in
theorem rprint_ok (op d a b m f : Int) (w : World) (h : IM.rc op d a b m = 0) (hf : IM.fm op = f) (hf1 : 1 ≤ f ∧ f ≤ 11) :
    Calls Tryz.prog 35 #[.agg #[.int .i64 op, .int .i64 d, .int .i64 a, .int .i64 b, .int .i64 m]] w fun e w' => e = .returned (.string ⟨(TX.nm op ++ TX.jn d a b m (TX.os f) (TX.os f).length).toArray⟩) ∧ Below w.heap.size w w' := by
  have H1 := Lib.hid (fun W => rright_any op d a b m W)
  have H2 := Lib.hid (fun W => rform_any op W)
  have HV := Lib.hid (TX.rc_parts h).2.2.2.2
  have HO := Lib.hid (IM.rc_ok h)
  rw [h] at H1
  rw [hf] at H2
  have hn := os_len f
  clear h hf
  obtain ⟨F, hF⟩ : ∃ F, (⟨((TX.os f).map TX.lt).toArray⟩ : ByteArray) = F := ⟨_, rfl⟩
  have HF := Lib.hid hF
  have hsz : F.size = (TX.os f).length := by rw [← hF, lts_size]
  have HL := Lib.hid (lts_at hF)
  clear hF
  rw [← hsz] at hn ⊢
  have HZ := Lib.hid hsz
  clear hsz
  go_enter Tryz.func35, Tryz.ntmps35
  go_wp2_with fail
  refine (H1.out _).mono ?_; rintro e w1 ⟨rfl, hb⟩
  have Q1 := Lib.hid (QW.start hb)
  clear hb
  obtain ⟨⟨c0, c1, c2, c3, c4⟩, f0, f1, f2, f3, f4⟩ := Q1.out.1
  go_wp2_with fail
  refine (rname_any op _).mono ?_; rintro e w2 ⟨rfl, hb⟩
  have Q2 := Lib.hid (Q1.out.on hb)
  clear hb Q1 c0 c1 c2 c3 c4 f0 f1 f2 f3 f4
  obtain ⟨⟨c0, c1, c2, c3, c4⟩, f0, f1, f2, f3, f4⟩ := Q2.out.1
  go_wp2_with (first
    | (go_at_call 61; refine (H2.out _).mono ?_; rintro e w3 ⟨rfl, rfl⟩)
    | (go_at_call 64; refine (fields_any f _ hf1).mono ?_; rw [HF.out]; rintro e w3 ⟨rfl, rfl⟩))
  clear c0 c1 c2 c3 c4 f0 f1 f2 f3 f4
  go_loopw [3, 5] (fun s i wr => ∃ (k : Nat) (S : ByteArray), k ≤ F.size ∧ S.size ≤ 5 + 24 * k ∧ s = .string S ∧ i = .int .i64 k ∧ Hid (S.data.toList = TX.nm op ++ TX.jn d a b m (TX.os f) k) ∧ Hid (QW w wr w.heap.size op d a b m)) (fun _ i _ => F.size - (intOf i).toNat)
  case atStart =>
    exact ⟨0, _, by omega, by rw [ba_size]; have := TX.nm_len op; omega, rfl, rfl, Lib.hid (by simp [TX.jn]), Q2⟩
  case round =>
    obtain ⟨k, S, hk, hS, rfl, rfl, hSl, hQ⟩ := hrel
    by_cases hlt : (k : Int) < F.size
    · have hk1 : k < F.size := by omega
      have ho := os_getD_le f k (by rw [← HZ.out]; exact hk1)
      have hc := HL.out k hk1
      obtain ⟨Y, hY⟩ : ∃ Y, (⟨(TX.wr d a b m ((TX.os f).getD k 4)).toArray⟩ : ByteArray) = Y := ⟨_, rfl⟩
      have HY := Lib.hid hY
      have hYs : Y.size ≤ 22 := by
        rw [← hY, ba_size]
        exact TX.wr_len HO.out.2.1 HO.out.2.2.1 HO.out.2.2.2.1 HV.out _
      have HST := Lib.hid (fun G hG => rpr_step (G := G) hSl.out hG hY)
      have hC := Lib.hid (fun W => field_at op d a b m _ _ W hc ho HO.out.2.1 HO.out.2.2.1 HO.out.2.2.2.1 HV.out)
      rw [hY] at hC
      clear hY hc ho
      obtain ⟨⟨c0, c1, c2, c3, c4⟩, f0, f1, f2, f3, f4⟩ := hQ.out.1
      by_cases hk0 : k = 0
      · subst hk0
        have HS' := Lib.hid (HST.out ⟨#[32]⟩ rfl)
        have l1 : ¬ 9223372036854775807 < S.size + 1 := by omega
        have l2 : ¬ 9223372036854775807 < S.size + 1 + Y.size := by omega
        go_wp2_with fail
        go_region_held3 (fun w' => w'.cell? ⟨w.heap.size, 0, none⟩ = some (.int .i64 op) ∧ w'.cell? ⟨w.heap.size, 1, none⟩ = some (.int .i64 d) ∧ w'.cell? ⟨w.heap.size, 2, none⟩ = some (.int .i64 a) ∧ w'.cell? ⟨w.heap.size, 3, none⟩ = some (.int .i64 b) ∧ w'.cell? ⟨w.heap.size, 4, none⟩ = some (.int .i64 m) ∧ Hid (QW w w' w.heap.size op d a b m)) (first | exact QS.drew hQ.out | exact QS.call (by assumption) (by assumption))
          (first | (go_at_call 65; refine (hC.out _).mono ?_; rintro e w2 ⟨rfl, hb⟩))
        all_goals
          have HE := Lib.hid (QS.end (w := w) (op := op) (d := d) (a := a) (b := b) (m := m) (by assumption))
          go_wp2
          go_roundw
          case rel => exact ⟨1, _, by omega, by rw [ByteArray.size_append, ByteArray.size_append, show (⟨#[32]⟩ : ByteArray).size = 1 from rfl]; omega, rfl, by go_num, HS', HE⟩
          case measure => simp [intOf]; omega
      · have HS' := Lib.hid (HST.out ⟨#[44, 32]⟩ (by rw [if_neg hk0]))
        have hk0' : ((k : Int) == 0) = false := by simp; omega
        have hk0'' : ¬ (k : Int) = 0 := by omega
        have l1 : ¬ 9223372036854775807 < S.size + 2 := by omega
        have l2 : ¬ 9223372036854775807 < S.size + 2 + Y.size := by omega
        go_wp2_with fail
        go_region_held3 (fun w' => w'.cell? ⟨w.heap.size, 0, none⟩ = some (.int .i64 op) ∧ w'.cell? ⟨w.heap.size, 1, none⟩ = some (.int .i64 d) ∧ w'.cell? ⟨w.heap.size, 2, none⟩ = some (.int .i64 a) ∧ w'.cell? ⟨w.heap.size, 3, none⟩ = some (.int .i64 b) ∧ w'.cell? ⟨w.heap.size, 4, none⟩ = some (.int .i64 m) ∧ Hid (QW w w' w.heap.size op d a b m)) (first | exact QS.drew hQ.out | exact QS.call (by assumption) (by assumption))
          (first | (go_at_call 65; refine (hC.out _).mono ?_; rintro e w2 ⟨rfl, hb⟩))
        all_goals
          have HE := Lib.hid (QS.end (w := w) (op := op) (d := d) (a := a) (b := b) (m := m) (by assumption))
          go_wp2
          go_roundw
          case rel => exact ⟨k + 1, _, by omega, by rw [ByteArray.size_append, ByteArray.size_append, show (⟨#[44, 32]⟩ : ByteArray).size = 2 from rfl]; omega, rfl, by go_num, HS', HE⟩
          case measure => simp [intOf]; omega
    · obtain rfl : k = F.size := by omega
      go_wp2
      go_ret
      exact ⟨ret_str (by rw [hSl.out]), hQ.out.2.2⟩
theorem rprint_any (op d a b m : Int) (w : World) :
    Calls Tryz.prog 35 #[.agg #[.int .i64 op, .int .i64 d, .int .i64 a, .int .i64 b, .int .i64 m]] w fun e w' => e = .returned (.string ⟨(TX.pr op d a b m).toArray⟩) ∧ Below w.heap.size w w' := by
  by_cases h : IM.rc op d a b m = 0
  · have e : TX.pr op d a b m = TX.nm op ++ TX.jn d a b m (TX.os (IM.fm op)) (TX.os (IM.fm op)).length := by
      unfold TX.pr
      rw [if_pos h]
    rw [e]
    exact rprint_ok op d a b m _ w h rfl (TX.fm_rng h)
  · rw [TX.pr_no h]
    exact rprint_bad op d a b m w h
end Go.Proofs.YtcnmnkgnaknpdaaGreatDoor.S07
/-! S07WalkF -/
namespace Go.Proofs.YtcnmnkgnaknpdaaGreatDoor.S07
open Go.RowKit S02 S06
theorem cut_len (x p : List UInt8) : (Lib.cut x p).1.length ≤ x.length ∧ (Lib.cut x p).2.1.length ≤ x.length := by
  unfold Lib.cut
  split
  · exact ⟨by rw [List.length_take]; omega, by rw [List.length_drop]; omega⟩
  · simp
theorem cut_any (s p : ByteArray) (w : World) (hs : s.size ≤ 400000) (ht : Tb w) : Calls Tryz.prog 92 #[.string s, .string p] w fun e w' =>
    e = .returned (.tuple #[.string ⟨(Lib.cut s.data.toList p.data.toList).1.toArray⟩, .string ⟨(Lib.cut s.data.toList p.data.toList).2.1.toArray⟩, .bool (Lib.cut s.data.toList p.data.toList).2.2]) ∧ Below w.heap.size w w' ∧ w'.heap.size = w.heap.size := by
  obtain ⟨_, _, m, hm⟩ := ht
  refine (Tryz.strings_Cut s p m w (by omega) hm).mono ?_
  rintro e w' ⟨rfl, n, rfl⟩
  exact ⟨rfl, below_drewN (Below.refl _ _) n, by simp⟩
theorem cut_bl (s : ByteArray) (w : World) (hs : s.size ≤ 400000) (ht : Tb w) : Calls Tryz.prog 92 #[.string s, .string ⟨#[32]⟩] w fun e w' =>
    e = .returned (.tuple #[.string ⟨(TX.hd s.data.toList).toArray⟩, .string ⟨(TX.rest s.data.toList).toArray⟩, .bool (Lib.cut s.data.toList [32]).2.2]) ∧ Below w.heap.size w w' ∧ w'.heap.size = w.heap.size := cut_any s ⟨#[32]⟩ w hs ht
theorem cut_cm (s : ByteArray) (w : World) (hs : s.size ≤ 400000) (ht : Tb w) : Calls Tryz.prog 92 #[.string s, .string ⟨#[44, 32]⟩] w fun e w' =>
    e = .returned (.tuple #[.string ⟨(Lib.cut s.data.toList [44, 32]).1.toArray⟩, .string ⟨(Lib.cut s.data.toList [44, 32]).2.1.toArray⟩, .bool (Lib.cut s.data.toList [44, 32]).2.2]) ∧ Below w.heap.size w w' ∧ w'.heap.size = w.heap.size := cut_any s ⟨#[44, 32]⟩ w hs ht
/-- What a round of Parse keeps: the zero result, the instruction so far, the operands' row. -/
def ZW (w wr : World) (r g h : Nat) (op : Int) (q : Int × Int × Int × Int) (l : List Nat) : Prop :=
  At wr r 0 0 0 0 0 ∧ At wr g op q.1 q.2.1 q.2.2.1 q.2.2.2 ∧ (¬ r = g ∧ ¬ h = g) ∧ (r < wr.heap.size ∧ g < wr.heap.size ∧ h < wr.heap.size) ∧ (w.heap.size ≤ r ∧ w.heap.size ≤ g) ∧ (∀ j, j < l.length → wr.cell? ⟨h, j, none⟩ = some (.int .i64 (l.getD j 4 : Nat))) ∧ Below w.heap.size w wr
theorem ZW.on {w wr w1 : World} {r g h : Nat} {op : Int} {q : Int × Int × Int × Int} {l : List Nat} (hz : ZW w wr r g h op q l) (hb : Below wr.heap.size wr w1) : ZW w w1 r g h op q l := by
  obtain ⟨hR, hG, hne, ⟨r1, g1, h1⟩, hge, hc, hB⟩ := hz
  exact ⟨hR.below r1 hb, hG.below g1 hb, hne, ⟨Nat.lt_of_lt_of_le r1 hb.size, Nat.lt_of_lt_of_le g1 hb.size, Nat.lt_of_lt_of_le h1 hb.size⟩, hge, fun j hj => (hb.cell h1).trans (hc j hj), hB.trans (hb.mono hB.size)⟩
/-- Five numbers are stored in a block. -/
abbrev five (w : World) (g : Nat) (a b c d e : Int) : World :=
  ((((w.setCell ⟨g, 0, none⟩ (.int .i64 a)).setCell ⟨g, 1, none⟩ (.int .i64 b)).setCell ⟨g, 2, none⟩ (.int .i64 c)).setCell ⟨g, 3, none⟩ (.int .i64 d)).setCell ⟨g, 4, none⟩ (.int .i64 e)
theorem five_at {w : World} {g : Nat} {o d a b m : Int} (hA : At w g o d a b m) (o' d' a' b' m' : Int) : At (five w g o' d' a' b' m') g o' d' a' b' m' := by
  obtain ⟨⟨c0, c1, c2, c3, c4⟩, f0, f1, f2, f3, f4⟩ := hA
  refine ⟨⟨?_, ?_, ?_, ?_, ?_⟩, ?_, ?_, ?_, ?_, ?_⟩ <;> simp [five, go_sem, c0, c1, c2, c3, c4, f0, f1, f2, f3, f4]
theorem five_other (w : World) (g x : Nat) (o d a b m : Int) (hx : ¬ x = g) (j : Nat) : (five w g o d a b m).cell? ⟨x, j, none⟩ = w.cell? ⟨x, j, none⟩ ∧ (five w g o d a b m).frozen? ⟨x, j, none⟩ = w.frozen? ⟨x, j, none⟩ := by
  have hx' : ¬ g = x := fun h => hx h.symm
  constructor
  · simp [five, go_sem]
  · simp [five, go_sem]
theorem five_size (w : World) (g : Nat) (o d a b m : Int) : (five w g o d a b m).heap.size = w.heap.size := by simp [five, World.setCell]
theorem five_below {W w : World} {g : Nat} (h : Below W.heap.size W w) (hg : W.heap.size ≤ g) (o d a b m : Int) : Below W.heap.size W (five w g o d a b m) :=
  ((((h.setCell hg _).setCell hg _).setCell hg _).setCell hg _).setCell hg _
theorem ZW.put {w wr : World} {r g h : Nat} {op : Int} {q : Int × Int × Int × Int} {l : List Nat} (hz : ZW w wr r g h op q l) (q' : Int × Int × Int × Int) : ZW w (five wr g op q'.1 q'.2.1 q'.2.2.1 q'.2.2.2) r g h op q' l := by
  obtain ⟨hR, hG, hne, hlt, hge, hc, hB⟩ := hz
  obtain ⟨⟨c0, c1, c2, c3, c4⟩, f0, f1, f2, f3, f4⟩ := hR
  have k := fun j => five_other wr g r op q'.1 q'.2.1 q'.2.2.1 q'.2.2.2 hne.1 j
  refine ⟨⟨⟨(k 0).1.trans c0, (k 1).1.trans c1, (k 2).1.trans c2, (k 3).1.trans c3, (k 4).1.trans c4⟩, (k 0).2.trans f0, (k 1).2.trans f1, (k 2).2.trans f2, (k 3).2.trans f3, (k 4).2.trans f4⟩, five_at hG _ _ _ _ _, hne, ?_, hge, fun j hj => (five_other wr g h op _ _ _ _ hne.2 j).1.trans (hc j hj), five_below hB hge.2 _ _ _ _ _⟩
  rw [five_size]
  exact hlt
theorem ZW.start {w W : World} {f op : Int} (hb : Below (w.alloc (.cells #[.int .i64 0, .int .i64 0, .int .i64 0, .int .i64 0, .int .i64 0] 45)).heap.size (w.alloc (.cells #[.int .i64 0, .int .i64 0, .int .i64 0, .int .i64 0, .int .i64 0] 45)) W) :
    ZW w ((W.alloc (.cells #[.int .i64 op, .int .i64 0, .int .i64 0, .int .i64 0, .int .i64 0] 45)).alloc (.cells (ov f).toArray 92)) w.heap.size W.heap.size (W.heap.size + 1) op (0, 0, 0, 0) (TX.os f) := by
  have hs : w.heap.size < W.heap.size := Nat.lt_of_lt_of_le (by simp) hb.size
  refine ⟨(((At.new w 45 0 0 0 0 0).below (by simp) hb).more hs _).more (by simp; omega) _, (At.new W 45 op 0 0 0 0).more (by simp) _, ⟨by omega, by omega⟩, ⟨by simp; omega, by simp; omega, by simp⟩, ⟨Nat.le_refl _, Nat.le_of_lt hs⟩, fun j hj => ?_, ((below_new hb).alloc (Nat.le_of_lt hs) _).alloc (by simp; omega) _⟩
  have := ov_cell (W.alloc (.cells #[.int .i64 op, .int .i64 0, .int .i64 0, .int .i64 0, .int .i64 0] 45)) f 92 j hj
  simpa using this
theorem ZW.start0 {w W : World} {op : Int} (hb : Below (w.alloc (.cells #[.int .i64 0, .int .i64 0, .int .i64 0, .int .i64 0, .int .i64 0] 45)).heap.size (w.alloc (.cells #[.int .i64 0, .int .i64 0, .int .i64 0, .int .i64 0, .int .i64 0] 45)) W) :
    ZW w (W.alloc (.cells #[.int .i64 op, .int .i64 0, .int .i64 0, .int .i64 0, .int .i64 0] 45)) w.heap.size W.heap.size w.heap.size op (0, 0, 0, 0) [] := by
  have hs : w.heap.size < W.heap.size := Nat.lt_of_lt_of_le (by simp) hb.size
  exact ⟨((At.new w 45 0 0 0 0 0).below (by simp) hb).more hs _, At.new W 45 op 0 0 0 0, ⟨by omega, by omega⟩, ⟨by simp; omega, by simp, by simp; omega⟩, ⟨Nat.le_refl _, Nat.le_of_lt hs⟩, fun j hj => by simp at hj, (below_new hb).alloc (Nat.le_of_lt hs) _⟩
theorem stp_next {l : List Nat} {r : List UInt8} {k : Nat} {Y V U : ByteArray} {q : Int × Int × Int × Int} {o : Nat} (hY : Y.data.toList = (TX.stp l r k).1) (hq : (TX.stp l r k).2 = q) (ho : l.getD k 4 = o) (hV : (⟨(Lib.cut Y.data.toList [44, 32]).1.toArray⟩ : ByteArray) = V) (hU : (⟨(Lib.cut Y.data.toList [44, 32]).2.1.toArray⟩ : ByteArray) = U) :
    U.data.toList = (TX.stp l r (k + 1)).1 ∧ (TX.stp l r (k + 1)).2 = TX.wth o (TX.nb V.data.toList) q := by
  rw [TX.stp, ← hY, hq, ho, ← hV, ← hU]
  exact ⟨rfl, rfl⟩
theorem pe_fin_yes {s P : ByteArray} {op : Int} {q : Int × Int × Int × Int} (ho : TX.oo (TX.hd s.data.toList) = op) (h0 : ¬ op = 0) (hq : TX.cand op s.data.toList = q) (hP : (⟨(TX.pr op q.1 q.2.1 q.2.2.1 q.2.2.2).toArray⟩ : ByteArray) = P) (hE : P.toList = s.toList) :
    Ending.returned (.tuple #[.agg #[.int .i64 op, .int .i64 q.1, .int .i64 q.2.1, .int .i64 q.2.2.1, .int .i64 q.2.2.2], .int .i64 0]) = .returned (.tuple #[.agg #[.int .i64 (TX.pq s.data.toList).1, .int .i64 (TX.pq s.data.toList).2.1, .int .i64 (TX.pq s.data.toList).2.2.1, .int .i64 (TX.pq s.data.toList).2.2.2.1, .int .i64 (TX.pq s.data.toList).2.2.2.2], .int .i64 (TX.pe s.data.toList)]) := by
  subst ho
  subst hq
  obtain ⟨e1, e2⟩ := TX.pe_own_yes h0 (eq_lists hP hE)
  rw [e1, e2]
theorem pe_fin_no {s P : ByteArray} {op : Int} {q : Int × Int × Int × Int} (ho : TX.oo (TX.hd s.data.toList) = op) (h0 : ¬ op = 0) (hq : TX.cand op s.data.toList = q) (hP : (⟨(TX.pr op q.1 q.2.1 q.2.2.1 q.2.2.2).toArray⟩ : ByteArray) = P) (hE : ¬ P.toList = s.toList) :
    Ending.returned (.tuple #[.agg #[.int .i64 0, .int .i64 0, .int .i64 0, .int .i64 0, .int .i64 0], .int .i64 2]) = .returned (.tuple #[.agg #[.int .i64 (TX.pq s.data.toList).1, .int .i64 (TX.pq s.data.toList).2.1, .int .i64 (TX.pq s.data.toList).2.2.1, .int .i64 (TX.pq s.data.toList).2.2.2.1, .int .i64 (TX.pq s.data.toList).2.2.2.2], .int .i64 (TX.pe s.data.toList)]) := by
  subst ho
  subst hq
  obtain ⟨e1, e2⟩ := TX.pe_own_no h0 (ne_lists hP hE)
  rw [e1, e2]
set_option maxHeartbeats 1600000 in
theorem parse_some (s : ByteArray) (op f : Int) (w : World) (hs : s.size ≤ 400000) (ho : TX.oo (TX.hd s.data.toList) = op) (h0 : ¬ op = 0) (hf : IM.fm op = f) (hf1 : 1 ≤ f ∧ f ≤ 11) (hf2 : ¬ f = 10) (ht : Tb w) :
    Calls Tryz.prog 165 #[.string s] w fun e w' => e = .returned (.tuple #[.agg #[.int .i64 (TX.pq s.data.toList).1, .int .i64 (TX.pq s.data.toList).2.1, .int .i64 (TX.pq s.data.toList).2.2.1, .int .i64 (TX.pq s.data.toList).2.2.2.1, .int .i64 (TX.pq s.data.toList).2.2.2.2], .int .i64 (TX.pe s.data.toList)]) ∧ Below w.heap.size w w' := by
  have HC := Lib.hid (fun W (hW : Tb W) => cut_bl s W hs hW)
  have HO := Lib.hid (fun W (hW : Tb W) => op_any ⟨(TX.hd s.data.toList).toArray⟩ W hW)
  have HO' : Hid (∀ W, Tb W → Calls Tryz.prog 161 #[.string ⟨(TX.hd s.data.toList).toArray⟩] W fun e w' => e = .returned (.int .i64 op) ∧ W = w') := by rw [← ho]; exact HO
  clear HO
  have H2 := Lib.hid (fun W => form_any op W)
  rw [hf] at H2
  have HT := Lib.hid ht
  have T0 := Lib.hid (ht.new (.cells #[.int .i64 0, .int .i64 0, .int .i64 0, .int .i64 0, .int .i64 0] 45))
  have hn := os_len f
  have h0' : (op == 0) = false := by simpa using h0
  clear ht
  obtain ⟨X, hX⟩ : ∃ X, (⟨(TX.hd s.data.toList).toArray⟩ : ByteArray) = X := ⟨_, rfl⟩
  obtain ⟨R, hR⟩ : ∃ R, (⟨(TX.rest s.data.toList).toArray⟩ : ByteArray) = R := ⟨_, rfl⟩
  obtain ⟨bo, hbo⟩ : ∃ b, (Lib.cut s.data.toList [32]).2.2 = b := ⟨_, rfl⟩
  rw [hX, hR, hbo] at HC
  rw [hX] at HO'
  have hRs : R.size ≤ 400000 := by
    have := (cut_len s.data.toList [32]).2
    rw [NM.len_eq] at this
    rw [← hR, ba_size]
    exact Nat.le_trans this hs
  have HR := Lib.hid hR
  clear hX hR hbo
  go_enter Tryz.func165, Tryz.ntmps165
  go_wp2_with fail
  refine (HC.out _ T0.out).mono ?_; rintro e W ⟨rfl, hb, hz⟩
  have T1 := Lib.hid (T0.out.on hb)
  have Z1 := Lib.hid (ZW.start (f := f) (op := op) hb)
  clear hb hz HC T0
  go_wp2_with (first
    | (go_at_call 161; refine (HO'.out _ T1.out).mono ?_; rintro e w2 ⟨rfl, rfl⟩)
    | (go_at_call 38; refine (H2.out _).mono ?_; rintro e w2 ⟨rfl, rfl⟩)
    | (go_at_call 40; refine (operands_some f _ hf1 hf2).mono ?_; rintro e w2 ⟨rfl, rfl⟩))
  have HOo := Lib.hid ho
  have HQ0 := Lib.hid (show TX.cand op s.data.toList = (TX.stp (TX.os f) (TX.rest s.data.toList) (TX.os f).length).2 by unfold TX.cand; rw [hf])
  clear ho hf
  obtain ⟨n, hN⟩ : ∃ n, (TX.os f).length = n := ⟨_, rfl⟩
  have HN := Lib.hid hN
  rw [hN] at hn HQ0 ⊢
  clear hN T1
  generalize W.heap.size = g at *
  go_loopw [5, 29] (fun x i wr => ∃ (k : Nat) (Y : ByteArray), k ≤ n ∧ Y.size ≤ 400000 ∧ x = .string Y ∧ i = .int .i64 k ∧ Hid (Y.data.toList = (TX.stp (TX.os f) (TX.rest s.data.toList) k).1) ∧ Hid (ZW w wr w.heap.size g (g + 1) op (TX.stp (TX.os f) (TX.rest s.data.toList) k).2 (TX.os f))) (fun _ i _ => n - (intOf i).toNat)
  case atStart => exact ⟨0, R, by omega, hRs, rfl, rfl, Lib.hid (by rw [← HR.out]; rfl), Z1⟩
  case round =>
    obtain ⟨k, Y, hk, hY, rfl, rfl, hYl, hZ⟩ := hrel
    by_cases hlt : (k : Int) < n
    · have ho := os_getD_le f k (by rw [HN.out]; omega)
      have hx := hZ.out.2.2.2.2.2.1 k (by rw [HN.out]; omega)
      obtain ⟨q, hq⟩ : ∃ q, (TX.stp (TX.os f) (TX.rest s.data.toList) k).2 = q := ⟨_, rfl⟩
      obtain ⟨V, hV⟩ : ∃ V, (⟨(Lib.cut Y.data.toList [44, 32]).1.toArray⟩ : ByteArray) = V := ⟨_, rfl⟩
      obtain ⟨U, hU⟩ : ∃ U, (⟨(Lib.cut Y.data.toList [44, 32]).2.1.toArray⟩ : ByteArray) = U := ⟨_, rfl⟩
      obtain ⟨b2, hb2⟩ : ∃ b, (Lib.cut Y.data.toList [44, 32]).2.2 = b := ⟨_, rfl⟩
      obtain ⟨o, hoo⟩ : ∃ o, (TX.os f).getD k 4 = o := ⟨_, rfl⟩
      have HX := Lib.hid (stp_next hYl.out hq hoo hV hU)
      have HCm := Lib.hid (fun W (hW : Tb W) => cut_cm Y W hY hW)
      rw [hV, hU, hb2] at HCm
      have hl := cut_len Y.data.toList [44, 32]
      rw [NM.len_eq] at hl
      have hVs : V.size ≤ 9223372036854775807 := by rw [← hV, ba_size]; omega
      have hUs : U.size ≤ 400000 := by rw [← hU, ba_size]; omega
      clear hl
      rw [hoo] at ho hx
      rw [hq] at hZ
      have HNm := Lib.hid (fun W => number_any V W hVs)
      obtain ⟨nn, hnn⟩ : ∃ x, TX.nb V.data.toList = x := ⟨_, rfl⟩
      rw [hnn] at HNm HX
      have HWt := Lib.hid (fun W => with_any op nn q o W ho)
      obtain ⟨q', hq'⟩ : ∃ x, TX.wth o nn q = x := ⟨_, rfl⟩
      rw [hq'] at HWt HX
      clear hq hV hU hb2 hoo hnn hq' hYl hVs
      go_wp2_with (go_at_call 92; refine (HCm.out _ (HT.out.on hZ.out.2.2.2.2.2.2)).mono ?_; rintro e W2 ⟨rfl, hb, hz⟩)
      have Z2 := Lib.hid (hZ.out.on hb)
      clear hb hz hx hZ
      obtain ⟨⟨c0, c1, c2, c3, c4⟩, f0, f1, f2, f3, f4⟩ := Z2.out.2.1
      go_region_with (first
        | (go_at_call 176; refine (HNm.out _).mono ?_; rintro e w4 ⟨rfl, hb4⟩; have Z4 := Lib.hid ((Z2.out.on (Below.refl _ _).drew).on hb4); obtain ⟨⟨d0, d1, d2, d3, d4⟩, e0, e1, e2, e3, e4⟩ := Z4.out.2.1)
        | (go_at_call 175; refine (HWt.out _).mono ?_; rintro e w5 ⟨rfl, hb5⟩; have Z5 := Lib.hid (Z4.out.on hb5); obtain ⟨⟨r0, r1, r2, r3, r4⟩, s0, s1, s2, s3, s4⟩ := Z5.out.2.1))
      all_goals
        have Z6 := Lib.hid (Z5.out.put q')
        go_wp2
        go_roundw
        case rel => exact ⟨k + 1, U, by omega, hUs, rfl, by go_num, Lib.hid HX.out.1, by rw [HX.out.2]; exact Z6⟩
        case measure => simp [intOf]; omega
    · obtain rfl : k = n := by omega
      obtain ⟨q, hq⟩ : ∃ q, (TX.stp (TX.os f) (TX.rest s.data.toList) k).2 = q := ⟨_, rfl⟩
      rw [hq] at hZ HQ0
      have HQ := HQ0
      clear hq HQ0 hYl
      obtain ⟨P, hP⟩ : ∃ P, (⟨(TX.pr op q.1 q.2.1 q.2.2.1 q.2.2.2).toArray⟩ : ByteArray) = P := ⟨_, rfl⟩
      have HPr := Lib.hid (fun W (hW : Tb W) => print_any op q.1 q.2.1 q.2.2.1 q.2.2.2 W hW)
      rw [hP] at HPr
      obtain ⟨⟨c0, c1, c2, c3, c4⟩, f0, f1, f2, f3, f4⟩ := hZ.out.2.1
      go_wp2_with fail
      refine (HPr.out _ (HT.out.on hZ.out.2.2.2.2.2.2)).mono ?_; rintro e w6 ⟨rfl, hb6⟩
      have Z6 := Lib.hid (hZ.out.on hb6)
      clear hb6 hZ c0 c1 c2 c3 c4 f0 f1 f2 f3 f4
      obtain ⟨⟨c0, c1, c2, c3, c4⟩, f0, f1, f2, f3, f4⟩ := Z6.out.2.1
      obtain ⟨⟨k0, k1, k2, k3, k4⟩, l0, l1, l2, l3, l4⟩ := Z6.out.1
      have n1 := Z6.out.2.2.1.1
      have n2 : ¬ g = w.heap.size := fun e => n1 e.symm
      have B6 := Lib.hid Z6.out.2.2.2.2.2.2
      clear Z6
      by_cases hE : P.toList = s.toList
      · have hE' : (P.toList == s.toList) = true := by simpa using hE
        have HF := Lib.hid (pe_fin_yes HOo.out h0 HQ.out hP hE)
        clear hP
        go_wp2
        refine bodyPost_ret (v := .tuple #[.agg #[.int .i64 op, .int .i64 q.1, .int .i64 q.2.1, .int .i64 q.2.2.1, .int .i64 q.2.2.2], .int .i64 0]) (by simp [results, Tryz.results165, go_sem, k0, k1, k2, k3, k4]) rfl ⟨HF.out, ?_⟩
        exact five_below B6.out (Nat.le_refl _) _ _ _ _ _
      · have hE' : (P.toList == s.toList) = false := by simpa using hE
        have HF := Lib.hid (pe_fin_no HOo.out h0 HQ.out hP hE)
        clear hP
        go_wp2
        refine bodyPost_ret (v := .tuple #[.agg #[.int .i64 0, .int .i64 0, .int .i64 0, .int .i64 0, .int .i64 0], .int .i64 2]) (by simp [results, Tryz.results165, go_sem, k0, k1, k2, k3, k4]) rfl ⟨HF.out, ?_⟩
        exact five_below B6.out (Nat.le_refl _) _ _ _ _ _
set_option maxHeartbeats 1600000 in
theorem parse_none (s : ByteArray) (op : Int) (w : World) (hs : s.size ≤ 400000) (ho : TX.oo (TX.hd s.data.toList) = op) (h0 : ¬ op = 0) (hf : IM.fm op = 10) (ht : Tb w) :
    Calls Tryz.prog 165 #[.string s] w fun e w' => e = .returned (.tuple #[.agg #[.int .i64 (TX.pq s.data.toList).1, .int .i64 (TX.pq s.data.toList).2.1, .int .i64 (TX.pq s.data.toList).2.2.1, .int .i64 (TX.pq s.data.toList).2.2.2.1, .int .i64 (TX.pq s.data.toList).2.2.2.2], .int .i64 (TX.pe s.data.toList)]) ∧ Below w.heap.size w w' := by
  have HC := Lib.hid (fun W (hW : Tb W) => cut_bl s W hs hW)
  have HO := Lib.hid (fun W (hW : Tb W) => op_any ⟨(TX.hd s.data.toList).toArray⟩ W hW)
  have HO' : Hid (∀ W, Tb W → Calls Tryz.prog 161 #[.string ⟨(TX.hd s.data.toList).toArray⟩] W fun e w' => e = .returned (.int .i64 op) ∧ W = w') := by rw [← ho]; exact HO
  clear HO
  have H2 := Lib.hid (fun W => form_any op W)
  rw [hf] at H2
  have HT := Lib.hid ht
  have T0 := Lib.hid (ht.new (.cells #[.int .i64 0, .int .i64 0, .int .i64 0, .int .i64 0, .int .i64 0] 45))
  have h0' : (op == 0) = false := by simpa using h0
  clear ht
  obtain ⟨X, hX⟩ : ∃ X, (⟨(TX.hd s.data.toList).toArray⟩ : ByteArray) = X := ⟨_, rfl⟩
  obtain ⟨R, hR⟩ : ∃ R, (⟨(TX.rest s.data.toList).toArray⟩ : ByteArray) = R := ⟨_, rfl⟩
  obtain ⟨bo, hbo⟩ : ∃ b, (Lib.cut s.data.toList [32]).2.2 = b := ⟨_, rfl⟩
  rw [hX, hR, hbo] at HC
  rw [hX] at HO'
  have hRs : R.size ≤ 400000 := by
    have := (cut_len s.data.toList [32]).2
    rw [NM.len_eq] at this
    rw [← hR, ba_size]
    exact Nat.le_trans this hs
  have HR := Lib.hid hR
  clear hX hR hbo
  go_enter Tryz.func165, Tryz.ntmps165
  go_wp2_with fail
  refine (HC.out _ T0.out).mono ?_; rintro e W ⟨rfl, hb, hz⟩
  have T1 := Lib.hid (T0.out.on hb)
  have Z1 := Lib.hid (ZW.start0 (op := op) hb)
  clear hb hz HC T0
  go_wp2_with (first
    | (go_at_call 161; refine (HO'.out _ T1.out).mono ?_; rintro e w2 ⟨rfl, rfl⟩)
    | (go_at_call 38; refine (H2.out _).mono ?_; rintro e w2 ⟨rfl, rfl⟩)
    | (go_at_call 40; refine (operands_none _).mono ?_; rintro e w2 ⟨rfl, rfl⟩))
  have HOo := Lib.hid ho
  have HQ0 := Lib.hid (show TX.cand op s.data.toList = (0, 0, 0, 0) by unfold TX.cand; rw [hf]; rfl)
  clear ho hf T1
  obtain ⟨q, hq⟩ : ∃ q : Int × Int × Int × Int, (0, 0, 0, 0) = q := ⟨_, rfl⟩
  have HQ := Lib.hid (HQ0.out.trans hq)
  clear HQ0
  generalize W.alloc _ = W3 at Z1 ⊢
  generalize W.heap.size = g at *
  rw [hq] at Z1
  clear hq
  refine wp_loop_rounds 1 ?_
  rw [rounds_succ]
  obtain ⟨P, hP⟩ : ∃ P, (⟨(TX.pr op q.1 q.2.1 q.2.2.1 q.2.2.2).toArray⟩ : ByteArray) = P := ⟨_, rfl⟩
  have HPr := Lib.hid (fun W (hW : Tb W) => print_any op q.1 q.2.1 q.2.2.1 q.2.2.2 W hW)
  rw [hP] at HPr
  obtain ⟨⟨c0, c1, c2, c3, c4⟩, f0, f1, f2, f3, f4⟩ := Z1.out.2.1
  go_wp2_with fail
  refine (HPr.out _ (HT.out.on Z1.out.2.2.2.2.2.2)).mono ?_; rintro e w6 ⟨rfl, hb6⟩
  have Z6 := Lib.hid (Z1.out.on hb6)
  clear hb6 Z1 c0 c1 c2 c3 c4 f0 f1 f2 f3 f4
  obtain ⟨⟨c0, c1, c2, c3, c4⟩, f0, f1, f2, f3, f4⟩ := Z6.out.2.1
  obtain ⟨⟨k0, k1, k2, k3, k4⟩, l0, l1, l2, l3, l4⟩ := Z6.out.1
  have n1 := Z6.out.2.2.1.1
  have n2 : ¬ g = w.heap.size := fun e => n1 e.symm
  have B6 := Lib.hid Z6.out.2.2.2.2.2.2
  clear Z6
  by_cases hE : P.toList = s.toList
  · have hE' : (P.toList == s.toList) = true := by simpa using hE
    have HF := Lib.hid (pe_fin_yes HOo.out h0 HQ.out hP hE)
    clear hP
    go_wp2
    refine bodyPost_ret (v := .tuple #[.agg #[.int .i64 op, .int .i64 q.1, .int .i64 q.2.1, .int .i64 q.2.2.1, .int .i64 q.2.2.2], .int .i64 0]) (by simp [results, Tryz.results165, go_sem, k0, k1, k2, k3, k4]) rfl ⟨HF.out, ?_⟩
    exact five_below B6.out (Nat.le_refl _) _ _ _ _ _
  · have hE' : (P.toList == s.toList) = false := by simpa using hE
    have HF := Lib.hid (pe_fin_no HOo.out h0 HQ.out hP hE)
    clear hP
    go_wp2
    refine bodyPost_ret (v := .tuple #[.agg #[.int .i64 0, .int .i64 0, .int .i64 0, .int .i64 0, .int .i64 0], .int .i64 2]) (by simp [results, Tryz.results165, go_sem, k0, k1, k2, k3, k4]) rfl ⟨HF.out, ?_⟩
    exact five_below B6.out (Nat.le_refl _) _ _ _ _ _
theorem pe_fin_nine {s : ByteArray} (ho : TX.oo (TX.hd s.data.toList) = 0) :
    Ending.returned (.tuple #[.agg #[.int .i64 0, .int .i64 0, .int .i64 0, .int .i64 0, .int .i64 0], .int .i64 9]) = .returned (.tuple #[.agg #[.int .i64 (TX.pq s.data.toList).1, .int .i64 (TX.pq s.data.toList).2.1, .int .i64 (TX.pq s.data.toList).2.2.1, .int .i64 (TX.pq s.data.toList).2.2.2.1, .int .i64 (TX.pq s.data.toList).2.2.2.2], .int .i64 (TX.pe s.data.toList)]) := by
  obtain ⟨e1, e2⟩ := TX.pe_nine ho
  rw [e1, e2]
set_option maxHeartbeats 1600000 in
theorem parse_op (s : ByteArray) (w : World) (hs : s.size ≤ 400000) (ho : TX.oo (TX.hd s.data.toList) = 0) (ht : Tb w) :
    Calls Tryz.prog 165 #[.string s] w fun e w' => e = .returned (.tuple #[.agg #[.int .i64 (TX.pq s.data.toList).1, .int .i64 (TX.pq s.data.toList).2.1, .int .i64 (TX.pq s.data.toList).2.2.1, .int .i64 (TX.pq s.data.toList).2.2.2.1, .int .i64 (TX.pq s.data.toList).2.2.2.2], .int .i64 (TX.pe s.data.toList)]) ∧ Below w.heap.size w w' := by
  have HC := Lib.hid (fun W (hW : Tb W) => cut_bl s W hs hW)
  have HO := Lib.hid (fun W (hW : Tb W) => op_any ⟨(TX.hd s.data.toList).toArray⟩ W hW)
  have HO' : Hid (∀ W, Tb W → Calls Tryz.prog 161 #[.string ⟨(TX.hd s.data.toList).toArray⟩] W fun e w' => e = .returned (.int .i64 0) ∧ W = w') := by rw [← ho]; exact HO
  clear HO
  have HF := Lib.hid (pe_fin_nine ho)
  have T0 := Lib.hid (ht.new (.cells #[.int .i64 0, .int .i64 0, .int .i64 0, .int .i64 0, .int .i64 0] 45))
  clear ht ho
  obtain ⟨X, hX⟩ : ∃ X, (⟨(TX.hd s.data.toList).toArray⟩ : ByteArray) = X := ⟨_, rfl⟩
  obtain ⟨R, hR⟩ : ∃ R, (⟨(TX.rest s.data.toList).toArray⟩ : ByteArray) = R := ⟨_, rfl⟩
  obtain ⟨bo, hbo⟩ : ∃ b, (Lib.cut s.data.toList [32]).2.2 = b := ⟨_, rfl⟩
  rw [hX, hR, hbo] at HC
  rw [hX] at HO'
  clear hX hR hbo
  go_enter Tryz.func165, Tryz.ntmps165
  go_wp2_with fail
  refine (HC.out _ T0.out).mono ?_; rintro e W ⟨rfl, hb, hz⟩
  have T1 := Lib.hid (T0.out.on hb)
  have Z1 := Lib.hid (ZW.start0 (op := 0) hb)
  clear hb hz HC T0
  go_wp2_with fail
  refine (HO'.out _ T1.out).mono ?_; rintro e w2 ⟨rfl, rfl⟩
  obtain ⟨⟨k0, k1, k2, k3, k4⟩, l0, l1, l2, l3, l4⟩ := Z1.out.1
  have n1 := Z1.out.2.2.1.1
  have n2 : ¬ W.heap.size = w.heap.size := fun e => n1 e.symm
  have B6 := Lib.hid Z1.out.2.2.2.2.2.2
  clear Z1 T1
  go_wp2
  refine bodyPost_ret (v := .tuple #[.agg #[.int .i64 0, .int .i64 0, .int .i64 0, .int .i64 0, .int .i64 0], .int .i64 9]) (by simp [results, Tryz.results165, go_sem, k0, k1, k2, k3, k4]) rfl ⟨HF.out, ?_⟩
  exact five_below B6.out (Nat.le_refl _) _ _ _ _ _
theorem parse_any (s : ByteArray) (w : World) (hs : s.size ≤ 400000) (ht : Tb w) : Calls Tryz.prog 165 #[.string s] w fun e w' => e = .returned (.tuple #[.agg #[.int .i64 (TX.pq s.data.toList).1, .int .i64 (TX.pq s.data.toList).2.1, .int .i64 (TX.pq s.data.toList).2.2.1, .int .i64 (TX.pq s.data.toList).2.2.2.1, .int .i64 (TX.pq s.data.toList).2.2.2.2], .int .i64 (TX.pe s.data.toList)]) ∧ Below w.heap.size w w' := by
  by_cases h0 : TX.oo (TX.hd s.data.toList) = 0
  · exact parse_op s w hs h0 ht
  · have hb := TX.oo_bd (TX.hd s.data.toList)
    have h1 : 1 ≤ TX.oo (TX.hd s.data.toList) ∧ TX.oo (TX.hd s.data.toList) ≤ 63 := by omega
    have hf0 := IM.fm_some _ h1
    have hf1 := IM.fm_bd (TX.oo (TX.hd s.data.toList))
    by_cases hf : IM.fm (TX.oo (TX.hd s.data.toList)) = 10
    · exact parse_none s _ w hs rfl h0 hf ht
    · exact parse_some s _ _ w hs rfl h0 rfl (by omega) hf ht
end Go.Proofs.YtcnmnkgnaknpdaaGreatDoor.S07
