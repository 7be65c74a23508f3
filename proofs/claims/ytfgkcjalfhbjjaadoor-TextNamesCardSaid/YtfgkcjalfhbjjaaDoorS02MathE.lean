/-
  Plain mathematics of the reference's reading of numbers, held against the package's. No condition.
-/
import Derived.Test.YtfgkcjalfhbjjaaDoorS02MathB
import Derived.Test.YtfgkcjalfhbjjaaDoorS02MathC
namespace Go.Proofs.YtfgkcjalfhbjjaaDoor.S02
namespace NM
theorem pre2 (s : ByteArray) (h : 1 < s.size) : Lib.hasPrefix s.data.toList [48, 120] = true ↔ (s[0].toNat : Int) = 48 ∧ (s[1].toNat : Int) = 120 := by
  have e0 : s.data.toList.getD 0 0 = s[0] := getD_eq s 0 (by omega)
  have e1 : s.data.toList.getD 1 0 = s[1] := getD_eq s 1 h
  have hl := len_eq s
  generalize s.data.toList = l at *
  match l, hl, e0, e1 with
  | [], hl, _, _ => simp at hl; omega
  | [a], hl, _, _ => simp at hl; omega
  | a :: b :: t, hl, e0, e1 =>
    replace e0 : a = s[0] := e0
    replace e1 : b = s[1] := e1
    rw [← e0, ← e1]
    simp only [Lib.hasPrefix, List.isPrefixOf, Bool.and_true, Bool.and_eq_true, beq_iff_eq]
    constructor
    · rintro ⟨h1, h2⟩; rw [← h1, ← h2]; exact ⟨rfl, rfl⟩
    · rintro ⟨h1, h2⟩; exact ⟨(UInt8.toNat_inj.mp (by show a.toNat = 48; omega)).symm, (UInt8.toNat_inj.mp (by show b.toNat = 120; omega)).symm⟩
theorem pre2_short (s : ByteArray) (h : s.size ≤ 1) : Lib.hasPrefix s.data.toList [48, 120] = false := by
  have hl := len_eq s
  generalize s.data.toList = l at *
  match l, hl with
  | [], _ => rfl
  | [a], _ => simp [Lib.hasPrefix, List.isPrefixOf]
  | a :: b :: t, hl => simp at hl; omega
theorem pre1 (s : ByteArray) (h : 0 < s.size) : Lib.hasPrefix s.data.toList [45] = true ↔ (s[0].toNat : Int) = 45 := by
  have e0 : s.data.toList.getD 0 0 = s[0] := getD_eq s 0 (by omega)
  have hl := len_eq s
  generalize s.data.toList = l at *
  match l, hl, e0 with
  | [], hl, _ => simp at hl; omega
  | a :: t, hl, e0 =>
    replace e0 : a = s[0] := e0
    rw [← e0]
    simp only [Lib.hasPrefix, List.isPrefixOf, Bool.and_true, beq_iff_eq]
    constructor
    · intro h1; rw [← h1]; rfl
    · intro h1; exact (UInt8.toNat_inj.mp (by show a.toNat = 45; omega)).symm
theorem pre1_empty (s : ByteArray) (h : s.size = 0) : Lib.hasPrefix s.data.toList [45] = false := by
  have hl := len_eq s
  rw [List.length_eq_zero_iff.mp (by omega : s.data.toList.length = 0)]
  rfl
/-- The reference's number behind 0x. -/
def rhB (l : List UInt8) : Bool := Lib.hasPrefix l [48, 120] && (vB 16 (l.drop 2) && decide ((l.drop 2).length ≤ 8))
def rhN (l : List UInt8) : Int := if rhB l = true then val 16 (l.drop 2) else 0
theorem rh_pre (l : List UInt8) (h : Lib.hasPrefix l [48, 120] = false) : rhB l = false ∧ rhN l = 0 := by
  have e : rhB l = false := by unfold rhB; rw [h]; rfl
  unfold rhN
  rw [e]
  exact ⟨rfl, rfl⟩
theorem rh_bad (l : List UInt8) (h : vB 16 (l.drop 2) = false ∨ 8 < (l.drop 2).length) : rhB l = false ∧ rhN l = 0 := by
  have e : rhB l = false := by
    unfold rhB
    rcases h with h | h
    · rw [h]; simp
    · rw [show decide ((l.drop 2).length ≤ 8) = false by simp only [decide_eq_false_iff_not]; omega]; simp
  unfold rhN
  rw [e]
  exact ⟨rfl, rfl⟩
theorem rh_ok (l : List UInt8) (h0 : Lib.hasPrefix l [48, 120] = true) (h : vB 16 (l.drop 2) = true) (h8 : (l.drop 2).length ≤ 8) : rhB l = true ∧ rhN l = val 16 (l.drop 2) := by
  have e : rhB l = true := by
    unfold rhB
    rw [h0, h, show decide ((l.drop 2).length ≤ 8) = true by simpa using h8]; rfl
  unfold rhN
  rw [e]
  exact ⟨rfl, rfl⟩
theorem dtake (s : ByteArray) (k : Nat) (h2 : 2 ≤ k) (h : k < s.size) : (s.data.toList.drop 2).take (k + 1 - 2) = (s.data.toList.drop 2).take (k - 2) ++ [s[k]] := by
  rw [show k + 1 - 2 = (k - 2) + 1 by omega, List.take_succ_eq_append_getElem (by rw [List.length_drop, len_eq]; omega), List.getElem_drop]
  congr 2
  show s.data.toList[2 + (k - 2)]'_ = s.data.toList[k]'_
  congr 1
  omega
theorem dtake_all (s : ByteArray) (_h2 : 2 ≤ s.size) : (s.data.toList.drop 2).take (s.size - 2) = s.data.toList.drop 2 :=
  List.take_of_length_le (by rw [List.length_drop, len_eq]; omega)
theorem dlen (s : ByteArray) : (s.data.toList.drop 2).length = s.size - 2 := by rw [List.length_drop, len_eq]
theorem al_dbad (b : Nat) (s : ByteArray) (k : Nat) (h2 : 2 ≤ k) (h : k < s.size) (hb : b ≤ dv s[k]) : vB b (s.data.toList.drop 2) = false := by
  apply vB_no
  rw [← Bool.not_eq_true]
  intro hh
  have h1 := al_take (k + 1 - 2) hh
  rw [dtake s k h2 h, al_snoc] at h1
  simp at h1
  omega
theorem vB_of (b : Nat) (l : List UInt8) (h : al b l = true) (h' : l ≠ []) : vB b l = true := by
  unfold vB; rw [h]; simpa using h'
theorem rvl_yes (c : UInt8) (h : dv c < 16) : rvl c = dv c := by unfold rvl; rw [if_pos h]
theorem rvl_no (c : UInt8) (h : ¬ dv c < 16) : rvl c = -1 := by unfold rvl; rw [if_neg h]
/-- Decimal digits without a nought ahead. -/
def db (l : List UInt8) : Bool := vB 10 l && !(decide (l.head? = some 48) && decide (1 < l.length))
theorem dv10 (c : UInt8) : dv c < 10 ↔ 48 ≤ (c.toNat : Int) ∧ (c.toNat : Int) ≤ 57 := by
  unfold dv
  split
  · omega
  · split <;> omega
theorem db_no (l : List UInt8) (h : vB 10 l = false) : db l = false := by unfold db; rw [h]; rfl
theorem db_zero (l : List UInt8) (h : l.head? = some 48) (h' : 1 < l.length) : db l = false := by
  unfold db; rw [show decide (l.head? = some 48) = true by simpa using h, show decide (1 < l.length) = true by simpa using h']; simp
theorem db_yes (l : List UInt8) (h : vB 10 l = true) (h' : ¬ (l.head? = some 48 ∧ 1 < l.length)) : db l = true := by
  unfold db
  rw [h]
  by_cases h1 : l.head? = some 48
  · have h2 : ¬ 1 < l.length := fun h2 => h' ⟨h1, h2⟩
    simp [h2]
  · simp [h1]
theorem db_open (l : List UInt8) (h : db l = true) : vB 10 l = true ∧ ¬ (l.head? = some 48 ∧ 1 < l.length) := by
  unfold db at h
  simp only [Bool.and_eq_true, Bool.not_eq_true', Bool.and_eq_false_iff, decide_eq_false_iff_not] at h
  exact ⟨h.1, fun h1 => h.2.elim (fun h2 => h2 h1.1) (fun h2 => h2 h1.2)⟩
theorem pd_db (l : List UInt8) (neg : Bool) (h : db l = false) : pdE l neg = 2 ∧ pdN l neg = 0 := by
  cases hv : vB 10 l
  · exact pd_bad l neg hv
  · by_cases hz : l.head? = some 48 ∧ 1 < l.length
    · exact pd_zero l neg hz.1 (.inr hz.2)
    · rw [db_yes l hv hz] at h
      cases h
theorem val_mono (b : Nat) (h : 1 ≤ b) (l m : List UInt8) : val b l ≤ val b (l ++ m) := by
  refine snoc_ind (P := fun m => val b l ≤ val b (l ++ m)) (by simp) (fun m c ih => ?_) m
  rw [← List.append_assoc, val_snoc]
  have : val b (l ++ m) * 1 ≤ val b (l ++ m) * b := Nat.mul_le_mul_left _ h
  omega
theorem val_take (b : Nat) (h : 1 ≤ b) (l : List UInt8) (k : Nat) : val b (l.take k) ≤ val b l := by
  have := val_mono b h (l.take k) (l.drop k)
  rwa [List.take_append_drop] at this
theorem al_at (b : Nat) (s : ByteArray) (k : Nat) (h : k < s.size) (ha : al b s.data.toList = true) : dv s[k] < b := by
  apply Classical.byContradiction
  intro hh
  have := al_bad b s k h (by omega)
  rw [ha] at this
  cases this
theorem dv_dec (c : UInt8) (h : dv c < 10) : (dv c : Int) = c.toNat - 48 ∧ 48 ≤ (c.toNat : Int) ∧ (c.toNat : Int) ≤ 57 := by
  have h1 := (dv10 c).mp h
  refine ⟨?_, h1⟩
  unfold dv
  rw [if_pos (by omega)]
  omega
/-- Where it is no number behind 0x, it is what its decimal digits are. -/
theorem p_dec (s : ByteArray) (h : rhB s.data.toList = false) : pE s.data.toList = pdE (Lib.trimPrefix s.data.toList [45]) (Lib.hasPrefix s.data.toList [45]) ∧ pN s.data.toList = pdN (Lib.trimPrefix s.data.toList [45]) (Lib.hasPrefix s.data.toList [45]) := by
  cases hp : Lib.hasPrefix s.data.toList [48, 120]
  · unfold pE pN
    rw [hp]
    exact ⟨rfl, rfl⟩
  · have h2 : 1 < s.size := by
      apply Classical.byContradiction
      intro hh
      have := pre2_short s (by omega)
      rw [hp] at this
      cases this
    have h48 := (pre2 s h2).mp hp
    have hm : Lib.hasPrefix s.data.toList [45] = false := by
      rw [← Bool.not_eq_true, pre1 s (by omega)]
      omega
    have ht : Lib.trimPrefix s.data.toList [45] = s.data.toList := by unfold Lib.trimPrefix; rw [hm]; rfl
    have hv : vB 10 s.data.toList = false := by
      apply vB_no
      apply al_bad 10 s 1 h2
      unfold dv
      rw [if_neg (by omega), if_neg (by omega)]
      omega
    have e1 := pd_bad s.data.toList false hv
    have hb : vB 16 (s.data.toList.drop 2) = false ∨ 8 < (s.data.toList.drop 2).length := by
      unfold rhB at h
      rw [hp] at h
      cases hv : vB 16 (s.data.toList.drop 2)
      · exact .inl rfl
      · rw [hv] at h
        simp at h
        right
        rw [dlen] 
        omega
    have e2 := ph_bad _ hb
    rw [ht, hm]
    unfold pE pN
    rw [hp]
    simp only [if_true]
    rw [e1.1, e1.2, e2.1, e2.2]
    exact ⟨rfl, rfl⟩
theorem p_hex (l : List UInt8) (h : rhB l = true) : pE l = 0 ∧ pN l = rhN l := by
  have h' := h
  unfold rhB at h
  simp only [Bool.and_eq_true, decide_eq_true_eq] at h
  have e := ph_ok _ h.2.1 h.2.2
  unfold pE pN rhN
  rw [if_pos h.1, if_pos h.1, h', if_pos rfl]
  exact e
theorem trim_minus (s : ByteArray) (h : Lib.hasPrefix s.data.toList [45] = true) : Lib.trimPrefix s.data.toList [45] = (s.extract 1 s.size).data.toList := by
  unfold Lib.trimPrefix
  rw [if_pos h, Lib.extract_data, List.take_of_length_le (by rw [List.length_drop, len_eq]; omega)]
  rfl
theorem trim_plus (s : ByteArray) (h : Lib.hasPrefix s.data.toList [45] = false) : Lib.trimPrefix s.data.toList [45] = s.data.toList := by
  unfold Lib.trimPrefix
  rw [h]
  rfl
end NM
end Go.Proofs.YtfgkcjalfhbjjaaDoor.S02
