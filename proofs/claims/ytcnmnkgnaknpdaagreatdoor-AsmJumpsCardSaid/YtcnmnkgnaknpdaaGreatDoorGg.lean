/-
  Plain mathematics: the names of the operations, the operands of a form, an instruction's text, what a text's parts are, and that the text gives the instruction back. No condition.
  Plain mathematics: how the reference reads a text: the places behind blanks, the number at a place; and that this gives the instruction back, too. No condition.
-/
import Derived.Test.YtcnmnkgnaknpdaaGreatDoorGb
import Derived.Test.YtcnmnkgnaknpdaaGreatDoorGd
import Derived.Lib.IndexMore
import Derived.Lib.ItoaLen

/-! S07Math -/
namespace Go.Proofs.YtcnmnkgnaknpdaaGreatDoor.S07
open S02 S06
namespace TX
/-- The names at their numbers; none at 0. -/
def nmL : List (List UInt8) := [[], [97, 100, 100], [115, 117, 98], [97, 110, 100], [111, 114], [120, 111, 114], [115, 108, 108], [115, 114, 108], [115, 114, 97], [115, 108, 116], [115, 108, 116, 117], [109, 117, 108], [109, 117, 108, 104], [109, 117, 108, 104, 117], [100, 105, 118], [100, 105, 118, 117], [114, 101, 109], [114, 101, 109, 117], [109, 105, 110], [109, 97, 120], [114, 111, 114], [99, 108, 122], [112, 111, 112], [114, 101, 118], [99, 109, 111, 118], [97, 100, 100, 105], [97, 110, 100, 105], [111, 114, 105], [120, 111, 114, 105], [115, 108, 116, 105], [115, 108, 108, 105], [115, 114, 108, 105], [115, 114, 97, 105], [108, 117, 105], [108, 98], [108, 98, 117], [108, 104], [108, 104, 117], [108, 119], [108, 119, 112], [115, 98], [115, 104], [115, 119], [98, 101, 113], [98, 110, 101], [98, 108, 116], [98, 103, 101], [98, 108, 116, 117], [98, 103, 101, 117], [106, 97, 108], [106, 97, 108, 114], [115, 119, 97, 112], [102, 97, 100, 100], [99, 97, 115], [99, 97, 108, 108], [116, 114, 101, 116], [99, 115, 114, 114], [99, 115, 114, 119], [102, 101, 110, 99, 101], [115, 121, 110, 99], [111, 117, 116], [104, 97, 108, 116], [115, 101, 110, 100], [110, 111, 112]]
def nm (op : Int) : List UInt8 := nmL.getD op.toNat []
/-- The first number that has the name; 0: none. -/
def oo (l : List UInt8) : Int := match nmL.findIdx? (fun x => x == l) with
  | some k => k
  | none => 0
theorem nmL_len : nmL.length = 64 := rfl
theorem oo_at {l : List UInt8} {k : Nat} (hk : k < 64) (h : ∀ j, j < k → nmL.getD j [] ≠ l) (e : nmL.getD k [] = l) : oo l = k := by
  have : nmL.findIdx? (fun x => x == l) = some k := by
    rw [List.findIdx?_eq_some_iff_getElem]
    refine ⟨by rw [nmL_len]; exact hk, ?_, fun j hj => ?_⟩
    · rw [List.getD_eq_getElem?_getD, List.getElem?_eq_getElem (by rw [nmL_len]; exact hk)] at e
      simpa using e
    · have := h j hj
      rw [List.getD_eq_getElem?_getD, List.getElem?_eq_getElem (by rw [nmL_len]; omega)] at this
      simpa using this
  unfold oo
  rw [this]
theorem oo_none {l : List UInt8} (h : ∀ j, j < 64 → nmL.getD j [] ≠ l) : oo l = 0 := by
  have : nmL.findIdx? (fun x => x == l) = none := by
    rw [List.findIdx?_eq_none_iff]
    intro x hx
    obtain ⟨j, hj, rfl⟩ := List.getElem_of_mem hx
    have := h j (by rw [nmL_len] at hj; exact hj)
    rw [List.getD_eq_getElem?_getD, List.getElem?_eq_getElem hj] at this
    simpa using this
  unfold oo
  rw [this]
/-- Either the name is at no number, or at its own. -/
theorem oo_cases (l : List UInt8) : (oo l = 0 ∨ (1 ≤ oo l ∧ oo l ≤ 63 ∧ nm (oo l) = l)) := by
  unfold oo
  cases h : nmL.findIdx? (fun x => x == l) with
  | none => exact .inl rfl
  | some k =>
    rw [List.findIdx?_eq_some_iff_getElem] at h
    obtain ⟨hk, he, _⟩ := h
    rw [nmL_len] at hk
    rcases Nat.eq_zero_or_pos k with rfl | h0
    · exact .inl rfl
    · refine .inr ⟨by show (1 : Int) ≤ (k : Int); omega, by show (k : Int) ≤ 63; omega, ?_⟩
      show nmL.getD ((k : Int).toNat) [] = l
      rw [Int.toNat_natCast, List.getD_eq_getElem?_getD, List.getElem?_eq_getElem (by rw [nmL_len]; exact hk)]
      simpa using he
theorem oo_bd (l : List UInt8) : 0 ≤ oo l ∧ oo l ≤ 63 := by rcases oo_cases l with h | h <;> omega
theorem fin_oo : ∀ k : Fin 64, oo (nmL.getD k.val []) = k.val := by decide +kernel
theorem fin_ne : ∀ k : Fin 64, k.val ≠ 0 → nmL.getD k.val [] ≠ [] := by decide +kernel
theorem fin_plain : ∀ k : Fin 64, (nmL.getD k.val []).all (fun c => c != 32 && c != 44) = true := by decide +kernel
theorem fin_len : ∀ k : Fin 64, (nmL.getD k.val []).length ≤ 5 := by decide +kernel
theorem nm_out {op : Int} (h : ¬ (1 ≤ op ∧ op ≤ 63)) : nm op = [] := by
  unfold nm
  by_cases h0 : op < 1
  · rw [show op.toNat = 0 by omega]; rfl
  · rw [List.getD_eq_getElem?_getD, List.getElem?_eq_none (by rw [nmL_len]; omega)]; rfl
theorem oo_nm {op : Int} (h : 1 ≤ op ∧ op ≤ 63) : oo (nm op) = op := by
  have := fin_oo ⟨op.toNat, by omega⟩
  unfold nm
  rw [this]
  show (op.toNat : Int) = op
  omega
theorem oo_nil : oo [] = 0 := by decide +kernel
theorem nm_ne {op : Int} (h : 1 ≤ op ∧ op ≤ 63) : nm op ≠ [] := fin_ne ⟨op.toNat, by omega⟩ (by show op.toNat ≠ 0; omega)
theorem nm_plain (op : Int) : ∀ c ∈ nm op, c ≠ 32 ∧ c ≠ 44 := by
  by_cases h : 1 ≤ op ∧ op ≤ 63
  · intro c hc
    have := List.all_eq_true.1 (fin_plain ⟨op.toNat, by omega⟩) c hc
    simpa using this
  · rw [nm_out h]; simp
theorem nm_len (op : Int) : (nm op).length ≤ 5 := by
  by_cases h : 1 ≤ op ∧ op ≤ 63
  · exact fin_len ⟨op.toNat, by omega⟩
  · rw [nm_out h]; simp
/-- What the law asks of a name. -/
theorem nm_law (op : Int) : nm op = [] ∨ oo (nm op) = op := by
  by_cases h : 1 ≤ op ∧ op ≤ 63
  · exact .inr (oo_nm h)
  · exact .inl (nm_out h)
/-- The operands of a form: 0 rd, 1 ra, 2 rb, 3 imm. -/
def os (f : Int) : List Nat :=
  if f = 1 ∨ f = 6 then [0, 1, 2] else if f = 11 then [0, 1] else if f = 2 then [0, 1, 3] else if f = 3 ∨ f = 4 then [1, 2, 3] else
  if f = 5 ∨ f = 7 then [0, 3] else if f = 8 then [1, 3] else if f = 9 then [1] else []
/-- An operand's letter. -/
def lt (o : Nat) : UInt8 := if o = 0 then 100 else if o = 1 then 97 else if o = 2 then 98 else 105
/-- An operand's text. -/
def wr (d a b m : Int) (o : Nat) : List UInt8 := if o = 0 then 114 :: Lib.itoa d else if o = 1 then 114 :: Lib.itoa a else if o = 2 then 114 :: Lib.itoa b else Lib.itoa m
/-- The texts of the first operands, each behind its gap. -/
def jn (d a b m : Int) (l : List Nat) : Nat → List UInt8
  | 0 => []
  | k + 1 => jn d a b m l k ++ (if k = 0 then [32] else [44, 32]) ++ wr d a b m (l.getD k 4)
/-- An instruction's text. -/
def pr (op d a b m : Int) : List UInt8 := if IM.rc op d a b m = 0 then nm op ++ jn d a b m (os (IM.fm op)) (os (IM.fm op)).length else []
/-- An instruction with one operand set. -/
def wth (o : Nat) (n : Int) (q : Int × Int × Int × Int) : Int × Int × Int × Int :=
  if o = 0 then (n, q.2.1, q.2.2.1, q.2.2.2) else if o = 1 then (q.1, n, q.2.2.1, q.2.2.2) else if o = 2 then (q.1, q.2.1, n, q.2.2.2) else if o = 3 then (q.1, q.2.1, q.2.2.1, n) else q
/-- The number in an operand's text. -/
def nb (x : List UInt8) : Int := NM.pN (Lib.trimPrefix x [114])
/-- The text behind the first k operands, and the operands. -/
def stp (l : List Nat) (r : List UInt8) : Nat → List UInt8 × Int × Int × Int × Int
  | 0 => (r, 0, 0, 0, 0)
  | k + 1 => ((Lib.cut (stp l r k).1 [44, 32]).2.1, wth (l.getD k 4) (nb (Lib.cut (stp l r k).1 [44, 32]).1) (stp l r k).2)
def hd (l : List UInt8) : List UInt8 := (Lib.cut l [32]).1
def rest (l : List UInt8) : List UInt8 := (Lib.cut l [32]).2.1
/-- The operands that a text is read as. -/
def cand (op : Int) (l : List UInt8) : Int × Int × Int × Int := (stp (os (IM.fm op)) (rest l) (os (IM.fm op)).length).2
/-! ### Where a text is cut -/
theorem index_at (c : UInt8) (p x y : List UInt8) (h : c ∉ x) : Lib.index (x ++ (c :: p ++ y)) (c :: p) = x.length := by
  induction x with
  | nil =>
    rw [List.nil_append, List.cons_append, Lib.index, if_pos (by simp [List.isPrefixOf])]
    rfl
  | cons b t ih =>
    have hb : (c == b) = false := by simp at h; simpa using h.1
    have ht : c ∉ t := fun hc => h (List.mem_cons_of_mem _ hc)
    rw [List.cons_append, Lib.index, if_neg (by simp [List.isPrefixOf, hb]), ih ht, if_neg (by simp)]
    simp
theorem index_no (c : UInt8) (p x : List UInt8) (h : c ∉ x) : Lib.index x (c :: p) = -1 := by
  induction x with
  | nil => rfl
  | cons b t ih =>
    have hb : (c == b) = false := by simp at h; simpa using h.1
    have ht : c ∉ t := fun hc => h (List.mem_cons_of_mem _ hc)
    rw [Lib.index, if_neg (by simp [List.isPrefixOf, hb]), ih ht]
    rfl
theorem cut_at (c : UInt8) (p x y : List UInt8) (h : c ∉ x) : Lib.cut (x ++ (c :: p ++ y)) (c :: p) = (x, y, true) := by
  unfold Lib.cut
  rw [index_at c p x y h, if_pos (by omega)]
  simp only [Int.toNat_natCast]
  rw [List.take_left, ← List.drop_drop, List.drop_left, List.drop_left]
theorem cut_no (c : UInt8) (p x : List UInt8) (h : c ∉ x) : Lib.cut x (c :: p) = (x, [], false) := by
  unfold Lib.cut
  rw [index_no c p x h]
  rfl
/-! ### What stands in an operand's text -/
theorem dec_mem (u : Nat) : ∀ c ∈ Lib.decDigits u, 48 ≤ c.toNat ∧ c.toNat ≤ 57 := by
  induction u using Nat.strongRecOn with
  | _ u ih =>
    by_cases h : u < 10
    · rw [Lib.decDigits_one h]
      intro c hc
      obtain rfl := List.mem_singleton.1 hc
      have e : (UInt8.ofNat (48 + u)).toNat = 48 + u := by simp; omega
      omega
    · rw [Lib.decDigits, dif_neg h]
      intro c hc
      rcases List.mem_append.1 hc with hc | hc
      · exact ih (u / 10) (by omega) c hc
      · obtain rfl := List.mem_singleton.1 hc
        have e : (UInt8.ofNat (48 + u % 10)).toNat = 48 + u % 10 := by simp; omega
        omega
theorem itoa_mem (n : Int) : ∀ c ∈ Lib.itoa n, c.toNat = 45 ∨ (48 ≤ c.toNat ∧ c.toNat ≤ 57) := by
  intro c hc
  unfold Lib.itoa at hc
  split at hc
  · rcases List.mem_cons.1 hc with rfl | hc
    · exact .inl rfl
    · exact .inr (dec_mem _ c hc)
  · exact .inr (dec_mem _ c hc)
theorem wr_mem (d a b m : Int) (o : Nat) : ∀ c ∈ wr d a b m o, c.toNat = 114 ∨ c.toNat = 45 ∨ (48 ≤ c.toNat ∧ c.toNat ≤ 57) := by
  intro c hc
  unfold wr at hc
  split at hc
  · rcases List.mem_cons.1 hc with rfl | hc
    · exact .inl rfl
    · exact .inr (itoa_mem _ c hc)
  split at hc
  · rcases List.mem_cons.1 hc with rfl | hc
    · exact .inl rfl
    · exact .inr (itoa_mem _ c hc)
  split at hc
  · rcases List.mem_cons.1 hc with rfl | hc
    · exact .inl rfl
    · exact .inr (itoa_mem _ c hc)
  · exact .inr (itoa_mem _ c hc)
theorem wr_44 (d a b m : Int) (o : Nat) : (44 : UInt8) ∉ wr d a b m o := fun h => by
  have := wr_mem d a b m o 44 h
  revert this; decide
theorem wr_32 (d a b m : Int) (o : Nat) : (32 : UInt8) ∉ wr d a b m o := fun h => by
  have := wr_mem d a b m o 32 h
  revert this; decide
theorem itoa_ne (n : Int) : ∃ c t, Lib.itoa n = c :: t ∧ c ≠ 114 := by
  cases h : Lib.itoa n with
  | nil =>
    exfalso
    unfold Lib.itoa at h
    split at h
    · cases h
    · have := NM.vB_dec n.toNat
      rw [h] at this
      exact absurd this (by decide)
  | cons c t =>
    refine ⟨c, t, rfl, fun e => ?_⟩
    have := itoa_mem n c (by rw [h]; exact List.mem_cons_self ..)
    rw [e] at this
    revert this; decide
theorem nb_reg (n : Int) (h : 0 ≤ n ∧ n < 16) : nb (114 :: Lib.itoa n) = n := by
  unfold nb
  rw [show Lib.trimPrefix (114 :: Lib.itoa n) [114] = Lib.itoa n by simp [Lib.trimPrefix, Lib.hasPrefix, List.isPrefixOf]]
  exact (NM.p_itoa n (by omega) (by omega)).1
theorem nb_imm (n : Int) (h : -131072 ≤ n ∧ n < 262144) : nb (Lib.itoa n) = n := by
  obtain ⟨c, t, e, hc⟩ := itoa_ne n
  unfold nb
  rw [show Lib.trimPrefix (Lib.itoa n) [114] = Lib.itoa n by
    rw [e]; unfold Lib.trimPrefix; rw [NM.pre_no c t [] 114 (fun h => hc h.symm)]; rfl]
  exact (NM.p_itoa n (by omega) (by omega)).1
/-- The value of an operand. -/
def vl (d a b m : Int) (o : Nat) : Int := if o = 0 then d else if o = 1 then a else if o = 2 then b else m
theorem rc_parts {op d a b m : Int} (h : IM.rc op d a b m = 0) :
    IM.rg (IM.hs (IM.fm op) 1) d = true ∧ IM.rg (IM.hs (IM.fm op) 2) a = true ∧ IM.rg (IM.hs (IM.fm op) 3) b = true ∧ (IM.hs (IM.fm op) 4 = false → m = 0) ∧ (-131072 ≤ m ∧ m < 262144) := by
  have hm : -131072 ≤ m ∧ m < 262144 := by
    obtain ⟨_, _, _, _, _, h1, h2, h3⟩ := IM.rc_ok h
    by_cases e1 : op = 33
    · have := h1 e1; omega
    · by_cases e2 : op = 49
      · have := h2 e2; omega
      · have := h3 e1 e2; omega
  unfold IM.rc at h
  split at h
  · omega
  · split at h
    · omega
    · rename_i hr
      refine ⟨?_, ?_, ?_, ?_, hm⟩
      · cases hh : IM.rg (IM.hs (IM.fm op) 1) d; exact absurd (Or.inl hh) hr; rfl
      · cases hh : IM.rg (IM.hs (IM.fm op) 2) a; exact absurd (Or.inr (Or.inl hh)) hr; rfl
      · cases hh : IM.rg (IM.hs (IM.fm op) 3) b; exact absurd (Or.inr (Or.inr hh)) hr; rfl
      · intro h4
        rw [if_pos h4] at h
        split at h
        · assumption
        · omega
theorem nb_wr {d a b m : Int} (hd : 0 ≤ d ∧ d < 16) (ha : 0 ≤ a ∧ a < 16) (hb : 0 ≤ b ∧ b < 16) (hm : -131072 ≤ m ∧ m < 262144) (o : Nat) : nb (wr d a b m o) = vl d a b m o := by
  unfold wr vl
  split
  · exact nb_reg d hd
  split
  · exact nb_reg a ha
  split
  · exact nb_reg b hb
  · exact nb_imm m hm
/-! ### The text gives the operands back -/
theorem stp_one (o0 : Nat) (x0 : List UInt8) (h0 : (44 : UInt8) ∉ x0) : stp [o0] x0 1 = ([], wth o0 (nb x0) (0, 0, 0, 0)) := by
  simp only [stp, cut_no 44 [32] x0 h0, List.getD_cons_zero]
theorem stp_two (o0 o1 : Nat) (x0 x1 : List UInt8) (h0 : (44 : UInt8) ∉ x0) (h1 : (44 : UInt8) ∉ x1) :
    stp [o0, o1] (x0 ++ ([44, 32] ++ x1)) 2 = ([], wth o1 (nb x1) (wth o0 (nb x0) (0, 0, 0, 0))) := by
  simp only [stp, cut_at 44 [32] x0 _ h0, cut_no 44 [32] x1 h1, List.getD_cons_zero, List.getD_cons_succ]
theorem stp_three (o0 o1 o2 : Nat) (x0 x1 x2 : List UInt8) (h0 : (44 : UInt8) ∉ x0) (h1 : (44 : UInt8) ∉ x1) (h2 : (44 : UInt8) ∉ x2) :
    stp [o0, o1, o2] (x0 ++ ([44, 32] ++ (x1 ++ ([44, 32] ++ x2)))) 3 = ([], wth o2 (nb x2) (wth o1 (nb x1) (wth o0 (nb x0) (0, 0, 0, 0)))) := by
  simp only [stp, cut_at 44 [32] x0 _ h0, cut_at 44 [32] x1 _ h1, cut_no 44 [32] x2 h2, List.getD_cons_zero, List.getD_cons_succ]
/-- What a text of the shape of Print's is, by the number of operands. -/
def tx (x : List UInt8) (d a b m : Int) : List Nat → List UInt8
  | [o0] => x ++ ([32] ++ wr d a b m o0)
  | [o0, o1] => x ++ ([32] ++ (wr d a b m o0 ++ ([44, 32] ++ wr d a b m o1)))
  | [o0, o1, o2] => x ++ ([32] ++ (wr d a b m o0 ++ ([44, 32] ++ (wr d a b m o1 ++ ([44, 32] ++ wr d a b m o2)))))
  | _ => x
theorem os_shape (f : Int) : os f = [] ∨ (∃ o, os f = [o]) ∨ (∃ o p, os f = [o, p]) ∨ ∃ o p q, os f = [o, p, q] := by
  unfold os
  repeat' split
  · exact .inr (.inr (.inr ⟨_, _, _, rfl⟩))
  · exact .inr (.inr (.inl ⟨_, _, rfl⟩))
  · exact .inr (.inr (.inr ⟨_, _, _, rfl⟩))
  · exact .inr (.inr (.inr ⟨_, _, _, rfl⟩))
  · exact .inr (.inr (.inl ⟨_, _, rfl⟩))
  · exact .inr (.inr (.inl ⟨_, _, rfl⟩))
  · exact .inr (.inl ⟨_, rfl⟩)
  · exact .inl rfl
theorem pr_tx {op d a b m : Int} (h : IM.rc op d a b m = 0) : pr op d a b m = tx (nm op) d a b m (os (IM.fm op)) := by
  unfold pr
  rw [if_pos h]
  rcases os_shape (IM.fm op) with e | ⟨o, e⟩ | ⟨o, p, e⟩ | ⟨o, p, q, e⟩ <;> rw [e] <;> simp [jn, tx]
theorem pr_no {op d a b m : Int} (h : ¬ IM.rc op d a b m = 0) : pr op d a b m = [] := by unfold pr; rw [if_neg h]
theorem tx_cut (op d a b m : Int) (l : List Nat) : hd (tx (nm op) d a b m l) = nm op ∧ rest (tx (nm op) d a b m l) = (match l with
    | [o0] => wr d a b m o0
    | [o0, o1] => wr d a b m o0 ++ ([44, 32] ++ wr d a b m o1)
    | [o0, o1, o2] => wr d a b m o0 ++ ([44, 32] ++ (wr d a b m o1 ++ ([44, 32] ++ wr d a b m o2)))
    | _ => []) := by
  have hn : (32 : UInt8) ∉ nm op := fun h => (nm_plain op 32 h).1 rfl
  have hc : ∀ y, Lib.cut (nm op ++ ([32] ++ y)) [32] = (nm op, y, true) := fun y => cut_at 32 [] (nm op) y hn
  have h0 := cut_no 32 [] (nm op) hn
  unfold hd rest tx
  split <;> simp only [hc, h0, and_self]
theorem os_back (f d a b m : Int) (hf : 1 ≤ f ∧ f ≤ 11) (h1 : IM.rg (IM.hs f 1) d = true) (h2 : IM.rg (IM.hs f 2) a = true) (h3 : IM.rg (IM.hs f 3) b = true) (h4 : IM.hs f 4 = false → m = 0) :
    (os f).foldl (fun q o => wth o (vl d a b m o) q) (0, 0, 0, 0) = (d, a, b, m) := by
  have hn : ∀ {n : Int}, IM.rg false n = true → n = 0 := fun h => IM.rg_no h
  have : f = 1 ∨ f = 2 ∨ f = 3 ∨ f = 4 ∨ f = 5 ∨ f = 6 ∨ f = 7 ∨ f = 8 ∨ f = 9 ∨ f = 10 ∨ f = 11 := by omega
  rcases this with rfl | rfl | rfl | rfl | rfl | rfl | rfl | rfl | rfl | rfl | rfl
  · have := h4 rfl; simp [os, wth, vl, this]
  · have := hn h3; simp [os, wth, vl, this]
  · have := hn h1; simp [os, wth, vl, this]
  · have := hn h1; simp [os, wth, vl, this]
  · have e2 := hn h2; have e3 := hn h3; simp [os, wth, vl, e2, e3]
  · have := h4 rfl; simp [os, wth, vl, this]
  · have e2 := hn h2; have e3 := hn h3; simp [os, wth, vl, e2, e3]
  · have e1 := hn h1; have e3 := hn h3; simp [os, wth, vl, e1, e3]
  · have e1 := hn h1; have e3 := hn h3; have e4 := h4 rfl; simp [os, wth, vl, e1, e3, e4]
  · have e1 := hn h1; have e2 := hn h2; have e3 := hn h3; have e4 := h4 rfl; simp [os, e1, e2, e3, e4]
  · have e3 := hn h3; have e4 := h4 rfl; simp [os, wth, vl, e3, e4]
theorem fm_rng {op d a b m : Int} (h : IM.rc op d a b m = 0) : 1 ≤ IM.fm op ∧ IM.fm op ≤ 11 := by
  have := IM.fm_bd op
  have := IM.fm_some op (IM.rc_ok h).1
  omega
theorem cand_pr {op d a b m : Int} (h : IM.rc op d a b m = 0) : cand op (pr op d a b m) = (d, a, b, m) := by
  obtain ⟨r1, r2, r3, r4, rm⟩ := rc_parts h
  obtain ⟨_, rd, ra, rb, _⟩ := IM.rc_ok h
  have hb := os_back (IM.fm op) d a b m (fm_rng h) r1 r2 r3 r4
  have hw := nb_wr rd ra rb rm
  have hx := wr_44 d a b m
  unfold cand
  rw [pr_tx h, (tx_cut op d a b m _).2]
  rcases os_shape (IM.fm op) with e | ⟨o, e⟩ | ⟨o, p, e⟩ | ⟨o, p, q, e⟩ <;> rw [e] at hb ⊢
  · exact hb
  · show (stp [o] _ 1).2 = _
    rw [stp_one _ _ (hx _), hw]; exact hb
  · show (stp [o, p] _ 2).2 = _
    rw [stp_two _ _ _ _ (hx _) (hx _), hw, hw]; exact hb
  · show (stp [o, p, q] _ 3).2 = _
    rw [stp_three _ _ _ _ _ _ (hx _) (hx _) (hx _), hw, hw, hw]; exact hb
theorem hd_pr {op d a b m : Int} (h : IM.rc op d a b m = 0) : hd (pr op d a b m) = nm op := by
  rw [pr_tx h]; exact (tx_cut op d a b m _).1
theorem pr_ne {op d a b m : Int} (h : IM.rc op d a b m = 0) : pr op d a b m ≠ [] := by
  unfold pr
  rw [if_pos h]
  intro e
  exact nm_ne (IM.rc_ok h).1 (List.append_eq_nil_iff.1 e).1
theorem wr_len {d a b m : Int} (hd : 0 ≤ d ∧ d < 16) (ha : 0 ≤ a ∧ a < 16) (hb : 0 ≤ b ∧ b < 16) (hm : -131072 ≤ m ∧ m < 262144) (o : Nat) : (wr d a b m o).length ≤ 22 := by
  have key : ∀ n : Int, -131072 ≤ n → n < 262144 → (Lib.itoa n).length ≤ 21 := fun n h0 h1 => Lib.itoa_length_le n (by omega) (by omega)
  unfold wr
  split
  · have := key d (by omega) (by omega); simp only [List.length_cons]; omega
  split
  · have := key a (by omega) (by omega); simp only [List.length_cons]; omega
  split
  · have := key b (by omega) (by omega); simp only [List.length_cons]; omega
  · have := key m (by omega) (by omega); omega
theorem pr_len (op d a b m : Int) : (pr op d a b m).length ≤ 100 := by
  by_cases h : IM.rc op d a b m = 0
  · obtain ⟨_, _, _, _, rm⟩ := rc_parts h
    obtain ⟨_, rd, ra, rb, _⟩ := IM.rc_ok h
    have hw := wr_len rd ra rb rm
    have hn := nm_len op
    rw [pr_tx h]
    unfold tx
    split
    · rename_i o _; have := hw o; simp only [List.length_append, List.length_cons, List.length_nil]; omega
    · rename_i o p _; have := hw o; have := hw p; simp only [List.length_append, List.length_cons, List.length_nil]; omega
    · rename_i o p q _; have := hw o; have := hw p; have := hw q; simp only [List.length_append, List.length_cons, List.length_nil]; omega
    · omega
  · rw [pr_no h]; simp
/-! ### What Parse answers -/
def pe (l : List UInt8) : Int := if oo (hd l) = 0 then 9 else if pr (oo (hd l)) (cand (oo (hd l)) l).1 (cand (oo (hd l)) l).2.1 (cand (oo (hd l)) l).2.2.1 (cand (oo (hd l)) l).2.2.2 = l then 0 else 2
def pq (l : List UInt8) : Int × Int × Int × Int × Int := if pe l = 0 then (oo (hd l), cand (oo (hd l)) l) else (0, 0, 0, 0, 0)
theorem oo_hd_ne {l : List UInt8} (h : ¬ oo (hd l) = 0) : l ≠ [] := by
  rintro rfl
  exact h (by decide +kernel)
theorem pe_nine {l : List UInt8} (h : oo (hd l) = 0) : pe l = 9 ∧ pq l = (0, 0, 0, 0, 0) := by
  have e : pe l = 9 := by unfold pe; rw [if_pos h]
  exact ⟨e, by unfold pq; rw [e]; rfl⟩
theorem pr_valid {op d a b m : Int} (h : pr op d a b m ≠ []) : IM.rc op d a b m = 0 := Decidable.byContradiction fun h0 => h (pr_no h0)
/-- A reading that is written as the text is the answer. -/
theorem pe_yes {l : List UInt8} {d a b m : Int} (h : ¬ oo (hd l) = 0) (e : pr (oo (hd l)) d a b m = l) : pe l = 0 ∧ pq l = (oo (hd l), d, a, b, m) := by
  have hv : IM.rc (oo (hd l)) d a b m = 0 := pr_valid (by rw [e]; exact oo_hd_ne h)
  have hc : cand (oo (hd l)) l = (d, a, b, m) := by
    have := cand_pr hv
    rw [e] at this
    exact this
  have h0 : pe l = 0 := by unfold pe; rw [if_neg h, hc]; exact if_pos e
  exact ⟨h0, by unfold pq; rw [if_pos h0, hc]⟩
/-- A text that no reading is written as. -/
theorem pe_no {l : List UInt8} (h : ¬ oo (hd l) = 0) (e : ∀ d a b m, pr (oo (hd l)) d a b m ≠ l) : pe l = 2 ∧ pq l = (0, 0, 0, 0, 0) := by
  have h2 : pe l = 2 := by unfold pe; rw [if_neg h, if_neg (e _ _ _ _)]
  exact ⟨h2, by unfold pq; rw [h2]; rfl⟩
/-- Parse inverts Print. -/
theorem pe_pr {op d a b m : Int} (h : IM.rc op d a b m = 0) : pe (pr op d a b m) = 0 ∧ pq (pr op d a b m) = (op, d, a, b, m) := by
  have e1 : oo (hd (pr op d a b m)) = op := by rw [hd_pr h]; exact oo_nm (IM.rc_ok h).1
  have := pe_yes (l := pr op d a b m) (d := d) (a := a) (b := b) (m := m) (by rw [e1]; have := (IM.rc_ok h).1; omega) (by rw [e1])
  rw [e1] at this
  exact this
/-- What is read is written as it was. -/
theorem pq_pr {l : List UInt8} (h : pe l = 0) : pr (pq l).1 (pq l).2.1 (pq l).2.2.1 (pq l).2.2.2.1 (pq l).2.2.2.2 = l := by
  unfold pq
  rw [if_pos h]
  unfold pe at h
  split at h
  · omega
  · split at h
    · assumption
    · omega
theorem pr_once {op d a b m op' d' a' b' m' : Int} (h : pr op d a b m = pr op' d' a' b' m') (hn : pr op d a b m ≠ []) : op = op' ∧ d = d' ∧ a = a' ∧ b = b' ∧ m = m' := by
  have e1 := (pe_pr (pr_valid hn)).2
  have e2 := (pe_pr (pr_valid (by rw [← h]; exact hn))).2
  rw [h, e2] at e1
  simp only [Prod.mk.injEq] at e1
  obtain ⟨r1, r2, r3, r4, r5⟩ := e1
  exact ⟨r1.symm, r2.symm, r3.symm, r4.symm, r5.symm⟩
end TX
end Go.Proofs.YtcnmnkgnaknpdaaGreatDoor.S07
/-! S07MathB -/
namespace Go.Proofs.YtcnmnkgnaknpdaaGreatDoor.S07
open S02 S06
namespace TX
/-- The places behind the blanks. -/
def bq : Nat → List UInt8 → List Nat
  | _, [] => []
  | i, c :: t => (if c = 32 then [i + 1] else []) ++ bq (i + 1) t
theorem bq_app (x y : List UInt8) (i : Nat) : bq i (x ++ y) = bq i x ++ bq (i + x.length) y := by
  induction x generalizing i with
  | nil => rfl
  | cons c t ih =>
    rw [List.cons_append, bq, bq, ih (i + 1), List.append_assoc, List.length_cons, show i + 1 + t.length = i + (t.length + 1) by omega]
theorem bq_no (x : List UInt8) (i : Nat) (h : (32 : UInt8) ∉ x) : bq i x = [] := by
  induction x generalizing i with
  | nil => rfl
  | cons c t ih =>
    have hc : ¬ c = 32 := fun e => h (by rw [e]; exact List.mem_cons_self ..)
    rw [bq, if_neg hc, ih (i + 1) (fun e => h (List.mem_cons_of_mem _ e))]
    rfl
theorem bq_bl (i : Nat) (x : List UInt8) : bq i (32 :: x) = (i + 1) :: bq (i + 1) x := rfl
theorem bq_cb (i : Nat) (x : List UInt8) : bq i (44 :: 32 :: x) = (i + 2) :: bq (i + 2) x := rfl
theorem bq_len (i : Nat) (x : List UInt8) : (bq i x).length ≤ x.length := by
  induction x generalizing i with
  | nil => simp [bq]
  | cons c t ih =>
    have := ih (i + 1)
    rw [bq, List.length_append, List.length_cons]
    split <;> simp <;> omega
theorem bq_le (i : Nat) (x : List UInt8) : ∀ p ∈ bq i x, p ≤ i + x.length := by
  induction x generalizing i with
  | nil => simp [bq]
  | cons c t ih =>
    intro p hp
    rw [bq] at hp
    rcases List.mem_append.1 hp with hp | hp
    · split at hp
      · have := List.mem_singleton.1 hp
        rw [List.length_cons]; omega
      · cases hp
    · have := ih (i + 1) p hp
      rw [List.length_cons]; omega
/-- The number of the digits at the head, of at most f of them. -/
def dn : Nat → List UInt8 → Nat → Nat
  | 0, _, n => n
  | _ + 1, [], n => n
  | f + 1, c :: t, n => if 48 ≤ c.toNat ∧ c.toNat ≤ 57 then dn f t (10 * n + (c.toNat - 48)) else n
/-- The number at the head, with its sign. -/
def rnl (t : List UInt8) : Int := if t.head? = some 45 then -(dn 9 t.tail 0 : Int) else dn 9 t 0
def rn (l : List UInt8) (p : Nat) : Int := rnl (l.drop p)
theorem dn_lt (f : Nat) (t : List UInt8) (n k : Nat) (h : n < 10 ^ k) : dn f t n < 10 ^ (k + f) := by
  induction f generalizing t n k with
  | zero => rw [dn]; exact h
  | succ f ih =>
    cases t with
    | nil =>
      rw [dn]
      · exact Nat.lt_of_lt_of_le h (Nat.pow_le_pow_right (by omega) (by omega))
    | cons c t =>
      rw [dn]
      split
      · rename_i hc
        have := ih t (10 * n + (c.toNat - 48)) (k + 1) (by rw [Nat.pow_succ]; omega)
        rw [show k + (f + 1) = k + 1 + f by omega]
        exact this
      · exact Nat.lt_of_lt_of_le h (Nat.pow_le_pow_right (by omega) (by omega))
theorem rn_bd (l : List UInt8) (p : Nat) : -1000000000 < rn l p ∧ rn l p < 1000000000 := by
  have key : ∀ t, dn 9 t 0 < 1000000000 := fun t => by
    have := dn_lt 9 t 0 0 (by decide)
    rw [show (10 : Nat) ^ (0 + 9) = 1000000000 by decide] at this
    exact this
  unfold rn rnl
  split
  · have := key (l.drop p).tail; omega
  · have := key (l.drop p); omega
/-- No digit stands at the head. -/
def stops (y : List UInt8) : Prop := ∀ c t, y = c :: t → ¬ (48 ≤ c.toNat ∧ c.toNat ≤ 57)
theorem dn_app (x y : List UInt8) (f n : Nat) (hx : ∀ c ∈ x, 48 ≤ c.toNat ∧ c.toNat ≤ 57) (hl : x.length ≤ f) (hy : stops y) : dn f (x ++ y) n = x.foldl (fun n c => n * 10 + NM.dv c) n := by
  induction x generalizing f n with
  | nil =>
    cases f with
    | zero => rw [dn]; rfl
    | succ f =>
      cases y with
      | nil => rw [List.nil_append, dn]; rfl
      | cons c t => rw [List.nil_append, dn, if_neg (hy c t rfl)]; rfl
  | cons c t ih =>
    cases f with
    | zero => simp at hl
    | succ f =>
      have hc := hx c (List.mem_cons_self ..)
      rw [List.cons_append, dn, if_pos hc, ih f _ (fun e he => hx e (List.mem_cons_of_mem _ he)) (by simpa using hl), List.foldl_cons]
      have : NM.dv c = c.toNat - 48 := by unfold NM.dv; rw [if_pos hc]
      rw [this, Nat.mul_comm]
theorem dn_dec (u : Nat) (y : List UInt8) (hu : u < 1000000000) (hy : stops y) : dn 9 (Lib.decDigits u ++ y) 0 = u := by
  rw [dn_app _ _ _ _ (dec_mem u) (NM.dec_len 9 u (by omega) (by rw [show (10 : Nat) ^ 9 = 1000000000 by decide]; exact hu)) hy]
  exact (NM.dec_all u).2
theorem rnl_itoa (n : Int) (y : List UInt8) (h : -131072 ≤ n ∧ n < 262144) (hy : stops y) : rnl (Lib.itoa n ++ y) = n := by
  by_cases hn : n < 0
  · obtain ⟨u, rfl⟩ : ∃ u : Nat, n = -(u : Int) := ⟨n.natAbs, by omega⟩
    rw [Lib.itoa_neg u (by omega)]
    unfold rnl
    rw [if_pos (show (45 :: Lib.decDigits u ++ y).head? = some 45 from rfl), List.cons_append, List.tail_cons, dn_dec u y (by omega) hy]
  · obtain ⟨u, rfl⟩ : ∃ u : Nat, n = u := ⟨n.toNat, by omega⟩
    rw [Lib.itoa_nonneg]
    unfold rnl
    rw [if_neg, dn_dec u y (by omega) hy]
    intro e
    cases hd : Lib.decDigits u with
    | nil => have := NM.vB_dec u; rw [hd] at this; exact absurd this (by decide)
    | cons c t =>
      rw [hd, List.cons_append, List.head?_cons] at e
      have hc := dec_mem u c (by rw [hd]; exact List.mem_cons_self ..)
      rw [Option.some.inj e] at hc
      revert hc; decide
theorem drop_at (x y : List UInt8) (p : Nat) (h : p = x.length) : (x ++ y).drop p = y := by rw [h, List.drop_left]
theorem os_le (f : Int) : ∀ o ∈ os f, o ≤ 3 := by
  unfold os
  intro o ho
  repeat' split at ho
  all_goals (simp at ho; try omega)
/-- The number at an operand's place. -/
theorem rn_wr {d a b m : Int} (hd : 0 ≤ d ∧ d < 16) (ha : 0 ≤ a ∧ a < 16) (hb : 0 ≤ b ∧ b < 16) (hm : -131072 ≤ m ∧ m < 262144) (o : Nat) (ho : o ≤ 3) (l y : List UInt8) (p : Nat) (hl : l.drop p = wr d a b m o ++ y) (hy : stops y) :
    rn l (p + if o = 3 then 0 else 1) = vl d a b m o := by
  have hr : ∀ n : Int, 0 ≤ n ∧ n < 16 → l.drop p = 114 :: Lib.itoa n ++ y → rn l (p + 1) = n := fun n hn e => by
    unfold rn
    rw [← List.drop_drop, e, List.cons_append, List.drop_one, List.tail_cons]
    exact rnl_itoa n y (by omega) hy
  have : o = 0 ∨ o = 1 ∨ o = 2 ∨ o = 3 := by omega
  rcases this with rfl | rfl | rfl | rfl
  · exact hr d hd hl
  · exact hr a ha hl
  · exact hr b hb hl
  · unfold rn; rw [if_pos rfl, Nat.add_zero, hl]; exact rnl_itoa m y hm hy
/-- The operands that the reference has read, the first k. -/
def rst (l : List UInt8) (o : List Nat) (p : List Nat) : Nat → Int × Int × Int × Int
  | 0 => (0, 0, 0, 0)
  | k + 1 => wth (o.getD k 4) (rn l (p.getD k 0 + if o.getD k 4 = 3 then 0 else 1)) (rst l o p k)
def rcand (op : Int) (l : List UInt8) : Int × Int × Int × Int := rst l (os (IM.fm op)) (bq 0 l) (min (os (IM.fm op)).length (bq 0 l).length)
theorem stops_nil : stops [] := fun _ _ e => by cases e
theorem stops_comma (y : List UInt8) : stops ([44, 32] ++ y) := fun c t e => by
  rw [List.cons_append] at e
  injection e with e1 _
  rw [← e1]; decide
theorem rcand_pr {op d a b m : Int} (h : IM.rc op d a b m = 0) : rcand op (pr op d a b m) = (d, a, b, m) := by
  obtain ⟨r1, r2, r3, r4, rm⟩ := rc_parts h
  obtain ⟨_, rd, ra, rb, _⟩ := IM.rc_ok h
  have hb := os_back (IM.fm op) d a b m (fm_rng h) r1 r2 r3 r4
  have hw := fun o ho l y p hl hy => rn_wr rd ra rb rm o ho l y p hl hy
  have hle := os_le (IM.fm op)
  have hn : ∀ i, bq i (nm op) = [] := fun i => bq_no _ i (fun h => (nm_plain op 32 h).1 rfl)
  have hx : ∀ o i, bq i (wr d a b m o) = [] := fun o i => bq_no _ i (wr_32 d a b m o)
  unfold rcand
  rw [pr_tx h]
  rcases os_shape (IM.fm op) with e | ⟨o, e⟩ | ⟨o, p, e⟩ | ⟨o, p, q, e⟩ <;> rw [e] at hb hle ⊢
  · exact hb
  · have l0 : o ≤ 3 := hle o (by simp)
    have hq : bq 0 (tx (nm op) d a b m [o]) = [(nm op).length + 1] := by
      simp only [tx, List.cons_append, List.nil_append, bq_app, hn, hx, bq_bl, Nat.zero_add]
    rw [hq]
    show rst _ [o] [(nm op).length + 1] 1 = _
    have v0 := hw o l0 (tx (nm op) d a b m [o]) [] ((nm op).length + 1) (by
      rw [tx, ← List.append_assoc, List.append_nil]; exact drop_at _ _ _ (by simp <;> omega)) stops_nil
    simp only [rst, List.getD_cons_zero, v0]
    exact hb
  · have l0 : o ≤ 3 := hle o (by simp)
    have l1 : p ≤ 3 := hle p (by simp)
    have hq : bq 0 (tx (nm op) d a b m [o, p]) = [(nm op).length + 1, (nm op).length + 1 + (wr d a b m o).length + 2] := by
      simp only [tx, List.cons_append, List.nil_append, bq_app, hn, hx, bq_bl, bq_cb, Nat.zero_add]
    rw [hq]
    show rst _ [o, p] [(nm op).length + 1, (nm op).length + 1 + (wr d a b m o).length + 2] 2 = _
    have v0 := hw o l0 (tx (nm op) d a b m [o, p]) ([44, 32] ++ wr d a b m p) ((nm op).length + 1) (by
      rw [tx, ← List.append_assoc (nm op)]; exact drop_at _ _ _ (by simp <;> omega)) (stops_comma _)
    have v1 := hw p l1 (tx (nm op) d a b m [o, p]) [] ((nm op).length + 1 + (wr d a b m o).length + 2) (by
      rw [tx, ← List.append_assoc (nm op), ← List.append_assoc (nm op ++ [32]), ← List.append_assoc (nm op ++ [32] ++ wr d a b m o), List.append_nil]; exact drop_at _ _ _ (by simp <;> omega)) stops_nil
    simp only [rst, List.getD_cons_zero, List.getD_cons_succ, v0, v1]
    exact hb
  · have l0 : o ≤ 3 := hle o (by simp)
    have l1 : p ≤ 3 := hle p (by simp)
    have l2 : q ≤ 3 := hle q (by simp)
    have hq : bq 0 (tx (nm op) d a b m [o, p, q]) = [(nm op).length + 1, (nm op).length + 1 + (wr d a b m o).length + 2, (nm op).length + 1 + (wr d a b m o).length + 2 + (wr d a b m p).length + 2] := by
      simp only [tx, List.cons_append, List.nil_append, bq_app, hn, hx, bq_bl, bq_cb, Nat.zero_add]
    rw [hq]
    show rst _ [o, p, q] [(nm op).length + 1, (nm op).length + 1 + (wr d a b m o).length + 2, (nm op).length + 1 + (wr d a b m o).length + 2 + (wr d a b m p).length + 2] 3 = _
    have v0 := hw o l0 (tx (nm op) d a b m [o, p, q]) ([44, 32] ++ (wr d a b m p ++ ([44, 32] ++ wr d a b m q))) ((nm op).length + 1) (by
      rw [tx, ← List.append_assoc (nm op)]; exact drop_at _ _ _ (by simp <;> omega)) (stops_comma _)
    have v1 := hw p l1 (tx (nm op) d a b m [o, p, q]) ([44, 32] ++ wr d a b m q) ((nm op).length + 1 + (wr d a b m o).length + 2) (by
      rw [tx, ← List.append_assoc (nm op), ← List.append_assoc (nm op ++ [32]), ← List.append_assoc (nm op ++ [32] ++ wr d a b m o)]; exact drop_at _ _ _ (by simp <;> omega)) (stops_comma _)
    have v2 := hw q l2 (tx (nm op) d a b m [o, p, q]) [] ((nm op).length + 1 + (wr d a b m o).length + 2 + (wr d a b m p).length + 2) (by
      rw [tx, ← List.append_assoc (nm op), ← List.append_assoc (nm op ++ [32]), ← List.append_assoc (nm op ++ [32] ++ wr d a b m o), ← List.append_assoc (nm op ++ [32] ++ wr d a b m o ++ [44, 32]), ← List.append_assoc (nm op ++ [32] ++ wr d a b m o ++ [44, 32] ++ wr d a b m p), List.append_nil]; exact drop_at _ _ _ (by simp <;> omega)) stops_nil
    simp only [rst, List.getD_cons_zero, List.getD_cons_succ, v0, v1, v2]
    exact hb
/-- What the reference's reading gives. -/
theorem pe_ref_yes {l : List UInt8} (h : ¬ oo (hd l) = 0) (e : pr (oo (hd l)) (rcand (oo (hd l)) l).1 (rcand (oo (hd l)) l).2.1 (rcand (oo (hd l)) l).2.2.1 (rcand (oo (hd l)) l).2.2.2 = l) :
    pe l = 0 ∧ pq l = (oo (hd l), rcand (oo (hd l)) l) := pe_yes h e
theorem pe_ref_no {l : List UInt8} (h : ¬ oo (hd l) = 0) (e : ¬ pr (oo (hd l)) (rcand (oo (hd l)) l).1 (rcand (oo (hd l)) l).2.1 (rcand (oo (hd l)) l).2.2.1 (rcand (oo (hd l)) l).2.2.2 = l) :
    pe l = 2 ∧ pq l = (0, 0, 0, 0, 0) :=
  pe_no h fun d a b m hp => e (by
    have hv : IM.rc (oo (hd l)) d a b m = 0 := pr_valid (by rw [hp]; exact oo_hd_ne h)
    have := rcand_pr hv
    rw [hp] at this
    rw [this]
    exact hp)
theorem pe_own_yes {l : List UInt8} (h : ¬ oo (hd l) = 0) (e : pr (oo (hd l)) (cand (oo (hd l)) l).1 (cand (oo (hd l)) l).2.1 (cand (oo (hd l)) l).2.2.1 (cand (oo (hd l)) l).2.2.2 = l) :
    pe l = 0 ∧ pq l = (oo (hd l), cand (oo (hd l)) l) := pe_yes h e
theorem pe_own_no {l : List UInt8} (h : ¬ oo (hd l) = 0) (e : ¬ pr (oo (hd l)) (cand (oo (hd l)) l).1 (cand (oo (hd l)) l).2.1 (cand (oo (hd l)) l).2.2.1 (cand (oo (hd l)) l).2.2.2 = l) :
    pe l = 2 ∧ pq l = (0, 0, 0, 0, 0) :=
  pe_no h fun d a b m hp => e (by
    have hv : IM.rc (oo (hd l)) d a b m = 0 := pr_valid (by rw [hp]; exact oo_hd_ne h)
    have := cand_pr hv
    rw [hp] at this
    rw [this]
    exact hp)
/-! ### What stands ahead of the first blank -/
theorem hd_hit (l : List UInt8) (k : Nat) (hk : k < l.length) (h : ∀ j, j < k → l.getD j 0 ≠ 32) (e : l.getD k 0 = 32) : hd l = l.take k := by
  have hs : l = l.take k ++ ([32] ++ l.drop (k + 1)) := by
    have e' : l[k] = 32 := by rw [List.getD_eq_getElem?_getD, List.getElem?_eq_getElem hk] at e; exact e
    rw [List.cons_append, List.nil_append, ← e', List.getElem_cons_drop, List.take_append_drop]
  have hn : (32 : UInt8) ∉ l.take k := by
    intro hm
    obtain ⟨j, hj, ej⟩ := List.getElem_of_mem hm
    have hjk : j < k := by rw [List.length_take] at hj; omega
    refine h j hjk ?_
    rw [List.getElem_take] at ej
    rw [List.getD_eq_getElem?_getD, List.getElem?_eq_getElem (by omega), ej]
    rfl
  unfold hd
  have := cut_at 32 [] (l.take k) (l.drop (k + 1)) hn
  rw [List.cons_append, List.nil_append] at this
  rw [List.cons_append, List.nil_append] at hs
  conv => lhs; rw [hs]
  rw [this]
theorem hd_miss (l : List UInt8) (h : ∀ j, j < l.length → l.getD j 0 ≠ 32) : hd l = l := by
  have hn : (32 : UInt8) ∉ l := by
    intro hm
    obtain ⟨j, hj, ej⟩ := List.getElem_of_mem hm
    refine h j hj ?_
    rw [List.getD_eq_getElem?_getD, List.getElem?_eq_getElem hj, ej]
    rfl
  unfold hd
  rw [cut_no 32 [] l hn]
theorem bq_step (l : List UInt8) (k : Nat) (hk : k < l.length) : bq k (l.drop k) = (if l.getD k 0 = 32 then [k + 1] else []) ++ bq (k + 1) (l.drop (k + 1)) := by
  rw [List.drop_eq_getElem_cons hk, bq, List.getD_eq_getElem?_getD, List.getElem?_eq_getElem hk]
  rfl
theorem dn_step (l : List UInt8) (p f n : Nat) (hp : p < l.length) (h : 48 ≤ (l.getD p 0).toNat ∧ (l.getD p 0).toNat ≤ 57) : dn (f + 1) (l.drop p) n = dn f (l.drop (p + 1)) (10 * n + ((l.getD p 0).toNat - 48)) := by
  rw [List.getD_eq_getElem?_getD, List.getElem?_eq_getElem hp] at h ⊢
  rw [List.drop_eq_getElem_cons hp, dn]
  exact if_pos h
theorem dn_stop (l : List UInt8) (p f n : Nat) (hp : p < l.length) (h : ¬ (48 ≤ (l.getD p 0).toNat ∧ (l.getD p 0).toNat ≤ 57)) : dn (f + 1) (l.drop p) n = n := by
  rw [List.getD_eq_getElem?_getD, List.getElem?_eq_getElem hp] at h
  rw [List.drop_eq_getElem_cons hp, dn]
  exact if_neg h
theorem dn_end (l : List UInt8) (p f n : Nat) (hp : l.length ≤ p) : dn f (l.drop p) n = n := by
  rw [List.drop_eq_nil_of_le hp]
  cases f <;> rw [dn]
theorem rn_minus (l : List UInt8) (p : Nat) (hp : p < l.length) (h : l.getD p 0 = 45) : rn l p = -(dn 9 (l.drop (p + 1)) 0 : Int) := by
  rw [List.getD_eq_getElem?_getD, List.getElem?_eq_getElem hp] at h
  unfold rn rnl
  rw [List.drop_eq_getElem_cons hp, List.head?_cons, show l[p] = 45 from h, if_pos rfl, List.tail_cons]
theorem rn_plus (l : List UInt8) (p : Nat) (h : ¬ (p < l.length ∧ l.getD p 0 = 45)) : rn l p = (dn 9 (l.drop p) 0 : Int) := by
  unfold rn rnl
  rw [if_neg]
  intro e
  by_cases hp : p < l.length
  · refine h ⟨hp, ?_⟩
    rw [List.drop_eq_getElem_cons hp, List.head?_cons] at e
    rw [List.getD_eq_getElem?_getD, List.getElem?_eq_getElem hp]
    exact Option.some.inj e
  · rw [List.drop_eq_nil_of_le (by omega)] at e
    cases e
/-! ### The causes -/
def cs (n : Int) : List UInt8 :=
  if n = 0 then [110, 111, 110, 101] else if n = 1 then [102, 101, 116, 99, 104] else if n = 2 then [105, 108, 108, 101, 103, 97, 108] else if n = 3 then [115, 116, 111, 112] else if n = 4 then [108, 111, 97, 100] else
  if n = 5 then [97, 108, 105, 103, 110] else if n = 6 then [115, 116, 111, 114, 101] else if n = 7 then [99, 97, 108, 108] else if n = 8 then [112, 114, 105, 118] else if n = 9 then [98, 117, 115] else if n = 10 then [115, 105, 110, 103, 108, 101] else
  if n = 16 then [111, 117, 116] else if n = 17 then [115, 101, 110, 100] else if n = 18 then [116, 105, 109, 101, 114] else []
/-- The number of a cause's name. -/
def cn (l : List UInt8) : Int :=
  if l = [110, 111, 110, 101] then 0 else if l = [102, 101, 116, 99, 104] then 1 else if l = [105, 108, 108, 101, 103, 97, 108] then 2 else if l = [115, 116, 111, 112] then 3 else if l = [108, 111, 97, 100] then 4 else
  if l = [97, 108, 105, 103, 110] then 5 else if l = [115, 116, 111, 114, 101] then 6 else if l = [99, 97, 108, 108] then 7 else if l = [112, 114, 105, 118] then 8 else if l = [98, 117, 115] then 9 else if l = [115, 105, 110, 103, 108, 101] then 10 else
  if l = [111, 117, 116] then 16 else if l = [115, 101, 110, 100] then 17 else if l = [116, 105, 109, 101, 114] then 18 else 0
theorem cs_back (n : Int) : cs n = [] ∨ cn (cs n) = n := by
  rcases Decidable.em (n = 0) with rfl | h0
  · exact .inr (by decide)
  rcases Decidable.em (n = 1) with rfl | h1
  · exact .inr (by decide)
  rcases Decidable.em (n = 2) with rfl | h2
  · exact .inr (by decide)
  rcases Decidable.em (n = 3) with rfl | h3
  · exact .inr (by decide)
  rcases Decidable.em (n = 4) with rfl | h4
  · exact .inr (by decide)
  rcases Decidable.em (n = 5) with rfl | h5
  · exact .inr (by decide)
  rcases Decidable.em (n = 6) with rfl | h6
  · exact .inr (by decide)
  rcases Decidable.em (n = 7) with rfl | h7
  · exact .inr (by decide)
  rcases Decidable.em (n = 8) with rfl | h8
  · exact .inr (by decide)
  rcases Decidable.em (n = 9) with rfl | h9
  · exact .inr (by decide)
  rcases Decidable.em (n = 10) with rfl | h10
  · exact .inr (by decide)
  rcases Decidable.em (n = 16) with rfl | h16
  · exact .inr (by decide)
  rcases Decidable.em (n = 17) with rfl | h17
  · exact .inr (by decide)
  rcases Decidable.em (n = 18) with rfl | h18
  · exact .inr (by decide)
  exact .inl (by unfold cs; simp only [h0, h1, h2, h3, h4, h5, h6, h7, h8, h9, h10, h16, h17, h18, if_false])
theorem cs_once {n m : Int} (h : cs n = cs m) (hn : cs n ≠ []) : n = m := by
  have e1 := (cs_back n).resolve_left hn
  have e2 := (cs_back m).resolve_left (by rw [← h]; exact hn)
  rw [← e1, ← e2, h]
end TX
end Go.Proofs.YtcnmnkgnaknpdaaGreatDoor.S07
