/-
  Plain mathematics: how the reference reads a text: the places behind blanks, the number at a place; and that this gives the instruction back, too. No condition.
-/
import Derived.Test.YtfgkcjalfhbjjaaDoorMath
namespace Go.Proofs.YtfgkcjalfhbjjaaDoor
open S02 S06
namespace TX
/-- The places behind the blanks. -/
def bq : Nat → List UInt8 → List Nat
  | _, [] => []
  | i, c :: t => (if c = 32 then [i + 1] else []) ++ bq (i + 1) t
theorem bq_app (x y : List UInt8) (i : Nat) : bq i (x ++ y) = bq i x ++ bq (i + x.length) y := by
  induction x generalizing i with
  | nil => rfl
  | cons c t ih =>
    rw [List.cons_append, bq, bq, ih (i + 1), List.append_assoc, List.length_cons, show i + 1 + t.length = i + (t.length + 1) by omega]
theorem bq_no (x : List UInt8) (i : Nat) (h : (32 : UInt8) ∉ x) : bq i x = [] := by
  induction x generalizing i with
  | nil => rfl
  | cons c t ih =>
    have hc : ¬ c = 32 := fun e => h (by rw [e]; exact List.mem_cons_self ..)
    rw [bq, if_neg hc, ih (i + 1) (fun e => h (List.mem_cons_of_mem _ e))]
    rfl
theorem bq_bl (i : Nat) (x : List UInt8) : bq i (32 :: x) = (i + 1) :: bq (i + 1) x := rfl
theorem bq_cb (i : Nat) (x : List UInt8) : bq i (44 :: 32 :: x) = (i + 2) :: bq (i + 2) x := rfl
theorem bq_len (i : Nat) (x : List UInt8) : (bq i x).length ≤ x.length := by
  induction x generalizing i with
  | nil => simp [bq]
  | cons c t ih =>
    have := ih (i + 1)
    rw [bq, List.length_append, List.length_cons]
    split <;> simp <;> omega
theorem bq_le (i : Nat) (x : List UInt8) : ∀ p ∈ bq i x, p ≤ i + x.length := by
  induction x generalizing i with
  | nil => simp [bq]
  | cons c t ih =>
    intro p hp
    rw [bq] at hp
    rcases List.mem_append.1 hp with hp | hp
    · split at hp
      · have := List.mem_singleton.1 hp
        rw [List.length_cons]; omega
      · cases hp
    · have := ih (i + 1) p hp
      rw [List.length_cons]; omega
/-- The number of the digits at the head, of at most f of them. -/
def dn : Nat → List UInt8 → Nat → Nat
  | 0, _, n => n
  | _ + 1, [], n => n
  | f + 1, c :: t, n => if 48 ≤ c.toNat ∧ c.toNat ≤ 57 then dn f t (10 * n + (c.toNat - 48)) else n
/-- The number at the head, with its sign. -/
def rnl (t : List UInt8) : Int := if t.head? = some 45 then -(dn 9 t.tail 0 : Int) else dn 9 t 0
def rn (l : List UInt8) (p : Nat) : Int := rnl (l.drop p)
theorem dn_lt (f : Nat) (t : List UInt8) (n k : Nat) (h : n < 10 ^ k) : dn f t n < 10 ^ (k + f) := by
  induction f generalizing t n k with
  | zero => rw [dn]; exact h
  | succ f ih =>
    cases t with
    | nil =>
      rw [dn]
      · exact Nat.lt_of_lt_of_le h (Nat.pow_le_pow_right (by omega) (by omega))
    | cons c t =>
      rw [dn]
      split
      · rename_i hc
        have := ih t (10 * n + (c.toNat - 48)) (k + 1) (by rw [Nat.pow_succ]; omega)
        rw [show k + (f + 1) = k + 1 + f by omega]
        exact this
      · exact Nat.lt_of_lt_of_le h (Nat.pow_le_pow_right (by omega) (by omega))
theorem rn_bd (l : List UInt8) (p : Nat) : -1000000000 < rn l p ∧ rn l p < 1000000000 := by
  have key : ∀ t, dn 9 t 0 < 1000000000 := fun t => by
    have := dn_lt 9 t 0 0 (by decide)
    rw [show (10 : Nat) ^ (0 + 9) = 1000000000 by decide] at this
    exact this
  unfold rn rnl
  split
  · have := key (l.drop p).tail; omega
  · have := key (l.drop p); omega
/-- No digit stands at the head. -/
def stops (y : List UInt8) : Prop := ∀ c t, y = c :: t → ¬ (48 ≤ c.toNat ∧ c.toNat ≤ 57)
theorem dn_app (x y : List UInt8) (f n : Nat) (hx : ∀ c ∈ x, 48 ≤ c.toNat ∧ c.toNat ≤ 57) (hl : x.length ≤ f) (hy : stops y) : dn f (x ++ y) n = x.foldl (fun n c => n * 10 + NM.dv c) n := by
  induction x generalizing f n with
  | nil =>
    cases f with
    | zero => rw [dn]; rfl
    | succ f =>
      cases y with
      | nil => rw [List.nil_append, dn]; rfl
      | cons c t => rw [List.nil_append, dn, if_neg (hy c t rfl)]; rfl
  | cons c t ih =>
    cases f with
    | zero => simp at hl
    | succ f =>
      have hc := hx c (List.mem_cons_self ..)
      rw [List.cons_append, dn, if_pos hc, ih f _ (fun e he => hx e (List.mem_cons_of_mem _ he)) (by simpa using hl), List.foldl_cons]
      have : NM.dv c = c.toNat - 48 := by unfold NM.dv; rw [if_pos hc]
      rw [this, Nat.mul_comm]
theorem dn_dec (u : Nat) (y : List UInt8) (hu : u < 1000000000) (hy : stops y) : dn 9 (Lib.decDigits u ++ y) 0 = u := by
  rw [dn_app _ _ _ _ (dec_mem u) (NM.dec_len 9 u (by omega) (by rw [show (10 : Nat) ^ 9 = 1000000000 by decide]; exact hu)) hy]
  exact (NM.dec_all u).2
theorem rnl_itoa (n : Int) (y : List UInt8) (h : -131072 ≤ n ∧ n < 262144) (hy : stops y) : rnl (Lib.itoa n ++ y) = n := by
  by_cases hn : n < 0
  · obtain ⟨u, rfl⟩ : ∃ u : Nat, n = -(u : Int) := ⟨n.natAbs, by omega⟩
    rw [Lib.itoa_neg u (by omega)]
    unfold rnl
    rw [if_pos (show (45 :: Lib.decDigits u ++ y).head? = some 45 from rfl), List.cons_append, List.tail_cons, dn_dec u y (by omega) hy]
  · obtain ⟨u, rfl⟩ : ∃ u : Nat, n = u := ⟨n.toNat, by omega⟩
    rw [Lib.itoa_nonneg]
    unfold rnl
    rw [if_neg, dn_dec u y (by omega) hy]
    intro e
    cases hd : Lib.decDigits u with
    | nil => have := NM.vB_dec u; rw [hd] at this; exact absurd this (by decide)
    | cons c t =>
      rw [hd, List.cons_append, List.head?_cons] at e
      have hc := dec_mem u c (by rw [hd]; exact List.mem_cons_self ..)
      rw [Option.some.inj e] at hc
      revert hc; decide
theorem drop_at (x y : List UInt8) (p : Nat) (h : p = x.length) : (x ++ y).drop p = y := by rw [h, List.drop_left]
theorem os_le (f : Int) : ∀ o ∈ os f, o ≤ 3 := by
  unfold os
  intro o ho
  repeat' split at ho
  all_goals (simp at ho; try omega)
/-- The number at an operand's place. -/
theorem rn_wr {d a b m : Int} (hd : 0 ≤ d ∧ d < 16) (ha : 0 ≤ a ∧ a < 16) (hb : 0 ≤ b ∧ b < 16) (hm : -131072 ≤ m ∧ m < 262144) (o : Nat) (ho : o ≤ 3) (l y : List UInt8) (p : Nat) (hl : l.drop p = wr d a b m o ++ y) (hy : stops y) :
    rn l (p + if o = 3 then 0 else 1) = vl d a b m o := by
  have hr : ∀ n : Int, 0 ≤ n ∧ n < 16 → l.drop p = 114 :: Lib.itoa n ++ y → rn l (p + 1) = n := fun n hn e => by
    unfold rn
    rw [← List.drop_drop, e, List.cons_append, List.drop_one, List.tail_cons]
    exact rnl_itoa n y (by omega) hy
  have : o = 0 ∨ o = 1 ∨ o = 2 ∨ o = 3 := by omega
  rcases this with rfl | rfl | rfl | rfl
  · exact hr d hd hl
  · exact hr a ha hl
  · exact hr b hb hl
  · unfold rn; rw [if_pos rfl, Nat.add_zero, hl]; exact rnl_itoa m y hm hy
/-- The operands that the reference has read, the first k. -/
def rst (l : List UInt8) (o : List Nat) (p : List Nat) : Nat → Int × Int × Int × Int
  | 0 => (0, 0, 0, 0)
  | k + 1 => wth (o.getD k 4) (rn l (p.getD k 0 + if o.getD k 4 = 3 then 0 else 1)) (rst l o p k)
def rcand (op : Int) (l : List UInt8) : Int × Int × Int × Int := rst l (os (IM.fm op)) (bq 0 l) (min (os (IM.fm op)).length (bq 0 l).length)
theorem stops_nil : stops [] := fun _ _ e => by cases e
theorem stops_comma (y : List UInt8) : stops ([44, 32] ++ y) := fun c t e => by
  rw [List.cons_append] at e
  injection e with e1 _
  rw [← e1]; decide
theorem rcand_pr {op d a b m : Int} (h : IM.rc op d a b m = 0) : rcand op (pr op d a b m) = (d, a, b, m) := by
  obtain ⟨r1, r2, r3, r4, rm⟩ := rc_parts h
  obtain ⟨_, rd, ra, rb, _⟩ := IM.rc_ok h
  have hb := os_back (IM.fm op) d a b m (fm_rng h) r1 r2 r3 r4
  have hw := fun o ho l y p hl hy => rn_wr rd ra rb rm o ho l y p hl hy
  have hle := os_le (IM.fm op)
  have hn : ∀ i, bq i (nm op) = [] := fun i => bq_no _ i (fun h => (nm_plain op 32 h).1 rfl)
  have hx : ∀ o i, bq i (wr d a b m o) = [] := fun o i => bq_no _ i (wr_32 d a b m o)
  unfold rcand
  rw [pr_tx h]
  rcases os_shape (IM.fm op) with e | ⟨o, e⟩ | ⟨o, p, e⟩ | ⟨o, p, q, e⟩ <;> rw [e] at hb hle ⊢
  · exact hb
  · have l0 : o ≤ 3 := hle o (by simp)
    have hq : bq 0 (tx (nm op) d a b m [o]) = [(nm op).length + 1] := by
      simp only [tx, List.cons_append, List.nil_append, bq_app, hn, hx, bq_bl, Nat.zero_add]
    rw [hq]
    show rst _ [o] [(nm op).length + 1] 1 = _
    have v0 := hw o l0 (tx (nm op) d a b m [o]) [] ((nm op).length + 1) (by
      rw [tx, ← List.append_assoc, List.append_nil]; exact drop_at _ _ _ (by simp <;> omega)) stops_nil
    simp only [rst, List.getD_cons_zero, v0]
    exact hb
  · have l0 : o ≤ 3 := hle o (by simp)
    have l1 : p ≤ 3 := hle p (by simp)
    have hq : bq 0 (tx (nm op) d a b m [o, p]) = [(nm op).length + 1, (nm op).length + 1 + (wr d a b m o).length + 2] := by
      simp only [tx, List.cons_append, List.nil_append, bq_app, hn, hx, bq_bl, bq_cb, Nat.zero_add]
    rw [hq]
    show rst _ [o, p] [(nm op).length + 1, (nm op).length + 1 + (wr d a b m o).length + 2] 2 = _
    have v0 := hw o l0 (tx (nm op) d a b m [o, p]) ([44, 32] ++ wr d a b m p) ((nm op).length + 1) (by
      rw [tx, ← List.append_assoc (nm op)]; exact drop_at _ _ _ (by simp <;> omega)) (stops_comma _)
    have v1 := hw p l1 (tx (nm op) d a b m [o, p]) [] ((nm op).length + 1 + (wr d a b m o).length + 2) (by
      rw [tx, ← List.append_assoc (nm op), ← List.append_assoc (nm op ++ [32]), ← List.append_assoc (nm op ++ [32] ++ wr d a b m o), List.append_nil]; exact drop_at _ _ _ (by simp <;> omega)) stops_nil
    simp only [rst, List.getD_cons_zero, List.getD_cons_succ, v0, v1]
    exact hb
  · have l0 : o ≤ 3 := hle o (by simp)
    have l1 : p ≤ 3 := hle p (by simp)
    have l2 : q ≤ 3 := hle q (by simp)
    have hq : bq 0 (tx (nm op) d a b m [o, p, q]) = [(nm op).length + 1, (nm op).length + 1 + (wr d a b m o).length + 2, (nm op).length + 1 + (wr d a b m o).length + 2 + (wr d a b m p).length + 2] := by
      simp only [tx, List.cons_append, List.nil_append, bq_app, hn, hx, bq_bl, bq_cb, Nat.zero_add]
    rw [hq]
    show rst _ [o, p, q] [(nm op).length + 1, (nm op).length + 1 + (wr d a b m o).length + 2, (nm op).length + 1 + (wr d a b m o).length + 2 + (wr d a b m p).length + 2] 3 = _
    have v0 := hw o l0 (tx (nm op) d a b m [o, p, q]) ([44, 32] ++ (wr d a b m p ++ ([44, 32] ++ wr d a b m q))) ((nm op).length + 1) (by
      rw [tx, ← List.append_assoc (nm op)]; exact drop_at _ _ _ (by simp <;> omega)) (stops_comma _)
    have v1 := hw p l1 (tx (nm op) d a b m [o, p, q]) ([44, 32] ++ wr d a b m q) ((nm op).length + 1 + (wr d a b m o).length + 2) (by
      rw [tx, ← List.append_assoc (nm op), ← List.append_assoc (nm op ++ [32]), ← List.append_assoc (nm op ++ [32] ++ wr d a b m o)]; exact drop_at _ _ _ (by simp <;> omega)) (stops_comma _)
    have v2 := hw q l2 (tx (nm op) d a b m [o, p, q]) [] ((nm op).length + 1 + (wr d a b m o).length + 2 + (wr d a b m p).length + 2) (by
      rw [tx, ← List.append_assoc (nm op), ← List.append_assoc (nm op ++ [32]), ← List.append_assoc (nm op ++ [32] ++ wr d a b m o), ← List.append_assoc (nm op ++ [32] ++ wr d a b m o ++ [44, 32]), ← List.append_assoc (nm op ++ [32] ++ wr d a b m o ++ [44, 32] ++ wr d a b m p), List.append_nil]; exact drop_at _ _ _ (by simp <;> omega)) stops_nil
    simp only [rst, List.getD_cons_zero, List.getD_cons_succ, v0, v1, v2]
    exact hb
/-- What the reference's reading gives. -/
theorem pe_ref_yes {l : List UInt8} (h : ¬ oo (hd l) = 0) (e : pr (oo (hd l)) (rcand (oo (hd l)) l).1 (rcand (oo (hd l)) l).2.1 (rcand (oo (hd l)) l).2.2.1 (rcand (oo (hd l)) l).2.2.2 = l) :
    pe l = 0 ∧ pq l = (oo (hd l), rcand (oo (hd l)) l) := pe_yes h e
theorem pe_ref_no {l : List UInt8} (h : ¬ oo (hd l) = 0) (e : ¬ pr (oo (hd l)) (rcand (oo (hd l)) l).1 (rcand (oo (hd l)) l).2.1 (rcand (oo (hd l)) l).2.2.1 (rcand (oo (hd l)) l).2.2.2 = l) :
    pe l = 2 ∧ pq l = (0, 0, 0, 0, 0) :=
  pe_no h fun d a b m hp => e (by
    have hv : IM.rc (oo (hd l)) d a b m = 0 := pr_valid (by rw [hp]; exact oo_hd_ne h)
    have := rcand_pr hv
    rw [hp] at this
    rw [this]
    exact hp)
theorem pe_own_yes {l : List UInt8} (h : ¬ oo (hd l) = 0) (e : pr (oo (hd l)) (cand (oo (hd l)) l).1 (cand (oo (hd l)) l).2.1 (cand (oo (hd l)) l).2.2.1 (cand (oo (hd l)) l).2.2.2 = l) :
    pe l = 0 ∧ pq l = (oo (hd l), cand (oo (hd l)) l) := pe_yes h e
theorem pe_own_no {l : List UInt8} (h : ¬ oo (hd l) = 0) (e : ¬ pr (oo (hd l)) (cand (oo (hd l)) l).1 (cand (oo (hd l)) l).2.1 (cand (oo (hd l)) l).2.2.1 (cand (oo (hd l)) l).2.2.2 = l) :
    pe l = 2 ∧ pq l = (0, 0, 0, 0, 0) :=
  pe_no h fun d a b m hp => e (by
    have hv : IM.rc (oo (hd l)) d a b m = 0 := pr_valid (by rw [hp]; exact oo_hd_ne h)
    have := cand_pr hv
    rw [hp] at this
    rw [this]
    exact hp)
/-! ### What stands ahead of the first blank -/
theorem hd_hit (l : List UInt8) (k : Nat) (hk : k < l.length) (h : ∀ j, j < k → l.getD j 0 ≠ 32) (e : l.getD k 0 = 32) : hd l = l.take k := by
  have hs : l = l.take k ++ ([32] ++ l.drop (k + 1)) := by
    have e' : l[k] = 32 := by rw [List.getD_eq_getElem?_getD, List.getElem?_eq_getElem hk] at e; exact e
    rw [List.cons_append, List.nil_append, ← e', List.getElem_cons_drop, List.take_append_drop]
  have hn : (32 : UInt8) ∉ l.take k := by
    intro hm
    obtain ⟨j, hj, ej⟩ := List.getElem_of_mem hm
    have hjk : j < k := by rw [List.length_take] at hj; omega
    refine h j hjk ?_
    rw [List.getElem_take] at ej
    rw [List.getD_eq_getElem?_getD, List.getElem?_eq_getElem (by omega), ej]
    rfl
  unfold hd
  have := cut_at 32 [] (l.take k) (l.drop (k + 1)) hn
  rw [List.cons_append, List.nil_append] at this
  rw [List.cons_append, List.nil_append] at hs
  conv => lhs; rw [hs]
  rw [this]
theorem hd_miss (l : List UInt8) (h : ∀ j, j < l.length → l.getD j 0 ≠ 32) : hd l = l := by
  have hn : (32 : UInt8) ∉ l := by
    intro hm
    obtain ⟨j, hj, ej⟩ := List.getElem_of_mem hm
    refine h j hj ?_
    rw [List.getD_eq_getElem?_getD, List.getElem?_eq_getElem hj, ej]
    rfl
  unfold hd
  rw [cut_no 32 [] l hn]
theorem bq_step (l : List UInt8) (k : Nat) (hk : k < l.length) : bq k (l.drop k) = (if l.getD k 0 = 32 then [k + 1] else []) ++ bq (k + 1) (l.drop (k + 1)) := by
  rw [List.drop_eq_getElem_cons hk, bq, List.getD_eq_getElem?_getD, List.getElem?_eq_getElem hk]
  rfl
theorem dn_step (l : List UInt8) (p f n : Nat) (hp : p < l.length) (h : 48 ≤ (l.getD p 0).toNat ∧ (l.getD p 0).toNat ≤ 57) : dn (f + 1) (l.drop p) n = dn f (l.drop (p + 1)) (10 * n + ((l.getD p 0).toNat - 48)) := by
  rw [List.getD_eq_getElem?_getD, List.getElem?_eq_getElem hp] at h ⊢
  rw [List.drop_eq_getElem_cons hp, dn]
  exact if_pos h
theorem dn_stop (l : List UInt8) (p f n : Nat) (hp : p < l.length) (h : ¬ (48 ≤ (l.getD p 0).toNat ∧ (l.getD p 0).toNat ≤ 57)) : dn (f + 1) (l.drop p) n = n := by
  rw [List.getD_eq_getElem?_getD, List.getElem?_eq_getElem hp] at h
  rw [List.drop_eq_getElem_cons hp, dn]
  exact if_neg h
theorem dn_end (l : List UInt8) (p f n : Nat) (hp : l.length ≤ p) : dn f (l.drop p) n = n := by
  rw [List.drop_eq_nil_of_le hp]
  cases f <;> rw [dn]
theorem rn_minus (l : List UInt8) (p : Nat) (hp : p < l.length) (h : l.getD p 0 = 45) : rn l p = -(dn 9 (l.drop (p + 1)) 0 : Int) := by
  rw [List.getD_eq_getElem?_getD, List.getElem?_eq_getElem hp] at h
  unfold rn rnl
  rw [List.drop_eq_getElem_cons hp, List.head?_cons, show l[p] = 45 from h, if_pos rfl, List.tail_cons]
theorem rn_plus (l : List UInt8) (p : Nat) (h : ¬ (p < l.length ∧ l.getD p 0 = 45)) : rn l p = (dn 9 (l.drop p) 0 : Int) := by
  unfold rn rnl
  rw [if_neg]
  intro e
  by_cases hp : p < l.length
  · refine h ⟨hp, ?_⟩
    rw [List.drop_eq_getElem_cons hp, List.head?_cons] at e
    rw [List.getD_eq_getElem?_getD, List.getElem?_eq_getElem hp]
    exact Option.some.inj e
  · rw [List.drop_eq_nil_of_le (by omega)] at e
    cases e
/-! ### The causes -/
def cs (n : Int) : List UInt8 :=
  if n = 0 then [110, 111, 110, 101] else if n = 1 then [102, 101, 116, 99, 104] else if n = 2 then [105, 108, 108, 101, 103, 97, 108] else if n = 3 then [115, 116, 111, 112] else if n = 4 then [108, 111, 97, 100] else
  if n = 5 then [97, 108, 105, 103, 110] else if n = 6 then [115, 116, 111, 114, 101] else if n = 7 then [99, 97, 108, 108] else if n = 8 then [112, 114, 105, 118] else if n = 9 then [98, 117, 115] else if n = 10 then [115, 105, 110, 103, 108, 101] else
  if n = 16 then [111, 117, 116] else if n = 17 then [115, 101, 110, 100] else if n = 18 then [116, 105, 109, 101, 114] else []
/-- The number of a cause's name. -/
def cn (l : List UInt8) : Int :=
  if l = [110, 111, 110, 101] then 0 else if l = [102, 101, 116, 99, 104] then 1 else if l = [105, 108, 108, 101, 103, 97, 108] then 2 else if l = [115, 116, 111, 112] then 3 else if l = [108, 111, 97, 100] then 4 else
  if l = [97, 108, 105, 103, 110] then 5 else if l = [115, 116, 111, 114, 101] then 6 else if l = [99, 97, 108, 108] then 7 else if l = [112, 114, 105, 118] then 8 else if l = [98, 117, 115] then 9 else if l = [115, 105, 110, 103, 108, 101] then 10 else
  if l = [111, 117, 116] then 16 else if l = [115, 101, 110, 100] then 17 else if l = [116, 105, 109, 101, 114] then 18 else 0
theorem cs_back (n : Int) : cs n = [] ∨ cn (cs n) = n := by
  rcases Decidable.em (n = 0) with rfl | h0
  · exact .inr (by decide)
  rcases Decidable.em (n = 1) with rfl | h1
  · exact .inr (by decide)
  rcases Decidable.em (n = 2) with rfl | h2
  · exact .inr (by decide)
  rcases Decidable.em (n = 3) with rfl | h3
  · exact .inr (by decide)
  rcases Decidable.em (n = 4) with rfl | h4
  · exact .inr (by decide)
  rcases Decidable.em (n = 5) with rfl | h5
  · exact .inr (by decide)
  rcases Decidable.em (n = 6) with rfl | h6
  · exact .inr (by decide)
  rcases Decidable.em (n = 7) with rfl | h7
  · exact .inr (by decide)
  rcases Decidable.em (n = 8) with rfl | h8
  · exact .inr (by decide)
  rcases Decidable.em (n = 9) with rfl | h9
  · exact .inr (by decide)
  rcases Decidable.em (n = 10) with rfl | h10
  · exact .inr (by decide)
  rcases Decidable.em (n = 16) with rfl | h16
  · exact .inr (by decide)
  rcases Decidable.em (n = 17) with rfl | h17
  · exact .inr (by decide)
  rcases Decidable.em (n = 18) with rfl | h18
  · exact .inr (by decide)
  exact .inl (by unfold cs; simp only [h0, h1, h2, h3, h4, h5, h6, h7, h8, h9, h10, h16, h17, h18, if_false])
theorem cs_once {n m : Int} (h : cs n = cs m) (hn : cs n ≠ []) : n = m := by
  have e1 := (cs_back n).resolve_left hn
  have e2 := (cs_back m).resolve_left (by rw [← h]; exact hn)
  rw [← e1, ← e2, h]
end TX
end Go.Proofs.YtfgkcjalfhbjjaaDoor
