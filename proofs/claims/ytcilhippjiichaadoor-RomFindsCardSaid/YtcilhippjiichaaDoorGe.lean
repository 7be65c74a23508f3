/-
  Plain mathematics of images as lines: sums, two digits of each byte, a line, its parts. No condition.
  Plain mathematics of a line that is read: its parts between blanks, what it stands for. No condition.
  Plain mathematics of a line's parts: which parts a line has that is read, and when none is read. No condition.
-/
import Derived.Test.YtcilhippjiichaaDoorGa
import Derived.Lib.SplitLaws
import Derived.Lib.Join

/-! Math -/
namespace Go.Proofs.YtcilhippjiichaaDoor
open S02
namespace RM
open NM (hxs val al dv hx)
/-- All bytes, added up. -/
def tot : List UInt8 → Nat
  | [] => 0
  | b :: r => b.toNat + tot r
theorem tot_app (l m : List UInt8) : tot (l ++ m) = tot l + tot m := by
  induction l with
  | nil => simp [tot]
  | cons b r ih => rw [List.cons_append, tot, tot, ih]; omega
theorem tot_le (l : List UInt8) : tot l ≤ 255 * l.length := by
  induction l with
  | nil => simp [tot]
  | cons b r ih =>
    have := b.toNat_lt
    rw [tot, List.length_cons]
    omega
/-- The byte that makes a sum 0. -/
def ng (n : Nat) : Nat := (256 - n % 256) % 256
theorem ng_lt (n : Nat) : ng n < 256 := by unfold ng; omega
/-- The four bytes of an address, added up. -/
def ab (a : Nat) : Nat := a % 256 + a / 256 % 256 + a / 65536 % 256 + a / 16777216
def sm (a : Nat) (bs : List UInt8) : Nat := ng (ab a + tot bs)
theorem sm_lt (a : Nat) (bs : List UInt8) : sm a bs < 256 := ng_lt _
/-- Bytes, two digits each. -/
def dg (bs : List UInt8) : List UInt8 := bs.flatMap fun b => hxs b.toNat 2
theorem dg_cons (b : UInt8) (r : List UInt8) : dg (b :: r) = hxs b.toNat 2 ++ dg r := by simp [dg]
theorem dg_app (l m : List UInt8) : dg (l ++ m) = dg l ++ dg m := by simp [dg]
theorem dg_snoc (l : List UInt8) (b : UInt8) : dg (l ++ [b]) = dg l ++ hxs b.toNat 2 := by simp [dg]
theorem dg_len (l : List UInt8) : (dg l).length = 2 * l.length := by
  induction l with
  | nil => rfl
  | cons b r ih => rw [dg_cons, List.length_append, NM.hxs_len, ih, List.length_cons]; omega
theorem dg_nil_iff (l : List UInt8) : dg l = [] ↔ l = [] := by
  constructor
  · intro h
    have := dg_len l
    rw [h] at this
    exact List.eq_nil_of_length_eq_zero (by simp at this; omega)
  · rintro rfl; rfl
theorem hx_dv (c : UInt8) (h : dv c < 16) : hx (dv c) = c := by
  apply UInt8.toNat_inj.mp
  unfold dv at h ⊢
  split
  · rename_i h1
    rw [NM.hx_lo _ (by omega)]; omega
  · split
    · rename_i h1 h2
      rw [NM.hx_hi _ (by omega) (by omega)]; omega
    · rename_i h1 h2
      rw [if_neg h1, if_neg h2] at h
      omega
/-- Digits are the digits of the number that they are. -/
theorem hxs_val (l : List UInt8) (h : al 16 l = true) : hxs (val 16 l) l.length = l := by
  revert h
  refine NM.snoc_ind (P := fun l => al 16 l = true → hxs (val 16 l) l.length = l) (fun _ => rfl) (fun l c ih h => ?_) l
  rw [NM.al_snoc, Bool.and_eq_true, decide_eq_true_eq] at h
  rw [NM.val_snoc, List.length_append, List.length_singleton, NM.hxs_snoc, show (val 16 l * 16 + dv c) / 16 = val 16 l by omega, show (val 16 l * 16 + dv c) % 16 = dv c by omega, ih h.1, hx_dv c h.2]
theorem al_app (b : Nat) (l m : List UInt8) : al b (l ++ m) = (al b l && al b m) := by simp [al, List.all_append]
theorem al_hxs (u k : Nat) : al 16 (hxs u k) = true := (NM.hxs_all k u).1
theorem val_hxs (u k : Nat) (h : u < 16 ^ k) : val 16 (hxs u k) = u := by rw [(NM.hxs_all k u).2, Nat.mod_eq_of_lt h]
theorem hxs_inj {a b k : Nat} (ha : a < 16 ^ k) (hb : b < 16 ^ k) (h : hxs a k = hxs b k) : a = b := by
  rw [← val_hxs a k ha, h, val_hxs b k hb]
theorem al_dg (l : List UInt8) : al 16 (dg l) = true := by
  induction l with
  | nil => rfl
  | cons b r ih => rw [dg_cons, al_app, al_hxs, ih]; rfl
theorem dg_inj {l m : List UInt8} (h : dg l = dg m) : l = m := by
  induction l generalizing m with
  | nil => exact ((dg_nil_iff m).1 h.symm).symm
  | cons b r ih =>
    cases m with
    | nil => exact absurd ((dg_nil_iff _).1 h) (by simp)
    | cons c s =>
      rw [dg_cons, dg_cons] at h
      obtain ⟨h1, h2⟩ := List.append_inj h (by rw [NM.hxs_len, NM.hxs_len])
      rw [ih h2, UInt8.toNat_inj.mp (hxs_inj (k := 2) (by have := b.toNat_lt; omega) (by have := c.toNat_lt; omega) h1)]
/-- The byte that two digits are. -/
def hb (l : List UInt8) : UInt8 := UInt8.ofNat (val 16 l)
theorem hb_toNat (l : List UInt8) (h : al 16 l = true) (h2 : l.length = 2) : (hb l).toNat = val 16 l := by
  have h1 := NM.val_lt 16 l h
  have h3 : (16 : Nat) ^ 2 = 256 := rfl
  rw [h2] at h1
  unfold hb
  rw [UInt8.toNat_ofNat']
  apply Nat.mod_eq_of_lt
  rcases h1 with h1 | h1 <;> omega
theorem hb_dg (l : List UInt8) (h : al 16 l = true) (h2 : l.length = 2) : hxs (hb l).toNat 2 = l := by
  rw [hb_toNat l h h2]
  have := hxs_val l h
  rwa [h2] at this
/-- Digits in an even number are those of bytes. -/
theorem dg_of : ∀ (n : Nat) (l : List UInt8), l.length = 2 * n → al 16 l = true → ∃ bs, dg bs = l ∧ bs.length = n
  | 0, l, h, _ => ⟨[], by rw [List.eq_nil_of_length_eq_zero (by omega : l.length = 0)]; rfl, rfl⟩
  | n + 1, l, h, ha => by
    have h1 : (l.take 2).length = 2 := by rw [List.length_take]; omega
    have h2 : al 16 (l.take 2) = true ∧ al 16 (l.drop 2) = true := by
      have := ha
      rw [← List.take_append_drop 2 l, al_app, Bool.and_eq_true] at this
      exact this
    obtain ⟨bs, e1, e2⟩ := dg_of n (l.drop 2) (by rw [List.length_drop]; omega) h2.2
    refine ⟨hb (l.take 2) :: bs, ?_, by rw [List.length_cons, e2]⟩
    rw [dg_cons, hb_dg _ h2.1 h1, e1, List.take_append_drop]
/-- What is read off two digits behind 0x. -/
theorem p_pre (l : List UInt8) : NM.pE (48 :: 120 :: l) = NM.phE l ∧ NM.pN (48 :: 120 :: l) = NM.phN l := by
  have e : Lib.hasPrefix (48 :: 120 :: l) [48, 120] = true := rfl
  unfold NM.pE NM.pN
  rw [if_pos e, if_pos e]
  exact ⟨rfl, rfl⟩
theorem p_yes (l : List UInt8) (h : al 16 l = true) (h0 : l ≠ []) (h8 : l.length ≤ 8) : NM.pE (48 :: 120 :: l) = 0 ∧ NM.pN (48 :: 120 :: l) = val 16 l := by
  obtain ⟨e1, e2⟩ := p_pre l
  rw [e1, e2]
  exact NM.ph_ok l (NM.vB_of 16 l h h0) h8
theorem p_not (l : List UInt8) (h : al 16 l = false ∨ 8 < l.length ∨ l = []) : NM.pE (48 :: 120 :: l) = 2 := by
  rw [(p_pre l).1]
  refine (NM.ph_bad l ?_).1
  rcases h with h | h | h
  · exact .inl (NM.vB_no _ _ h)
  · exact .inr h
  · subst h; exact .inl rfl
def wSeg : List UInt8 := [115, 101, 103]
def wAnd : List UInt8 := [97, 110, 100]
def wStart : List UInt8 := [115, 116, 97, 114, 116]
/-- A line without its line feed. -/
def px (w : List UInt8) (a : Nat) (bs : List UInt8) (s : Nat) : List UInt8 := w ++ [32] ++ hxs a 8 ++ [32] ++ ((if bs = [] then [] else dg bs ++ [32]) ++ hxs s 2)
def line (w : List UInt8) (a : Nat) (bs : List UInt8) : List UInt8 := px w a bs (sm a bs) ++ [10]
/-- The first lines of a segment. -/
def tx1 (a : Nat) (bs : List UInt8) : Nat → List UInt8
  | 0 => []
  | j + 1 => tx1 a bs j ++ line (if j = 0 then wSeg else wAnd) (a + 16 * j) ((bs.drop (16 * j)).take 16)
def txs : List (Nat × List UInt8) → List UInt8
  | [] => []
  | p :: r => tx1 p.1 p.2 ((p.2.length + 15) / 16) ++ txs r
def tx (st : Nat) (l : List (Nat × List UInt8)) : List UInt8 := txs l ++ line wStart st []
theorem txs_snoc (l : List (Nat × List UInt8)) (p : Nat × List UInt8) : txs (l ++ [p]) = txs l ++ tx1 p.1 p.2 ((p.2.length + 15) / 16) := by
  induction l with
  | nil => simp [txs]
  | cons x r ih => rw [List.cons_append, txs, txs, ih, List.append_assoc]
/-- Why an image is not valid: a code. -/
def rtA : Nat → List (Nat × List UInt8) → Int
  | _, [] => 0
  | f, p :: r => if p.2 = [] then 1 else if 16384 < p.1 + p.2.length then 3 else if p.1 < f then 7 else rtA (p.1 + p.2.length) r
def rt (l : List (Nat × List UInt8)) : Int := if 64 < l.length then 4 else rtA 0 l
def TX (st : Nat) (l : List (Nat × List UInt8)) : List UInt8 := if rt l = 0 then tx st l else []
/-- Why memory is not loaded: a code. -/
def ldE (size : Int) (l : List (Nat × List UInt8)) : Int := if size < 64 ∨ 16384 < size ∨ size % 64 ≠ 0 then 1 else if rt l ≠ 0 then rt l else if l.all (fun p => decide (((p.1 + p.2.length : Nat) : Int) ≤ size)) = true then 0 else 3
/-- What stands in memory. -/
def mby (l : List (Nat × List UInt8)) (i : Nat) : UInt8 := l.foldl (fun c p => if p.1 ≤ i ∧ i < p.1 + p.2.length then p.2.getD (i - p.1) 0 else c) 0
theorem mby_snoc (l : List (Nat × List UInt8)) (p : Nat × List UInt8) (i : Nat) : mby (l ++ [p]) i = if p.1 ≤ i ∧ i < p.1 + p.2.length then p.2.getD (i - p.1) 0 else mby l i := by
  unfold mby; rw [List.foldl_append]; rfl
end RM
end Go.Proofs.YtcilhippjiichaaDoor
/-! MathB -/
namespace Go.Proofs.YtcilhippjiichaaDoor
open S02
namespace RM
open NM (hxs val al dv hx)
/-- A text's parts between blanks. -/
def sp : List UInt8 → List (List UInt8)
  | [] => [[]]
  | c :: r => if c = 32 then [] :: sp r else match sp r with
    | [] => [[c]]
    | q :: qs => (c :: q) :: qs
theorem sp_ne : ∀ l, sp l ≠ []
  | [] => by simp [sp]
  | c :: r => by
    rw [sp]
    split
    · simp
    · split <;> simp
theorem sp_blank (r : List UInt8) : sp (32 :: r) = [] :: sp r := by rw [sp, if_pos rfl]
theorem sp_letter {c : UInt8} {r q : List UInt8} {qs : List (List UInt8)} (h : c ≠ 32) (hr : sp r = q :: qs) : sp (c :: r) = (c :: q) :: qs := by rw [sp, if_neg h, hr]
theorem sp_app : ∀ (w r : List UInt8), (∀ c ∈ w, c ≠ 32) → sp (w ++ 32 :: r) = w :: sp r
  | [], r, _ => sp_blank r
  | c :: w, r, h => by
    rw [List.cons_append]
    exact sp_letter (h c (by simp)) (sp_app w r fun d hd => h d (List.mem_cons_of_mem _ hd))
theorem sp_one : ∀ (w : List UInt8), (∀ c ∈ w, c ≠ 32) → sp w = [w]
  | [], _ => rfl
  | c :: w, h => sp_letter (h c (by simp)) (sp_one w fun d hd => h d (List.mem_cons_of_mem _ hd))
theorem sp_join : ∀ l, Lib.join (sp l) [32] = l
  | [] => rfl
  | c :: r => by
    have ih := sp_join r
    cases hr : sp r with
    | nil => exact absurd hr (sp_ne r)
    | cons q qs =>
      rw [hr, Lib.join_cons] at ih
      by_cases h : c = 32
      · subst h
        rw [sp_blank, hr, Lib.join_cons, Lib.joinTail]
        simp only [List.map_cons, List.flatten_cons, List.nil_append]
        rw [List.append_assoc]
        show [32] ++ (q ++ Lib.joinTail [32] qs) = _
        rw [ih]
        rfl
      · rw [sp_letter h hr, Lib.join_cons, List.cons_append, ih]
theorem idx_cons (b : UInt8) (l : List UInt8) (h : b ≠ 32) : Lib.index (b :: l) [32] = if Lib.index l [32] == -1 then -1 else Lib.index l [32] + 1 := by
  have hp : ([32] : List UInt8).isPrefixOf (b :: l) = false := by simp [List.isPrefixOf, Ne.symm h]
  rw [Lib.index, hp]; simp
theorem idx_blank (l : List UInt8) : Lib.index (32 :: l) [32] = 0 := by rw [Lib.index]; simp [List.isPrefixOf]
/-- The library's cut at all blanks. -/
theorem sp_split : ∀ l, Lib.splitK [32] 0 (Lib.count l [32]) l = sp l
  | [] => rfl
  | b :: l => by
    have ih := sp_split l
    by_cases h : b = 32
    · subst h
      rw [Lib.count_cons_eq, Nat.add_comm, Lib.splitK, idx_blank, if_neg (by decide), sp_blank, ← ih]
      simp
    · rw [Lib.count_cons_ne b 32 l h]
      have hge := Lib.index_ge l [32]
      by_cases hm : Lib.index l [32] = -1
      · have hc : Lib.count l [32] = 0 := Lib.count_miss hm
        rw [hc] at ih ⊢
        have e : Lib.splitK [32] 0 0 l = [l] := rfl
        rw [e] at ih
        rw [sp_letter h ih.symm]
        rfl
      · obtain ⟨j, hj⟩ : ∃ j : Nat, Lib.index l [32] = j := ⟨(Lib.index l [32]).toNat, by omega⟩
        have hc := Lib.count_hit (s := l) (sub := [32]) (by simp) hj
        have hx : Lib.index (b :: l) [32] = ((j + 1 : Nat) : Int) := by rw [idx_cons b l h, hj, if_neg (by simp only [beq_iff_eq]; omega)]; omega
        rw [hc, Nat.add_comm] at ih ⊢
        rw [Lib.splitK, hj, if_neg (by simp only [beq_iff_eq]; omega)] at ih
        rw [Lib.splitK, hx, if_neg (by simp only [beq_iff_eq]; omega)]
        rw [sp_letter h ih.symm]
        simp only [Int.toNat_natCast, Nat.add_zero, List.length_cons, List.length_nil]
        rw [List.take_succ_cons, show j + 1 + (0 + 1) = (j + (0 + 1)) + 1 by omega, List.drop_succ_cons]
/-- What a line stands for: 1 seg, 2 and, 3 start. -/
structure Ln where
  k : Nat
  a : Nat
  bs : List UInt8
  s : Nat
def wdK (k : Nat) : List UInt8 := if k = 1 then wSeg else if k = 2 then wAnd else wStart
def Ln.tx (x : Ln) : List UInt8 := px (wdK x.k) x.a x.bs x.s
def Ln.ok (x : Ln) : Prop := (x.k = 1 ∨ x.k = 2 ∨ x.k = 3) ∧ x.a < 4294967296 ∧ x.s < 256 ∧ (x.k = 3 ↔ x.bs = []) ∧ x.bs.length ≤ 16
instance (x : Ln) : Decidable x.ok := by unfold Ln.ok; infer_instance
/-- Bytes off digits. -/
def unh : List UInt8 → List UInt8
  | a :: b :: r => hb [a, b] :: unh r
  | _ => []
theorem unh_dg : ∀ bs, unh (dg bs) = bs
  | [] => rfl
  | b :: r => by
    have e : hxs b.toNat 2 = [hx (b.toNat / 16 ^ 1 % 16), hx (b.toNat / 16 ^ 0 % 16)] := rfl
    have h2 : hb (hxs b.toNat 2) = b := by
      unfold hb
      rw [val_hxs b.toNat 2 (by have := b.toNat_lt; omega)]
      simp
    rw [dg_cons, e, List.cons_append, List.cons_append, List.nil_append, unh, ← e, h2, unh_dg r]
def cd (l : List UInt8) : Ln :=
  let k := if l.take 4 = wSeg ++ [32] then 1 else if l.take 4 = wAnd ++ [32] then 2 else 3
  let r := l.drop (if k = 3 then 6 else 4)
  ⟨k, val 16 (r.take 8), if k = 3 then [] else unh ((r.drop 9).take (r.length - 12)), val 16 (r.drop (r.length - 2))⟩
theorem px_nil (w : List UInt8) (a s : Nat) : px w a [] s = w ++ [32] ++ (hxs a 8 ++ ([32] ++ hxs s 2)) := by
  unfold px; rw [if_pos rfl]; simp only [List.append_assoc, List.nil_append]
theorem px_some (w : List UInt8) (a : Nat) {bs : List UInt8} (s : Nat) (h : bs ≠ []) : px w a bs s = w ++ [32] ++ (hxs a 8 ++ ([32] ++ (dg bs ++ ([32] ++ hxs s 2)))) := by
  unfold px; rw [if_neg h]; simp only [List.append_assoc]
theorem drop_left' {l m : List UInt8} {n : Nat} (h : l.length = n) : (l ++ m).drop n = m := by subst h; exact List.drop_left
theorem take_left' {l m : List UInt8} {n : Nat} (h : l.length = n) : (l ++ m).take n = l := by subst h; exact List.take_left
theorem cd_some {w : List UInt8} {a s : Nat} {bs : List UInt8} (hw : w.length = 3) (ha : a < 4294967296) (hs : s < 256) (hb : bs ≠ []) (k : Nat) (hk : (if (px w a bs s).take 4 = wSeg ++ [32] then 1 else if (px w a bs s).take 4 = wAnd ++ [32] then 2 else 3) = k) (h3 : k ≠ 3) : cd (px w a bs s) = ⟨k, a, bs, s⟩ := by
  have e4 : (px w a bs s).drop 4 = hxs a 8 ++ ([32] ++ (dg bs ++ ([32] ++ hxs s 2))) := by rw [px_some _ _ _ hb]; exact drop_left' (by simp [hw])
  have eL : (hxs a 8 ++ ([32] ++ (dg bs ++ ([32] ++ hxs s 2)))).length = 2 * bs.length + 12 := by simp only [List.length_append, NM.hxs_len, List.length_singleton, dg_len]; omega
  unfold cd
  simp only [hk, if_neg h3, e4, eL]
  rw [take_left' (NM.hxs_len a 8), val_hxs a 8 ha]
  have e5 : (hxs a 8 ++ ([32] ++ (dg bs ++ ([32] ++ hxs s 2)))).drop 9 = dg bs ++ ([32] ++ hxs s 2) := by
    rw [← List.append_assoc]; exact drop_left' (by simp [NM.hxs_len])
  rw [e5, show 2 * bs.length + 12 - 12 = 2 * bs.length by omega, take_left' (dg_len bs), unh_dg]
  have e6 : (hxs a 8 ++ ([32] ++ (dg bs ++ ([32] ++ hxs s 2)))).drop (2 * bs.length + 12 - 2) = hxs s 2 := by
    rw [show hxs a 8 ++ ([32] ++ (dg bs ++ ([32] ++ hxs s 2))) = (hxs a 8 ++ ([32] ++ (dg bs ++ [32]))) ++ hxs s 2 by simp only [List.append_assoc]]
    exact drop_left' (by simp only [List.length_append, NM.hxs_len, List.length_singleton, dg_len]; omega)
  rw [e6, val_hxs s 2 hs]
theorem cd_tx (x : Ln) (h : x.ok) : cd x.tx = x := by
  obtain ⟨k, a, bs, s⟩ := x
  obtain ⟨h1, h2, h3, h4, -⟩ := h
  simp only [] at h1 h2 h3 h4
  unfold Ln.tx
  simp only []
  have t4 : ∀ (w r : List UInt8), w.length = 3 → (w ++ [32] ++ r).take 4 = w ++ [32] := fun w r hw => take_left' (by simp [hw])
  rcases h1 with rfl | rfl | rfl
  · have hb : bs ≠ [] := fun e => by have := h4.2 e; omega
    refine cd_some (by decide) h2 h3 hb 1 ?_ (by decide)
    rw [px_some _ _ _ hb, show wdK 1 = wSeg from rfl, t4 _ _ (by decide), if_pos rfl]
  · have hb : bs ≠ [] := fun e => by have := h4.2 e; omega
    refine cd_some (by decide) h2 h3 hb 2 ?_ (by decide)
    rw [px_some _ _ _ hb, show wdK 2 = wAnd from rfl, t4 _ _ (by decide), if_neg (by decide), if_pos rfl]
  · obtain rfl := h4.1 rfl
    have e0 : px wStart a [] s = wStart ++ [32] ++ (hxs a 8 ++ ([32] ++ hxs s 2)) := px_nil _ _ _
    have e1 : (px wStart a [] s).take 4 = [115, 116, 97, 114] := by rw [e0]; rfl
    have e2 : (px wStart a [] s).drop 6 = hxs a 8 ++ ([32] ++ hxs s 2) := by rw [e0]; exact drop_left' (by decide)
    have eL : (hxs a 8 ++ ([32] ++ hxs s 2)).length = 11 := by simp only [List.length_append, NM.hxs_len, List.length_singleton]
    unfold cd
    show (let k := if (px wStart a [] s).take 4 = wSeg ++ [32] then 1 else if (px wStart a [] s).take 4 = wAnd ++ [32] then 2 else 3
      let r := (px wStart a [] s).drop (if k = 3 then 6 else 4)
      (⟨k, val 16 (r.take 8), if k = 3 then [] else unh ((r.drop 9).take (r.length - 12)), val 16 (r.drop (r.length - 2))⟩ : Ln)) = _
    rw [e1, if_neg (show ¬ ([115, 116, 97, 114] : List UInt8) = wSeg ++ [32] by decide), if_neg (show ¬ ([115, 116, 97, 114] : List UInt8) = wAnd ++ [32] by decide)]
    simp only [if_true, e2, eL]
    rw [take_left' (NM.hxs_len a 8), val_hxs a 8 h2]
    have e6 : (hxs a 8 ++ ([32] ++ hxs s 2)).drop (11 - 2) = hxs s 2 := by
      rw [← List.append_assoc]
      exact drop_left' (by simp only [List.length_append, NM.hxs_len, List.length_singleton])
    rw [e6, val_hxs s 2 h3]
/-- What a line is read as, if it is one. -/
def rd (l : List UInt8) : Option Ln := if (cd l).ok ∧ (cd l).tx = l then some (cd l) else none
theorem rd_some {l : List UInt8} {x : Ln} : rd l = some x ↔ x.ok ∧ x.tx = l := by
  unfold rd
  constructor
  · intro h
    split at h
    · rename_i hc
      injection h with h
      rw [← h]; exact hc
    · cases h
  · rintro ⟨h1, rfl⟩
    rw [cd_tx x h1, if_pos ⟨h1, rfl⟩]
theorem rd_none {l : List UInt8} : rd l = none ↔ ∀ x : Ln, x.ok → x.tx ≠ l := by
  constructor
  · intro h x hx e
    rw [rd_some.2 ⟨hx, e⟩] at h
    cases h
  · intro h
    cases hr : rd l with
    | none => rfl
    | some x => exact absurd (rd_some.1 hr).2 (h x (rd_some.1 hr).1)
end RM
end Go.Proofs.YtcilhippjiichaaDoor
/-! MathC -/
namespace Go.Proofs.YtcilhippjiichaaDoor
open S02
namespace RM
open NM (hxs val al dv hx)
theorem al_mem {b : Nat} {l : List UInt8} (h : al b l = true) : ∀ c ∈ l, dv c < b := by
  intro c hc
  unfold al at h
  have := List.all_eq_true.1 h c hc
  simpa using this
theorem dv_32 : dv 32 = 16 := rfl
theorem al_no32 {l : List UInt8} (h : al 16 l = true) : ∀ c ∈ l, c ≠ 32 := fun c hc e => by
  have := al_mem h c hc
  rw [e, dv_32] at this
  omega
theorem wdK_no32 (k : Nat) : ∀ c ∈ wdK k, c ≠ 32 := by
  unfold wdK
  split
  · decide
  · split <;> decide
theorem sp_three {w A S : List UInt8} (hw : ∀ c ∈ w, c ≠ 32) (hA : al 16 A = true) (hS : al 16 S = true) : sp (w ++ [32] ++ (A ++ ([32] ++ S))) = [w, A, S] := by
  rw [List.append_assoc, List.singleton_append, sp_app w _ hw, List.singleton_append, sp_app A _ (al_no32 hA), sp_one S (al_no32 hS)]
theorem sp_four {w A D S : List UInt8} (hw : ∀ c ∈ w, c ≠ 32) (hA : al 16 A = true) (hD : al 16 D = true) (hS : al 16 S = true) : sp (w ++ [32] ++ (A ++ ([32] ++ (D ++ ([32] ++ S))))) = [w, A, D, S] := by
  rw [List.append_assoc, List.singleton_append, sp_app w _ hw, List.singleton_append, sp_app A _ (al_no32 hA), List.singleton_append, sp_app D _ (al_no32 hD), sp_one S (al_no32 hS)]
theorem sp_len : ∀ (l : List UInt8), ∀ q ∈ sp l, q.length ≤ l.length
  | [], q, h => by
    rw [sp] at h
    simp at h
    subst h
    simp
  | c :: r, q, h => by
    have ih := sp_len r
    cases hr : sp r with
    | nil => exact absurd hr (sp_ne r)
    | cons p qs =>
      rw [hr] at ih
      by_cases hc : c = 32
      · subst hc
        rw [sp_blank, hr] at h
        rcases List.mem_cons.1 h with rfl | h
        · simp
        · have := ih q h; rw [List.length_cons]; omega
      · rw [sp_letter hc hr] at h
        rcases List.mem_cons.1 h with rfl | h
        · have := ih p (by simp); rw [List.length_cons, List.length_cons]; omega
        · have := ih q (List.mem_cons_of_mem _ h); rw [List.length_cons]; omega
/-- The parts of a line that is read. -/
theorem rd_sp {l : List UInt8} {x : Ln} (h : rd l = some x) : (x.k = 3 ∧ x.bs = [] ∧ sp l = [wStart, hxs x.a 8, hxs x.s 2]) ∨ ((x.k = 1 ∨ x.k = 2) ∧ x.bs ≠ [] ∧ sp l = [wdK x.k, hxs x.a 8, dg x.bs, hxs x.s 2]) := by
  obtain ⟨⟨h1, -, -, h4, -⟩, rfl⟩ := rd_some.1 h
  unfold Ln.tx
  by_cases h3 : x.k = 3
  · refine .inl ⟨h3, h4.1 h3, ?_⟩
    rw [h4.1 h3, px_nil, h3]
    exact sp_three (wdK_no32 3) (al_hxs _ _) (al_hxs _ _)
  · have hb : x.bs ≠ [] := fun e => h3 (h4.2 e)
    refine .inr ⟨by omega, hb, ?_⟩
    rw [px_some _ _ _ hb]
    exact sp_four (wdK_no32 _) (al_hxs _ _) (al_dg _) (al_hxs _ _)
theorem hxs_of {A : List UInt8} {n : Nat} (h : al 16 A = true) (hl : A.length = n) : hxs (val 16 A) n = A := by subst hl; exact hxs_val A h
theorem val_lt' {A : List UInt8} {n : Nat} (h : al 16 A = true) (hl : A.length = n) (h0 : n ≠ 0) : val 16 A < 16 ^ n := by
  rcases NM.val_lt 16 A h with h1 | h1
  · rw [hl] at h1; exact h1
  · rw [h1.1] at hl; exact absurd hl.symm h0
/-- Three parts that are a line. -/
theorem rd_three {l A S : List UInt8} (h : sp l = [wStart, A, S]) (hA : al 16 A = true) (hA8 : A.length = 8) (hS : al 16 S = true) (hS2 : S.length = 2) : rd l = some ⟨3, val 16 A, [], val 16 S⟩ := by
  refine rd_some.2 ⟨⟨.inr (.inr rfl), val_lt' hA hA8 (by decide), val_lt' hS hS2 (by decide), ⟨fun _ => rfl, fun _ => rfl⟩, by simp⟩, ?_⟩
  have := sp_join l
  rw [h] at this
  rw [← this]
  unfold Ln.tx
  rw [px_nil, hxs_of hA hA8, hxs_of hS hS2]
  simp [Lib.join, List.intercalate, wdK]
/-- Four parts that are a line. -/
theorem rd_four {l A S bs : List UInt8} {k : Nat} (hk : k = 1 ∨ k = 2) (h : sp l = [wdK k, A, dg bs, S]) (hb : bs ≠ []) (hb16 : bs.length ≤ 16) (hA : al 16 A = true) (hA8 : A.length = 8) (hS : al 16 S = true) (hS2 : S.length = 2) : rd l = some ⟨k, val 16 A, bs, val 16 S⟩ := by
  refine rd_some.2 ⟨⟨by simp only []; omega, val_lt' hA hA8 (by decide), val_lt' hS hS2 (by decide), ⟨fun e => by simp only [] at e; omega, fun e => absurd e hb⟩, hb16⟩, ?_⟩
  have := sp_join l
  rw [h] at this
  rw [← this]
  unfold Ln.tx
  rw [px_some _ _ _ hb, hxs_of hA hA8, hxs_of hS hS2]
  simp [Lib.join, List.intercalate]
/-- May the text be an address? -/
def isA (s : List UInt8) : Bool := al 16 s && decide (s.length = 8)
/-- May the text be bytes, that many at most? -/
def isD (most : Nat) (s : List UInt8) : Prop := ∃ bs, dg bs = s ∧ bs ≠ [] ∧ bs.length ≤ most
theorem isA_hxs (a : Nat) : isA (hxs a 8) = true := by unfold isA; rw [al_hxs, NM.hxs_len]; rfl
theorem isD_hxs (s : Nat) (_h : s < 256) : isD 1 (hxs s 2) := by
  obtain ⟨bs, h1, h2⟩ := dg_of 1 (hxs s 2) (by rw [NM.hxs_len]) (al_hxs _ _)
  exact ⟨bs, h1, fun e => by rw [e] at h2; simp at h2, by omega⟩
theorem isA_open {s : List UInt8} (h : isA s = true) : al 16 s = true ∧ s.length = 8 := by
  unfold isA at h
  rw [Bool.and_eq_true, decide_eq_true_eq] at h
  exact h
theorem one_dg {bs : List UInt8} (h : bs ≠ []) (h1 : bs.length ≤ 1) : (dg bs).length = 2 ∧ val 16 (dg bs) = (bs.getD 0 0).toNat := by
  match bs, h, h1 with
  | [b], _, _ =>
    refine ⟨rfl, ?_⟩
    have e : dg [b] = hxs b.toNat 2 := by rw [dg_cons]; simp [dg]
    rw [e, val_hxs _ _ (by have := b.toNat_lt; omega)]
    rfl
/-- Three parts, of which one is none of a line's. -/
theorem rd_three_no {l A S w : List UInt8} (h : sp l = [w, A, S]) (hno : w ≠ wStart ∨ isA A = false ∨ ¬ isD 1 S) : rd l = none := by
  cases hr : rd l with
  | none => rfl
  | some x =>
    have h3 := (rd_some.1 hr).1.2.2.1
    rcases rd_sp hr with ⟨-, -, e⟩ | ⟨-, -, e⟩
    · rw [h] at e
      injection e with e1 e
      injection e with e2 e
      injection e with e3 e
      rcases hno with h1 | h1 | h1
      · exact absurd e1 h1
      · rw [e2, isA_hxs] at h1; cases h1
      · rw [e3] at h1; exact absurd (isD_hxs _ h3) h1
    · rw [h] at e
      injection e with e1 e
      injection e with e2 e
      injection e with e3 e
      cases e
theorem rd_four_no {l A D S w : List UInt8} (h : sp l = [w, A, D, S]) (hno : (w ≠ wSeg ∧ w ≠ wAnd) ∨ isA A = false ∨ ¬ isD 16 D ∨ ¬ isD 1 S) : rd l = none := by
  cases hr : rd l with
  | none => rfl
  | some x =>
    obtain ⟨-, -, h3, -, h16⟩ := (rd_some.1 hr).1
    rcases rd_sp hr with ⟨-, -, e⟩ | ⟨hk, hb, e⟩
    · rw [h] at e
      injection e with e1 e
      injection e with e2 e
      injection e with e3 e
      cases e
    · rw [h] at e
      injection e with e1 e
      injection e with e2 e
      injection e with e3 e
      injection e with e4 e
      rcases hno with h1 | h1 | h1 | h1
      · rcases hk with hk | hk
        · exact absurd (e1.trans (by rw [hk]; rfl)) h1.1
        · exact absurd (e1.trans (by rw [hk]; rfl)) h1.2
      · rw [e2, isA_hxs] at h1; cases h1
      · exact absurd ⟨x.bs, e3.symm, hb, h16⟩ h1
      · rw [e4] at h1; exact absurd (isD_hxs _ h3) h1
/-- Another number of parts. -/
theorem rd_many_no {l : List UInt8} (h3 : (sp l).length = 3 → (sp l).getD 0 [] ≠ wStart) (h4 : (sp l).length = 4 → (sp l).getD 0 [] ≠ wSeg ∧ (sp l).getD 0 [] ≠ wAnd) : rd l = none := by
  cases hr : rd l with
  | none => rfl
  | some x =>
    rcases rd_sp hr with ⟨-, -, e⟩ | ⟨hk, -, e⟩
    · rw [e] at h3
      exact absurd rfl (h3 rfl)
    · rw [e] at h4
      rcases hk with hk | hk
      · rw [hk] at h4; exact absurd rfl (h4 rfl).1
      · rw [hk] at h4; exact absurd rfl (h4 rfl).2
end RM
end Go.Proofs.YtcilhippjiichaaDoor
