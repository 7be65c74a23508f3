/-
  Plain facts on page table walks: what a walk comes to, where an access goes, the names of a map. No condition but those named.
-/
import Derived.Test.YtbeenmglgdhbjaaS12Math
import Derived.Test.YtbeenmglgdhbjaaS11Math
import Derived.Test.YtbeenmglgdhbjaaS10WalkB
namespace Go.Proofs.Ytbeenmglgdhbjaa
open Go.RowKit S01 S10 S11 S12
namespace WK
/-- What a walk comes to: the entry's flags and page, the addresses that were read, and whether there is an entry. -/
structure R where
  b : Int
  g : Int
  L : List Int
  ok : Bool
/-- Where the entry of an address stands. -/
def pl (t va l : Int) : Int := (t + 4 * PT.ix va l) % 4294967296
/-- The first word. -/
def w1 (m : List UInt8) (root va : Int) : Int := MM.rd m (pl root va 0) 4
/-- Where the second entry stands. -/
def p2 (m : List UInt8) (root va : Int) : Int := pl (PT.ad (w1 m root va / 256 % 256) 0) va 1
/-- The second word. -/
def w2 (m : List UInt8) (root va : Int) : Int := MM.rd m (p2 m root va) 4
def wk (m : List UInt8) (root va : Int) : R :=
  if 16384 ≤ va then ⟨0, 0, [], false⟩
  else if MM.ck m.length (pl root va 0) 4 ≠ 0 then ⟨0, 0, [], false⟩
  else if (PT.bt (w1 m root va % 128) 0 && !PT.lf (w1 m root va % 128)) = false then ⟨0, 0, [pl root va 0], false⟩
  else if MM.ck m.length (p2 m root va) 4 ≠ 0 then ⟨0, 0, [pl root va 0], false⟩
  else if (PT.bt (w2 m root va % 128) 0 && PT.lf (w2 m root va % 128)) = false then ⟨0, 0, [pl root va 0, p2 m root va], false⟩
  else ⟨w2 m root va % 128, w2 m root va / 256 % 256, [pl root va 0, p2 m root va], true⟩
theorem pl_bd (t va l : Int) : 0 ≤ pl t va l ∧ pl t va l < 4294967296 := by unfold pl; omega
theorem w1_bd (m : List UInt8) (root va : Int) : 0 ≤ w1 m root va ∧ w1 m root va < 4294967296 := rd_bd _ _ _ (pl_bd _ _ _).1
theorem w2_bd (m : List UInt8) (root va : Int) : 0 ≤ w2 m root va ∧ w2 m root va < 4294967296 := rd_bd _ _ _ (pl_bd _ _ _).1
section
variable {m : List UInt8} {root va : Int}
theorem wk_far (h : 16384 ≤ va) : wk m root va = ⟨0, 0, [], false⟩ := by unfold wk; rw [if_pos h]
theorem wk_no1 (h : va < 16384) (h1 : MM.ck m.length (pl root va 0) 4 = 9) : wk m root va = ⟨0, 0, [], false⟩ := by
  unfold wk; rw [if_neg (by omega), if_pos (by omega)]
theorem wk_bad1 (h : va < 16384) (h1 : MM.ck m.length (pl root va 0) 4 = 0) (h2 : (PT.bt (w1 m root va % 128) 0 && !PT.lf (w1 m root va % 128)) = false) : wk m root va = ⟨0, 0, [pl root va 0], false⟩ := by
  unfold wk; rw [if_neg (by omega), if_neg (by omega), if_pos h2]
theorem wk_no2 (h : va < 16384) (h1 : MM.ck m.length (pl root va 0) 4 = 0) (h2 : (PT.bt (w1 m root va % 128) 0 && !PT.lf (w1 m root va % 128)) = true) (h3 : MM.ck m.length (p2 m root va) 4 = 9) : wk m root va = ⟨0, 0, [pl root va 0], false⟩ := by
  unfold wk; rw [if_neg (by omega), if_neg (by omega), if_neg (by rw [h2]; decide), if_pos (by omega)]
theorem wk_bad2 (h : va < 16384) (h1 : MM.ck m.length (pl root va 0) 4 = 0) (h2 : (PT.bt (w1 m root va % 128) 0 && !PT.lf (w1 m root va % 128)) = true) (h3 : MM.ck m.length (p2 m root va) 4 = 0)
    (h4 : (PT.bt (w2 m root va % 128) 0 && PT.lf (w2 m root va % 128)) = false) : wk m root va = ⟨0, 0, [pl root va 0, p2 m root va], false⟩ := by
  unfold wk; rw [if_neg (by omega), if_neg (by omega), if_neg (by rw [h2]; decide), if_neg (by omega), if_pos h4]
theorem wk_ok (h : va < 16384) (h1 : MM.ck m.length (pl root va 0) 4 = 0) (h2 : (PT.bt (w1 m root va % 128) 0 && !PT.lf (w1 m root va % 128)) = true) (h3 : MM.ck m.length (p2 m root va) 4 = 0)
    (h4 : (PT.bt (w2 m root va % 128) 0 && PT.lf (w2 m root va % 128)) = true) : wk m root va = ⟨w2 m root va % 128, w2 m root va / 256 % 256, [pl root va 0, p2 m root va], true⟩ := by
  unfold wk; rw [if_neg (by omega), if_neg (by omega), if_neg (by rw [h2]; decide), if_neg (by omega), if_neg (by rw [h4]; decide)]
/-- The six ways of a walk. -/
theorem wk_ways (P : R → Prop) (far : 16384 ≤ va → P ⟨0, 0, [], false⟩) (no1 : va < 16384 → MM.ck m.length (pl root va 0) 4 = 9 → P ⟨0, 0, [], false⟩)
    (bad1 : va < 16384 → MM.ck m.length (pl root va 0) 4 = 0 → (PT.bt (w1 m root va % 128) 0 && !PT.lf (w1 m root va % 128)) = false → P ⟨0, 0, [pl root va 0], false⟩)
    (no2 : va < 16384 → MM.ck m.length (pl root va 0) 4 = 0 → (PT.bt (w1 m root va % 128) 0 && !PT.lf (w1 m root va % 128)) = true → MM.ck m.length (p2 m root va) 4 = 9 → P ⟨0, 0, [pl root va 0], false⟩)
    (bad2 : va < 16384 → MM.ck m.length (pl root va 0) 4 = 0 → (PT.bt (w1 m root va % 128) 0 && !PT.lf (w1 m root va % 128)) = true → MM.ck m.length (p2 m root va) 4 = 0 → (PT.bt (w2 m root va % 128) 0 && PT.lf (w2 m root va % 128)) = false → P ⟨0, 0, [pl root va 0, p2 m root va], false⟩)
    (good : va < 16384 → MM.ck m.length (pl root va 0) 4 = 0 → (PT.bt (w1 m root va % 128) 0 && !PT.lf (w1 m root va % 128)) = true → MM.ck m.length (p2 m root va) 4 = 0 → (PT.bt (w2 m root va % 128) 0 && PT.lf (w2 m root va % 128)) = true → P ⟨w2 m root va % 128, w2 m root va / 256 % 256, [pl root va 0, p2 m root va], true⟩) : P (wk m root va) := by
  by_cases h : va < 16384
  · rcases ck_two m.length (pl root va 0) 4 with h1 | h1
    · cases h2 : (PT.bt (w1 m root va % 128) 0 && !PT.lf (w1 m root va % 128))
      · rw [wk_bad1 h h1 h2]; exact bad1 h h1 h2
      · rcases ck_two m.length (p2 m root va) 4 with h3 | h3
        · cases h4 : (PT.bt (w2 m root va % 128) 0 && PT.lf (w2 m root va % 128))
          · rw [wk_bad2 h h1 h2 h3 h4]; exact bad2 h h1 h2 h3 h4
          · rw [wk_ok h h1 h2 h3 h4]; exact good h h1 h2 h3 h4
        · rw [wk_no2 h h1 h2 h3]; exact no2 h h1 h2 h3
    · rw [wk_no1 h h1]; exact no1 h h1
  · rw [wk_far (by omega)]; exact far (by omega)
theorem wk_bd : 0 ≤ (wk m root va).b ∧ (wk m root va).b < 128 ∧ 0 ≤ (wk m root va).g ∧ (wk m root va).g < 256 ∧ (wk m root va).L.length ≤ 2 ∧ ∀ p ∈ (wk m root va).L, 0 ≤ p ∧ p < 4294967296 ∧ p + 4 ≤ m.length := by
  have ho : ∀ {x : Int}, MM.ck m.length x 4 = 0 → x + 4 ≤ m.length := fun h => (ck_open h).2
  refine wk_ways (m := m) (root := root) (va := va) (fun r => 0 ≤ r.b ∧ r.b < 128 ∧ 0 ≤ r.g ∧ r.g < 256 ∧ r.L.length ≤ 2 ∧ ∀ p ∈ r.L, 0 ≤ p ∧ p < 4294967296 ∧ p + 4 ≤ m.length) ?_ ?_ ?_ ?_ ?_ ?_
  · intro _; simp
  · intro _ _; simp
  · intro _ h1 _
    refine ⟨by simp, by simp, by simp, by simp, by simp, fun p hp => ?_⟩
    obtain rfl := List.mem_singleton.1 hp
    exact ⟨(pl_bd _ _ _).1, (pl_bd _ _ _).2, ho h1⟩
  · intro _ h1 _ _
    refine ⟨by simp, by simp, by simp, by simp, by simp, fun p hp => ?_⟩
    obtain rfl := List.mem_singleton.1 hp
    exact ⟨(pl_bd _ _ _).1, (pl_bd _ _ _).2, ho h1⟩
  · intro _ h1 _ h3 _
    refine ⟨by simp, by simp, by simp, by simp, by simp, fun p hp => ?_⟩
    simp only [List.mem_cons, List.not_mem_nil, or_false] at hp
    rcases hp with rfl | rfl
    · exact ⟨(pl_bd _ _ _).1, (pl_bd _ _ _).2, ho h1⟩
    · exact ⟨(pl_bd _ _ _).1, (pl_bd _ _ _).2, ho h3⟩
  · intro _ h1 _ h3 _
    refine ⟨by simp only []; omega, by simp only []; omega, by simp only []; omega, by simp only []; omega, by simp, fun p hp => ?_⟩
    simp only [List.mem_cons, List.not_mem_nil, or_false] at hp
    rcases hp with rfl | rfl
    · exact ⟨(pl_bd _ _ _).1, (pl_bd _ _ _).2, ho h1⟩
    · exact ⟨(pl_bd _ _ _).1, (pl_bd _ _ _).2, ho h3⟩
end
/-- A read hangs on its four bytes. -/
theorem rd_eq {m s : List UInt8} {p : Int} (hl : m.length = s.length) (h : ∀ j, j < 4 → m.getD (p.toNat + j) 0 = s.getD (p.toNat + j) 0) (h0 : 0 ≤ p) : MM.rd m p 4 = MM.rd s p 4 := by
  unfold MM.rd
  rw [hl]
  by_cases hc : MM.ck s.length p 4 = 0
  · rw [if_pos hc, if_pos hc]
    have hf := (ck_open hc).2
    have e : MM.seg m p.toNat (4 : Int).toNat = MM.seg s p.toNat (4 : Int).toNat := by
      have l1 : (MM.seg m p.toNat 4).length = 4 := MM.seg_len (by omega)
      have l2 : (MM.seg s p.toNat 4).length = 4 := MM.seg_len (by omega)
      show MM.seg m p.toNat 4 = MM.seg s p.toNat 4
      apply List.ext_getElem (by rw [l1, l2])
      intro i h1 h2
      have e1 := seg_at (m := m) (a := p.toNat) (s := 4) (i := i) (by omega)
      have e2 := seg_at (m := s) (a := p.toNat) (s := 4) (i := i) (by omega)
      rw [List.getD_eq_getElem?_getD, List.getElem?_eq_getElem h1] at e1
      rw [List.getD_eq_getElem?_getD, List.getElem?_eq_getElem h2] at e2
      exact e1.trans ((h i (by omega)).trans e2.symm)
    rw [e]
  · rw [if_neg hc, if_neg hc]
/-- A walk hangs on the words that it reads. -/
theorem wk_two {m s : List UInt8} {root va : Int} (hl : m.length = s.length) (h : ∀ p ∈ (wk s root va).L, ∀ j, j < 4 → m.getD (p.toNat + j) 0 = s.getD (p.toNat + j) 0) : wk m root va = wk s root va := by
  revert h
  have key1 : ∀ L : List Int, (∀ p ∈ pl root va 0 :: L, ∀ j, j < 4 → m.getD (p.toNat + j) 0 = s.getD (p.toNat + j) 0) → w1 m root va = w1 s root va := fun L h => rd_eq hl (h _ (by simp)) (pl_bd _ _ _).1
  have key2 : w1 m root va = w1 s root va → p2 m root va = p2 s root va := fun e => by unfold p2; rw [e]
  refine wk_ways (m := s) (root := root) (va := va) (fun r => (∀ p ∈ r.L, ∀ j, j < 4 → m.getD (p.toNat + j) 0 = s.getD (p.toNat + j) 0) → wk m root va = r) ?_ ?_ ?_ ?_ ?_ ?_
  · intro h0 _; exact wk_far h0
  · intro h0 h1 _; exact wk_no1 h0 (by rw [hl]; exact h1)
  · intro h0 h1 h2 h
    have e1 := key1 _ h
    exact wk_bad1 h0 (by rw [hl]; exact h1) (by rw [e1]; exact h2)
  · intro h0 h1 h2 h3 h
    have e1 := key1 _ h
    exact wk_no2 h0 (by rw [hl]; exact h1) (by rw [e1]; exact h2) (by rw [hl, key2 e1]; exact h3)
  · intro h0 h1 h2 h3 h4 h
    have e1 := key1 _ h
    have e2 := key2 e1
    have e3 : w2 m root va = w2 s root va := by unfold w2; rw [e2]; exact rd_eq hl (h _ (by simp)) (pl_bd _ _ _).1
    rw [wk_bad2 h0 (by rw [hl]; exact h1) (by rw [e1]; exact h2) (by rw [hl, e2]; exact h3) (by rw [e3]; exact h4), e2]
  · intro h0 h1 h2 h3 h4 h
    have e1 := key1 _ h
    have e2 := key2 e1
    have e3 : w2 m root va = w2 s root va := by unfold w2; rw [e2]; exact rd_eq hl (h _ (by simp)) (pl_bd _ _ _).1
    rw [wk_ok h0 (by rw [hl]; exact h1) (by rw [e1]; exact h2) (by rw [hl, e2]; exact h3) (by rw [e3]; exact h4), e2, e3]
/-- All addresses of a page have one walk. -/
theorem ix_page (q i l : Int) (h : q % 64 = 0) (i0 : 0 ≤ i) (i1 : i < 64) : PT.ix (q + i) l = PT.ix q l := by
  unfold PT.ix
  have e1 : (q + i) / 1024 = q / 1024 := by omega
  have e2 : (q + i) / 64 = q / 64 := by omega
  rw [e1, e2]
theorem wk_page (m : List UInt8) (root q i : Int) (h : q % 64 = 0) (i0 : 0 ≤ i) (i1 : i < 64) : wk m root (q + i) = wk m root q := by
  have hp : ∀ t l, pl t (q + i) l = pl t q l := fun t l => by unfold pl; rw [ix_page q i l h i0 i1]
  unfold wk w2 p2 w1
  simp only [hp]
  have hh : (16384 ≤ q + i) = (16384 ≤ q) := by apply propext; omega
  simp only [hh]
/-- Are addresses virtual? -/
def pg (f : Nat → Int) : Bool := decide (f 17 / 16 % 2 = 1) && !CM.km f
/-- The cause of an access that is refused. -/
def fl (a : Int) : Int := if a = 1 then 1 else if a = 2 then 4 else if a = 3 then 6 else 9
theorem fl_ne (a : Int) : fl a ≠ 0 := by unfold fl; split <;> (try split) <;> (try split) <;> decide
/-- Does the walk lead the access on? -/
def go (f : Nat → Int) (m : List UInt8) (va a : Int) : Bool := (wk m (f 22) va).ok && PT.al (wk m (f 22) va).b a false
/-- Where an access goes. -/
def tr (f : Nat → Int) (m : List UInt8) (va a : Int) : Int × Int :=
  if pg f = false then (va, 0) else if go f m va a = false then (0, fl a) else (PT.ad (wk m (f 22) va).g va, 0)
theorem tr_off {f : Nat → Int} {m : List UInt8} {va a : Int} (h : pg f = false) : tr f m va a = (va, 0) := by unfold tr; rw [if_pos h]
theorem tr_no {f : Nat → Int} {m : List UInt8} {va a : Int} (h : pg f = true) (h1 : go f m va a = false) : tr f m va a = (0, fl a) := by unfold tr; rw [if_neg (by rw [h]; decide), if_pos h1]
theorem tr_yes {f : Nat → Int} {m : List UInt8} {va a : Int} (h : pg f = true) (h1 : go f m va a = true) : tr f m va a = (PT.ad (wk m (f 22) va).g va, 0) := by unfold tr; rw [if_neg (by rw [h]; decide), if_neg (by rw [h1]; decide)]
theorem tr_bd (f : Nat → Int) (m : List UInt8) (va a : Int) (h0 : 0 ≤ va) (h1 : va < 4294967296) : 0 ≤ (tr f m va a).1 ∧ (tr f m va a).1 < 4294967296 ∧ 0 ≤ (tr f m va a).2 ∧ (tr f m va a).2 < 10 := by
  unfold tr
  split
  · exact ⟨h0, h1, by simp, by simp⟩
  · split
    · refine ⟨by simp, by simp, ?_⟩
      show 0 ≤ fl a ∧ fl a < 10
      unfold fl; split <;> (try split) <;> (try split) <;> decide
    · have := PT.ad_bd (wk m (f 22) va).g va
      exact ⟨this.1, by show PT.ad _ _ < _; omega, by simp, by simp⟩
theorem tr_wrong (f : Nat → Int) (m : List UInt8) (va a : Int) (ha : ¬ (a = 1 ∨ a = 2 ∨ a = 3)) (h : pg f = true) : tr f m va a = (0, fl a) := by
  refine tr_no h ?_
  unfold go
  rw [PT.al_none _ _ _ ha, Bool.and_false]
/-- All addresses of a page go to one page, each to its place in it. -/
theorem tr_page (f : Nat → Int) (m : List UInt8) (q i a : Int) (h : q % 64 = 0) (q0 : 0 ≤ q) (q1 : q + 63 < 4294967296) (i0 : 0 ≤ i) (i1 : i < 64) :
    (tr f m (q + i) a).2 = (tr f m q a).2 ∧ ((tr f m q a).2 = 0 → (tr f m (q + i) a).1 = (tr f m q a).1 + i ∧ (tr f m q a).1 + i < 4294967296) ∧ ((tr f m q a).2 ≠ 0 → (tr f m (q + i) a).1 = 0) := by
  have hg : go f m (q + i) a = go f m q a := by unfold go; rw [wk_page m (f 22) q i h i0 i1]
  cases hp : pg f
  · rw [tr_off hp, tr_off hp]
    exact ⟨rfl, fun _ => ⟨rfl, by show q + i < _; omega⟩, fun h => absurd rfl h⟩
  · cases hq : go f m q a
    · rw [tr_no hp hq, tr_no hp (hg.trans hq)]
      exact ⟨rfl, fun h => absurd h (fl_ne a), fun _ => rfl⟩
    · rw [tr_yes hp hq, tr_yes hp (hg.trans hq), wk_page m (f 22) q i h i0 i1]
      refine ⟨rfl, fun _ => ?_, fun h => absurd rfl h⟩
      show PT.ad (wk m (f 22) q).g (q + i) = PT.ad (wk m (f 22) q).g q + i ∧ PT.ad (wk m (f 22) q).g q + i < 4294967296
      unfold PT.ad
      omega
/-- The letters of an entry's flags. -/
def lts : List UInt8 := [114, 119, 120, 117, 116, 100]
/-- The text, the first k letters of which have been looked at. -/
def fk (b : Int) (k : Nat) : List UInt8 := (List.range 6).map fun j => if j < k ∧ PT.bt b (j + 1) = false then 45 else lts.getD j 0
def fs (b : Int) : List UInt8 := fk b 6
theorem fk_len (b : Int) (k : Nat) : (fk b k).length = 6 := by simp [fk]
theorem fk_zero (b : Int) : fk b 0 = lts := by simp [fk]; decide
theorem fk_on {b : Int} {k : Nat} (h : PT.bt b (k + 1) = true) : fk b (k + 1) = fk b k := by
  unfold fk
  apply List.map_congr_left
  intro j _
  by_cases hj : j < k
  · simp [hj, show j < k + 1 by omega]
  · by_cases he : j = k
    · subst he; simp [h]
    · rw [if_neg (by omega), if_neg (by omega)]
theorem fk_off {b : Int} {k : Nat} (h : PT.bt b (k + 1) = false) : fk b (k + 1) = (fk b k).set k 45 := by
  apply List.ext_getElem (by rw [List.length_set, fk_len, fk_len])
  intro j h1 h2
  rw [List.getElem_set]
  have hj : j < 6 := by rw [fk_len] at h1; exact h1
  simp only [fk, List.getElem_map, List.getElem_range]
  by_cases he : k = j
  · subst he; rw [if_pos rfl, if_pos ⟨by omega, h⟩]
  · rw [if_neg he]
    by_cases hk : j < k ∧ PT.bt b (j + 1) = false
    · rw [if_pos hk, if_pos ⟨by omega, hk.2⟩]
    · rw [if_neg hk, if_neg (fun h' => hk ⟨by omega, h'.2⟩)]
theorem fs_eq (b : Int) : fs b = [if PT.bt b 1 then 114 else 45, if PT.bt b 2 then 119 else 45, if PT.bt b 3 then 120 else 45, if PT.bt b 4 then 117 else 45, if PT.bt b 5 then 116 else 45, if PT.bt b 6 then 100 else 45] := by
  show fk b 6 = _
  unfold fk lts
  simp only [show List.range 6 = [0, 1, 2, 3, 4, 5] from rfl, List.map_cons, List.map_nil]
  cases PT.bt b 1 <;> cases PT.bt b 2 <;> cases PT.bt b 3 <;> cases PT.bt b 4 <;> cases PT.bt b 5 <;> cases PT.bt b 6 <;> rfl
/-- One flag, by a mask. -/
theorem bt_mask (b : Int) (k : Nat) (hk : k < 7) (h0 : 0 ≤ b) (h1 : b < 4294967296) : (bits .and .u32 b ((2 ^ k : Nat) : Int) == 0) = !PT.bt b k := by
  have hlt : (b % 128).toNat < 128 := by omega
  have hc : ((b % 128).toNat : Int) = b % 128 := by omega
  have hm : 2 ^ k < 128 := by
    obtain rfl | rfl | rfl | rfl | rfl | rfl | rfl : k = 0 ∨ k = 1 ∨ k = 2 ∨ k = 3 ∨ k = 4 ∨ k = 5 ∨ k = 6 := by omega
    all_goals decide
  rw [PT.and_low b (2 ^ k) hm h0 h1, PT.bt_low b k hk]
  have hM := (show ∀ k : Fin 7, ∀ x : Fin 128, (((x.val &&& 2 ^ k.val : Nat) : Int) == 0) = !PT.bt (x.val : Int) k.val by decide +kernel) ⟨k, hk⟩ ⟨(b % 128).toNat, hlt⟩
  simp only [hc] at hM
  exact hM
/-- The names of the first n pages. -/
def nm (m : List UInt8) (root : Int) (n : Nat) : List (List UInt8 × Nat) := (List.range n).flatMap fun (v : Nat) => if (wk m root (64 * (v : Int))).ok then [(fs (wk m root (64 * (v : Int))).b, v * 65536 + (wk m root (64 * (v : Int))).g.toNat)] else []
theorem nm_zero (m : List UInt8) (root : Int) : nm m root 0 = [] := rfl
theorem nm_off {m : List UInt8} {root : Int} {n : Nat} (h : (wk m root (64 * (n : Int))).ok = false) : nm m root (n + 1) = nm m root n := by
  simp [nm, List.range_succ, h]
theorem nm_on {m : List UInt8} {root : Int} {n : Nat} (h : (wk m root (64 * (n : Int))).ok = true) : nm m root (n + 1) = nm m root n ++ [(fs (wk m root (64 * (n : Int))).b, n * 65536 + (wk m root (64 * (n : Int))).g.toNat)] := by
  simp [nm, List.range_succ, h]
theorem nm_len (m : List UInt8) (root : Int) : ∀ n : Nat, (nm m root n).length ≤ n
  | 0 => Nat.le_refl _
  | n + 1 => by
    have ih := nm_len m root n
    cases h : (wk m root (64 * (n : Int))).ok
    · rw [nm_off h]; omega
    · rw [nm_on h, List.length_append]; simp; omega
end WK
end Go.Proofs.Ytbeenmglgdhbjaa
