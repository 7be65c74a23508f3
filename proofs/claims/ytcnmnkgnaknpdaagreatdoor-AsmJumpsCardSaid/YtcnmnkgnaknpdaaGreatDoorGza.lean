/-
  Plain mathematics of assembling, further: a program with a name, two labels and jumps, assembled.
  Plain mathematics of assembling, further: the words of a program with a name, two labels and jumps, and its image.
  What the law Jumps asks of a place in bytes: the instruction that lies there.
  A drawn region that holds four calls in a chain and makes four variables: whatever order is drawn, the four stores come last.
  The steps of a drawn region: a call, a new instruction, an instruction stored.
  The law Jumps returns true at all arguments and leaves all that was in memory as it was, where the tables are as their texts lay them.
-/
import Derived.Test.YtcnmnkgnaknpdaaGreatDoorGp
import Derived.Test.YtcnmnkgnaknpdaaGreatDoorGz
import Derived.Test.YtcnmnkgnaknpdaaGreatDoorGf
import Derived.OrdersHeld
import Derived.RegionTactic
import Derived.Below
import Derived.Deep.RegionHeld3
import Derived.Deep.RegionWith
import Derived.StillTailTactics

/-! MathM -/
namespace Go.Proofs.YtcnmnkgnaknpdaaGreatDoor
open S02 S06 S07
namespace AS
def nFar : List UInt8 := [102, 97, 114]
def nHere : List UInt8 := [104, 101, 114, 101]
def nThere : List UInt8 := [116, 104, 101, 114, 101]
def nR0 : List UInt8 := [114, 48]
def nR1 : List UInt8 := [114, 49]
def nR2 : List UInt8 := [114, 50]
def hexW (v : Nat) : List UInt8 := 48 :: 120 :: NM.hxs v 8
theorem hexW_wok (v : Nat) : wok (hexW v) := wok_of (by simp [hexW]) fun c hc => by
  unfold hexW at hc
  rcases List.mem_cons.1 hc with rfl | hc
  · decide
  · rcases List.mem_cons.1 hc with rfl | hc
    · decide
    · exact hxs_mem _ _ c hc
/-- The lines. -/
def jA (v : Nat) : List UInt8 := dEqu ++ gaps [32] [nFar, hexW v]
def jB : List UInt8 := [108, 117, 105, 32, 114, 49, 44, 32, 104, 105, 32, 102, 97, 114]
def jC : List UInt8 := [97, 100, 100, 105, 32, 114, 49, 44, 32, 114, 49, 44, 32, 108, 111, 32, 102, 97, 114]
def jD (n : Nat) : List UInt8 := [104, 101, 114, 101, 58] ++ gaps [32] [dSpace, Lib.itoa n]
def jE : List UInt8 := [106, 97, 108, 32, 114, 50, 44, 32, 116, 104, 101, 114, 101]
def jF : List UInt8 := [98, 101, 113, 32, 114, 48, 44, 32, 114, 48, 44, 32, 104, 101, 114, 101]
def jG (n : Nat) : List UInt8 := dSpace ++ gaps [32] [Lib.itoa n]
def jH : List UInt8 := [116, 104, 101, 114, 101, 58]
def srcJ (v m n : Nat) : List UInt8 := [] ++ jA v ++ [10] ++ jB ++ [10] ++ jC ++ [10] ++ jD m ++ [10] ++ jE ++ [10] ++ jF ++ [10] ++ jG n ++ [10] ++ jH ++ [10]
def okC (l : List UInt8) : Prop := ∀ c ∈ l, c ≠ 59 ∧ NM.okb c = true ∧ c ≠ 10
theorem wok_c {x : List UInt8} (h : wok x) : okC x := fun c hc => by obtain ⟨_, h1, _, h2, h3⟩ := h.2 c hc; exact ⟨h1, h2, h3⟩
theorem far_wok : wok nFar := wok_of (by decide) (by decide)
theorem equ_wok : wok dEqu := wok_of (by decide) (by decide)
theorem space_wok : wok dSpace := wok_of (by decide) (by decide)
theorem jA_wd (v : Nat) : NM.wd (jA v) = [dEqu, nFar, hexW v] ∧ okC (jA v) := gaps_wd equ_wok fun x hx => by
  rcases List.mem_cons.1 hx with rfl | hx
  · exact far_wok
  · rw [List.mem_singleton] at hx; subst hx; exact hexW_wok _
theorem jG_wd (n : Nat) : NM.wd (jG n) = [dSpace, Lib.itoa n] ∧ okC (jG n) := gaps_wd space_wok fun x hx => by rw [List.mem_singleton] at hx; subst hx; exact itoa_wok _
theorem jD_wd (n : Nat) : NM.wd (jD n) = [[104, 101, 114, 101, 58], dSpace, Lib.itoa n] ∧ okC (jD n) := by
  have hr : ∀ x ∈ [dSpace, Lib.itoa n], wok x := fun x hx => by
    rcases List.mem_cons.1 hx with rfl | hx
    · exact space_wok
    · rw [List.mem_singleton] at hx; subst hx; exact itoa_wok _
  refine ⟨?_, fun c hc => ?_⟩
  · have := wd_gaps (g := [32]) (by decide) (by simp) [dSpace, Lib.itoa n] [] [] [104, 101, 114, 101, 58] sw_nil ⟨by simp, by decide⟩ hr
    exact this
  · rcases List.mem_append.1 hc with hc | hc
    · have h5 : ∀ c ∈ ([104, 101, 114, 101, 58] : List UInt8), c ≠ 59 ∧ NM.okb c = true ∧ c ≠ 10 := by decide
      exact h5 c hc
    · exact gaps_mem (P := fun c => c ≠ 59 ∧ NM.okb c = true ∧ c ≠ 10) (by decide) (fun x hx c hc => wok_c (hr x hx) c hc) c hc
theorem jB_wd : NM.wd jB = [[108, 117, 105], nR1, tHi, nFar] ∧ okC jB := by unfold okC; decide +kernel
theorem jC_wd : NM.wd jC = [[97, 100, 100, 105], nR1, nR1, tLo, nFar] ∧ okC jC := by unfold okC; decide +kernel
theorem jE_wd : NM.wd jE = [[106, 97, 108], nR2, nThere] ∧ okC jE := by unfold okC; decide +kernel
theorem jF_wd : NM.wd jF = [[98, 101, 113], nR0, nR0, nHere] ∧ okC jF := by unfold okC; decide +kernel
theorem jH_wd : NM.wd jH = [[116, 104, 101, 114, 101, 58]] ∧ okC jH := by unfold okC; decide +kernel
def linesJ (v m n : Nat) : List (List UInt8) := [] ++ [jA v] ++ [jB] ++ [jC] ++ [jD m] ++ [jE] ++ [jF] ++ [jG n] ++ [jH]
theorem srcJ_sl (v m n : Nat) : NM.Sl (srcJ v m n) (linesJ v m n) := by
  have h0 : NM.Sl [] [] := ⟨rfl, rfl, rfl⟩
  have f : ∀ {l : List UInt8}, okC l → ∀ c ∈ l, NM.okb c = true ∧ c ≠ 10 := fun h c hc => (h c hc).2
  exact (((((((h0.line _ (f (jA_wd v).2)).line _ (f jB_wd.2)).line _ (f jC_wd.2)).line _ (f (jD_wd m).2)).line _ (f jE_wd.2)).line _ (f jF_wd.2)).line _ (f (jG_wd n).2)).line _ (f jH_wd.2)
theorem srcJ_len (v m n : Nat) (hm : m ≤ 16384) (hn : n ≤ 16384) : (srcJ v m n).length ≤ 200 := by
  have h1 := ito (m : Int) (by omega)
  have h2 := ito (n : Int) (by omega)
  simp only [srcJ, jA, jB, jC, jD, jE, jF, jG, jH, gaps, hexW, dEqu, dSpace, nFar, List.length_append, List.length_cons, List.length_nil, NM.hxs_len]
  omega
theorem srcJ_lines (v m n : Nat) (hm : m ≤ 16384) (hn : n ≤ 16384) : NM.lE (srcJ v m n) = 0 ∧ NM.lL (srcJ v m n) = linesJ v m n := by
  have := srcJ_len v m n hm hn
  exact (srcJ_sl v m n).done (by omega) (by simp [linesJ])
/-! ### The first going -/
theorem one_lay {st : St} {line : Nat} {d : List UInt8} {r : List (List UInt8)} (hp : Lib.hasPrefix d [46] = false) (h4 : st.pos % 4 = 0) (hm : st.pos + 4 ≤ 16384) (hl : ∀ x ∈ st.items, x.pos + x.size ≤ st.pos) : one st line (d :: r) = (0, ⟨st.names, st.pos + 4, st.items ++ [⟨1, line, st.pos, 4, d :: r⟩]⟩) := by
  rw [one]
  rw [if_pos hp]
  unfold lay laE
  rw [if_neg (by omega), cov_low hl, if_neg (by simp)]
  rfl
theorem one_space {st : St} {line n : Nat} (hm : st.pos + n ≤ 16384) (hl : ∀ x ∈ st.items, x.pos + x.size ≤ st.pos) : one st line [dSpace, Lib.itoa n] = (0, ⟨st.names, st.pos + n, st.items ++ [⟨4, line, st.pos, n, []⟩]⟩) := by
  obtain ⟨h1, h2⟩ := NM.p_itoa (n : Int) (by omega) (by omega)
  obtain ⟨h3, h4⟩ := nb_ok (lo := 0) (hi := 16384) h2 h1 (by omega) (by omega)
  rw [one]
  rw [if_neg (by decide), if_neg (by rintro ⟨h, _⟩; exact absurd h (by decide)), if_pos ⟨rfl, rfl⟩]
  simp only [List.getD_cons_zero]
  rw [h3, h4, if_pos rfl, Int.toNat_natCast]
  unfold lay laE
  rw [if_neg (by omega), cov_low hl, if_neg (by simp)]
  rfl
theorem one_equ {st : St} {line v : Nat} {s : List UInt8} (hf : frE st.names s = 0) (hv : v < 4294967296) : one st line [dEqu, s, hexW v] = (0, ⟨st.names ++ [(s, v)], st.pos, st.items⟩) := by
  have hx := NM.p_hexs v hv
  obtain ⟨h3, h4⟩ := nb_ok (l := hexW v) (lo := -2147483648) (hi := 4294967295) hx.2 hx.1 (by omega) (by omega)
  rw [one]
  rw [if_neg (by decide), if_neg (by rintro ⟨h, _⟩; exact absurd h (by decide)), if_neg (by rintro ⟨h, _⟩; exact absurd h (by decide)), if_neg (by rintro ⟨h, _⟩; exact absurd h (by decide)), if_neg (by rintro ⟨h, _⟩; exact absurd h (by decide)), if_pos ⟨rfl, rfl⟩]
  simp only [List.getD_cons_zero, List.getD_cons_succ]
  rw [hf, if_pos rfl, h3, h4]
  rw [show ((v : Int) % 4294967296).toNat = v by omega]
theorem one_none {st : St} {line : Nat} : one st line [] = (0, st) := rfl
theorem first_step {st st' : St} {k : Nat} {l : List UInt8} {r : List (List UInt8)} (h : lineE st k l = 0 ∧ lineS st k l = st') : first (l :: r) k st = first r (k + 1) st' := by
  rw [first, if_pos h.1, h.2]
theorem plain {st st' : St} {k : Nat} {l d : List UInt8} {r : List (List UInt8)} (hl : NM.wd l = d :: r ∧ okC l) (hd : wok d) (ho : one st (k + 1) (d :: r) = (0, st')) : lineE st k l = 0 ∧ lineS st k l = st' := by
  obtain ⟨a1, a2⟩ := line_one (st := st) (k := k) (fun c hc => (hl.2 c hc).1) hl.1 hd
  rw [ho] at a1 a2
  exact ⟨a1, a2⟩
/-- A line with one label ahead. -/
theorem labelled {st st' : St} {k : Nat} {l d s : List UInt8} {r : List (List UInt8)} (hl : NM.wd l = d :: r ∧ okC l) (hd : Lib.hasSuffix d [58] = true) (hs : Lib.trimSuffix d [58] = s) (hf : frE st.names s = 0) (hr : labs ⟨st.names ++ [(s, st.pos)], st.pos, st.items⟩ r = (0, ⟨st.names ++ [(s, st.pos)], st.pos, st.items⟩, r)) (ho : one ⟨st.names ++ [(s, st.pos)], st.pos, st.items⟩ (k + 1) r = (0, st')) : lineE st k l = 0 ∧ lineS st k l = st' := by
  have h : labs st (NM.wd (code l)) = (0, ⟨st.names ++ [(s, st.pos)], st.pos, st.items⟩, r) := by
    rw [code_no fun c hc => (hl.2 c hc).1, hl.1, labs_ok hd (by rw [hs]; exact hf), hs]
    exact hr
  obtain ⟨a1, a2⟩ := line_end (k := k) h
  rw [ho] at a1 a2
  exact ⟨a1, a2⟩
theorem fr_ok {ns : List (List UInt8 × Nat)} {s : List UInt8} (hn : isNm s = true) (hf : fnd ns s = none) : frE ns s = 0 := by
  unfold frE
  rw [hn, hf]
  rfl
def nsJ (v m n : Nat) : List (List UInt8 × Nat) := [] ++ [(nFar, v)] ++ [(nHere, 8)] ++ [(nThere, 16 + m + n)]
def itsJ (m n : Nat) : List It :=
  [] ++ [⟨1, 2, 0, 4, [[108, 117, 105], nR1, tHi, nFar]⟩] ++ [⟨1, 3, 4, 4, [[97, 100, 100, 105], nR1, nR1, tLo, nFar]⟩] ++ [⟨4, 4, 8, m, []⟩] ++ [⟨1, 5, 8 + m, 4, [[106, 97, 108], nR2, nThere]⟩] ++ [⟨1, 6, 12 + m, 4, [[98, 101, 113], nR0, nR0, nHere]⟩] ++ [⟨4, 7, 16 + m, n, []⟩]
theorem first_J {v m n : Nat} (hv : v < 4294967296) (hm : m ≤ 800) (hn : n ≤ 800) (h4 : m % 4 = 0) : first (linesJ v m n) 0 ⟨[], 0, []⟩ = (0, 0, ⟨nsJ v m n, 16 + m + n, itsJ m n⟩) := by
  have w1 : wok [108, 117, 105] := wok_of (by decide) (by decide)
  have w2 : wok [97, 100, 100, 105] := wok_of (by decide) (by decide)
  have w3 : wok [106, 97, 108] := wok_of (by decide) (by decide)
  have w4 : wok [98, 101, 113] := wok_of (by decide) (by decide)
  have s1 := first_step (st := ⟨[], 0, []⟩) (k := 0) (r := [jB, jC, jD m, jE, jF, jG n, jH]) (plain (jA_wd v) equ_wok (one_equ (fr_ok (by decide) rfl) hv))
  have s2 := first_step (k := 1) (r := [jC, jD m, jE, jF, jG n, jH]) (plain (st := ⟨[] ++ [(nFar, v)], 0, []⟩) jB_wd w1 (one_lay (by decide) (by show 0 % 4 = 0; rfl) (by show 0 + 4 ≤ 16384; omega) (fun x hx => by cases hx)))
  have s3 := first_step (k := 2) (r := [jD m, jE, jF, jG n, jH]) (plain (st := ⟨[] ++ [(nFar, v)], 4, [] ++ [⟨1, 2, 0, 4, [[108, 117, 105], nR1, tHi, nFar]⟩]⟩) jC_wd w2 (one_lay (by decide) (by show 4 % 4 = 0; rfl) (by show 4 + 4 ≤ 16384; omega) (fun x hx => by simp at hx; subst hx; simp)))
  have s4 := first_step (k := 3) (r := [jE, jF, jG n, jH]) (labelled (st := ⟨[] ++ [(nFar, v)], 8, [] ++ [⟨1, 2, 0, 4, [[108, 117, 105], nR1, tHi, nFar]⟩] ++ [⟨1, 3, 4, 4, [[97, 100, 100, 105], nR1, nR1, tLo, nFar]⟩]⟩) (s := nHere) (jD_wd m) (by decide) (by decide) (fr_ok (by decide) rfl) (labs_none space_wok) (one_space (by show 8 + m ≤ 16384; omega) (fun x hx => by simp at hx; rcases hx with rfl | rfl <;> simp)))
  have s5 := first_step (k := 4) (r := [jF, jG n, jH]) (plain (st := ⟨[] ++ [(nFar, v)] ++ [(nHere, 8)], 8 + m, [] ++ [⟨1, 2, 0, 4, [[108, 117, 105], nR1, tHi, nFar]⟩] ++ [⟨1, 3, 4, 4, [[97, 100, 100, 105], nR1, nR1, tLo, nFar]⟩] ++ [⟨4, 4, 8, m, []⟩]⟩) jE_wd w3 (one_lay (by decide) (by show (8 + m) % 4 = 0; omega) (by show 8 + m + 4 ≤ 16384; omega) (fun x hx => by simp at hx; rcases hx with rfl | rfl | rfl <;> (simp; try omega))))
  have s6 := first_step (k := 5) (r := [jG n, jH]) (plain (st := ⟨[] ++ [(nFar, v)] ++ [(nHere, 8)], 12 + m, [] ++ [⟨1, 2, 0, 4, [[108, 117, 105], nR1, tHi, nFar]⟩] ++ [⟨1, 3, 4, 4, [[97, 100, 100, 105], nR1, nR1, tLo, nFar]⟩] ++ [⟨4, 4, 8, m, []⟩] ++ [⟨1, 5, 8 + m, 4, [[106, 97, 108], nR2, nThere]⟩]⟩) jF_wd w4 (one_lay (by decide) (by show (12 + m) % 4 = 0; omega) (by show 12 + m + 4 ≤ 16384; omega) (fun x hx => by simp at hx; rcases hx with rfl | rfl | rfl | rfl <;> (simp; try omega))))
  have s7 := first_step (k := 6) (r := [jH]) (plain (st := ⟨[] ++ [(nFar, v)] ++ [(nHere, 8)], 16 + m, [] ++ [⟨1, 2, 0, 4, [[108, 117, 105], nR1, tHi, nFar]⟩] ++ [⟨1, 3, 4, 4, [[97, 100, 100, 105], nR1, nR1, tLo, nFar]⟩] ++ [⟨4, 4, 8, m, []⟩] ++ [⟨1, 5, 8 + m, 4, [[106, 97, 108], nR2, nThere]⟩] ++ [⟨1, 6, 12 + m, 4, [[98, 101, 113], nR0, nR0, nHere]⟩]⟩) (jG_wd n) space_wok (one_space (by show 16 + m + n ≤ 16384; omega) (fun x hx => by simp at hx; rcases hx with rfl | rfl | rfl | rfl | rfl <;> (simp; try omega))))
  have s8 := first_step (k := 7) (r := []) (labelled (st := ⟨[] ++ [(nFar, v)] ++ [(nHere, 8)], 16 + m + n, itsJ m n⟩) (s := nThere) jH_wd (by decide) (by decide) (fr_ok (by decide) rfl) rfl one_none)
  have e1 : 8 + m + 4 = 12 + m := by omega
  have e2 : 12 + m + 4 = 16 + m := by omega
  change first (linesJ v m n) 0 ⟨[], 0, []⟩ = _ at s1
  simp only [e1] at s5
  simp only [e2] at s6
  refine s1.trans (s2.trans (s3.trans (s4.trans (s5.trans (s6.trans (s7.trans (s8.trans ?_)))))))
  rfl
end AS
end Go.Proofs.YtcnmnkgnaknpdaaGreatDoor
/-! MathN -/
namespace Go.Proofs.YtcnmnkgnaknpdaaGreatDoor
open S02 S06 S07
namespace AS
theorem en_res {ns : List (List UInt8 × Nat)} {pos : Nat} {i : In} {l : List (List UInt8)} (h : rcI i = 0) (hE : rsE ns pos i.1 l = 0) (hL : rsL ns pos i.1 l = opI i) : enE ns pos (TX.nm i.1) l = 0 ∧ (enN ns pos (TX.nm i.1) l).toNat = ecI i := by
  obtain ⟨h3, h4⟩ := TX.pe_pr h
  have ho := TX.oo_nm (op_rng h)
  have ht : txt (TX.nm i.1) (opI i) = TX.pr i.1 i.2.1 i.2.2.1 i.2.2.2.1 i.2.2.2.2 := (pr_txt h).symm
  have hr : ¬ i.1 = 0 := by have := op_rng h; omega
  refine ⟨?_, ?_⟩
  · unfold enE
    rw [ho, if_neg hr, hE, if_pos rfl, hL, ht, h3, if_pos rfl, h4]
    exact h
  · unfold enN
    rw [ho, hL, ht, h4]
    rfl
theorem lk_ok {ns : List (List UInt8 × Nat)} {s : List UInt8} {u : Nat} (hn : isNm s = true) (hf : fnd ns s = some u) : lkE ns s = 0 ∧ lkN ns s = (u : Int) := by
  unfold lkE lkN
  rw [hn, hf]
  exact ⟨rfl, rfl⟩
theorem it_res {ns : List (List UInt8 × Nat)} {line pos : Nat} {i : In} {l : List (List UInt8)} (h : enE ns pos (TX.nm i.1) l = 0 ∧ (enN ns pos (TX.nm i.1) l).toNat = ecI i) : itB ns ⟨1, line, pos, 4, TX.nm i.1 :: l⟩ = (0, le (ecI i) 4) := by
  unfold itB
  rw [if_pos rfl]
  simp only [List.getD_cons_zero, List.tail_cons]
  rw [h.1, h.2]
theorem it_zero (ns : List (List UInt8 × Nat)) (line pos n : Nat) : itB ns ⟨4, line, pos, n, []⟩ = (0, List.replicate n 0) := rfl
/-! ### The four instructions -/
def iHi (v : Nat) : In := (33, 1, 0, 0, hiV v)
def iLo (v : Nat) : In := (25, 1, 1, 0, loV v)
def iJal (b : Nat) : In := (49, 2, 0, 0, 2 + (b : Int))
def iBeq (a : Nat) : In := (43, 0, 0, 0, -1 - (a : Int))
theorem rc_hi (v : Nat) : rcI (iHi v) = 0 := by
  have h := hiV_bd v
  show IM.rc 33 1 0 0 (hiV v) = 0
  unfold IM.rc
  rw [if_neg (by decide), if_neg (by decide), if_neg (by decide), if_neg (by rw [show IM.lo 33 = 0 by decide, show IM.hi 33 = 262143 by decide]; omega)]
theorem rc_lo (v : Nat) : rcI (iLo v) = 0 := by
  have h := loV_bd v
  show IM.rc 25 1 1 0 (loV v) = 0
  unfold IM.rc
  rw [if_neg (by decide), if_neg (by decide), if_neg (by decide), if_neg (by rw [show IM.lo 25 = -8192 by decide, show IM.hi 25 = 8191 by decide]; omega)]
theorem rc_jal {b : Nat} (hb : b ≤ 200) : rcI (iJal b) = 0 := by
  show IM.rc 49 2 0 0 (2 + (b : Int)) = 0
  unfold IM.rc
  rw [if_neg (by decide), if_neg (by decide), if_neg (by decide), if_neg (by rw [show IM.lo 49 = -131072 by decide, show IM.hi 49 = 131071 by decide]; omega)]
theorem rc_beq {a : Nat} (ha : a ≤ 200) : rcI (iBeq a) = 0 := by
  show IM.rc 43 0 0 0 (-1 - (a : Int)) = 0
  unfold IM.rc
  rw [if_neg (by decide), if_neg (by decide), if_neg (by decide), if_neg (by rw [show IM.lo 43 = -8192 by decide, show IM.hi 43 = 8191 by decide]; omega)]
theorem wr_at0 (d a b m : Int) : TX.wr d a b m 0 = 114 :: Lib.itoa d := rfl
theorem wr_at1 (d a b m : Int) : TX.wr d a b m 1 = 114 :: Lib.itoa a := rfl
theorem wr_at2 (d a b m : Int) : TX.wr d a b m 2 = 114 :: Lib.itoa b := rfl
theorem wr_at3 (d a b m : Int) : TX.wr d a b m 3 = Lib.itoa m := rfl
theorem ito_0 : 114 :: Lib.itoa 0 = nR0 := by decide +kernel
theorem ito_1 : 114 :: Lib.itoa 1 = nR1 := by decide +kernel
theorem ito_2 : 114 :: Lib.itoa 2 = nR2 := by decide +kernel
theorem op_hi (v : Nat) : opI (iHi v) = [nR1, Lib.itoa (hiV v)] := by
  show (TX.os (IM.fm 33)).map (TX.wr 1 0 0 (hiV v)) = _
  rw [show TX.os (IM.fm 33) = [0, 3] by decide]
  simp only [List.map_cons, List.map_nil, wr_at0, wr_at3, ito_1]
theorem op_lo (v : Nat) : opI (iLo v) = [nR1, nR1, Lib.itoa (loV v)] := by
  show (TX.os (IM.fm 25)).map (TX.wr 1 1 0 (loV v)) = _
  rw [show TX.os (IM.fm 25) = [0, 1, 3] by decide]
  simp only [List.map_cons, List.map_nil, wr_at0, wr_at1, wr_at3, ito_1]
theorem op_jal (b : Nat) : opI (iJal b) = [nR2, Lib.itoa (2 + (b : Int))] := by
  show (TX.os (IM.fm 49)).map (TX.wr 2 0 0 (2 + (b : Int))) = _
  rw [show TX.os (IM.fm 49) = [0, 3] by decide]
  simp only [List.map_cons, List.map_nil, wr_at0, wr_at3, ito_2]
theorem op_beq (a : Nat) : opI (iBeq a) = [nR0, nR0, Lib.itoa (-1 - (a : Int))] := by
  show (TX.os (IM.fm 43)).map (TX.wr 0 0 0 (-1 - (a : Int))) = _
  rw [show TX.os (IM.fm 43) = [1, 2, 3] by decide]
  simp only [List.map_cons, List.map_nil, wr_at1, wr_at2, wr_at3, ito_0]
theorem fnd_far (v m n : Nat) : fnd (nsJ v m n) nFar = some v := rfl
theorem fnd_here (v m n : Nat) : fnd (nsJ v m n) nHere = some 8 := rfl
theorem fnd_there (v m n : Nat) : fnd (nsJ v m n) nThere = some (16 + m + n) := rfl
theorem part_not (s : List UInt8) (h : s ≠ []) (word : List UInt8) : ¬ (s = [] ∧ isNm word = false) := fun ⟨e, _⟩ => h e
theorem b_hi (v m n : Nat) : itB (nsJ v m n) ⟨1, 2, 0, 4, [[108, 117, 105], nR1, tHi, nFar]⟩ = (0, le (ecI (iHi v)) 4) := by
  obtain ⟨k1, k2⟩ := lk_ok (by decide : isNm nFar = true) (fnd_far v m n)
  refine it_res (i := iHi v) (en_res (rc_hi v) ?_ ?_)
  · show rsE (nsJ v m n) 0 33 [nR1, tHi, nFar] = 0
    unfold rsE
    rw [if_neg (by decide), if_pos (by decide)]
    show imE (nsJ v m n) 0 33 tHi nFar = 0
    unfold imE
    rw [if_neg (by decide), if_pos k1, if_neg (by rintro ⟨h, _⟩; exact absurd h (by decide))]
  · rw [op_hi]
    show rsL (nsJ v m n) 0 33 [nR1, tHi, nFar] = _
    unfold rsL
    rw [if_neg (by decide), if_pos (by decide)]
    show [nR1] ++ [imT (nsJ v m n) 0 33 tHi nFar] = _
    unfold imT
    rw [if_neg (by decide), if_pos rfl, k2]
    rfl
theorem b_lo (v m n : Nat) : itB (nsJ v m n) ⟨1, 3, 4, 4, [[97, 100, 100, 105], nR1, nR1, tLo, nFar]⟩ = (0, le (ecI (iLo v)) 4) := by
  obtain ⟨k1, k2⟩ := lk_ok (by decide : isNm nFar = true) (fnd_far v m n)
  refine it_res (i := iLo v) (en_res (rc_lo v) ?_ ?_)
  · show rsE (nsJ v m n) 4 25 [nR1, nR1, tLo, nFar] = 0
    unfold rsE
    rw [if_neg (by decide), if_pos (by decide)]
    show imE (nsJ v m n) 4 25 tLo nFar = 0
    unfold imE
    rw [if_neg (by decide), if_pos k1, if_neg (by rintro ⟨h, _⟩; exact absurd h (by decide))]
  · rw [op_lo]
    show rsL (nsJ v m n) 4 25 [nR1, nR1, tLo, nFar] = _
    unfold rsL
    rw [if_neg (by decide), if_pos (by decide)]
    show [nR1, nR1] ++ [imT (nsJ v m n) 4 25 tLo nFar] = _
    unfold imT
    rw [if_neg (by decide), if_neg (by decide), if_pos rfl, k2]
    rfl
theorem b_jal (v a : Nat) {b : Nat} (hb : b ≤ 200) : itB (nsJ v (4 * a) (4 * b)) ⟨1, 5, 8 + 4 * a, 4, [[106, 97, 108], nR2, nThere]⟩ = (0, le (ecI (iJal b)) 4) := by
  obtain ⟨k1, k2⟩ := lk_ok (by decide : isNm nThere = true) (fnd_there v (4 * a) (4 * b))
  refine it_res (i := iJal b) (en_res (rc_jal hb) ?_ ?_)
  · show rsE (nsJ v (4 * a) (4 * b)) (8 + 4 * a) 49 [nR2, nThere] = 0
    unfold rsE
    rw [if_neg (by decide), if_neg (by decide)]
    show imE (nsJ v (4 * a) (4 * b)) (8 + 4 * a) 49 [] nThere = 0
    unfold imE
    rw [if_neg (by decide), if_pos k1, if_neg (by rintro ⟨_, _, h⟩; rw [k2] at h; omega)]
  · rw [op_jal]
    show rsL (nsJ v (4 * a) (4 * b)) (8 + 4 * a) 49 [nR2, nThere] = _
    unfold rsL
    rw [if_neg (by decide), if_neg (by decide)]
    show [nR2] ++ [imT (nsJ v (4 * a) (4 * b)) (8 + 4 * a) 49 [] nThere] = _
    unfold imT
    rw [if_neg (by decide), if_neg (by decide), if_neg (by decide), if_pos (.inl rfl), k2, show sgV (((16 + 4 * a + 4 * b : Nat) : Int) - ((8 + 4 * a : Nat) : Int)) / 4 = 2 + (b : Int) by unfold sgV; omega]
    rfl
theorem b_beq (v b : Nat) {a : Nat} (ha : a ≤ 200) : itB (nsJ v (4 * a) (4 * b)) ⟨1, 6, 12 + 4 * a, 4, [[98, 101, 113], nR0, nR0, nHere]⟩ = (0, le (ecI (iBeq a)) 4) := by
  obtain ⟨k1, k2⟩ := lk_ok (by decide : isNm nHere = true) (fnd_here v (4 * a) (4 * b))
  refine it_res (i := iBeq a) (en_res (rc_beq ha) ?_ ?_)
  · show rsE (nsJ v (4 * a) (4 * b)) (12 + 4 * a) 43 [nR0, nR0, nHere] = 0
    unfold rsE
    rw [if_neg (by decide), if_neg (by decide)]
    show imE (nsJ v (4 * a) (4 * b)) (12 + 4 * a) 43 [] nHere = 0
    unfold imE
    rw [if_neg (by decide), if_pos k1, if_neg (by rintro ⟨_, _, h⟩; rw [k2] at h; omega)]
  · rw [op_beq]
    show rsL (nsJ v (4 * a) (4 * b)) (12 + 4 * a) 43 [nR0, nR0, nHere] = _
    unfold rsL
    rw [if_neg (by decide), if_neg (by decide)]
    show [nR0, nR0] ++ [imT (nsJ v (4 * a) (4 * b)) (12 + 4 * a) 43 [] nHere] = _
    unfold imT
    rw [if_neg (by decide), if_neg (by decide), if_neg (by decide), if_pos (.inr (by decide)), k2, show sgV (((8 : Nat) : Int) - ((12 + 4 * a : Nat) : Int)) / 4 = -1 - (a : Int) by unfold sgV; omega]
    rfl
/-! ### The image -/
def datJ (v a b : Nat) : List UInt8 := le (ecI (iHi v)) 4 ++ le (ecI (iLo v)) 4 ++ List.replicate (4 * a) 0 ++ le (ecI (iJal b)) 4 ++ le (ecI (iBeq a)) 4 ++ List.replicate (4 * b) 0
theorem le_len (v n : Nat) : (le v n).length = n := by simp [le]
theorem datJ_len (v a b : Nat) : (datJ v a b).length = 16 + 4 * a + 4 * b := by
  simp only [datJ, List.length_append, le_len, List.length_replicate]
  omega
theorem wr_cat {m : Nat → UInt8} {x y : List UInt8} {k : Nat} (h : k = x.length) : wr (wr m 0 x) k y = wr m 0 (x ++ y) := by
  have := wr_app m 0 x y
  rw [Nat.zero_add] at this
  rw [h, this]
theorem second_J (v : Nat) {a b : Nat} (ha : a ≤ 200) (hb : b ≤ 200) : second (nsJ v (4 * a) (4 * b)) (itsJ (4 * a) (4 * b)) (fun _ => 0) = (0, 0, wr (fun _ => 0) 0 (datJ v a b)) := by
  have e1 := b_hi v (4 * a) (4 * b)
  have e2 := b_lo v (4 * a) (4 * b)
  have e3 := it_zero (nsJ v (4 * a) (4 * b)) 4 8 (4 * a)
  have e4 := b_jal v a hb
  have e5 := b_beq v b ha
  have e6 := it_zero (nsJ v (4 * a) (4 * b)) 7 (16 + 4 * a) (4 * b)
  simp only [itsJ, List.nil_append, List.cons_append]
  rw [second_ok (by rw [e1]), e1, second_ok (by rw [e2]), e2, second_ok (by rw [e3]), e3, second_ok (by rw [e4]), e4, second_ok (by rw [e5]), e5, second_ok (by rw [e6]), e6, second]
  simp only []
  rw [wr_cat (by rw [le_len]), wr_cat (by simp only [List.length_append, le_len]), wr_cat (by simp only [List.length_append, le_len, List.length_replicate] <;> omega), wr_cat (by simp only [List.length_append, le_len, List.length_replicate] <;> omega), wr_cat (by simp only [List.length_append, le_len, List.length_replicate] <;> omega)]
  rfl
theorem cov_J (a b i : Nat) : cov (itsJ (4 * a) (4 * b)) i = decide (i < 16 + 4 * a + 4 * b) := by
  simp only [itsJ, List.nil_append, List.cons_append, cov]
  rw [Bool.eq_iff_iff]
  simp
  omega
theorem asm_J {v a b : Nat} (hv : v < 4294967296) (ha : a ≤ 200) (hb : b ≤ 200) : asm (srcJ v (4 * a) (4 * b)) = ⟨0, [(0, datJ v a b)], nsJ v (4 * a) (4 * b), 0, 0⟩ := by
  obtain ⟨h1, h2⟩ := srcJ_lines v (4 * a) (4 * b) (by omega) (by omega)
  have hF := first_J (v := v) (m := 4 * a) (n := 4 * b) hv (by omega) (by omega) (by omega)
  have hG := second_J v ha hb
  unfold asm
  rw [if_pos h1, h2, hF, if_pos rfl]
  simp only []
  rw [hG, if_pos rfl]
  have hs : segs (cov (itsJ (4 * a) (4 * b))) (wr (fun _ => 0) 0 (datJ v a b)) 16384 = [(0, datJ v a b)] := by
    rw [segs_low (k := 0 + (16 + 4 * a + 4 * b)) (by omega) fun i h1 _ => by rw [cov_J]; simp; omega]
    rw [segs_more_run (k := 0) (a := 0) (n := 16 + 4 * a + 4 * b) (by omega) (fun i _ hi => by omega) (.inl rfl) (by omega) (fun i _ h2 => by rw [cov_J]; simp; omega)]
    rw [← datJ_len v a b, run_wr]
    rfl
  simp only []
  rw [hs]
  rfl
end AS
end Go.Proofs.YtcnmnkgnaknpdaaGreatDoor
/-! JmA -/
namespace Go.Proofs.YtcnmnkgnaknpdaaGreatDoor
open Go.RowKit Go.Maps S01 S02 S06 S07
/-- An instruction as a value. -/
def ivI (p : AS.In) : Value := .agg #[.int .i64 p.1, .int .i64 p.2.1, .int .i64 p.2.2.1, .int .i64 p.2.2.2.1, .int .i64 p.2.2.2.2]
theorem decI_any {p : AS.In} (h : AS.rcI p = 0) (w : World) : Calls Tryz.prog 45 #[.int .u32 (AS.ecI p : Int)] w fun e w' => e = .returned (.tuple #[ivI p, .int .i64 0]) ∧ Below w.heap.size w w' := by
  have h1 : IM.rc p.1 p.2.1 p.2.2.1 p.2.2.2.1 p.2.2.2.2 = 0 := h
  obtain ⟨-, e1, e2, e3, e4, e5⟩ := IM.back h1
  have hd := IM.back_dr h1
  have he : (AS.ecI p : Int) = IM.ew p.1 p.2.1 p.2.2.1 p.2.2.2.1 p.2.2.2.2 := by
    rw [← (AS.ec_nat p).1]
    unfold IM.ec
    rw [if_pos h1]
  have hb := (AS.ec_nat p).2
  have hx := S06.dec_any (AS.ecI p : Int) w (by omega) (by omega)
  rw [he] at hx ⊢
  unfold IM.ko IM.dc at hx
  rw [if_pos hd, if_pos hd, if_pos hd, if_pos hd, if_pos hd, if_pos hd, e1, e2, e3, e4, e5] at hx
  exact hx
set_option maxHeartbeats 1600000 in
theorem of_any {w : World} {g o n c at' : Nat} {p : AS.In} (hr : AS.rcI p = 0) (hn : n ≤ 2000) (ha : at' + 4 ≤ n) (hc : ∀ k, k < 4 → w.cell? ⟨g, o + (at' + k), none⟩ = some (.int .u8 ((AS.ecI p : Int) / 256 ^ k % 256))) :
    Calls Tryz.prog 21 #[.slice (some ⟨g, o, none⟩) n c, .int .i64 at'] w fun e w' => e = .returned (ivI p) ∧ Below w.heap.size w w' := by
  have HD := Lib.hid (fun W => decI_any hr W)
  have HE := Lib.hid (AS.ec_nat p).2
  obtain ⟨E, hE⟩ : ∃ E, AS.ecI p = E := ⟨_, rfl⟩
  rw [hE] at HD hc HE
  unfold ivI at HD ⊢
  generalize p.1 = a0 at *
  generalize p.2.1 = a1 at *
  generalize p.2.2.1 = a2 at *
  generalize p.2.2.2.1 = a3 at *
  generalize p.2.2.2.2 = a4 at *
  obtain ⟨W1, hW1⟩ : ∃ W1, w.alloc (.cells #[.int .i64 0, .int .i64 0, .int .i64 0, .int .i64 0, .int .i64 0] 45) = W1 := ⟨_, rfl⟩
  have HB1 := Lib.hid (show Below w.heap.size w W1 from hW1 ▸ (Below.refl _ w).alloc (Nat.le_refl _) _)
  have HC := Lib.hid (fun k hk => cell_below HB1.out (hc k hk))
  have HO := Lib.hid (show W1.heap[w.heap.size]? = some (.cells #[.int .i64 0, .int .i64 0, .int .i64 0, .int .i64 0, .int .i64 0] 45 (0, 0)) from hW1 ▸ heap_alloc_new w _)
  clear hc hE hr
  go_enter Tryz.func21, Tryz.ntmps21
  go_upto_region 1 with fail
  clear hW1
  go_wp2
  go_loopw [5, 6] (fun u i wr => ∃ (q : Int) (x : Nat), -1 ≤ q ∧ q ≤ 3 ∧ i = .int .i64 q ∧ u = .int .u32 x ∧ Hid (x = E / 256 ^ (q + 1).toNat) ∧ W1 = wr) (fun _ i _ => (intOf i + 1).toNat)
  case atStart => exact ⟨3, 0, by omega, by omega, rfl, rfl, Lib.hid (by have := HE.out; show 0 = E / 256 ^ 4; omega), rfl⟩
  case round =>
    obtain ⟨q, x, hq1, hq2, rfl, rfl, hx, rfl⟩ := hrel
    by_cases hq : 0 ≤ q
    · obtain ⟨j, rfl⟩ : ∃ j : Nat, q = j := ⟨q.toNat, by omega⟩
      have c0 := HC.out j (by omega)
      obtain ⟨y, hy⟩ : ∃ y : Nat, E / 256 ^ j % 256 = y := ⟨_, rfl⟩
      have hy2 : (y : Int) < 256 := by omega
      rw [show (E : Int) / 256 ^ j % 256 = (y : Int) by rw [← hy]; simp] at c0
      have hxe := hx.out
      rw [show ((j : Int) + 1).toNat = j + 1 by omega, Nat.pow_succ, ← Nat.div_div_eq_div_mul] at hxe
      have HN := Lib.hid (show x * 256 + y = E / 256 ^ j by omega)
      have hE4 : E / 256 ^ j ≤ E := Nat.div_le_self _ _
      have hx4 : (x : Int) ≤ 16777215 := by have := HE.out; omega
      have hij : (at' : Int) + j < n := by omega
      clear hx hxe hy hE4 hq1
      go_wp2
      go_roundw
      case rel => exact ⟨(j : Int) - 1, x * 256 + y, by omega, by omega, by go_num, by go_num, Lib.hid (by rw [HN.out]; congr 2; omega), trivial⟩
      case measure => simp [intOf]
    · obtain rfl : q = -1 := by omega
      have hxe : x = E := by rw [hx.out]; simp
      subst hxe
      clear hx hq hq1 hq2
      go_upto_region 7 with (go_at_call 45; refine (HD.out _).mono ?_; rintro e w2 ⟨rfl, hb2⟩; have HB2 := Lib.hid (HB1.out.trans (hb2.mono HB1.out.size)); have HO2 := Lib.hid ((hb2.block _ (lt_of_heap HO.out)).trans HO.out); clear hb2)
      obtain ⟨W3, hW3⟩ : ∃ W3, w2.alloc (.cells #[.int .i64 a0, .int .i64 a1, .int .i64 a2, .int .i64 a3, .int .i64 a4] 45) = W3 := ⟨_, rfl⟩
      obtain ⟨B3, hB3⟩ : ∃ B3, w2.heap.size = B3 := ⟨_, rfl⟩
      have hal : Below w2.heap.size w2 W3 := hW3 ▸ (Below.refl _ w2).alloc (Nat.le_refl _) _
      have HB3 := Lib.hid (HB2.out.trans (hal.mono HB2.out.size))
      have hO3 := (hal.block _ (lt_of_heap HO2.out)).trans HO2.out
      have hN3 : W3.heap[B3]? = some (.cells #[.int .i64 a0, .int .i64 a1, .int .i64 a2, .int .i64 a3, .int .i64 a4] 45 (0, 0)) := hB3 ▸ hW3 ▸ heap_alloc_new w2 _
      have d0 := cell_of (o := 0) hN3 rfl
      have d1 := cell_of (o := 1) hN3 rfl
      have d2 := cell_of (o := 2) hN3 rfl
      have d3 := cell_of (o := 3) hN3 rfl
      have d4 := cell_of (o := 4) hN3 rfl
      have e0 := cell_of (o := 0) hO3 rfl
      have e1 := cell_of (o := 1) hO3 rfl
      have e2 := cell_of (o := 2) hO3 rfl
      have e3 := cell_of (o := 3) hO3 rfl
      have e4 := cell_of (o := 4) hO3 rfl
      have ef := fun o => unfrozen (o := o) hO3
      have HO3 := Lib.hid hO3
      rw [hW3, hB3]
      clear hW3 hB3 hal hO3 hN3 HO2 HB2
      go_wp2
      obtain ⟨W4, hW4⟩ : ∃ W4, ((((W3.setCell ⟨w.heap.size, 0, none⟩ (.int .i64 a0)).setCell ⟨w.heap.size, 1, none⟩ (.int .i64 a1)).setCell ⟨w.heap.size, 2, none⟩ (.int .i64 a2)).setCell ⟨w.heap.size, 3, none⟩ (.int .i64 a3)).setCell ⟨w.heap.size, 4, none⟩ (.int .i64 a4) = W4 := ⟨_, rfl⟩
      have hF : W4.heap[w.heap.size]? = some (.cells #[.int .i64 a0, .int .i64 a1, .int .i64 a2, .int .i64 a3, .int .i64 a4] 45 (0, 0)) := hW4 ▸ heap_set (heap_set (heap_set (heap_set (heap_set HO3.out))))
      have HB4 := Lib.hid (show Below w.heap.size w W4 from hW4 ▸ (((((HB3.out.setCell (Nat.le_refl _) _).setCell (Nat.le_refl _) _).setCell (Nat.le_refl _) _).setCell (Nat.le_refl _) _).setCell (Nat.le_refl _) _))
      rw [hW4]
      have f0 := cell_of (o := 0) hF rfl
      have f1 := cell_of (o := 1) hF rfl
      have f2 := cell_of (o := 2) hF rfl
      have f3 := cell_of (o := 3) hF rfl
      have f4 := cell_of (o := 4) hF rfl
      clear hW4
      refine bodyPost_ret (v := .agg #[.int .i64 a0, .int .i64 a1, .int .i64 a2, .int .i64 a3, .int .i64 a4]) (by simp [results, Tryz.results21, go_sem, f0, f1, f2, f3, f4]) rfl ⟨rfl, HB4.out⟩
end Go.Proofs.YtcnmnkgnaknpdaaGreatDoor
/-! JmC -/
namespace Go.Proofs.YtcnmnkgnaknpdaaGreatDoor
open Go Go.RowKit
def sl8 (t : Nat) : Option (Fin 8) := if t = 86 then some 0 else if t = 92 then some 1 else if t = 99 then some 2 else if t = 107 then some 3 else if t = 13 then some 4 else if t = 14 then some 5 else if t = 15 then some 6 else if t = 16 then some 7 else none
def at8 (i : Fin 8) : Nat := [86, 92, 99, 107, 13, 14, 15, 16].getD i.val 0
theorem sl8_at : ∀ i : Fin 8, sl8 (at8 i) = some i := by decide
theorem at_sl8 {t : Nat} {i : Fin 8} (h : sl8 t = some i) : t = at8 i := by
  unfold sl8 at h
  repeat' split at h
  all_goals first
    | (injection h with h; subst h; rename_i e; exact e)
    | cases h
/-- A state with the eight slots as given. -/
def cn (a : Act) (x : Fin 8 → Value) : Act := { a with tmps := a.tmps.mapIdx fun t u => match sl8 t with | some i => x i | none => u }
def up8 (x : Fin 8 → Value) (i : Fin 8) (v : Value) : Fin 8 → Value := fun j => if j = i then v else x j
theorem cn_at (a : Act) (x : Fin 8 → Value) (t : Nat) : (cn a x).tmps[t]? = a.tmps[t]?.map fun u => match sl8 t with | some i => x i | none => u := by
  unfold cn
  rw [Array.getElem?_mapIdx]
theorem cn_put (a : Act) (x : Fin 8 → Value) (i : Fin 8) (v : Value) : (cn a x).put (some (at8 i)) v = cn a (up8 x i v) := by
  show ({ cn a x with tmps := (cn a x).tmps.setIfInBounds (at8 i) v } : Act) = cn a (up8 x i v)
  refine congrArg (fun u => ({ a with tmps := u } : Act)) ?_
  refine Array.ext_getElem? fun t => ?_
  show ((cn a x).tmps.setIfInBounds (at8 i) v)[t]? = (cn a (up8 x i v)).tmps[t]?
  rw [cn_at]
  by_cases h : at8 i = t
  · subst h
    rw [Array.getElem?_setIfInBounds_self, sl8_at]
    have hs : (cn a x).tmps.size = a.tmps.size := by simp [cn]
    rw [hs]
    by_cases hb : at8 i < a.tmps.size
    · rw [if_pos hb, Array.getElem?_eq_getElem hb]
      simp [up8]
    · rw [if_neg hb, Array.getElem?_eq_none (by omega)]
      rfl
  · rw [Array.getElem?_setIfInBounds_ne h, cn_at]
    cases hs : sl8 t with
    | none => rfl
    | some j =>
      have hj : j ≠ i := fun e => h (by rw [at_sl8 hs, e])
      simp [up8, hj]
theorem cn_off (a : Act) (x : Fin 8 → Value) {t : Nat} (h : sl8 t = none) : (cn a x).eval (.tmp t) = a.eval (.tmp t) := by
  show (cn a x).tmps.getD t undef = a.tmps.getD t undef
  rw [Array.getD_eq_getD_getElem?, Array.getD_eq_getD_getElem?, cn_at, h]
  cases a.tmps[t]? <;> rfl
theorem cn_self (a : Act) : cn a (fun i => a.tmps.getD (at8 i) undef) = a := by
  refine (congrArg (fun u => ({ a with tmps := u } : Act)) ?_ : _ = ({ a with tmps := a.tmps } : Act))
  refine Array.ext_getElem? fun t => ?_
  rw [Array.getElem?_mapIdx]
  cases ht : a.tmps[t]? with
  | none => rfl
  | some u =>
    cases hs : sl8 t with
    | none => rfl
    | some j =>
      have hj := at_sl8 hs
      subst hj
      simp [Array.getD_eq_getD_getElem?, ht]
/-- The final state, slot by slot. -/
theorem cn_puts (a : Act) (x : Fin 8 → Value) : cn a x = (((((((a.put (some 86) (x 0)).put (some 92) (x 1)).put (some 99) (x 2)).put (some 107) (x 3)).put (some 13) (x 4)).put (some 14) (x 5)).put (some 15) (x 6)).put (some 16) (x 7) := by
  have h : ∀ (y : Fin 8 → Value), cn a y = cn (cn a y) y := fun y => by
    refine congrArg (fun u => ({ a with tmps := u } : Act)) (Array.ext_getElem? fun t => ?_)
    show (cn a y).tmps[t]? = (cn (cn a y) y).tmps[t]?
    rw [cn_at (cn a y), cn_at]
    cases a.tmps[t]? with
    | none => rfl
    | some u => cases sl8 t <;> rfl
  have e := cn_self a
  obtain ⟨y, hy⟩ : ∃ y, (fun i => a.tmps.getD (at8 i) undef) = y := ⟨_, rfl⟩
  rw [hy] at e
  have k := fun (z : Fin 8 → Value) i v => cn_put a z i v
  have hx : x = up8 (up8 (up8 (up8 (up8 (up8 (up8 (up8 y 0 (x 0)) 1 (x 1)) 2 (x 2)) 3 (x 3)) 4 (x 4)) 5 (x 5)) 6 (x 6)) 7 (x 7) := by
    funext j
    match j with
    | 0 => rfl
    | 1 => rfl
    | 2 => rfl
    | 3 => rfl
    | 4 => rfl
    | 5 => rfl
    | 6 => rfl
    | 7 => rfl
  rw [hx, ← k, ← k, ← k, ← k, ← k, ← k, ← k, ← k, e]
  rfl
/-- What has come up. -/
def Lst (c : Nat) (A : Fin 4 → Bool) : Array Bool := #[true, true, true, true, true, decide (0 < c), true, true, true, true, true, decide (1 < c), true, true, true, true, true, true, decide (2 < c), true, true, true, true, true, true, true, decide (3 < c), A 0, A 1, A 2, A 3, false, false, false, false]
def ci8 (c : Nat) : Nat := [5, 11, 18, 26].getD c 0
def upB (A : Fin 4 → Bool) (k : Fin 4) : Fin 4 → Bool := fun j => if j = k then true else A j
theorem lst_call {c : Nat} (h : c < 4) (A : Fin 4 → Bool) : (Lst c A).setIfInBounds (ci8 c) true = Lst (c + 1) A := by
  match c, h with
  | 0, _ => rfl
  | 1, _ => rfl
  | 2, _ => rfl
  | 3, _ => rfl
theorem lst_new (c : Nat) (A : Fin 4 → Bool) (k : Fin 4) : (Lst c A).setIfInBounds (27 + k.val) true = Lst c (upB A k) := by
  match k with
  | 0 => rfl
  | 1 => rfl
  | 2 => rfl
  | 3 => rfl
def mkB (b0 b1 b2 b3 : Bool) : Fin 4 → Bool := fun k => [b0, b1, b2, b3].getD k.val false
def cnt (A : Fin 4 → Bool) : Nat := (A 0).toNat + (A 1).toNat + (A 2).toNat + (A 3).toNat
theorem cnt_up {A : Fin 4 → Bool} {k : Fin 4} (h : A k = false) : cnt (upB A k) = cnt A + 1 := by
  unfold cnt upB
  match k, h with
  | 0, h => simp [h] <;> omega
  | 1, h => simp [h] <;> omega
  | 2, h => simp [h] <;> omega
  | 3, h => simp [h] <;> omega
theorem cnt_all {A : Fin 4 → Bool} (h4 : cnt A = 4) (k : Fin 4) : A k = true := by
  unfold cnt at h4
  have t0 := Bool.toNat_le (A 0)
  have t1 := Bool.toNat_le (A 1)
  have t2 := Bool.toNat_le (A 2)
  have t3 := Bool.toNat_le (A 3)
  have key : ∀ b : Bool, b.toNat = 1 → b = true := by decide
  match k with
  | 0 => exact key _ (by omega)
  | 1 => exact key _ (by omega)
  | 2 => exact key _ (by omega)
  | 3 => exact key _ (by omega)
def zer : Array Value := #[.int .i64 0, .int .i64 0, .int .i64 0, .int .i64 0, .int .i64 0]
/-- Where the region stands. -/
structure JI (a0 : Act) (w0 : World) (iv : Fin 4 → Value) (c : Nat) (A : Fin 4 → Bool) (x : Fin 8 → Value) (p : Fin 4 → Nat) (w : World) : Prop where
  old : Below w0.heap.size w0 w
  cal : ∀ j : Fin 4, j.val < c → x (j.castLE (by decide)) = iv j
  new : ∀ k : Fin 4, A k = true → x (k.natAdd 4) = .pointer (some ⟨p k, 0, none⟩) ∧ w0.heap.size ≤ p k ∧ w.heap[p k]? = some (.cells zer 45 (0, 0))
  dis : ∀ k l : Fin 4, A k = true → A l = true → k ≠ l → p k ≠ p l
variable {P : Program} {ops : Array Oper} {Q : Exit → Act → World → Prop} {S : World → Prop} {a0 : Act} {w0 : World} {iv : Fin 4 → Value}
theorem jreg (hS : ∀ w, Below w0.heap.size w0 w → S w)
    (hc : ∀ j : Fin 4, ∃ o, ops[ci8 j]? = some o ∧ o.dst = some (at8 (j.castLE (by decide))) ∧ o.guard = none ∧ ∀ (x : Fin 8 → Value) (w : World), Below w0.heap.size w0 w → ∀ K : Act → World → Prop, (∀ w', Below w.heap.size w w' → K ((cn a0 x).put o.dst (iv j)) w') → o.wp P (cn a0 x) w K Q)
    (ha : ∀ k : Fin 4, ∃ o, ops[27 + k.val]? = some o ∧ o.dst = some (at8 (k.natAdd 4)) ∧ o.guard = none ∧ ∀ (a : Act) (w : World) (K : Act → World → Prop), K (a.put o.dst (.pointer (some ⟨w.heap.size, 0, none⟩))) (w.alloc (.cells zer 45)) → o.wp P a w K Q)
    (hr : ∀ (c : Fin 5) (b0 b1 b2 b3 : Bool), (c.val + (b0.toNat + b1.toNat + b2.toNat + b3.toNat) < 8) → Region.ready .any ops (Lst c.val (mkB b0 b1 b2 b3)) ≠ [] ∧ (∀ i ∈ Region.ready .any ops (Lst c.val (mkB b0 b1 b2 b3)), (c.val < 4 ∧ i = ci8 c.val) ∨ (i = 27 ∧ b0 = false) ∨ (i = 28 ∧ b1 = false) ∨ (i = 29 ∧ b2 = false) ∨ (i = 30 ∧ b3 = false)))
    (hend : ∀ (x : Fin 8 → Value) (p : Fin 4 → Nat) (w : World), JI a0 w0 iv 4 (fun _ => true) x p w → wpAnyH P .any ops Q S 4 (Lst 4 fun _ => true) (cn a0 x) w) :
    ∀ (m c : Nat) (A : Fin 4 → Bool) (x : Fin 8 → Value) (p : Fin 4 → Nat) (w : World), c ≤ 4 → c + cnt A + m = 8 → JI a0 w0 iv c A x p w → wpAnyH P .any ops Q S (m + 4) (Lst c A) (cn a0 x) w
  | 0, c, A, x, p, w, hc4, hm, hI => by
    have hA : ∀ k, A k = true := by
      have h4 : cnt A = 4 := by
        have : cnt A ≤ 4 := by unfold cnt; have t0 := Bool.toNat_le (A 0); have t1 := Bool.toNat_le (A 1); have t2 := Bool.toNat_le (A 2); have t3 := Bool.toNat_le (A 3); omega
        omega
      exact cnt_all h4
    have hA2 : A = fun _ => true := funext hA
    subst hA2
    have hc5 : c = 4 := by
      have : cnt (fun _ => true) = 4 := rfl
      omega
    subst hc5
    exact hend x p w hI
  | m + 1, c, A, x, p, w, hc4, hm, hI => by
    have hAe : A = mkB (A 0) (A 1) (A 2) (A 3) := by
      funext k
      match k with
      | 0 => rfl
      | 1 => rfl
      | 2 => rfl
      | 3 => rfl
    have hrr := hr ⟨c, by omega⟩ (A 0) (A 1) (A 2) (A 3) (by show c + cnt A < 8; omega)
    simp only [] at hrr
    rw [← hAe] at hrr
    have stepA : ∀ k : Fin 4, A k = false → wpOp P ops Q (27 + k.val) (fun a' w' => S w' ∧ wpAnyH P .any ops Q S (m + 4) ((Lst c A).setIfInBounds (27 + k.val) true) a' w') (cn a0 x) w := fun k hk => by
      obtain ⟨o, h1, h2, h3, h4⟩ := ha k
      refine wpOp_step h1 fun K' hK => ?_
      rw [if_pos (by unfold Region.wanted; rw [h3])]
      refine h4 _ _ _ (hK _ _ ?_)
      have hb : Below w0.heap.size w0 (w.alloc (.cells zer 45)) := hI.old.alloc hI.old.size _
      refine ⟨hS _ hb, ?_⟩
      rw [h2, cn_put, lst_new]
      refine jreg hS hc ha hr hend m c (upB A k) (up8 x (k.natAdd 4) (.pointer (some ⟨w.heap.size, 0, none⟩))) (fun l => if l = k then w.heap.size else p l) _ hc4 (by rw [cnt_up hk]; omega) ⟨hb, fun j hj => ?_, fun l hl => ?_, fun l q hl hq hlq => ?_⟩
      · rw [← hI.cal j hj]
        unfold up8
        rw [if_neg]
        intro e
        have := congrArg Fin.val e
        simp at this
        omega
      · by_cases hlk : l = k
        · subst hlk
          rw [if_pos rfl]
          refine ⟨by unfold up8; rw [if_pos rfl], hI.old.size, ?_⟩
          exact heap_alloc_new w _
        · rw [if_neg hlk]
          have hl2 : A l = true := by unfold upB at hl; rwa [if_neg hlk] at hl
          obtain ⟨q1, q2, q3⟩ := hI.new l hl2
          refine ⟨?_, q2, ?_⟩
          · rw [← q1]
            unfold up8
            rw [if_neg]
            intro e
            exact hlk (Fin.ext (by have := congrArg Fin.val e; simp at this; omega))
          · rw [((Below.refl w.heap.size w).alloc (Nat.le_refl _) (.cells zer 45)).block _ (Array.getElem?_eq_some_iff.1 q3).1]
            exact q3
      · by_cases hlk : l = k
        · subst hlk
          have hqk : q ≠ l := fun e => hlq e.symm
          rw [if_pos rfl, if_neg hqk]
          have hq2 : A q = true := by unfold upB at hq; rwa [if_neg hqk] at hq
          have := (Array.getElem?_eq_some_iff.1 (hI.new q hq2).2.2).1
          omega
        · have hl2 : A l = true := by unfold upB at hl; rwa [if_neg hlk] at hl
          rw [if_neg hlk]
          by_cases hqk : q = k
          · rw [if_pos hqk]
            have := (Array.getElem?_eq_some_iff.1 (hI.new l hl2).2.2).1
            omega
          · have hq2 : A q = true := by unfold upB at hq; rwa [if_neg hqk] at hq
            rw [if_neg hqk]
            exact hI.dis l q hl2 hq2 hlq
    refine ⟨fun h => absurd h hrr.1, fun i hi => ?_⟩
    rcases hrr.2 i hi with ⟨hlt, rfl⟩ | ⟨rfl, hk⟩ | ⟨rfl, hk⟩ | ⟨rfl, hk⟩ | ⟨rfl, hk⟩
    · obtain ⟨o, h1, h2, h3, h4⟩ := hc ⟨c, hlt⟩
      refine wpOp_step h1 fun K' hK => ?_
      rw [if_pos (by unfold Region.wanted; rw [h3])]
      refine h4 x w hI.old K' fun w' hb' => hK _ _ ?_
      have hb : Below w0.heap.size w0 w' := hI.old.trans (hb'.mono hI.old.size)
      refine ⟨hS _ hb, ?_⟩
      rw [h2, cn_put, lst_call hlt]
      refine jreg hS hc ha hr hend m (c + 1) A _ p _ (by omega) (by omega) ⟨hb, fun j hj => ?_, fun l hl => ?_, hI.dis⟩
      · by_cases hjc : j.val = c
        · have : j = ⟨c, hlt⟩ := Fin.ext hjc
          subst this
          unfold up8
          rw [if_pos rfl]
        · rw [← hI.cal j (by omega)]
          unfold up8
          rw [if_neg]
          intro e
          have := congrArg Fin.val e
          simp at this
          omega
      · obtain ⟨q1, q2, q3⟩ := hI.new l hl
        refine ⟨?_, q2, ?_⟩
        · rw [← q1]
          unfold up8
          rw [if_neg]
          intro e
          have := congrArg Fin.val e
          simp at this
          omega
        · rw [hb'.block _ (Array.getElem?_eq_some_iff.1 q3).1]
          exact q3
    · exact stepA 0 hk
    · exact stepA 1 hk
    · exact stepA 2 hk
    · exact stepA 3 hk
theorem jreg1 {n : Nat} {listed : Array Bool} (hn : n = 12) (hl : listed = Lst 0 fun _ => false) (iv : Fin 4 → Value) (hS : ∀ w, Below w0.heap.size w0 w → S w)
    (hc : ∀ j : Fin 4, ∃ o, ops[ci8 j]? = some o ∧ o.dst = some (at8 (j.castLE (by decide))) ∧ o.guard = none ∧ ∀ (x : Fin 8 → Value) (w : World), Below w0.heap.size w0 w → ∀ K : Act → World → Prop, (∀ w', Below w.heap.size w w' → K ((cn a0 x).put o.dst (iv j)) w') → o.wp P (cn a0 x) w K Q)
    (ha : ∀ k : Fin 4, ∃ o, ops[27 + k.val]? = some o ∧ o.dst = some (at8 (k.natAdd 4)) ∧ o.guard = none ∧ ∀ (a : Act) (w : World) (K : Act → World → Prop), K (a.put o.dst (.pointer (some ⟨w.heap.size, 0, none⟩))) (w.alloc (.cells zer 45)) → o.wp P a w K Q)
    (hr : ∀ (c : Fin 5) (b0 b1 b2 b3 : Bool), (c.val + (b0.toNat + b1.toNat + b2.toNat + b3.toNat) < 8) → Region.ready .any ops (Lst c.val (mkB b0 b1 b2 b3)) ≠ [] ∧ (∀ i ∈ Region.ready .any ops (Lst c.val (mkB b0 b1 b2 b3)), (c.val < 4 ∧ i = ci8 c.val) ∨ (i = 27 ∧ b0 = false) ∨ (i = 28 ∧ b1 = false) ∨ (i = 29 ∧ b2 = false) ∨ (i = 30 ∧ b3 = false)))
    (hend : ∀ (x : Fin 8 → Value) (p : Fin 4 → Nat) (w : World), JI a0 w0 iv 4 (fun _ => true) x p w → wpAnyH P .any ops Q S 4 (Lst 4 fun _ => true) (cn a0 x) w) :
    wpAnyH P .any ops Q S n listed a0 w0 := by
  subst hn hl
  have := jreg hS hc ha hr hend 8 0 (fun _ => false) (fun i => a0.tmps.getD (at8 i) undef) (fun _ => 0) w0 (by decide) rfl ⟨Below.refl _ _, fun j hj => absurd hj (Nat.not_lt_zero _), fun k hk => (by cases hk), fun k l hk => (by cases hk)⟩
  rw [cn_self] at this
  exact this
end Go.Proofs.YtcnmnkgnaknpdaaGreatDoor
/-! JmD -/
namespace Go.Proofs.YtcnmnkgnaknpdaaGreatDoor
open Go.RowKit Go.Maps S01 S02 S06 S07
variable {Q : Exit → Act → World → Prop}
theorem exec_call (ρ : Operand → Value) (s t : Operand) (dst : Option Tmp) (type : TypeId) (pos : String) (after : Array Edge) (guard : Option (Nat × Bool)) (w : World) (hf : ρ (.func 21) = .func (.func 21) #[] #[]) :
    (execOp ρ { dst := dst, op := .call { callee := .value (.func 21), args := #[s, t], argTypes := #[47, 3] }, type := type, pos := pos, after := after, guard := guard }).run Tryz.prog w = .ok (.enter 21 #[ρ s, ρ t]) w := by
  go_simp
theorem call_wp {o : Oper} {a : Act} {w : World} {K : Act → World → Prop} (s t : Operand) (h : o.op = .call { callee := .value (.func 21), args := #[s, t], argTypes := #[47, 3] }) {v1 v2 v : Value} (hs : a.eval s = v1) (ht : a.eval t = v2)
    (hcall : Calls Tryz.prog 21 #[v1, v2] w fun e w' => e = .returned v ∧ Below w.heap.size w w') (hK : ∀ w', Below w.heap.size w w' → K (a.put o.dst v) w') : o.wp Tryz.prog a w K Q := by
  obtain ⟨dst, op, type, pos, after, guard⟩ := o
  simp only [] at h
  subst h
  unfold Oper.wp
  rw [exec_call a.eval s t dst type pos after guard w rfl, hs, ht, Oper.upon_enter]
  refine hcall.mono ?_
  rintro e w' ⟨rfl, hb⟩
  exact hK w' hb
theorem alloc_wp {o : Oper} {a : Act} {w : World} {K : Act → World → Prop} (h : o.op = .alloc 45) (hK : K (a.put o.dst (.pointer (some ⟨w.heap.size, 0, none⟩))) (w.alloc (.cells zer 45))) : o.wp Tryz.prog a w K Q := by
  obtain ⟨dst, op, type, pos, after, guard⟩ := o
  simp only [] at h
  subst h
  unfold Oper.wp
  go_simp
  exact hK
theorem exec_store (ρ : Operand → Value) (s t : Operand) {p : Nat} {n0 n1 n2 n3 n4 : Int} (type : TypeId) (pos : String) (after : Array Edge) (guard : Option (Nat × Bool)) (w : World) (hs : ρ s = .pointer (some ⟨p, 0, none⟩)) (ht : ρ t = .agg #[.int .i64 n0, .int .i64 n1, .int .i64 n2, .int .i64 n3, .int .i64 n4]) (hp : w.heap[p]? = some (.cells zer 45 (0, 0))) :
    (execOp ρ { dst := none, op := .store 45 s t, type := type, pos := pos, after := after, guard := guard }).run Tryz.prog w = .ok .skip (((((w.setCell ⟨p, 0, none⟩ (.int .i64 n0)).setCell ⟨p, 1, none⟩ (.int .i64 n1)).setCell ⟨p, 2, none⟩ (.int .i64 n2)).setCell ⟨p, 3, none⟩ (.int .i64 n3)).setCell ⟨p, 4, none⟩ (.int .i64 n4)) := by
  have c0 := cell_of (o := 0) hp rfl
  have c1 := cell_of (o := 1) hp rfl
  have c2 := cell_of (o := 2) hp rfl
  have c3 := cell_of (o := 3) hp rfl
  have c4 := cell_of (o := 4) hp rfl
  have ef := fun o => unfrozen (o := o) hp
  go_simp
theorem store_wp {o : Oper} {a : Act} {w : World} {K : Act → World → Prop} (s t : Operand) (h : o.op = .store 45 s t) (hd : o.dst = none) {p : Nat} {i : AS.In} (hs : a.eval s = .pointer (some ⟨p, 0, none⟩)) (ht : a.eval t = ivI i) (hp : w.heap[p]? = some (.cells zer 45 (0, 0)))
    (hK : ∀ w', Below p w w' → (∀ k, k ≠ p → w'.heap[k]? = w.heap[k]?) → w'.heap[p]? = some (.cells #[.int .i64 i.1, .int .i64 i.2.1, .int .i64 i.2.2.1, .int .i64 i.2.2.2.1, .int .i64 i.2.2.2.2] 45 (0, 0)) → K a w') : o.wp Tryz.prog a w K Q := by
  obtain ⟨dst, op, type, pos, after, guard⟩ := o
  simp only [] at h hd
  subst h hd
  unfold Oper.wp
  rw [exec_store a.eval s t type pos after guard w hs ht hp, Oper.upon_skip]
  have hb : Below p w (((((w.setCell ⟨p, 0, none⟩ (.int .i64 i.1)).setCell ⟨p, 1, none⟩ (.int .i64 i.2.1)).setCell ⟨p, 2, none⟩ (.int .i64 i.2.2.1)).setCell ⟨p, 3, none⟩ (.int .i64 i.2.2.2.1)).setCell ⟨p, 4, none⟩ (.int .i64 i.2.2.2.2)) := (((((Below.refl p w).setCell (show p ≤ (⟨p, 0, none⟩ : Addr).block from Nat.le_refl p) (.int .i64 i.1)).setCell (show p ≤ (⟨p, 1, none⟩ : Addr).block from Nat.le_refl p) (.int .i64 i.2.1)).setCell (show p ≤ (⟨p, 2, none⟩ : Addr).block from Nat.le_refl p) (.int .i64 i.2.2.1)).setCell (show p ≤ (⟨p, 3, none⟩ : Addr).block from Nat.le_refl p) (.int .i64 i.2.2.2.1)).setCell (show p ≤ (⟨p, 4, none⟩ : Addr).block from Nat.le_refl p) (.int .i64 i.2.2.2.2)
  have ho : ∀ k, k ≠ p → (((((w.setCell ⟨p, 0, none⟩ (.int .i64 i.1)).setCell ⟨p, 1, none⟩ (.int .i64 i.2.1)).setCell ⟨p, 2, none⟩ (.int .i64 i.2.2.1)).setCell ⟨p, 3, none⟩ (.int .i64 i.2.2.2.1)).setCell ⟨p, 4, none⟩ (.int .i64 i.2.2.2.2)).heap[k]? = w.heap[k]? := fun k hk => by rw [heap_other hk, heap_other hk, heap_other hk, heap_other hk, heap_other hk]
  have hs' : (((((w.setCell ⟨p, 0, none⟩ (.int .i64 i.1)).setCell ⟨p, 1, none⟩ (.int .i64 i.2.1)).setCell ⟨p, 2, none⟩ (.int .i64 i.2.2.1)).setCell ⟨p, 3, none⟩ (.int .i64 i.2.2.2.1)).setCell ⟨p, 4, none⟩ (.int .i64 i.2.2.2.2)).heap[p]? = some (.cells #[.int .i64 i.1, .int .i64 i.2.1, .int .i64 i.2.2.1, .int .i64 i.2.2.2.1, .int .i64 i.2.2.2.2] 45 (0, 0)) := heap_set (heap_set (heap_set (heap_set (heap_set hp))))
  exact hK _ hb ho hs'
end Go.Proofs.YtcnmnkgnaknpdaaGreatDoor
/-! JmB -/
namespace Go.Proofs.YtcnmnkgnaknpdaaGreatDoor
open Go.RowKit Go.Maps S01 S02 S06 S07
theorem jtext {v m n : Nat} {Y H D1 D2 : ByteArray} (hH : H.data.toList = NM.hxs v 8) (h1 : D1.data.toList = Lib.itoa (m : Int)) (h2 : D2.data.toList = Lib.itoa (n : Int))
    (hY : Y = (⟨#[46, 101, 113, 117, 32, 102, 97, 114, 32, 48, 120]⟩ : ByteArray) ++ H ++ ⟨#[10, 108, 117, 105, 32, 114, 49, 44, 32, 104, 105, 32, 102, 97, 114, 10, 97, 100, 100, 105, 32, 114, 49, 44, 32, 114, 49, 44, 32, 108, 111, 32, 102, 97, 114, 10, 104, 101, 114, 101, 58, 32, 46, 115, 112, 97, 99, 101, 32]⟩ ++ D1 ++ ⟨#[10, 106, 97, 108, 32, 114, 50, 44, 32, 116, 104, 101, 114, 101, 10, 98, 101, 113, 32, 114, 48, 44, 32, 114, 48, 44, 32, 104, 101, 114, 101, 10, 46, 115, 112, 97, 99, 101, 32]⟩ ++ D2 ++ ⟨#[10, 116, 104, 101, 114, 101, 58, 10]⟩) : Y.data.toList = AS.srcJ v m n := by
  subst hY
  simp only [NM.data_app, hH, h1, h2]
  simp [AS.srcJ, AS.jA, AS.jB, AS.jC, AS.jD, AS.jE, AS.jF, AS.jG, AS.jH, AS.gaps, AS.hexW, AS.dEqu, AS.dSpace, AS.nFar]
theorem j_size {v m n : Nat} {Y : ByteArray} (h : Y.data.toList = AS.srcJ v m n) (hm : m ≤ 16384) (hn : n ≤ 16384) : Y.size ≤ 200 := by
  have := NM.len_eq Y
  rw [h] at this
  have := AS.srcJ_len v m n hm hn
  omega
theorem getD_mid (pre mid post : List UInt8) (k : Nat) (hk : k < mid.length) : (pre ++ mid ++ post).getD (pre.length + k) 0 = mid.getD k 0 := by
  rw [List.getD_eq_getElem?_getD, List.getElem?_append_left (by simp; omega), List.getElem?_append_right (by omega), Nat.add_sub_cancel_left, ← List.getD_eq_getElem?_getD]
theorem mid_at {l pre post : List UInt8} {e n : Nat} (h : l = pre ++ AS.le e 4 ++ post) (hn : pre.length = n) {k : Nat} (hk : k < 4) : (((l.getD (n + k) 0).toNat : Nat) : Int) = (e : Int) / 256 ^ k % 256 := by
  subst h hn
  rw [getD_mid _ _ _ _ (by rw [AS.le_len]; exact hk), AS.le_at _ _ hk, AS.byt_val]
theorem mid_0 (v a b : Nat) {k : Nat} (hk : k < 4) : ((((AS.datJ v a b).getD (0 + k) 0).toNat : Nat) : Int) = (AS.ecI (AS.iHi v) : Int) / 256 ^ k % 256 :=
  mid_at (pre := []) (post := AS.le (AS.ecI (AS.iLo v)) 4 ++ List.replicate (4 * a) 0 ++ AS.le (AS.ecI (AS.iJal b)) 4 ++ AS.le (AS.ecI (AS.iBeq a)) 4 ++ List.replicate (4 * b) 0) (by simp [AS.datJ]) rfl hk
theorem mid_1 (v a b : Nat) {k : Nat} (hk : k < 4) : ((((AS.datJ v a b).getD (4 + k) 0).toNat : Nat) : Int) = (AS.ecI (AS.iLo v) : Int) / 256 ^ k % 256 :=
  mid_at (pre := AS.le (AS.ecI (AS.iHi v)) 4) (post := List.replicate (4 * a) 0 ++ AS.le (AS.ecI (AS.iJal b)) 4 ++ AS.le (AS.ecI (AS.iBeq a)) 4 ++ List.replicate (4 * b) 0) (by simp [AS.datJ]) (AS.le_len _ _) hk
theorem mid_2 (v a b : Nat) {k : Nat} (hk : k < 4) : ((((AS.datJ v a b).getD (8 + 4 * a + k) 0).toNat : Nat) : Int) = (AS.ecI (AS.iJal b) : Int) / 256 ^ k % 256 :=
  mid_at (pre := AS.le (AS.ecI (AS.iHi v)) 4 ++ AS.le (AS.ecI (AS.iLo v)) 4 ++ List.replicate (4 * a) 0) (post := AS.le (AS.ecI (AS.iBeq a)) 4 ++ List.replicate (4 * b) 0) (by simp [AS.datJ]) (by simp [AS.le_len]; omega) hk
theorem mid_3 (v a b : Nat) {k : Nat} (hk : k < 4) : ((((AS.datJ v a b).getD (8 + 4 * a + 4 + k) 0).toNat : Nat) : Int) = (AS.ecI (AS.iBeq a) : Int) / 256 ^ k % 256 :=
  mid_at (pre := AS.le (AS.ecI (AS.iHi v)) 4 ++ AS.le (AS.ecI (AS.iLo v)) 4 ++ List.replicate (4 * a) 0 ++ AS.le (AS.ecI (AS.iJal b)) 4) (post := List.replicate (4 * b) 0) (by simp [AS.datJ]) (by simp [AS.le_len]; omega) hk
/-- The four. -/
def ivJ (v a b : Nat) : Fin 4 → Value
  | 0 => ivI (AS.iHi v)
  | 1 => ivI (AS.iLo v)
  | 2 => ivI (AS.iJal b)
  | 3 => ivI (AS.iBeq a)
set_option maxRecDepth 20000 in
set_option maxHeartbeats 8000000 in
theorem jumps_walk {w : World} {a b v : Nat} (ha : a < 256) (hb : b < 256) (hv : v < 4294967296) (ht : Tw w) :
    Calls Tryz.prog 7 #[.int .u8 a, .int .u8 b, .int .u32 v] w fun e w' => e = .returned (.bool true) ∧ Below w.heap.size w w' := by
  have HAW := Lib.hid (fun (W : World) (hb : Below w.heap.size w W) => ht.wake hb)
  have HB0 := Lib.hid (Below.refl w.heap.size w)
  by_cases ha2 : (200 : Int) < a
  · have ha3 : decide ((200 : Int) < a) = true := by simpa using ha2
    clear ht
    go_enter Tryz.func7, Tryz.ntmps7
    go_wp2_with (go_at_call 8; refine (HAW.out _ HB0.out).mono ?_; rintro e w2 ⟨rfl, hb2⟩; have HB2 := Lib.hid hb2; clear hb2)
    go_ret
    exact ⟨rfl, HB2.out⟩
  · have ha3 : decide ((200 : Int) < a) = false := by simp; omega
    by_cases hb2 : (200 : Int) < b
    · have hb3 : decide ((200 : Int) < b) = true := by simpa using hb2
      clear ht
      go_enter Tryz.func7, Tryz.ntmps7
      go_wp2_with (go_at_call 8; refine (HAW.out _ HB0.out).mono ?_; rintro e w2 ⟨rfl, hb2⟩; have HB2 := Lib.hid hb2; clear hb2)
      go_ret
      exact ⟨rfl, HB2.out⟩
    · have hb3 : decide ((200 : Int) < b) = false := by simp; omega
      have HHx := Lib.hid (fun (W : World) (hb : Below w.heap.size w W) => hex_any v W (by omega) (ht.on hb).2)
      have HD1 := Lib.hid (fun (W : World) (hb : Below w.heap.size w W) => S07.dec_any (4 * (a : Int)) W (by omega) (by omega) (ht.on hb).1)
      have HD2 := Lib.hid (fun (W : World) (hb : Below w.heap.size w W) => S07.dec_any (4 * (b : Int)) W (by omega) (by omega) (ht.on hb).1)
      have HAs := Lib.hid (fun (s : ByteArray) (W : World) (hb : Below w.heap.size w W) (h : s.size ≤ 9223372036854775807) => asmAll_any s W h (ht.on hb).1 (ht.on hb).five)
      obtain ⟨H, hH, hH1, hH2⟩ := bt_of (NM.hxs v 8)
      obtain ⟨D1, hD1, hD11, hD12⟩ := bt_of (Lib.itoa (4 * (a : Int)))
      obtain ⟨D2, hD2, hD21, hD22⟩ := bt_of (Lib.itoa (4 * (b : Int)))
      rw [hH] at HHx
      rw [hD1] at HD1
      rw [hD2] at HD2
      obtain ⟨Y, hY⟩ : ∃ Y, (⟨#[46, 101, 113, 117, 32, 102, 97, 114, 32, 48, 120]⟩ : ByteArray) ++ H ++ ⟨#[10, 108, 117, 105, 32, 114, 49, 44, 32, 104, 105, 32, 102, 97, 114, 10, 97, 100, 100, 105, 32, 114, 49, 44, 32, 114, 49, 44, 32, 108, 111, 32, 102, 97, 114, 10, 104, 101, 114, 101, 58, 32, 46, 115, 112, 97, 99, 101, 32]⟩ ++ D1 ++ ⟨#[10, 106, 97, 108, 32, 114, 50, 44, 32, 116, 104, 101, 114, 101, 10, 98, 101, 113, 32, 114, 48, 44, 32, 114, 48, 44, 32, 104, 101, 114, 101, 10, 46, 115, 112, 97, 99, 101, 32]⟩ ++ D2 ++ ⟨#[10, 116, 104, 101, 114, 101, 58, 10]⟩ = Y := ⟨_, rfl⟩
      have hT := jtext (v := v) (m := 4 * a) (n := 4 * b) hH1 (by rw [hD11]; congr 1) (by rw [hD21]; congr 1) hY.symm
      have hYs := j_size hT (by omega) (by omega)
      have HA := Lib.hid (fun (W : World) (hb : Below w.heap.size w W) => HAs.out Y W hb (by omega))
      rw [hT, AS.asm_J hv (by omega) (by omega)] at HA
      have HL := Lib.hid (show (AS.datJ v a b).length = 16 + 4 * a + 4 * b from AS.datJ_len v a b)
      have HB9 := Lib.hid (show AS.datJ v a b ≠ [] from fun e => by have h := HL.out; rw [e] at h; simp only [List.length_nil] at h; omega)
      have hHs : (H.size : Int) = 8 := by rw [hH2, NM.hxs_len]; rfl
      have hD1s : (D1.size : Int) ≤ 21 := by have := AS.ito (4 * (a : Int)) (by omega); omega
      have hD2s : (D2.size : Int) ≤ 21 := by have := AS.ito (4 * (b : Int)) (by omega); omega
      clear ht hH hH1 hH2 hD1 hD11 hD12 hD2 hD21 hD22 hT hYs HAs
      go_enter Tryz.func7, Tryz.ntmps7
      go_upto_region 4 with (first
        | (go_at_call 20; refine (HHx.out _ HB0.out).mono ?_; rintro e w1 ⟨rfl, hb1⟩; have HB1 := Lib.hid (HB0.out.trans (hb1.mono HB0.out.size)); clear hb1)
        | (go_at_call 19; refine (HD1.out _ HB1.out).mono ?_; rintro e w2 ⟨rfl, hb1⟩; have HB2 := Lib.hid (HB1.out.trans (hb1.mono HB1.out.size)); clear hb1)
        | (go_at_call 19; refine (HD2.out _ HB2.out).mono ?_; rintro e w3 ⟨rfl, hb1⟩; have HB3 := Lib.hid (HB2.out.trans (hb1.mono HB2.out.size)); clear hb1))
      clear hY hHs hD1s hD2s HHx HD1 HD2
      obtain ⟨M, hM⟩ : ∃ M, 16 + 4 * a + 4 * b = M := ⟨_, rfl⟩
      have hM2 : (M : Int) = 16 + 4 * a + 4 * b := by omega
      rw [hM] at HL
      go_upto_region 5 with (go_at_call 9; refine (HA.out _ HB3.out).mono ?_; rintro e w5 ⟨sv5, nv5, rfl, hb5, hs5, hn5⟩; have HB5 := Lib.hid (HB3.out.trans (hb5.mono HB3.out.size)); obtain ⟨na5, nc5, rfl⟩ := nv_form hn5; obtain ⟨g5, o5, c5, g6, o6, c6, rfl, s1, s2, hs⟩ := one_seg hs5 HB9.out; have HS := Lib.hid hs; clear hb5 hs5 hn5 hs)
      obtain ⟨W6, hW6⟩ : ∃ W6, w5.alloc (.cells #[.int .u32 0, .slice (some ⟨g5, o5, none⟩) 1 c5] 26) = W6 := ⟨_, rfl⟩
      obtain ⟨B5, hB5⟩ : ∃ B5, w5.heap.size = B5 := ⟨_, rfl⟩
      have hO5 : W6.heap[B5]? = some (.cells #[.int .u32 0, .slice (some ⟨g5, o5, none⟩) 1 c5] 26 (0, 0)) := hB5 ▸ hW6 ▸ heap_alloc_new w5 _
      have hal5 : Below w5.heap.size w5 W6 := hW6 ▸ (Below.refl _ w5).alloc (Nat.le_refl _) _
      have HB6 := Lib.hid (HB5.out.trans (hal5.mono HB5.out.size))
      rw [HL.out] at s2
      replace s1 := cell_below hal5 s1
      replace s2 := cell_below hal5 s2
      have HS6 := Lib.hid (fun i (hi : i < M) => cell_below hal5 (HS.out i (by rw [HL.out]; exact hi)))
      rw [hW6, hB5]
      have d1 := cell_of (o := 1) hO5 rfl
      clear hW6 hB5 hO5 hal5 HS HA
      go_upto_region 8 with fail
      obtain ⟨AT, hAT⟩ : ∃ AT : Nat, 8 + 4 * a = AT := ⟨_, rfl⟩
      have hAT1 : 8 + 4 * (a : Int) = AT := by omega
      have hAT2 : (AT : Int) ≤ 808 := by omega
      have hAT3 : AT + 8 ≤ M := by omega
      rw [hAT1]
      obtain ⟨W7, hW7⟩ : ∃ W7, W6.drew = W7 := ⟨_, rfl⟩
      have HB7 := Lib.hid (show Below w.heap.size w W7 from hW7 ▸ HB6.out.drew)
      have t1 : W7.cell? ⟨B5, 1, none⟩ = some (.slice (some ⟨g5, o5, none⟩) 1 c5) := hW7 ▸ d1
      have t2 : W7.cell? ⟨g5, o5 + 1, none⟩ = some (.slice (some ⟨g6, o6, none⟩) M c6) := hW7 ▸ s2
      have HS7 := Lib.hid (show ∀ i, i < M → W7.cell? ⟨g6, o6 + i, none⟩ = some (.int .u8 ((AS.datJ v a b).getD i 0).toNat) from fun i hi => hW7 ▸ HS6.out i hi)
      have HO0 := Lib.hid (fun (W : World) (hb : Below W7.heap.size W7 W) => of_any (g := g6) (o := o6) (c := c6) (n := M) (at' := 0) (AS.rc_hi v) (by omega) (by omega) fun k hk => (cell_below hb (HS7.out (0 + k) (by omega))).trans (by rw [mid_0 v a b hk]))
      have HO1 := Lib.hid (fun (W : World) (hb : Below W7.heap.size W7 W) => of_any (g := g6) (o := o6) (c := c6) (n := M) (at' := 4) (AS.rc_lo v) (by omega) (by omega) fun k hk => (cell_below hb (HS7.out (4 + k) (by omega))).trans (by rw [mid_1 v a b hk]))
      have HO2 := Lib.hid (fun (W : World) (hb : Below W7.heap.size W7 W) => of_any (g := g6) (o := o6) (c := c6) (n := M) (at' := AT) (AS.rc_jal (b := b) (by omega)) (by omega) (by omega) fun k hk => (cell_below hb (HS7.out (AT + k) (by omega))).trans (by rw [← hAT, mid_2 v a b hk]))
      have HO3 := Lib.hid (fun (W : World) (hb : Below W7.heap.size W7 W) => of_any (g := g6) (o := o6) (c := c6) (n := M) (at' := AT + 4) (AS.rc_beq (a := a) (by omega)) (by omega) (by omega) fun k hk => (cell_below hb (HS7.out (AT + 4 + k) (by omega))).trans (by rw [← hAT, mid_3 v a b hk]))
      have HW7 := Lib.hid hW7
      have hwr : IntKind.i64.wrap ((AT : Int) + 4) = (AT : Int) + 4 := by rw [IntKind.wrap_i64]; omega
      clear hW7 HS6 HS7 HB6 HB5 HB3 HB2 HB1 HL HB9 s1 s2 d1
      refine wp_region_held (S := fun W => W.cell? ⟨B5, 1, none⟩ = some (.slice (some ⟨g5, o5, none⟩) 1 c5) ∧ W.cell? ⟨g5, o5 + 1, none⟩ = some (.slice (some ⟨g6, o6, none⟩) M c6)) (by kernel_rfl) ?_
      rw [show ({ W6 with drawn := W6.drawn + 1 } : World) = W7 from HW7.out]
      have hS7 : (fun W : World => W.cell? ⟨B5, 1, none⟩ = some (.slice (some ⟨g5, o5, none⟩) 1 c5) ∧ W.cell? ⟨g5, o5 + 1, none⟩ = some (.slice (some ⟨g6, o6, none⟩) M c6)) W7 := ⟨t1, t2⟩
      refine wpAnyH_take (i := 0) (v := ?v0) rfl (by kernel_rfl) (by kernel_rfl) (by kernel_rfl) (fun _ _ _ h => h) (Or.inl ⟨by rfl, ?y0⟩) hS7 ?r0
      case y0 => (intro W hW; obtain ⟨q1, q2⟩ := hW; go_simp; try rfl)
      simp only [Act.put, List.getElem_toArray, List.getElem_cons_zero, List.setIfInBounds_toArray, List.set_cons_zero, List.set_cons_succ]
      refine wpAnyH_take (i := 1) (v := ?v1) rfl (by kernel_rfl) (by kernel_rfl) (by kernel_rfl) (fun _ _ _ h => h) (Or.inl ⟨by rfl, ?y1⟩) hS7 ?r1
      case y1 => (intro W hW; obtain ⟨q1, q2⟩ := hW; go_simp; try rfl)
      simp only [Act.put, List.getElem_toArray, List.getElem_cons_succ, List.getElem_cons_zero, List.setIfInBounds_toArray, List.set_cons_zero, List.set_cons_succ]
      refine wpAnyH_take (i := 2) (v := ?v2) rfl (by kernel_rfl) (by kernel_rfl) (by kernel_rfl) (fun _ _ _ h => h) (Or.inl ⟨by rfl, ?y2⟩) hS7 ?r2
      case y2 => (intro W hW; obtain ⟨q1, q2⟩ := hW; go_simp; try rfl)
      simp only [Act.put, List.getElem_toArray, List.getElem_cons_succ, List.getElem_cons_zero, List.setIfInBounds_toArray, List.set_cons_zero, List.set_cons_succ]
      refine wpAnyH_take (i := 3) (v := ?v3) rfl (by kernel_rfl) (by kernel_rfl) (by kernel_rfl) (fun _ _ _ h => h) (Or.inl ⟨by rfl, ?y3⟩) hS7 ?r3
      case y3 => (intro W hW; obtain ⟨q1, q2⟩ := hW; go_simp; try rfl)
      simp only [Act.put, List.getElem_toArray, List.getElem_cons_succ, List.getElem_cons_zero, List.setIfInBounds_toArray, List.set_cons_zero, List.set_cons_succ]
      refine wpAnyH_take (i := 4) (v := ?v4) rfl (by kernel_rfl) (by kernel_rfl) (by kernel_rfl) (fun _ _ _ h => h) (Or.inl ⟨by rfl, ?y4⟩) hS7 ?r4
      case y4 => (intro W hW; obtain ⟨q1, q2⟩ := hW; go_simp; try rfl)
      simp only [Act.put, List.getElem_toArray, List.getElem_cons_succ, List.getElem_cons_zero, List.setIfInBounds_toArray, List.set_cons_zero, List.set_cons_succ]
      refine wpAnyH_take (i := 6) (v := ?v6) rfl (by kernel_rfl) (by kernel_rfl) (by kernel_rfl) (fun _ _ _ h => h) (Or.inl ⟨by rfl, ?y6⟩) hS7 ?r6
      case y6 => (intro W hW; obtain ⟨q1, q2⟩ := hW; go_simp; try rfl)
      simp only [Act.put, List.getElem_toArray, List.getElem_cons_succ, List.getElem_cons_zero, List.setIfInBounds_toArray, List.set_cons_zero, List.set_cons_succ]
      refine wpAnyH_take (i := 7) (v := ?v7) rfl (by kernel_rfl) (by kernel_rfl) (by kernel_rfl) (fun _ _ _ h => h) (Or.inl ⟨by rfl, ?y7⟩) hS7 ?r7
      case y7 => (intro W hW; obtain ⟨q1, q2⟩ := hW; go_simp; try rfl)
      simp only [Act.put, List.getElem_toArray, List.getElem_cons_succ, List.getElem_cons_zero, List.setIfInBounds_toArray, List.set_cons_zero, List.set_cons_succ]
      refine wpAnyH_take (i := 8) (v := ?v8) rfl (by kernel_rfl) (by kernel_rfl) (by kernel_rfl) (fun _ _ _ h => h) (Or.inl ⟨by rfl, ?y8⟩) hS7 ?r8
      case y8 => (intro W hW; obtain ⟨q1, q2⟩ := hW; go_simp; try rfl)
      simp only [Act.put, List.getElem_toArray, List.getElem_cons_succ, List.getElem_cons_zero, List.setIfInBounds_toArray, List.set_cons_zero, List.set_cons_succ]
      refine wpAnyH_take (i := 9) (v := ?v9) rfl (by kernel_rfl) (by kernel_rfl) (by kernel_rfl) (fun _ _ _ h => h) (Or.inl ⟨by rfl, ?y9⟩) hS7 ?r9
      case y9 => (intro W hW; obtain ⟨q1, q2⟩ := hW; go_simp; try rfl)
      simp only [Act.put, List.getElem_toArray, List.getElem_cons_succ, List.getElem_cons_zero, List.setIfInBounds_toArray, List.set_cons_zero, List.set_cons_succ]
      refine wpAnyH_take (i := 10) (v := ?v10) rfl (by kernel_rfl) (by kernel_rfl) (by kernel_rfl) (fun _ _ _ h => h) (Or.inl ⟨by rfl, ?y10⟩) hS7 ?r10
      case y10 => (intro W hW; obtain ⟨q1, q2⟩ := hW; go_simp; try rfl)
      simp only [Act.put, List.getElem_toArray, List.getElem_cons_succ, List.getElem_cons_zero, List.setIfInBounds_toArray, List.set_cons_zero, List.set_cons_succ]
      refine wpAnyH_take (i := 12) (v := ?v12) rfl (by kernel_rfl) (by kernel_rfl) (by kernel_rfl) (fun _ _ _ h => h) (Or.inl ⟨by rfl, ?y12⟩) hS7 ?r12
      case y12 => (intro W hW; obtain ⟨q1, q2⟩ := hW; go_simp; try rfl)
      simp only [Act.put, List.getElem_toArray, List.getElem_cons_succ, List.getElem_cons_zero, List.setIfInBounds_toArray, List.set_cons_zero, List.set_cons_succ]
      refine wpAnyH_take (i := 13) (v := ?v13) rfl (by kernel_rfl) (by kernel_rfl) (by kernel_rfl) (fun _ _ _ h => h) (Or.inl ⟨by rfl, ?y13⟩) hS7 ?r13
      case y13 => (intro W hW; obtain ⟨q1, q2⟩ := hW; go_simp; try rfl)
      simp only [Act.put, List.getElem_toArray, List.getElem_cons_succ, List.getElem_cons_zero, List.setIfInBounds_toArray, List.set_cons_zero, List.set_cons_succ]
      refine wpAnyH_take (i := 14) (v := ?v14) rfl (by kernel_rfl) (by kernel_rfl) (by kernel_rfl) (fun _ _ _ h => h) (Or.inl ⟨by rfl, ?y14⟩) hS7 ?r14
      case y14 => (intro W hW; obtain ⟨q1, q2⟩ := hW; go_simp; try rfl)
      simp only [Act.put, List.getElem_toArray, List.getElem_cons_succ, List.getElem_cons_zero, List.setIfInBounds_toArray, List.set_cons_zero, List.set_cons_succ]
      refine wpAnyH_take (i := 15) (v := ?v15) rfl (by kernel_rfl) (by kernel_rfl) (by kernel_rfl) (fun _ _ _ h => h) (Or.inl ⟨by rfl, ?y15⟩) hS7 ?r15
      case y15 => (intro W hW; obtain ⟨q1, q2⟩ := hW; go_simp; try rfl)
      simp only [Act.put, List.getElem_toArray, List.getElem_cons_succ, List.getElem_cons_zero, List.setIfInBounds_toArray, List.set_cons_zero, List.set_cons_succ]
      refine wpAnyH_take (i := 16) (v := ?v16) rfl (by kernel_rfl) (by kernel_rfl) (by kernel_rfl) (fun _ _ _ h => h) (Or.inl ⟨by rfl, ?y16⟩) hS7 ?r16
      case y16 => (intro W hW; obtain ⟨q1, q2⟩ := hW; go_simp; try rfl)
      simp only [Act.put, List.getElem_toArray, List.getElem_cons_succ, List.getElem_cons_zero, List.setIfInBounds_toArray, List.set_cons_zero, List.set_cons_succ]
      refine wpAnyH_take (i := 17) (v := ?v17) rfl (by kernel_rfl) (by kernel_rfl) (by kernel_rfl) (fun _ _ _ h => h) (Or.inl ⟨by rfl, ?y17⟩) hS7 ?r17
      case y17 => (intro W hW; obtain ⟨q1, q2⟩ := hW; go_simp; try rfl)
      simp only [Act.put, List.getElem_toArray, List.getElem_cons_succ, List.getElem_cons_zero, List.setIfInBounds_toArray, List.set_cons_zero, List.set_cons_succ]
      refine wpAnyH_take (i := 19) (v := ?v19) rfl (by kernel_rfl) (by kernel_rfl) (by kernel_rfl) (fun _ _ _ h => h) (Or.inl ⟨by rfl, ?y19⟩) hS7 ?r19
      case y19 => (intro W hW; obtain ⟨q1, q2⟩ := hW; go_simp; try rfl)
      simp only [Act.put, List.getElem_toArray, List.getElem_cons_succ, List.getElem_cons_zero, List.setIfInBounds_toArray, List.set_cons_zero, List.set_cons_succ]
      refine wpAnyH_take (i := 20) (v := ?v20) rfl (by kernel_rfl) (by kernel_rfl) (by kernel_rfl) (fun _ _ _ h => h) (Or.inl ⟨by rfl, ?y20⟩) hS7 ?r20
      case y20 => (intro W hW; obtain ⟨q1, q2⟩ := hW; go_simp; try rfl)
      simp only [Act.put, List.getElem_toArray, List.getElem_cons_succ, List.getElem_cons_zero, List.setIfInBounds_toArray, List.set_cons_zero, List.set_cons_succ]
      refine wpAnyH_take (i := 21) (v := ?v21) rfl (by kernel_rfl) (by kernel_rfl) (by kernel_rfl) (fun _ _ _ h => h) (Or.inl ⟨by rfl, ?y21⟩) hS7 ?r21
      case y21 => (intro W hW; obtain ⟨q1, q2⟩ := hW; go_simp; try rfl)
      simp only [Act.put, List.getElem_toArray, List.getElem_cons_succ, List.getElem_cons_zero, List.setIfInBounds_toArray, List.set_cons_zero, List.set_cons_succ]
      refine wpAnyH_take (i := 22) (v := ?v22) rfl (by kernel_rfl) (by kernel_rfl) (by kernel_rfl) (fun _ _ _ h => h) (Or.inl ⟨by rfl, ?y22⟩) hS7 ?r22
      case y22 => (intro W hW; obtain ⟨q1, q2⟩ := hW; go_simp; try rfl)
      simp only [Act.put, List.getElem_toArray, List.getElem_cons_succ, List.getElem_cons_zero, List.setIfInBounds_toArray, List.set_cons_zero, List.set_cons_succ]
      refine wpAnyH_take (i := 23) (v := ?v23) rfl (by kernel_rfl) (by kernel_rfl) (by kernel_rfl) (fun _ _ _ h => h) (Or.inl ⟨by rfl, ?y23⟩) hS7 ?r23
      case y23 => (intro W hW; obtain ⟨q1, q2⟩ := hW; go_simp; try rfl)
      simp only [Act.put, List.getElem_toArray, List.getElem_cons_succ, List.getElem_cons_zero, List.setIfInBounds_toArray, List.set_cons_zero, List.set_cons_succ]
      refine wpAnyH_take (i := 24) (v := ?v24) rfl (by kernel_rfl) (by kernel_rfl) (by kernel_rfl) (fun _ _ _ h => h) (Or.inl ⟨by rfl, ?y24⟩) hS7 ?r24
      case y24 => (intro W hW; obtain ⟨q1, q2⟩ := hW; go_simp; try rfl)
      simp only [Act.put, List.getElem_toArray, List.getElem_cons_succ, List.getElem_cons_zero, List.setIfInBounds_toArray, List.set_cons_zero, List.set_cons_succ]
      refine wpAnyH_take (i := 25) (v := ?v25) rfl (by kernel_rfl) (by kernel_rfl) (by kernel_rfl) (fun _ _ _ h => h) (Or.inl ⟨by rfl, ?y25⟩) hS7 ?r25
      case y25 => (intro W hW; obtain ⟨q1, q2⟩ := hW; go_simp; try rfl)
      simp only [Act.put, List.getElem_toArray, List.getElem_cons_succ, List.getElem_cons_zero, List.setIfInBounds_toArray, List.set_cons_zero, List.set_cons_succ]
      have hSx : ∀ W, Below W7.heap.size W7 W → (fun W : World => W.cell? ⟨B5, 1, none⟩ = some (.slice (some ⟨g5, o5, none⟩) 1 c5) ∧ W.cell? ⟨g5, o5 + 1, none⟩ = some (.slice (some ⟨g6, o6, none⟩) M c6)) W := fun W hb => ⟨cell_below hb t1, cell_below hb t2⟩
      refine jreg1 (by kernel_rfl) (by kernel_rfl) (ivJ v a b) hSx ?hc ?ha ?hr ?hend
      case hc =>
        intro j
        match j with
        | 0 => exact ⟨_, (rfl : _[5]? = some _), rfl, rfl, fun x W hb K hK => call_wp (v1 := .slice (some ⟨g6, o6, none⟩) M c6) (v2 := .int .i64 ((0 : Nat) : Int)) (.tmp 85) (.const (.int .i64 0)) rfl (by rw [cn_off _ _ (by decide)]; kernel_rfl) rfl (HO0.out W hb) hK⟩
        | 1 => exact ⟨_, (rfl : _[11]? = some _), rfl, rfl, fun x W hb K hK => call_wp (v1 := .slice (some ⟨g6, o6, none⟩) M c6) (v2 := .int .i64 ((4 : Nat) : Int)) (.tmp 91) (.const (.int .i64 4)) rfl (by rw [cn_off _ _ (by decide)]; kernel_rfl) rfl (HO1.out W hb) hK⟩
        | 2 => exact ⟨_, (rfl : _[18]? = some _), rfl, rfl, fun x W hb K hK => call_wp (v1 := .slice (some ⟨g6, o6, none⟩) M c6) (v2 := .int .i64 ((AT : Nat) : Int)) (.tmp 97) (.tmp 98) rfl (by rw [cn_off _ _ (by decide)]; kernel_rfl) (by rw [cn_off _ _ (by decide)]; kernel_rfl) (HO2.out W hb) hK⟩
        | 3 => exact ⟨_, (rfl : _[26]? = some _), rfl, rfl, fun x W hb K hK => call_wp (v1 := .slice (some ⟨g6, o6, none⟩) M c6) (v2 := .int .i64 (((AT + 4) : Nat) : Int)) (.tmp 104) (.tmp 106) rfl (by rw [cn_off _ _ (by decide)]; kernel_rfl) (by rw [cn_off _ _ (by decide)]; kernel_rfl) (HO3.out W hb) hK⟩
      case ha =>
        intro k
        match k with
        | 0 => exact ⟨_, rfl, rfl, rfl, fun A W K hK => alloc_wp rfl hK⟩
        | 1 => exact ⟨_, rfl, rfl, rfl, fun A W K hK => alloc_wp rfl hK⟩
        | 2 => exact ⟨_, rfl, rfl, rfl, fun A W K hK => alloc_wp rfl hK⟩
        | 3 => exact ⟨_, rfl, rfl, rfl, fun A W K hK => alloc_wp rfl hK⟩
      case hr =>
        intro q b0 b1 b2 b3
        have hq : q = 0 ∨ q = 1 ∨ q = 2 ∨ q = 3 ∨ q = 4 := by revert q; decide
        rcases hq with rfl | rfl | rfl | rfl | rfl <;> cases b0 <;> cases b1 <;> cases b2 <;> cases b3 <;> decide +kernel
      case hend =>
        intro x p W8 hJ
        have x0 : x 0 = ivI (AS.iHi v) := hJ.cal 0 (by decide)
        have x1 : x 1 = ivI (AS.iLo v) := hJ.cal 1 (by decide)
        have x2 : x 2 = ivI (AS.iJal b) := hJ.cal 2 (by decide)
        have x3 : x 3 = ivI (AS.iBeq a) := hJ.cal 3 (by decide)
        obtain ⟨x4, l0, h0⟩ := hJ.new 0 rfl
        obtain ⟨x5, l1, h1⟩ := hJ.new 1 rfl
        obtain ⟨x6, l2, h2⟩ := hJ.new 2 rfl
        obtain ⟨x7, l3, h3⟩ := hJ.new 3 rfl
        have n01 : p 1 ≠ p 0 := hJ.dis 1 0 rfl rfl (by decide)
        have n02 : p 2 ≠ p 0 := hJ.dis 2 0 rfl rfl (by decide)
        have n03 : p 3 ≠ p 0 := hJ.dis 3 0 rfl rfl (by decide)
        have n12 : p 2 ≠ p 1 := hJ.dis 2 1 rfl rfl (by decide)
        have n13 : p 3 ≠ p 1 := hJ.dis 3 1 rfl rfl (by decide)
        have n23 : p 3 ≠ p 2 := hJ.dis 3 2 rfl rfl (by decide)
        have hB8 := hJ.old
        change x 4 = _ at x4
        change x 5 = _ at x5
        change x 6 = _ at x6
        change x 7 = _ at x7
        rw [cn_puts, x0, x1, x2, x3, x4, x5, x6, x7]
        clear x0 x1 x2 x3 x4 x5 x6 x7 hJ
        generalize p 0 = p0 at *
        generalize p 1 = p1 at *
        generalize p 2 = p2 at *
        generalize p 3 = p3 at *
        simp only [Act.put, List.setIfInBounds_toArray, List.set_cons_zero, List.set_cons_succ]
        refine wpAnyH_all (rs := [31]) (by kernel_rfl) (by decide) (fun i hi => ?_)
        obtain rfl : i = 31 := by simpa using hi
        refine wpOp_step rfl (fun K' hK => ?_)
        rw [if_pos (by rfl)]
        refine store_wp (.tmp 13) (.tmp 86) rfl rfl (p := p0) (i := AS.iHi v) (by kernel_rfl) (by kernel_rfl) h0 (fun W9 hb0 ho0 g0 => hK _ _ ⟨hSx _ (hB8.trans (hb0.mono l0)), ?_⟩)
        clear hi hK K'
        have hB9 := hB8.trans (hb0.mono l0)
        replace h1 := (ho0 _ n01).trans h1
        replace h2 := (ho0 _ n02).trans h2
        replace h3 := (ho0 _ n03).trans h3
        refine wpAnyH_all (rs := [32]) (by kernel_rfl) (by decide) (fun i hi => ?_)
        obtain rfl : i = 32 := by simpa using hi
        refine wpOp_step rfl (fun K' hK => ?_)
        rw [if_pos (by rfl)]
        refine store_wp (.tmp 14) (.tmp 92) rfl rfl (p := p1) (i := AS.iLo v) (by kernel_rfl) (by kernel_rfl) h1 (fun W10 hb1 ho1 g1 => hK _ _ ⟨hSx _ (hB9.trans (hb1.mono l1)), ?_⟩)
        clear hi hK K'
        have hB10 := hB9.trans (hb1.mono l1)
        replace h2 := (ho1 _ n12).trans h2
        replace h3 := (ho1 _ n13).trans h3
        replace g0 := (ho1 _ (Ne.symm n01)).trans g0
        refine wpAnyH_all (rs := [33]) (by kernel_rfl) (by decide) (fun i hi => ?_)
        obtain rfl : i = 33 := by simpa using hi
        refine wpOp_step rfl (fun K' hK => ?_)
        rw [if_pos (by rfl)]
        refine store_wp (.tmp 15) (.tmp 99) rfl rfl (p := p2) (i := AS.iJal b) (by kernel_rfl) (by kernel_rfl) h2 (fun W11 hb2 ho2 g2 => hK _ _ ⟨hSx _ (hB10.trans (hb2.mono l2)), ?_⟩)
        clear hi hK K'
        have hB11 := hB10.trans (hb2.mono l2)
        replace h3 := (ho2 _ n23).trans h3
        replace g0 := (ho2 _ (Ne.symm n02)).trans g0
        replace g1 := (ho2 _ (Ne.symm n12)).trans g1
        refine wpAnyH_all (rs := [34]) (by kernel_rfl) (by decide) (fun i hi => ?_)
        obtain rfl : i = 34 := by simpa using hi
        refine wpOp_step rfl (fun K' hK => ?_)
        rw [if_pos (by rfl)]
        refine store_wp (.tmp 16) (.tmp 107) rfl rfl (p := p3) (i := AS.iBeq a) (by kernel_rfl) (by kernel_rfl) h3 (fun W12 hb3 ho3 g3 => hK _ _ ⟨hSx _ (hB11.trans (hb3.mono l3)), ?_⟩)
        clear hi hK K'
        have hB12 := hB11.trans (hb3.mono l3)
        replace g0 := (ho3 _ (Ne.symm n03)).trans g0
        replace g1 := (ho3 _ (Ne.symm n13)).trans g1
        replace g2 := (ho3 _ (Ne.symm n23)).trans g2
        refine wpAnyH_done (by kernel_rfl) ?_ _
        have a00 : W12.cell? ⟨p0, 0, none⟩ = some (.int .i64 33) := cell_of (o := 0) g0 rfl
        have a04 : W12.cell? ⟨p0, 4, none⟩ = some (.int .i64 (AS.hiV v)) := cell_of (o := 4) g0 rfl
        have b00 : W12.cell? ⟨p1, 0, none⟩ = some (.int .i64 25) := cell_of (o := 0) g1 rfl
        have b04 : W12.cell? ⟨p1, 4, none⟩ = some (.int .i64 (AS.loV v)) := cell_of (o := 4) g1 rfl
        have c00 : W12.cell? ⟨p2, 0, none⟩ = some (.int .i64 49) := cell_of (o := 0) g2 rfl
        have c04 : W12.cell? ⟨p2, 4, none⟩ = some (.int .i64 (2 + (b : Int))) := cell_of (o := 4) g2 rfl
        have d00 : W12.cell? ⟨p3, 0, none⟩ = some (.int .i64 43) := cell_of (o := 0) g3 rfl
        have d04 : W12.cell? ⟨p3, 4, none⟩ = some (.int .i64 (-1 - (a : Int))) := cell_of (o := 4) g3 rfl
        have e1 := cell_below hB12 t1
        have e2 := cell_below hB12 t2
        have HB12 := Lib.hid (HB7.out.trans (hB12.mono HB7.out.size))
        have hhi := AS.hiV_bd v
        have hlo := AS.loV_bd v
        have hEq : (AS.hiV v * 16384 + AS.loV v = v ∧ 0 ≤ AS.loV v) ∨ (AS.hiV v * 16384 + AS.loV v = v ∧ AS.loV v < 0) ∨ (AS.hiV v = 0 ∧ AS.loV v = v - 4294967296) := by
          unfold AS.hiV AS.loV
          omega
        clear h0 h1 h2 h3 g0 g1 g2 g3 hb0 hb1 hb2 hb3 ho0 ho1 ho2 ho3 l0 l1 l2 l3 n01 n02 n03 n12 n13 n23 hB8 hB9 hB10 hB11 hB12 t1 t2 hSx hS7 HO0 HO1 HO2 HO3 HW7 HB7
        generalize AS.hiV v = hi at *
        generalize AS.loV v = lo at *
        obtain ⟨J, hJ⟩ : ∃ J : Int, 2 + (b : Int) = J := ⟨_, rfl⟩
        obtain ⟨I, hI⟩ : ∃ I : Int, -1 - (a : Int) = I := ⟨_, rfl⟩
        rw [hJ] at c04
        rw [hI] at d04
        have hJ1 : (AT : Int) + 4 * J = M := by omega
        have hJ2 : 0 ≤ J ∧ J ≤ 300 := by omega
        have hI1 : (AT : Int) + 4 + 4 * I = 8 := by omega
        have hI2 : -300 ≤ I ∧ I ≤ 0 := by omega
        have hJb : ((AT : Int) + 4 * J == M) = true := by simpa using hJ1
        have hIb : ((AT : Int) + 4 + 4 * I == 8) = true := by simpa using hI1
        have w1 : IntKind.i64.wrap (4 * J) = 4 * J := by rw [IntKind.wrap_i64]; omega
        have w2 : IntKind.i64.wrap ((AT : Int) + 4 * J) = (AT : Int) + 4 * J := by rw [IntKind.wrap_i64]; omega
        have w3 : IntKind.i64.wrap (4 * I) = 4 * I := by rw [IntKind.wrap_i64]; omega
        have w4 : IntKind.i64.wrap ((AT : Int) + 4 + 4 * I) = (AT : Int) + 4 + 4 * I := by rw [IntKind.wrap_i64]; omega
        have HI := Lib.hid hI
        have HJ := Lib.hid hJ
        clear hI hJ hJ1 hI1 hM2 hAT1 hAT hM
        have HBd := Lib.hid HB12.out.drew
        rcases hEq with ⟨hq1, hq2⟩ | ⟨hq1, hq2⟩ | ⟨rfl, rfl⟩
        · skip
          go_upto_region 11 with fail
          go_still_tail 32, (by kernel_rfl)
          change wpList _ _ _ _ _ W12.drew
          have HBe := Lib.hid (show Below w.heap.size w W12.drew from HBd.out)
          generalize W12.drew = W13 at *
          go_wp2_with (go_at_call 8; refine (HAW.out _ HBe.out).mono ?_; rintro e w5 ⟨rfl, hb5⟩; have HB5 := Lib.hid (HBe.out.trans (hb5.mono HBe.out.size)); clear hb5)
          go_ret
          exact ⟨rfl, HB5.out⟩
        · have hx : (hi * 16384 + IntKind.u64.wrap lo) % 4294967296 = v := by rw [IntKind.wrap_u64]; omega
          go_upto_region 11 with fail
          go_still_tail 32, (by kernel_rfl)
          change wpList _ _ _ _ _ W12.drew
          have HBe := Lib.hid (show Below w.heap.size w W12.drew from HBd.out)
          generalize W12.drew = W13 at *
          go_wp2_with (go_at_call 8; refine (HAW.out _ HBe.out).mono ?_; rintro e w5 ⟨rfl, hb5⟩; have HB5 := Lib.hid (HBe.out.trans (hb5.mono HBe.out.size)); clear hb5)
          go_ret
          exact ⟨rfl, HB5.out⟩
        · have hx : IntKind.u64.wrap ((v : Int) - 4294967296) % 4294967296 = v := by rw [IntKind.wrap_u64]; omega
          go_upto_region 11 with fail
          go_still_tail 32, (by kernel_rfl)
          change wpList _ _ _ _ _ W12.drew
          have HBe := Lib.hid (show Below w.heap.size w W12.drew from HBd.out)
          generalize W12.drew = W13 at *
          go_wp2_with (go_at_call 8; refine (HAW.out _ HBe.out).mono ?_; rintro e w5 ⟨rfl, hb5⟩; have HB5 := Lib.hid (HBe.out.trans (hb5.mono HBe.out.size)); clear hb5)
          go_ret
          exact ⟨rfl, HB5.out⟩
theorem jumps_law (a b v : Int) (w : World) (a0 : 0 ≤ a) (a1 : a < 256) (b0 : 0 ≤ b) (b1 : b < 256) (v0 : 0 ≤ v) (v1 : v < 4294967296) (ht : Tw w) : Calls Tryz.prog 7 #[.int .u8 a, .int .u8 b, .int .u32 v] w fun e w' => e = .returned (.bool true) ∧ Below w.heap.size w w' := by
  obtain ⟨x, rfl⟩ : ∃ x : Nat, a = x := ⟨a.toNat, by omega⟩
  obtain ⟨y, rfl⟩ : ∃ y : Nat, b = y := ⟨b.toNat, by omega⟩
  obtain ⟨z, rfl⟩ : ∃ z : Nat, v = z := ⟨v.toNat, by omega⟩
  exact jumps_walk (by omega) (by omega) (by omega) ht
end Go.Proofs.YtcnmnkgnaknpdaaGreatDoor
