/-
  Plain facts: what an operation makes of two words (dv), whether it is one of the package (dk), whether a branch goes (tk); nothing of the program.
-/
import Derived.Test.YtjlgaihihgifbaaMathB
namespace Go.Proofs.Ytjlgaihihgifbaa
namespace AM
open Go.RowKit S01

def dv (op a b : Int) : Int :=
  if op = 1 ∨ op = 25 then (a + b) % 4294967296 else
  if op = 2 then (a - b) % 4294967296 else
  if op = 3 ∨ op = 26 then an a b else
  if op = 4 ∨ op = 27 then ow a b else
  if op = 5 ∨ op = 28 then xo a b else
  if op = 6 ∨ op = 30 then mv a (-(b % 32)) false else
  if op = 7 ∨ op = 31 then mv a (b % 32) false else
  if op = 8 ∨ op = 32 then mv a (b % 32) (a.toNat.testBit 31) else
  if op = 9 ∨ op = 29 then ((decide (sv a < sv b)).toNat : Int) else
  if op = 10 then ((decide (a < b)).toNat : Int) else
  if op = 18 then (if sv b < sv a then b else a) else
  if op = 19 then (if sv a < sv b then b else a) else
  if op = 20 then BM.rt a (b % 32) else
  if op = 33 then b * 16384 % 4294967296 else
  if op = 21 then cz a else
  if op = 22 then pc a else
  if op = 23 then rv a else 0
def dk (op : Int) : Bool := [1, 2, 3, 4, 5, 6, 7, 8, 9, 10, 18, 19, 20, 21, 22, 23, 25, 26, 27, 28, 29, 30, 31, 32, 33].any fun n => op == n
def tk (op a b : Int) : Bool :=
  if op = 43 then a == b else
  if op = 44 then !(a == b) else
  if op = 45 then decide (sv a < sv b) else
  if op = 46 then !decide (sv a < sv b) else
  if op = 47 then decide (a < b) else
  if op = 48 then !decide (a < b) else false
theorem dk_true (op : Int) (h : dk op = true) : op = 1 ∨ op = 2 ∨ op = 3 ∨ op = 4 ∨ op = 5 ∨ op = 6 ∨ op = 7 ∨ op = 8 ∨ op = 9 ∨ op = 10 ∨ op = 18 ∨ op = 19 ∨ op = 20 ∨ op = 21 ∨ op = 22 ∨ op = 23 ∨ op = 25 ∨ op = 26 ∨ op = 27 ∨ op = 28 ∨ op = 29 ∨ op = 30 ∨ op = 31 ∨ op = 32 ∨ op = 33 := by
  obtain ⟨n, hn, he⟩ := List.any_eq_true.1 h
  have e : op = n := by simpa using he
  subst e
  simpa using hn
theorem dk_false (op : Int) (h : dk op = false) (n : Int) (hn : n ∈ [1, 2, 3, 4, 5, 6, 7, 8, 9, 10, 18, 19, 20, 21, 22, 23, 25, 26, 27, 28, 29, 30, 31, 32, 33].map fun (k : Int) => k) : (op == n) = false := by
  have := List.any_eq_false.1 h n (by simpa using hn)
  simpa using this
theorem dv_none (op a b : Int) (h : dk op = false) : dv op a b = 0 := by
  have g (n : Int) (hn : n ∈ [1, 2, 3, 4, 5, 6, 7, 8, 9, 10, 18, 19, 20, 21, 22, 23, 25, 26, 27, 28, 29, 30, 31, 32, 33].map fun (k : Int) => k) : ¬ op = n := by simpa using dk_false op h n hn
  unfold dv
  rw [if_neg (not_or.2 ⟨g 1 (by decide), g 25 (by decide)⟩), if_neg (g 2 (by decide)), if_neg (not_or.2 ⟨g 3 (by decide), g 26 (by decide)⟩), if_neg (not_or.2 ⟨g 4 (by decide), g 27 (by decide)⟩), if_neg (not_or.2 ⟨g 5 (by decide), g 28 (by decide)⟩), if_neg (not_or.2 ⟨g 6 (by decide), g 30 (by decide)⟩), if_neg (not_or.2 ⟨g 7 (by decide), g 31 (by decide)⟩), if_neg (not_or.2 ⟨g 8 (by decide), g 32 (by decide)⟩), if_neg (not_or.2 ⟨g 9 (by decide), g 29 (by decide)⟩), if_neg (g 10 (by decide)), if_neg (g 18 (by decide)), if_neg (g 19 (by decide)), if_neg (g 20 (by decide)), if_neg (g 33 (by decide)), if_neg (g 21 (by decide)), if_neg (g 22 (by decide)), if_neg (g 23 (by decide))]
theorem dv_bd (op a b : Int) (a0 : 0 ≤ a) (a1 : a < 4294967296) (b0 : 0 ≤ b) (b1 : b < 4294967296) : 0 ≤ dv op a b ∧ dv op a b < 4294967296 := by
  have t (c : Bool) : 0 ≤ (c.toNat : Int) ∧ (c.toNat : Int) < 4294967296 := by cases c <;> decide
  have h1 := an_bd a b
  have h2 := ow_bd a b
  have h3 := xo_bd a b
  have h4 := mv_bd a (-(b % 32)) false
  have h5 := mv_bd a (b % 32) false
  have h6 := mv_bd a (b % 32) (a.toNat.testBit 31)
  have h7 := t (decide (sv a < sv b))
  have h8 := t (decide (a < b))
  have h9 := BM.rt_bd a (b % 32)
  have h10 := cz_bd a a1
  have h11 := pc_bd a
  have h12 := rv_bd a a0 a1
  unfold dv
  repeat' split
  all_goals first | assumption | omega
end AM
end Go.Proofs.Ytjlgaihihgifbaa
