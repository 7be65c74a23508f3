/-
  What Right, Check and LineOf answer, and the reference's; neither changes memory. For every slice of bytes.
-/
import Derived.Test.YtbeenmglgdhbjaaS10Base
namespace Go.Proofs.Ytbeenmglgdhbjaa.S10
open Go.RowKit Go.Maps S01
theorem rg_no {n : Nat} (h : ¬ (64 ≤ n ∧ n ≤ 16384 ∧ n % 64 = 0)) : MM.rg n = false := by
  cases e : MM.rg n with
  | false => rfl
  | true => exact absurd (by simpa [MM.rg] using e) h
theorem ck_no {n : Nat} {x s : Int} (h : ¬ ((s = 1 ∨ s = 2 ∨ s = 4) ∧ x + s ≤ n)) : MM.ck n x s = 9 := if_neg h
theorem ck_yes {n : Nat} {x s : Int} (h : (s = 1 ∨ s = 2 ∨ s = 4) ∧ x + s ≤ n) : MM.ck n x s = 0 := if_pos h
theorem check_any (a : Option Addr) (n c : Nat) (x s : Int) (w : World) (hn : n ≤ maxLen) (h0 : 0 ≤ x) (hx : x < 4294967296) :
    Calls Try.prog 48 #[.slice a n c, .int .u32 x, .int .i64 s] w fun e w' => e = .returned (.int .i64 (MM.ck n x s)) ∧ w = w' := by
  have hm : n ≤ 9223372036854775807 := hn
  clear hn
  by_cases h1 : s = 1
  · subst h1
    by_cases hf : x + 1 ≤ n
    · have HR := Lib.hid (ck_yes (n := n) (x := x) (s := 1) (by omega))
      go_enter Try.func48, Try.ntmps48
      go_wp2
      go_ret
      exact ⟨ret_int HR.out.symm, rfl⟩
    · have HR := Lib.hid (ck_no (n := n) (x := x) (s := 1) (by omega))
      go_enter Try.func48, Try.ntmps48
      go_wp2
      go_ret
      exact ⟨ret_int HR.out.symm, rfl⟩
  · by_cases h2 : s = 2
    · subst h2
      by_cases hf : x + 2 ≤ n
      · have HR := Lib.hid (ck_yes (n := n) (x := x) (s := 2) (by omega))
        go_enter Try.func48, Try.ntmps48
        go_wp2
        go_ret
        exact ⟨ret_int HR.out.symm, rfl⟩
      · have HR := Lib.hid (ck_no (n := n) (x := x) (s := 2) (by omega))
        go_enter Try.func48, Try.ntmps48
        go_wp2
        go_ret
        exact ⟨ret_int HR.out.symm, rfl⟩
    · by_cases h4 : s = 4
      · subst h4
        by_cases hf : x + 4 ≤ n
        · have HR := Lib.hid (ck_yes (n := n) (x := x) (s := 4) (by omega))
          go_enter Try.func48, Try.ntmps48
          go_wp2
          go_ret
          exact ⟨ret_int HR.out.symm, rfl⟩
        · have HR := Lib.hid (ck_no (n := n) (x := x) (s := 4) (by omega))
          go_enter Try.func48, Try.ntmps48
          go_wp2
          go_ret
          exact ⟨ret_int HR.out.symm, rfl⟩
      · have HR := Lib.hid (ck_no (n := n) (x := x) (s := s) (by omega))
        have e1 : (s == 1) = false := by simpa using h1
        have e2 : (s == 2) = false := by simpa using h2
        have e4 : (s == 4) = false := by simpa using h4
        go_enter Try.func48, Try.ntmps48
        go_wp2
        go_ret
        exact ⟨ret_int HR.out.symm, rfl⟩
theorem rcheck_any (a : Option Addr) (n c : Nat) (x s : Int) (w : World) (hn : n ≤ maxLen) (h0 : 0 ≤ x) (hx : x < 4294967296) :
    Calls Try.prog 43 #[.slice a n c, .int .u32 x, .int .i64 s] w fun e w' => e = .returned (.int .i64 (MM.ck n x s)) ∧ w = w' := by
  have hm : n ≤ 9223372036854775807 := hn
  clear hn
  by_cases h1 : s = 1
  · subst h1
    by_cases hf : x + 1 ≤ n
    · have HR := Lib.hid (ck_yes (n := n) (x := x) (s := 1) (by omega))
      go_enter Try.func43, Try.ntmps43
      go_wp2
      go_ret
      exact ⟨ret_int HR.out.symm, rfl⟩
    · have HR := Lib.hid (ck_no (n := n) (x := x) (s := 1) (by omega))
      go_enter Try.func43, Try.ntmps43
      go_wp2
      go_ret
      exact ⟨ret_int HR.out.symm, rfl⟩
  · by_cases h2 : s = 2
    · subst h2
      by_cases hf : x + 2 ≤ n
      · have HR := Lib.hid (ck_yes (n := n) (x := x) (s := 2) (by omega))
        go_enter Try.func43, Try.ntmps43
        go_wp2
        go_ret
        exact ⟨ret_int HR.out.symm, rfl⟩
      · have HR := Lib.hid (ck_no (n := n) (x := x) (s := 2) (by omega))
        go_enter Try.func43, Try.ntmps43
        go_wp2
        go_ret
        exact ⟨ret_int HR.out.symm, rfl⟩
    · by_cases h4 : s = 4
      · subst h4
        by_cases hf : x + 4 ≤ n
        · have HR := Lib.hid (ck_yes (n := n) (x := x) (s := 4) (by omega))
          go_enter Try.func43, Try.ntmps43
          go_wp2
          go_ret
          exact ⟨ret_int HR.out.symm, rfl⟩
        · have HR := Lib.hid (ck_no (n := n) (x := x) (s := 4) (by omega))
          go_enter Try.func43, Try.ntmps43
          go_wp2
          go_ret
          exact ⟨ret_int HR.out.symm, rfl⟩
      · have HR := Lib.hid (ck_no (n := n) (x := x) (s := s) (by omega))
        have e1 : (s == 1) = false := by simpa using h1
        have e2 : (s == 2) = false := by simpa using h2
        have e4 : (s == 4) = false := by simpa using h4
        go_enter Try.func43, Try.ntmps43
        go_wp2
        go_ret
        exact ⟨ret_int HR.out.symm, rfl⟩
end Go.Proofs.Ytbeenmglgdhbjaa.S10
