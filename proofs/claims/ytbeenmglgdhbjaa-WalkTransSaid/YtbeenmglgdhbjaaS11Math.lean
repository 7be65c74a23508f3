/-
  The chapter's control registers as plain functions on integers: a core is what its thirty cells hold (29 words: the counter of the program, sixteen registers, twelve control registers; and whether it is halted).
-/
import Derived.Test.YtbeenmglgdhbjaaS01MathE
namespace Go.Proofs.Ytbeenmglgdhbjaa.S11
namespace CM
def an (x y : Int) : Int := ((x.toNat &&& y.toNat : Nat) : Int)
def oq (x y : Int) : Int := ((x.toNat ||| y.toNat : Nat) : Int)
/-- A word? -/
def Wd (x : Int) : Prop := 0 ≤ x ∧ x < 4294967296
/-- The bits of control register n. -/
def mk (n : Int) : Int := if n < 0 ∨ 11 < n then 0 else if n = 0 then 63 else if n = 1 then 31 else if n = 5 then 4294967232 else if n = 9 ∨ n = 10 then 7 else 4294967295
/-- The words of a core with another at k. -/
def up (f : Nat → Int) (k : Nat) (x : Int) : Nat → Int := fun j => if j = k then x else f j
/-- Kernel mode. -/
def km (f : Nat → Int) : Bool := decide (f 17 % 2 = 1)
/-- Is there such a register? -/
def kn (n : Int) : Bool := decide (0 ≤ n ∧ n ≤ 11)
/-- The cause why a register may not be used. -/
def ks (f : Nat → Int) (n : Int) : Int := if km f = true then (if kn n = true then 0 else 2) else 8
/-- The cause why it may not be read. -/
def rk (f : Nat → Int) (n : Int) : Int := if n = 7 then 0 else ks f n
def rv (f : Nat → Int) (n : Int) : Int := if rk f n = 0 then f (17 + n.toNat) else 0
/-- The words behind a write, and whether it is halted. -/
def wf (f : Nat → Int) (n v : Int) : Nat → Int := if ks f n = 0 then up f (17 + n.toNat) (an v (mk n)) else fun _ => 0
def wh (f : Nat → Int) (h : Bool) (n : Int) : Bool := if ks f n = 0 then h else false
/-- Behind lines that rise; behind a count. -/
def rs (f : Nat → Int) (l : Int) : Nat → Int := up f 27 (oq (f 27) (l % 8))
def c1 (f : Nat → Int) : Nat → Int := up f 24 ((f 24 + 1) % 4294967296)
def due (f : Nat → Int) : Bool := decide (f 25 ≠ 0 ∧ f 25 ≤ (f 24 + 1) % 4294967296)
def ct (f : Nat → Int) : Nat → Int := if due f = true then rs (c1 f) 4 else c1 f
/-- Its words are words. -/
def Ok (f : Nat → Int) : Prop := ∀ j, j < 29 → Wd (f j)
/-- Each control register has none but its bits. -/
def bq (f : Nat → Int) : Prop := ∀ i : Nat, i < 12 → an (f (17 + i)) (mk i) = f (17 + i)

theorem an_bd (x y : Int) (_hx : Wd x) (hy : Wd y) : Wd (an x y) := by
  have : x.toNat &&& y.toNat ≤ y.toNat := Nat.and_le_right
  unfold Wd at *; unfold an; omega
theorem oq_bd (x y : Int) (hx : Wd x) (hy : Wd y) : Wd (oq x y) := by
  have := Nat.or_lt_two_pow (n := 32) (x := x.toNat) (y := y.toNat) (by unfold Wd at hx; omega) (by unfold Wd at hy; omega)
  unfold Wd oq; omega
theorem mk_bd (n : Int) : Wd (mk n) := by
  unfold Wd mk
  split <;> (try split) <;> (try split) <;> (try split) <;> (try split) <;> omega
theorem kn_true {n : Int} (h0 : 0 ≤ n) (h1 : n ≤ 11) : kn n = true := decide_eq_true ⟨h0, h1⟩
theorem kn_false {n : Int} (h : n < 0 ∨ 11 < n) : kn n = false := decide_eq_false (by omega)
theorem kn_iff {n : Int} : kn n = true ↔ 0 ≤ n ∧ n ≤ 11 := by unfold kn; simp
theorem ks_zero {f : Nat → Int} {n : Int} (h : ks f n = 0) : km f = true ∧ kn n = true := by
  unfold ks at h
  by_cases h1 : km f = true
  · rw [if_pos h1] at h
    by_cases h2 : kn n = true
    · exact ⟨h1, h2⟩
    · rw [if_neg h2] at h; omega
  · rw [if_neg h1] at h; omega
theorem ks_ok {f : Nat → Int} {n : Int} (h1 : km f = true) (h2 : kn n = true) : ks f n = 0 := by unfold ks; rw [if_pos h1, if_pos h2]
theorem up_at (f : Nat → Int) (k : Nat) (x : Int) : up f k x k = x := if_pos rfl
theorem up_off (f : Nat → Int) {k j : Nat} (x : Int) (h : j ≠ k) : up f k x j = f j := if_neg h
theorem up_ok {f : Nat → Int} (hf : Ok f) (k : Nat) {x : Int} (hx : Wd x) : Ok (up f k x) := by
  intro j hj
  by_cases h : j = k
  · rw [h, up_at]; exact hx
  · rw [up_off _ _ h]; exact hf j hj
theorem up_back (f : Nat → Int) (k : Nat) (x : Int) : up (up f k x) k (f k) = f := by
  funext j
  by_cases h : j = k
  · rw [h, up_at]
  · rw [up_off _ _ h, up_off _ _ h]
theorem up_up (f : Nat → Int) (k : Nat) (x y : Int) : up (up f k x) k y = up f k y := by
  funext j
  by_cases h : j = k
  · rw [h, up_at, up_at]
  · rw [up_off _ _ h, up_off _ _ h, up_off _ _ h]
theorem zero_ok : Ok (fun _ => 0) := fun _ _ => (by decide : (0 : Int) ≤ 0 ∧ (0 : Int) < 4294967296)
theorem wf_ok {f : Nat → Int} (hf : Ok f) (n v : Int) (hv : Wd v) : Ok (wf f n v) := by
  unfold wf
  split
  · exact up_ok hf _ (an_bd _ _ hv (mk_bd n))
  · exact zero_ok
theorem rs_ok {f : Nat → Int} (hf : Ok f) (l : Int) : Ok (rs f l) := up_ok hf _ (oq_bd _ _ (hf 27 (by decide)) (by unfold Wd; omega))
theorem c1_ok {f : Nat → Int} (hf : Ok f) : Ok (c1 f) := up_ok hf _ (by unfold Wd; omega)
theorem ct_ok {f : Nat → Int} (hf : Ok f) : Ok (ct f) := by
  unfold ct
  split
  · exact rs_ok (c1_ok hf) 4
  · exact c1_ok hf
/-! ### What is kept -/
theorem an_idem (v m : Int) (_hv : Wd v) (_hm : Wd m) : an (an v m) m = an v m := by
  unfold an
  rw [Int.toNat_natCast, Nat.and_assoc, Nat.and_self]
theorem an_self (x : Int) (hx : Wd x) : an x x = x := by
  unfold an; unfold Wd at hx
  rw [Nat.and_self]; omega
theorem an_oq (x y : Int) (hx : Wd x) : an (oq x y) x = x := by
  unfold an oq; unfold Wd at hx
  rw [Int.toNat_natCast]
  have : (x.toNat ||| y.toNat) &&& x.toNat = x.toNat := by
    apply Nat.eq_of_testBit_eq
    intro i
    rw [Nat.testBit_and, Nat.testBit_or]
    cases x.toNat.testBit i <;> simp
  rw [this]; omega
theorem an_all (x : Int) (hx : Wd x) : an x 4294967295 = x := by
  unfold an; unfold Wd at hx
  have : x.toNat &&& (4294967295 : Int).toNat = x.toNat % 2 ^ 32 := Nat.and_two_pow_sub_one_eq_mod x.toNat 32
  rw [this]; omega
theorem an_seven (x : Int) (hx : Wd x) : an x 7 = x % 8 := by
  unfold an; unfold Wd at hx
  have : x.toNat &&& (7 : Int).toNat = x.toNat % 2 ^ 3 := Nat.and_two_pow_sub_one_eq_mod x.toNat 3
  rw [this]; omega
theorem oq_seven (x y : Int) (hx : Wd x) (h : an x 7 = x) : an (oq x (y % 8)) 7 = oq x (y % 8) := by
  rw [an_seven x hx] at h
  have hy : Wd (y % 8) := by unfold Wd; omega
  rw [an_seven _ (oq_bd x _ hx hy)]
  have := Nat.or_lt_two_pow (n := 3) (x := x.toNat) (y := (y % 8).toNat) (by unfold Wd at hx; omega) (by omega)
  unfold oq; omega
theorem mk_full {i : Int} (h : i = 7 ∨ i = 8) : mk i = 4294967295 := by
  rcases h with rfl | rfl <;> decide
theorem mk_ten : mk 10 = 7 := by decide
theorem rs_bq {f : Nat → Int} (hf : Ok f) (hb : bq f) (l : Int) : bq (rs f l) := by
  intro i hi
  unfold rs
  by_cases h : 17 + i = 27
  · obtain rfl : i = 10 := by omega
    rw [show 17 + 10 = 27 from rfl, up_at, show ((10 : Nat) : Int) = 10 from rfl, mk_ten]
    exact oq_seven _ _ (hf 27 (by decide)) (by have := hb 10 (by decide); rwa [show 17 + 10 = 27 from rfl, show ((10 : Nat) : Int) = 10 from rfl, mk_ten] at this)
  · rw [up_off _ _ h]; exact hb i hi
theorem c1_bq {f : Nat → Int} (hb : bq f) : bq (c1 f) := by
  intro i hi
  unfold c1
  by_cases h : 17 + i = 24
  · obtain rfl : i = 7 := by omega
    rw [show 17 + 7 = 24 from rfl, up_at, show ((7 : Nat) : Int) = 7 from rfl, mk_full (.inl rfl)]
    exact an_all _ (by unfold Wd; omega)
  · rw [up_off _ _ h]; exact hb i hi
theorem ct_bq {f : Nat → Int} (hf : Ok f) (hb : bq f) : bq (ct f) := by
  unfold ct
  split
  · exact rs_bq (c1_ok hf) (c1_bq hb) 4
  · exact c1_bq hb
theorem wf_bq {f : Nat → Int} (hb : bq f) (n v : Int) (hv : Wd v) (hk : ks f n = 0) : bq (wf f n v) := by
  intro i hi
  obtain ⟨n0, n1⟩ := kn_iff.1 (ks_zero hk).2
  unfold wf
  rw [if_pos hk]
  by_cases h : 17 + i = 17 + n.toNat
  · rw [h, up_at, show (i : Int) = n by omega]
    exact an_idem v _ hv (mk_bd n)
  · rw [up_off _ _ h]; exact hb i hi
theorem rs_keep {f : Nat → Int} (hf : Ok f) (l : Int) : an (rs f l 27) (f 27) = f 27 := by
  unfold rs; rw [up_at]; exact an_oq _ _ (hf 27 (by decide))
theorem c1_pend (f : Nat → Int) : c1 f 27 = f 27 := up_off _ _ (by decide)
theorem ct_keep {f : Nat → Int} (hf : Ok f) : an (ct f 27) (f 27) = f 27 := by
  unfold ct
  split
  · have := rs_keep (c1_ok hf) 4
    rwa [c1_pend] at this
  · rw [c1_pend]; exact an_self _ (hf 27 (by decide))
theorem wf_keep {f : Nat → Int} (hf : Ok f) (n v : Int) (hk : ks f n = 0) (hn : n ≠ 10) : an (wf f n v 27) (f 27) = f 27 := by
  obtain ⟨n0, n1⟩ := kn_iff.1 (ks_zero hk).2
  unfold wf
  rw [if_pos hk, up_off _ _ (by omega)]
  exact an_self _ (hf 27 (by decide))
end CM
end Go.Proofs.Ytbeenmglgdhbjaa.S11
