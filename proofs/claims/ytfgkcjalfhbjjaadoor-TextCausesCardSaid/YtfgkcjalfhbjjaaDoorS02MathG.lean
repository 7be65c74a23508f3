/-
  Plain mathematics: the number of a number's digits is the number. No condition.
-/
import Derived.Test.YtfgkcjalfhbjjaaDoorS02MathE
import Derived.Test.YtfgkcjalfhbjjaaDoorS02MathF
namespace Go.Proofs.YtfgkcjalfhbjjaaDoor.S02
namespace NM
theorem dv_dig (r : Nat) (h : r < 10) : dv (UInt8.ofNat (48 + r)) = r := by
  have e : (UInt8.ofNat (48 + r)).toNat = 48 + r := by simp; omega
  unfold dv
  rw [e, if_pos (by omega)]
  omega
theorem dec_all (u : Nat) : al 10 (Lib.decDigits u) = true ∧ val 10 (Lib.decDigits u) = u := by
  induction u using Nat.strongRecOn with
  | _ u ih =>
    by_cases h : u < 10
    · rw [Lib.decDigits_one h]
      have e1 := al_snoc 10 [] (UInt8.ofNat (48 + u))
      have e2 := val_snoc 10 [] (UInt8.ofNat (48 + u))
      rw [List.nil_append, dv_dig u h] at e1 e2
      rw [e1, e2]
      exact ⟨by rw [al_nil]; simpa using h, by rw [val_nil]; omega⟩
    · rw [Lib.decDigits, dif_neg h]
      obtain ⟨h1, h2⟩ := ih (u / 10) (by omega)
      have hr : u % 10 < 10 := Nat.mod_lt _ (by omega)
      rw [al_snoc, val_snoc, h1, h2, dv_dig _ hr]
      exact ⟨by simpa using hr, by omega⟩
theorem dec_head (u : Nat) (h : 0 < u) : ∃ c t, Lib.decDigits u = c :: t ∧ 49 ≤ c.toNat ∧ c.toNat ≤ 57 := by
  induction u using Nat.strongRecOn with
  | _ u ih =>
    by_cases h10 : u < 10
    · exact ⟨_, _, Lib.decDigits_one h10, by simp; omega, by simp; omega⟩
    · rw [Lib.decDigits, dif_neg h10]
      obtain ⟨c, t, h1, h2⟩ := ih (u / 10) (by omega) (by omega)
      exact ⟨c, t ++ _, by rw [h1]; rfl, h2⟩
theorem dec_len (k u : Nat) (hk : 0 < k) (h : u < 10 ^ k) : (Lib.decDigits u).length ≤ k := by
  induction k generalizing u with
  | zero => omega
  | succ k ih =>
    by_cases h10 : u < 10
    · rw [Lib.decDigits_one h10]; simp
    · rw [Lib.decDigits, dif_neg h10, List.length_append, List.length_singleton]
      have hk0 : 0 < k := by
        rcases Nat.eq_zero_or_pos k with rfl | h1
        · simp at h; omega
        · exact h1
      have := ih (u / 10) hk0 (by rw [Nat.pow_succ] at h; omega)
      omega
theorem pre_no (c : UInt8) (t p : List UInt8) (b : UInt8) (h : b ≠ c) : Lib.hasPrefix (c :: t) (b :: p) = false := by
  simp [Lib.hasPrefix, List.isPrefixOf, h]
theorem toNat_ne {a b : UInt8} (h : a.toNat ≠ b.toNat) : a ≠ b := fun e => h (by rw [e])
theorem vB_dec (u : Nat) : vB 10 (Lib.decDigits u) = true :=
  vB_of _ _ (dec_all u).1 (by
    rcases Nat.eq_zero_or_pos u with rfl | h
    · rw [Lib.decDigits_one (by omega)]; simp
    · obtain ⟨c, t, h1, _⟩ := dec_head u h
      rw [h1]; simp)
theorem pd_dec (u : Nat) (neg : Bool) (hz : 0 < u ∨ neg = false) (h : u ≤ lim neg) : pdE (Lib.decDigits u) neg = 0 ∧ pdN (Lib.decDigits u) neg = if neg then -(u : Int) else u := by
  have hu : u < 10 ^ 19 := by
    have h1 : lim neg ≤ 9223372036854775808 := by cases neg <;> decide
    have h2 : (10 : Nat) ^ 19 = 10000000000000000000 := by decide
    omega
  have hl := dec_len 19 u (by omega) hu
  have := pd_ok (Lib.decDigits u) neg (vB_dec u) (by
    rintro ⟨h1, h2⟩
    rcases Nat.eq_zero_or_pos u with rfl | h0
    · rw [Lib.decDigits_one (by omega)] at h2
      rcases h2 with h2 | h2
      · rcases hz with hz | hz
        · omega
        · rw [hz] at h2; cases h2
      · simp at h2
    · obtain ⟨c, t, e, hc⟩ := dec_head u h0
      rw [e] at h1
      simp at h1
      rw [h1] at hc
      exact absurd hc.1 (by decide)) hl (by rw [(dec_all u).2]; exact h)
  rw [(dec_all u).2] at this
  exact this
theorem p_itoa (n : Int) (h0 : -9223372036854775808 ≤ n) (h1 : n ≤ 9223372036854775807) : pN (Lib.itoa n) = n ∧ pE (Lib.itoa n) = 0 := by
  by_cases hn : n < 0
  · obtain ⟨u, rfl⟩ : ∃ u : Nat, n = -(u : Int) := ⟨n.natAbs, by omega⟩
    have hu : 1 ≤ u := by omega
    rw [Lib.itoa_neg u hu]
    have e1 : Lib.hasPrefix (45 :: Lib.decDigits u) [48, 120] = false := pre_no _ _ _ _ (by decide)
    have e2 : Lib.hasPrefix (45 :: Lib.decDigits u) [45] = true := by simp [Lib.hasPrefix, List.isPrefixOf]
    have e3 : Lib.trimPrefix (45 :: Lib.decDigits u) [45] = Lib.decDigits u := by unfold Lib.trimPrefix; rw [if_pos e2]; rfl
    have := pd_dec u true (.inl (by omega)) (by show u ≤ 9223372036854775808; omega)
    unfold pN pE
    rw [e1, e2, e3]
    exact ⟨this.2, this.1⟩
  · obtain ⟨u, rfl⟩ : ∃ u : Nat, n = u := ⟨n.toNat, by omega⟩
    rw [Lib.itoa_nonneg]
    have hh : ∃ c t, Lib.decDigits u = c :: t ∧ 48 ≤ c.toNat ∧ c.toNat ≤ 57 ∧ (c.toNat = 48 → t = []) := by
      rcases Nat.eq_zero_or_pos u with rfl | h
      · exact ⟨48, [], Lib.decDigits_one (by omega), by decide, by decide, fun _ => rfl⟩
      · obtain ⟨c, t, h1, h2, h3⟩ := dec_head u h
        exact ⟨c, t, h1, by omega, h3, fun h => by omega⟩
    obtain ⟨c, t, e, hc1, hc2, hc3⟩ := hh
    have e1 : Lib.hasPrefix (Lib.decDigits u) [48, 120] = false := by
      rw [e]
      by_cases h48 : c.toNat = 48
      · rw [hc3 h48]; simp [Lib.hasPrefix, List.isPrefixOf]
      · exact pre_no _ _ _ _ (toNat_ne (by show 48 ≠ c.toNat; omega))
    have e2 : Lib.hasPrefix (Lib.decDigits u) [45] = false := by rw [e]; exact pre_no _ _ _ _ (toNat_ne (by show 45 ≠ c.toNat; omega))
    have e3 : Lib.trimPrefix (Lib.decDigits u) [45] = Lib.decDigits u := by unfold Lib.trimPrefix; rw [e2]; rfl
    have := pd_dec u false (.inr rfl) (by show u ≤ 9223372036854775807; omega)
    unfold pN pE
    rw [e1, e2, e3]
    exact ⟨this.2, this.1⟩
theorem dv_hx (d : Nat) (h : d < 16) : dv (hx d) = d := by
  by_cases h10 : d < 10
  · unfold dv; rw [hx_lo d h10, if_pos (by omega)]; omega
  · unfold dv; rw [hx_hi d (by omega) h, if_neg (by omega), if_pos (by omega)]; omega
theorem hxs_all (k u : Nat) : al 16 (hxs u k) = true ∧ val 16 (hxs u k) = u % 16 ^ k := by
  induction k generalizing u with
  | zero => exact ⟨rfl, by rw [Nat.pow_zero, Nat.mod_one]; rfl⟩
  | succ k ih =>
    rw [hxs_snoc, al_snoc, val_snoc, (ih (u / 16)).1, (ih (u / 16)).2, dv_hx _ (Nat.mod_lt _ (by omega))]
    refine ⟨by simpa using Nat.mod_lt u (by omega : 16 > 0), ?_⟩
    rw [Nat.pow_succ, Nat.mul_comm (16 ^ k) 16, Nat.mod_mul]
    omega
theorem p_hexs (u : Nat) (h : u < 4294967296) : pN (48 :: 120 :: hxs u 8) = u ∧ pE (48 :: 120 :: hxs u 8) = 0 := by
  have e1 : Lib.hasPrefix (48 :: 120 :: hxs u 8) [48, 120] = true := by simp [Lib.hasPrefix, List.isPrefixOf]
  have e2 := ph_ok (hxs u 8) (vB_of _ _ (hxs_all 8 u).1 (by simp [hxs])) (by rw [hxs_len]; exact Nat.le_refl _)
  rw [(hxs_all 8 u).2, Nat.mod_eq_of_lt (by simpa using h)] at e2
  unfold pN pE
  rw [e1]
  exact ⟨e2.2, e2.1⟩
end NM
end Go.Proofs.YtfgkcjalfhbjjaaDoor.S02
