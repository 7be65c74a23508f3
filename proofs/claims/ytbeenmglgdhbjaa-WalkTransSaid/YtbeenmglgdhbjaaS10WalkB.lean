/-
  What Read answers, and the reference's; neither changes memory. For every slice of bytes.
-/
import Derived.Test.YtbeenmglgdhbjaaS10WalkA
namespace Go.Proofs.Ytbeenmglgdhbjaa.S10
open Go.RowKit Go.Maps S01
/-- What is read at a location. -/
def MM.rd (m : List UInt8) (x s : Int) : Int := if MM.ck m.length x s = 0 then (MM.nb (MM.seg m x.toNat s.toNat) : Int) else 0
theorem ck_open {n : Nat} {x s : Int} (h : MM.ck n x s = 0) : (s = 1 ∨ s = 2 ∨ s = 4) ∧ x + s ≤ n := by
  unfold MM.ck at h
  split at h
  · assumption
  · simp at h
theorem ck_two (n : Nat) (x s : Int) : MM.ck n x s = 0 ∨ MM.ck n x s = 9 := by
  unfold MM.ck
  split
  · exact .inl rfl
  · exact .inr rfl
theorem seg_at {m : List UInt8} {a s i : Nat} (h : i < s) : (MM.seg m a s).getD i 0 = m.getD (a + i) 0 := by
  simp [MM.seg, List.getD_eq_getElem?_getD, h]
theorem seg_nb_lt {m : List UInt8} {a s : Nat} (h : a + s ≤ m.length) (hs : s ≤ 4) : MM.nb (MM.seg m a s) < 4294967296 := by
  have h1 := MM.nb_lt (MM.seg m a s)
  rw [MM.seg_len h] at h1
  have h2 : 2 ^ (8 * s) ≤ 2 ^ 32 := Nat.pow_le_pow_right (by omega) (by omega)
  exact Nat.lt_of_lt_of_le h1 h2
theorem rd_bd (m : List UInt8) (x s : Int) (h0 : 0 ≤ x) : 0 ≤ MM.rd m x s ∧ MM.rd m x s < 4294967296 := by
  unfold MM.rd
  split
  · rename_i h
    obtain ⟨h1, h2⟩ := ck_open h
    have := seg_nb_lt (m := m) (a := x.toNat) (s := s.toNat) (by omega) (by omega)
    omega
  · omega
set_option maxHeartbeats 1600000 in
theorem read_any {w : World} {v : Value} {bs : List UInt8} (x s : Int) (hv : ByR w v bs) (hn : bs.length ≤ maxLen) (h0 : 0 ≤ x) (hx : x < 4294967296) :
    Calls Try.prog 39 #[v, .int .u32 x, .int .i64 s] w fun e w' => e = .returned (.tuple #[.int .u32 (MM.rd bs x s), .int .i64 (MM.ck bs.length x s)]) ∧ w = w' := by
  obtain ⟨a, c, rfl⟩ := by_form hv
  obtain ⟨n, hnn⟩ : ∃ n, bs.length = n := ⟨_, rfl⟩
  have hm : n ≤ 9223372036854775807 := by rw [← hnn]; exact hn
  have HC := fun W => check_any a n c x s W hm h0 hx
  rcases ck_two n x s with hk | hk
  · have HRD := Lib.hid (show MM.rd bs x s = (MM.nb (MM.seg bs x.toNat s.toNat) : Int) by unfold MM.rd; rw [hnn, if_pos hk])
    obtain ⟨hs, hf⟩ := ck_open hk
    obtain ⟨z, rfl⟩ : ∃ z : Nat, x = z := ⟨x.toNat, by omega⟩
    obtain ⟨q, rfl⟩ : ∃ q : Nat, s = q := ⟨s.toNat, by omega⟩
    have hq : 1 ≤ q ∧ q ≤ 4 := by omega
    have hf' : z + q ≤ n := by omega
    rw [hnn] at hv
    rw [hnn, hk]
    simp only [hk] at HC
    replace HC := Lib.hid HC
    obtain ⟨g, o, rfl, hc1, hc2, hcell⟩ := by_at hv hnn (by omega)
    have hc2' : c ≤ 9223372036854775807 := hc2
    have HOF := Lib.hid (fun (W : World) (hW : w = W) => of_low g (o + z) q (c - z) (MM.il (MM.seg bs z q)) W (MM.il_Bs _) (Lib.hid (by rw [MM.il_len, MM.seg_len (by omega)])) (by omega)
      (Lib.hid fun i _ hi => by rw [← hW, Nat.add_assoc, hcell (z + i) (by omega), MM.il_get, seg_at hi]))
    have HWO := Lib.hid (show BM.wo (MM.il (MM.seg bs z q)) = MM.rd bs z q by rw [HRD.out, MM.wo_nb (by rw [MM.seg_len (by omega)]; omega)]; rfl)
    clear hs hk hcell HRD hv hc2 hn
    have hcz : ¬ c = z := by omega
    go_enter Try.func39, Try.ntmps39
    go_wp2_with (first | (go_at_call 48; refine (HC.out _).mono ?_; rintro e w2 ⟨rfl, rfl⟩) | (go_at_call 49; refine (HOF.out _ rfl).mono ?_; rintro e w2 ⟨rfl, rfl⟩))
    go_ret2
    rw [HWO.out]
    exact ⟨rfl, rfl⟩
  · have HRD := Lib.hid (show MM.rd bs x s = 0 by unfold MM.rd; rw [hnn, if_neg (by omega)])
    rw [hnn, hk]
    simp only [hk] at HC
    replace HC := Lib.hid HC
    clear hk hv
    go_enter Try.func39, Try.ntmps39
    go_wp2_with (first | (go_at_call 48; refine (HC.out _).mono ?_; rintro e w2 ⟨rfl, rfl⟩))
    go_ret2
    rw [HRD.out]
    exact ⟨rfl, rfl⟩
set_option maxHeartbeats 1600000 in
theorem rread_any {w : World} {v : Value} {bs : List UInt8} (x s : Int) (hv : ByR w v bs) (hn : bs.length ≤ maxLen) (h0 : 0 ≤ x) (hx : x < 4294967296) :
    Calls Try.prog 28 #[v, .int .u32 x, .int .i64 s] w fun e w' => e = .returned (.tuple #[.int .u32 (MM.rd bs x s), .int .i64 (MM.ck bs.length x s)]) ∧ w = w' := by
  obtain ⟨a, c, rfl⟩ := by_form hv
  obtain ⟨n, hnn⟩ : ∃ n, bs.length = n := ⟨_, rfl⟩
  have hm : n ≤ 9223372036854775807 := by rw [← hnn]; exact hn
  have HC := fun W => rcheck_any a n c x s W hm h0 hx
  rcases ck_two n x s with hk | hk
  · have HRD := Lib.hid (show MM.rd bs x s = (MM.nb (MM.seg bs x.toNat s.toNat) : Int) by unfold MM.rd; rw [hnn, if_pos hk])
    obtain ⟨hs, hf⟩ := ck_open hk
    obtain ⟨z, rfl⟩ : ∃ z : Nat, x = z := ⟨x.toNat, by omega⟩
    obtain ⟨q, rfl⟩ : ∃ q : Nat, s = q := ⟨s.toNat, by omega⟩
    have hq : 1 ≤ q ∧ q ≤ 4 := by omega
    have hf' : z + q ≤ n := by omega
    rw [hnn] at hv
    rw [hnn, hk]
    simp only [hk] at HC
    replace HC := Lib.hid HC
    obtain ⟨g, o, rfl, hc1, hc2, hcell⟩ := by_at hv hnn (by omega)
    have HCE := Lib.hid hcell
    obtain ⟨L, hL⟩ : ∃ L, MM.seg bs z q = L := ⟨_, rfl⟩
    have hLl : L.length = q := by rw [← hL, MM.seg_len (by omega)]
    have HLL := Lib.hid hLl
    have HLB := Lib.hid (show ∀ k, MM.nb (L.drop k) < 4294967296 from fun k => by
      have h1 := MM.nb_lt (L.drop k)
      have h2 : 2 ^ (8 * (L.drop k).length) ≤ 2 ^ 32 := Nat.pow_le_pow_right (by omega) (by rw [List.length_drop]; omega)
      exact Nat.lt_of_lt_of_le h1 h2)
    have HLG := Lib.hid (show ∀ i, i < q → L.getD i 0 = bs.getD (z + i) 0 from fun i hi => by rw [← hL, seg_at hi])
    have HRE := Lib.hid (show (MM.nb L : Int) = MM.rd bs z q by rw [HRD.out, ← hL]; rfl)
    clear hs hk hcell HRD hv hc2 hn hL hLl
    go_enter Try.func28, Try.ntmps28
    go_wp2_with (first | (go_at_call 43; refine (HC.out _).mono ?_; rintro e w2 ⟨rfl, rfl⟩))
    go_loop [9, 10] (fun o i => ∃ k : Nat, (k : Int) ≤ q ∧ i = .int .i64 ((k : Int) - 1) ∧ o = .int .u32 (MM.nb (L.drop k))) (fun _ i => (intOf i + 1).toNat)
    case atStart => exact ⟨q, by omega, rfl, by rw [List.drop_eq_nil_of_le (by rw [HLL.out]; exact Nat.le_refl _)]; rfl⟩
    case round =>
      obtain ⟨k, hk, rfl, rfl⟩ := hrel
      rcases Nat.eq_zero_or_pos k with h00 | h00
      · subst h00
        go_wp2
        go_ret2
        rw [← HRE.out]
        exact ⟨rfl, rfl⟩
      · obtain ⟨j, rfl⟩ : ∃ j, k = j + 1 := ⟨k - 1, by omega⟩
        have hjq : j < q := by omega
        have HST := Lib.hid (MM.nb_drop L j (by rw [HLL.out]; exact hjq))
        have hce := HCE.out (z + j) (by omega)
        rw [← HLG.out j hjq] at hce
        have hb1 := HLB.out j
        have hb2 := (L.getD j 0).toNat_lt
        rw [HST.out] at hb1
        generalize MM.nb (L.drop (j + 1)) = N at *
        generalize (L.getD j 0).toNat = B at *
        have ej : ((j + 1 : Nat) : Int) - 1 = j := by omega
        rw [ej]
        go_wp2
        go_round
        case rel => exact ⟨j, by omega, by go_num, by rw [HST.out]; go_num⟩
        case measure => simp [intOf]
  · have HRD := Lib.hid (show MM.rd bs x s = 0 by unfold MM.rd; rw [hnn, if_neg (by omega)])
    rw [hnn, hk]
    simp only [hk] at HC
    replace HC := Lib.hid HC
    clear hk hv
    go_enter Try.func28, Try.ntmps28
    go_wp2_with (first | (go_at_call 43; refine (HC.out _).mono ?_; rintro e w2 ⟨rfl, rfl⟩))
    go_ret2
    rw [HRD.out]
    exact ⟨rfl, rfl⟩
end Go.Proofs.Ytbeenmglgdhbjaa.S10
