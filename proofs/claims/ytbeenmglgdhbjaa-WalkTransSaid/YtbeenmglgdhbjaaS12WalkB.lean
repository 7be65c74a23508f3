/-
  Entries of words, pages or none, places: of package pte and of the reference.
-/
import Derived.Test.YtbeenmglgdhbjaaS12WalkA
namespace Go.Proofs.Ytbeenmglgdhbjaa.S12
open Go.RowKit S01 S10 S11
theorem bit_at (x j : Int) (i : Nat) (w : World) (hj : (i : Int) = j) (h0 : 0 ≤ x) (h1 : x < 4294967296) (hi : (i : Int) ≤ 63) :
    Calls Try.prog 44 #[.int .u32 x, .int .i64 j] w fun e w' => e = .returned (.bool (PT.bt x i)) ∧ w = w' := hj ▸ bit_any x i w h0 h1 hi
/-- An entry by value. -/
def PV (b g : Int) : Value := .agg #[.int .u32 b, .int .i64 g]
set_option maxHeartbeats 400000 in
theorem of_any (x : Int) (w : World) (h0 : 0 ≤ x) (h1 : x < 4294967296) :
    Calls Try.prog 40 #[.int .u32 x] w fun e w' => e = .returned (PV (x % 128) (x / 256 % 256)) ∧ Below w.heap.size w w' := by
  have H1 := Lib.hid (fun W => zext_any x 7 W h0 h1)
  have H2 := Lib.hid (fun W => field_any x 15 8 W h0 h1)
  rw [PT.zx7 _ h0] at H1
  rw [PT.fd_page _ h0] at H2
  have h2 : 0 ≤ x / 256 % 256 := by omega
  have h3 : x / 256 % 256 < 256 := by omega
  generalize x / 256 % 256 = g at *
  generalize x % 128 = b at *
  have HB := Lib.hid (below_one w (.cells #[.int .u32 0, .int .i64 0] 26))
  go_enter Try.func40, Try.ntmps40
  go_upto_region 1 with fail
  generalize hW : World.alloc w _ = W1
  have K0 : Pk W1 w.heap.size 0 0 := hW ▸ Pk.new w 0 0
  rw [hW] at HB
  clear hW
  have K := Lib.hid K0
  clear K0
  go_wp2_with (first | (go_at_call 42; (with_reducible refine (H1.out _).mono ?_); rintro e w1 ⟨rfl, rfl⟩) | (go_at_call 47; (with_reducible refine (H2.out _).mono ?_); rintro e w2 ⟨rfl, hb⟩; have HB2 := Lib.hid (below_then HB.out (below_draw hb)); have c0 := (K.out.below (below_draw hb)).c0; have c1 := (K.out.below (below_draw hb)).c1; have f0 := (K.out.below (below_draw hb)).free; clear hb))
  exact bodyPost_ret (v := .agg #[.int .u32 b, .int .i64 g]) (by simp [results, Try.results40, go_sem, c0, c1]) rfl ⟨rfl, (HB2.out.setCell (Nat.le_refl _) _).setCell (Nat.le_refl _) _⟩
set_option maxHeartbeats 400000 in
theorem rof_any (x : Int) (w : World) (h0 : 0 ≤ x) (h1 : x < 4294967296) :
    Calls Try.prog 29 #[.int .u32 x] w fun e w' => e = .returned (PV (x % 128) (x / 256 % 256)) ∧ Below w.heap.size w w' := by
  have h2 : 0 ≤ x / 256 % 256 := by omega
  have h3 : x / 256 % 256 < 256 := by omega
  go_enter Try.func29, Try.ntmps29
  go_wp2
  exact bodyPost_ret (v := .agg #[.int .u32 (x % 128), .int .i64 (x / 256 % 256)]) (by simp [results, Try.results29, go_sem]) rfl ⟨rfl, (Below.refl _ _).alloc (Nat.le_refl _) _⟩
set_option maxHeartbeats 400000 in
theorem leaf_any (b g : Int) (w : World) (h0 : 0 ≤ b) (h1 : b < 4294967296) :
    Calls Try.prog 25 #[PV b g] w fun e w' => e = .returned (.bool (PT.lf b)) ∧ Below w.heap.size w w' := by
  have HL := Lib.hid (PT.lf_mask b h0 h1)
  have HB := Lib.hid (below_one w (.cells #[.int .u32 b, .int .i64 g] 26))
  unfold PV
  go_enter Try.func25, Try.ntmps25
  go_wp2
  go_ret
  exact ⟨ret_bool HL.out, HB.out⟩
set_option maxHeartbeats 400000 in
theorem rleaf_any (b g : Int) (w : World) (h0 : 0 ≤ b) (h1 : b < 4294967296) :
    Calls Try.prog 30 #[PV b g] w fun e w' => e = .returned (.bool (PT.lf b)) ∧ Below w.heap.size w w' := by
  have H1 := Lib.hid (fun W => bit_at b 1 1 W rfl h0 h1 (by omega))
  have H2 := Lib.hid (fun W => bit_at b 2 2 W rfl h0 h1 (by omega))
  have H3 := Lib.hid (fun W => bit_at b 3 3 W rfl h0 h1 (by omega))
  have HL := Lib.hid (show PT.lf b = (PT.bt b 1 || (PT.bt b 2 || PT.bt b 3)) from rfl)
  have HB := Lib.hid (below_one w (.cells #[.int .u32 b, .int .i64 g] 26))
  generalize PT.bt b 1 = x at *
  generalize PT.bt b 2 = y at *
  generalize PT.bt b 3 = z at *
  unfold PV
  cases x
  · cases y
    · go_enter Try.func30, Try.ntmps30
      go_wp2_with (first | (go_at_call 44; first | (with_reducible refine (H1.out _).mono ?_; rintro e w1 ⟨rfl, rfl⟩) | (with_reducible refine (H2.out _).mono ?_; rintro e w1 ⟨rfl, rfl⟩) | (with_reducible refine (H3.out _).mono ?_; rintro e w1 ⟨rfl, rfl⟩)))
      go_ret
      exact ⟨ret_bool (by rw [HL.out]; simp), HB.out⟩
    · go_enter Try.func30, Try.ntmps30
      go_wp2_with (first | (go_at_call 44; first | (with_reducible refine (H1.out _).mono ?_; rintro e w1 ⟨rfl, rfl⟩) | (with_reducible refine (H2.out _).mono ?_; rintro e w1 ⟨rfl, rfl⟩) | (with_reducible refine (H3.out _).mono ?_; rintro e w1 ⟨rfl, rfl⟩)))
      go_ret
      exact ⟨ret_bool (by rw [HL.out]; rfl), HB.out⟩
  · go_enter Try.func30, Try.ntmps30
    go_wp2_with (first | (go_at_call 44; first | (with_reducible refine (H1.out _).mono ?_; rintro e w1 ⟨rfl, rfl⟩) | (with_reducible refine (H2.out _).mono ?_; rintro e w1 ⟨rfl, rfl⟩) | (with_reducible refine (H3.out _).mono ?_; rintro e w1 ⟨rfl, rfl⟩)))
    go_ret
    exact ⟨ret_bool (by rw [HL.out]; rfl), HB.out⟩
set_option maxHeartbeats 400000 in
theorem index_any (x l : Int) (w : World) (h0 : 0 ≤ x) (h1 : x < 4294967296) :
    Calls Try.prog 38 #[.int .u32 x, .int .i64 l] w fun e w' => e = .returned (.int .i64 (PT.ix x l)) ∧ Below w.heap.size w w' := by
  have H1 := Lib.hid (fun W => field_any x 13 10 W h0 h1)
  have H2 := Lib.hid (fun W => field_any x 9 6 W h0 h1)
  rw [PT.fd_high _ h0] at H1
  rw [PT.fd_low _ h0] at H2
  have h2 : 0 ≤ x / 1024 % 16 := by omega
  have h3 : x / 1024 % 16 < 16 := by omega
  have h4 : 0 ≤ x / 64 % 16 := by omega
  have h5 : x / 64 % 16 < 16 := by omega
  have HX := Lib.hid (show PT.ix x l = if l = 0 then x / 1024 % 16 else if l = 1 then x / 64 % 16 else 0 from rfl)
  generalize x / 1024 % 16 = p at *
  generalize x / 64 % 16 = q at *
  by_cases l0 : l = 0
  · subst l0
    go_enter Try.func38, Try.ntmps38
    go_wp2_with (first | (go_at_call 47; (with_reducible refine (H1.out _).mono ?_); rintro e w1 ⟨rfl, hb⟩; have B1 := Lib.hid (below_draw hb); clear hb))
    go_ret
    exact ⟨ret_int (by rw [HX.out]; rfl), B1.out⟩
  · by_cases l1 : l = 1
    · subst l1
      go_enter Try.func38, Try.ntmps38
      go_wp2_with (first | (go_at_call 47; (with_reducible refine (H2.out _).mono ?_); rintro e w1 ⟨rfl, hb⟩; have B1 := Lib.hid (below_draw hb); clear hb))
      go_ret
      exact ⟨ret_int (by rw [HX.out]; rfl), B1.out⟩
    · go_enter Try.func38, Try.ntmps38
      go_wp2
      go_ret
      exact ⟨ret_int (by rw [HX.out, if_neg l0, if_neg l1]), Below.refl _ _⟩
set_option maxHeartbeats 400000 in
theorem rindex_any (x l : Int) (w : World) (h0 : 0 ≤ x) (h1 : x < 4294967296) :
    Calls Try.prog 27 #[.int .u32 x, .int .i64 l] w fun e w' => e = .returned (.int .i64 (PT.ix x l)) ∧ w = w' := by
  have h2 : 0 ≤ x / 1024 % 16 := by omega
  have h3 : x / 1024 % 16 < 16 := by omega
  have h4 : 0 ≤ x / 64 % 16 := by omega
  have h5 : x / 64 % 16 < 16 := by omega
  have HX := Lib.hid (show PT.ix x l = if l = 0 then x / 1024 % 16 else if l = 1 then x / 64 % 16 else 0 from rfl)
  by_cases l0 : l = 0
  · subst l0
    go_enter Try.func27, Try.ntmps27
    go_wp2
    go_ret
    exact ⟨ret_int (by rw [HX.out]; rfl), rfl⟩
  · by_cases l1 : l = 1
    · subst l1
      go_enter Try.func27, Try.ntmps27
      go_wp2
      go_ret
      exact ⟨ret_int (by rw [HX.out]; rfl), rfl⟩
    · go_enter Try.func27, Try.ntmps27
      go_wp2
      go_ret
      exact ⟨ret_int (by rw [HX.out, if_neg l0, if_neg l1]), rfl⟩
set_option maxHeartbeats 400000 in
theorem addr_any (b g x : Int) (w : World) (h0 : 0 ≤ x) (h1 : x < 4294967296) :
    Calls Try.prog 26 #[PV b g, .int .u32 x] w fun e w' => e = .returned (.int .u32 (PT.ad g x)) ∧ Below w.heap.size w w' := by
  have H1 := Lib.hid (fun W => zext_any x 6 W h0 h1)
  have H2 := Lib.hid (page_any b g)
  rw [PT.zx6 _ h0] at H1
  have HA := Lib.hid (show PT.ad g x = 64 * (g % 256) + x % 64 from rfl)
  have g0 : 0 ≤ g % 256 := by omega
  have g1 : g % 256 < 256 := by omega
  generalize PT.ad g x = r at *
  generalize g % 256 = k at *
  have x0 : 0 ≤ x % 64 := by omega
  have x1 : x % 64 < 64 := by omega
  generalize x % 64 = y at *
  have HB := Lib.hid (below_one w (.cells #[.int .u32 b, .int .i64 g] 26))
  unfold PV
  go_enter Try.func26, Try.ntmps26
  go_wp2_with (first | (go_at_call 42; (with_reducible refine (H1.out _).mono ?_); rintro e w1 ⟨rfl, rfl⟩) | (go_at_call 41; (with_reducible refine (H2.out _).mono ?_); rintro e w2 ⟨rfl, hb⟩; have HB2 := Lib.hid (below_then HB.out hb); clear hb))
  go_ret
  exact ⟨ret_int (by rw [HA.out]; omega), HB2.out⟩
set_option maxHeartbeats 400000 in
theorem raddr_any (b g x : Int) (w : World) (g0 : -9223372036854775808 ≤ g) (g1 : g < 9223372036854775808) (h0 : 0 ≤ x) (h1 : x < 4294967296) :
    Calls Try.prog 33 #[PV b g, .int .u32 x] w fun e w' => e = .returned (.int .u32 (PT.ad g x)) ∧ Below w.heap.size w w' := by
  have H2 := Lib.hid (fun W => rpage_any g W g0 g1)
  have HA := Lib.hid (show PT.ad g x = 64 * (g % 256) + x % 64 from rfl)
  have k0 : 0 ≤ g % 256 := by omega
  have k1 : g % 256 < 256 := by omega
  generalize PT.ad g x = r at *
  generalize g % 256 = k at *
  have HB := Lib.hid (below_one w (.cells #[.int .u32 b, .int .i64 g] 26))
  unfold PV
  go_enter Try.func33, Try.ntmps33
  go_wp2_with (first | (go_at_call 46; (with_reducible refine (H2.out _).mono ?_); rintro e w2 ⟨rfl, rfl⟩))
  go_ret
  exact ⟨ret_int (by rw [HA.out]), HB.out⟩
end Go.Proofs.Ytbeenmglgdhbjaa.S12
