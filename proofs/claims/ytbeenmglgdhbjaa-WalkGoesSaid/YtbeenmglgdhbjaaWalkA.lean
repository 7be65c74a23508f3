/-
  Where an entry stands, the entry there, whether it is valid; causes; virtual addresses; letters: of package walk and of the reference.
-/
import Derived.Test.YtbeenmglgdhbjaaMath
import Derived.Test.YtbeenmglgdhbjaaTail
import Derived.Test.YtbeenmglgdhbjaaS12WalkD
import Derived.Test.YtbeenmglgdhbjaaS12WalkE
import Derived.Test.YtbeenmglgdhbjaaS11WalkA
namespace Go.Proofs.Ytbeenmglgdhbjaa
open Go.RowKit S01 S10 S11 S12
set_option maxHeartbeats 400000 in
theorem place_any (t x l : Int) (w : World) (_t0 : 0 ≤ t) (_t1 : t < 4294967296) (h0 : 0 ≤ x) (h1 : x < 4294967296) :
    Calls Try.prog 22 #[.int .u32 t, .int .u32 x, .int .i64 l] w fun e w' => e = .returned (.int .u32 (WK.pl t x l)) ∧ Below w.heap.size w w' := by
  have H := Lib.hid (fun W => index_any x l W h0 h1)
  obtain ⟨b0, b1⟩ := PT.ix_bd x l
  have HP := Lib.hid (show WK.pl t x l = (t + 4 * PT.ix x l) % 4294967296 from rfl)
  generalize WK.pl t x l = r at *
  generalize PT.ix x l = y at *
  go_enter Try.func22, Try.ntmps22
  go_wp2_with (first | (go_at_call 38; (with_reducible refine (H.out _).mono ?_); rintro e w1 ⟨rfl, hb⟩; have B1 := Lib.hid hb; clear hb))
  go_ret
  exact ⟨ret_int (by first | exact HP.out.symm | (rw [HP.out]; omega)), B1.out⟩
set_option maxHeartbeats 400000 in
theorem entry_ok {w : World} {v : Value} {bs : List UInt8} (x : Int) (hv : ByR w v bs) (hn : bs.length ≤ maxLen) (h0 : 0 ≤ x) (h1 : x < 4294967296) (hc : MM.ck bs.length x 4 = 0) :
    Calls Try.prog 23 #[v, .int .u32 x] w fun e w' => e = .returned (.tuple #[PV (MM.rd bs x 4 % 128) (MM.rd bs x 4 / 256 % 256), .bool true]) ∧ Below w.heap.size w w' := by
  have HR := Lib.hid (fun (W : World) (hb : Below w.heap.size w W) => read_any (w := W) x 4 (hv.below hb) hn h0 h1)
  rw [hc] at HR
  obtain ⟨r0, r1⟩ := rd_bd bs x 4 h0
  have HO := Lib.hid (fun W => of_any (MM.rd bs x 4) W r0 r1)
  generalize MM.rd bs x 4 = y at *
  have h2 : 0 ≤ y / 256 % 256 := by omega
  have h3 : y / 256 % 256 < 256 := by omega
  generalize y / 256 % 256 = g at *
  generalize y % 128 = b at *
  unfold PV at HO
  obtain ⟨A, c, rfl⟩ := by_form hv
  have HB := Lib.hid (below_one w (.cells #[.int .u32 0, .int .i64 0] 26))
  clear hv
  go_enter Try.func23, Try.ntmps23
  go_upto_region 1 with fail
  generalize hW : World.alloc w _ = W1
  have K0 := Lib.hid (show Pk W1 w.heap.size 0 0 from hW ▸ Pk.new w 0 0)
  rw [hW] at HB
  clear hW
  go_wp2_with (first | (go_at_call 39; (with_reducible refine (HR.out _ HB.out).mono ?_); rintro e w1 ⟨rfl, rfl⟩) | (go_at_call 40; (with_reducible refine (HO.out _).mono ?_); rintro e w2 ⟨rfl, hb⟩; have HB2 := Lib.hid (below_then HB.out hb); have c0 := (K0.out.below hb).c0; have c1 := (K0.out.below hb).c1; have f0 := (K0.out.below hb).free; clear hb))
  exact bodyPost_ret (v := .tuple #[.agg #[.int .u32 b, .int .i64 g], .bool true]) (by simp [results, Try.results23, go_sem, c0, c1]) rfl ⟨rfl, (HB2.out.setCell (Nat.le_refl _) _).setCell (Nat.le_refl _) _⟩
set_option maxHeartbeats 400000 in
theorem entry_no {w : World} {v : Value} {bs : List UInt8} (x : Int) (hv : ByR w v bs) (hn : bs.length ≤ maxLen) (h0 : 0 ≤ x) (h1 : x < 4294967296) (hc : MM.ck bs.length x 4 = 9) :
    Calls Try.prog 23 #[v, .int .u32 x] w fun e w' => e = .returned (.tuple #[PV 0 0, .bool false]) ∧ Below w.heap.size w w' := by
  have HR := Lib.hid (fun (W : World) (hb : Below w.heap.size w W) => read_any (w := W) x 4 (hv.below hb) hn h0 h1)
  rw [hc] at HR
  obtain ⟨r0, r1⟩ := rd_bd bs x 4 h0
  generalize MM.rd bs x 4 = y at *
  obtain ⟨A, c, rfl⟩ := by_form hv
  have HB := Lib.hid (below_one w (.cells #[.int .u32 0, .int .i64 0] 26))
  clear hv
  go_enter Try.func23, Try.ntmps23
  go_upto_region 1 with fail
  generalize hW : World.alloc w _ = W1
  have K0 := (show Pk W1 w.heap.size 0 0 from hW ▸ Pk.new w 0 0)
  have c0 := K0.c0
  have c1 := K0.c1
  have f0 := K0.free
  rw [hW] at HB
  clear hW K0
  go_wp2_with (first | (go_at_call 39; (with_reducible refine (HR.out _ HB.out).mono ?_); rintro e w1 ⟨rfl, rfl⟩))
  exact bodyPost_ret (v := .tuple #[.agg #[.int .u32 0, .int .i64 0], .bool false]) (by simp [results, Try.results23, go_sem, c0, c1]) rfl ⟨rfl, (HB.out.setCell (Nat.le_refl _) _).setCell (Nat.le_refl _) _⟩
theorem valid_mask (b : Int) (h0 : 0 ≤ b) (h1 : b < 4294967296) : (bits .and .u32 b 1 != 0) = PT.bt b 0 := by
  have e := WK.bt_mask b 0 (by decide) h0 h1
  rw [show ((2 ^ 0 : Nat) : Int) = 1 from rfl] at e
  rw [bne, e, Bool.not_not]
theorem paged_mask (b : Int) (h0 : 0 ≤ b) (h1 : b < 4294967296) : (bits .and .u32 b 16 != 0) = decide (b / 16 % 2 = 1) := by
  have e := WK.bt_mask b 4 (by decide) h0 h1
  rw [show ((2 ^ 4 : Nat) : Int) = 16 from rfl] at e
  rw [bne, e, Bool.not_not]
  rfl
set_option maxHeartbeats 400000 in
theorem valid_any (b g : Int) (w : World) (h0 : 0 ≤ b) (h1 : b < 4294967296) :
    Calls Try.prog 24 #[PV b g] w fun e w' => e = .returned (.bool (PT.bt b 0)) ∧ Below w.heap.size w w' := by
  have HL := Lib.hid (valid_mask b h0 h1)
  have HB := Lib.hid (below_one w (.cells #[.int .u32 b, .int .i64 g] 26))
  unfold PV
  go_enter Try.func24, Try.ntmps24
  go_wp2
  go_ret
  exact ⟨ret_bool HL.out, HB.out⟩
set_option maxHeartbeats 400000 in
theorem fault_any (a : Int) (w : World) : Calls Try.prog 16 #[.int .i64 a] w fun e w' => e = .returned (.int .i64 (WK.fl a)) ∧ w = w' := by
  by_cases h1 : a = 1
  · subst h1
    go_enter Try.func16, Try.ntmps16
    go_wp2
    go_ret
    exact ⟨rfl, rfl⟩
  · by_cases h2 : a = 2
    · subst h2
      go_enter Try.func16, Try.ntmps16
      go_wp2
      go_ret
      exact ⟨rfl, rfl⟩
    · by_cases h3 : a = 3
      · subst h3
        go_enter Try.func16, Try.ntmps16
        go_wp2
        go_ret
        exact ⟨rfl, rfl⟩
      · have HN := Lib.hid (show WK.fl a = 9 by unfold WK.fl; rw [if_neg h1, if_neg h2, if_neg h3])
        go_enter Try.func16, Try.ntmps16
        go_wp2
        go_ret
        exact ⟨ret_int HN.out.symm, rfl⟩
set_option maxHeartbeats 400000 in
theorem rfault_any (a : Int) (w : World) : Calls Try.prog 17 #[.int .i64 a] w fun e w' => e = .returned (.int .i64 (WK.fl a)) ∧ w = w' := by
  by_cases h1 : a = 1
  · subst h1
    go_enter Try.func17, Try.ntmps17
    go_wp2
    go_ret
    exact ⟨rfl, rfl⟩
  · by_cases h2 : a = 2
    · subst h2
      go_enter Try.func17, Try.ntmps17
      go_wp2
      go_ret
      exact ⟨rfl, rfl⟩
    · by_cases h3 : a = 3
      · subst h3
        go_enter Try.func17, Try.ntmps17
        go_wp2
        go_ret
        exact ⟨rfl, rfl⟩
      · have HN := Lib.hid (show WK.fl a = 9 by unfold WK.fl; rw [if_neg h1, if_neg h2, if_neg h3])
        go_enter Try.func17, Try.ntmps17
        go_wp2
        go_ret
        exact ⟨ret_int HN.out.symm, rfl⟩
set_option maxHeartbeats 800000 in
theorem paged_any (f : Nat → Int) (h : Bool) (w : World) (hf : CM.Ok f) :
    Calls Try.prog 14 #[AR f h] w fun e w' => e = .returned (.bool (WK.pg f)) ∧ Below w.heap.size w w' := by
  have H := Lib.hid (fun W => kernel_any f h W hf)
  have c17 := (Bk.new w f h).cell (k := 17) (by decide)
  have HR := Lib.hid (Bk.new w f h).range
  obtain ⟨x0, x1⟩ := hf 17 (by decide)
  have e := paged_mask _ x0 x1
  have HP := Lib.hid (show WK.pg f = (decide (f 17 / 16 % 2 = 1) && !CM.km f) from rfl)
  have HB := Lib.hid (below_one w (.cells (AC f h).toArray 35))
  generalize CM.km f = k at *
  generalize WK.pg f = r at *
  generalize f 17 = x at *
  unfold AR at H ⊢
  by_cases hx : x / 16 % 2 = 1
  · rw [show decide (x / 16 % 2 = 1) = true by simpa using hx] at e HP
    go_enter Try.func14, Try.ntmps14
    go_wp2_with (first | (refine wpList_load_wanted rfl 35 _ rfl w.heap.size 0 rfl (AC f h) _ HR.out Try.underlying35 rfl (by kernel_rfl) ?_) | (go_at_call 34; (with_reducible refine (H.out _).mono ?_); rintro e w3 ⟨rfl, hb⟩; have B3 := Lib.hid (below_then HB.out hb); clear hb))
    go_ret
    exact ⟨ret_bool (by rw [HP.out]; rfl), B3.out⟩
  · rw [show decide (x / 16 % 2 = 1) = false by simpa using hx] at e HP
    go_enter Try.func14, Try.ntmps14
    go_wp2
    go_ret
    exact ⟨ret_bool (by rw [HP.out]; rfl), HB.out⟩
set_option maxHeartbeats 800000 in
theorem rpaged_any (f : Nat → Int) (h : Bool) (w : World) (hf : CM.Ok f) :
    Calls Try.prog 15 #[AR f h] w fun e w' => e = .returned (.bool (WK.pg f)) ∧ Below w.heap.size w w' := by
  have H := Lib.hid (fun W => rkernel_any f h W hf)
  have c17 := (Bk.new w f h).cell (k := 17) (by decide)
  have HR := Lib.hid (Bk.new w f h).range
  obtain ⟨x0, x1⟩ := hf 17 (by decide)
  have HP := Lib.hid (show WK.pg f = (decide (f 17 / 16 % 2 = 1) && !CM.km f) from rfl)
  have HB := Lib.hid (below_one w (.cells (AC f h).toArray 35))
  generalize CM.km f = k at *
  generalize WK.pg f = r at *
  generalize f 17 = x at *
  unfold AR at H ⊢
  by_cases hx : x / 16 % 2 = 1
  · rw [show decide (x / 16 % 2 = 1) = true by simpa using hx] at HP
    have e : (x / 16 % 2 == 1) = true := by simpa using hx
    go_enter Try.func15, Try.ntmps15
    go_wp2_with (first | (refine wpList_load_wanted rfl 35 _ rfl w.heap.size 0 rfl (AC f h) _ HR.out Try.underlying35 rfl (by kernel_rfl) ?_) | (go_at_call 35; (with_reducible refine (H.out _).mono ?_); rintro e w3 ⟨rfl, hb⟩; have B3 := Lib.hid (below_then HB.out hb); clear hb))
    go_ret
    exact ⟨ret_bool (by rw [HP.out]; rfl), B3.out⟩
  · rw [show decide (x / 16 % 2 = 1) = false by simpa using hx] at HP
    have e : (x / 16 % 2 == 1) = false := by simpa using hx
    go_enter Try.func15, Try.ntmps15
    go_wp2
    go_ret
    exact ⟨ret_bool (by rw [HP.out]; rfl), HB.out⟩
set_option maxHeartbeats 800000 in
theorem rletter_any (b d : Int) (k : Nat) (s : ByteArray) (w : World) (hd : d = 2 ^ k) (hk : 1 ≤ k ∧ k ≤ 6) (h0 : 0 ≤ b) (h1 : b < 4294967296) :
    Calls Try.prog 37 #[.int .u32 b, .int .u32 d, .string s] w fun e w' => e = .returned (.string (if PT.bt b k then s else ⟨#[45]⟩)) ∧ w = w' := by
  have HT := Lib.hid (show PT.bt b k = decide (b / 2 ^ k % 2 = 1) from rfl)
  rw [← hd] at HT
  have hr : b / d % 2 = 1 ∨ ¬ b / d % 2 = 1 := Classical.em _
  obtain rfl | rfl | rfl | rfl | rfl | rfl : k = 1 ∨ k = 2 ∨ k = 3 ∨ k = 4 ∨ k = 5 ∨ k = 6 := by omega
  all_goals
    simp only [show (2 : Int) ^ 1 = 2 from rfl, show (2 : Int) ^ 2 = 4 from rfl, show (2 : Int) ^ 3 = 8 from rfl, show (2 : Int) ^ 4 = 16 from rfl, show (2 : Int) ^ 5 = 32 from rfl, show (2 : Int) ^ 6 = 64 from rfl] at hd
    subst hd
    rcases hr with hr | hr
    · rw [show decide _ = true by simpa using hr] at HT
      simp only [HT.out, if_true]
      clear HT
      go_enter Try.func37, Try.ntmps37
      go_wp2
      go_ret
      exact ⟨rfl, rfl⟩
    · rw [show decide _ = false by simpa using hr] at HT
      simp only [HT.out, Bool.false_eq_true, if_false]
      clear HT
      go_enter Try.func37, Try.ntmps37
      go_wp2
      go_ret
      exact ⟨rfl, rfl⟩
end Go.Proofs.Ytbeenmglgdhbjaa
