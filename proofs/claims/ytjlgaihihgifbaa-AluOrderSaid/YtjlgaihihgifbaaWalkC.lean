/-
  What the reference's functions that fill an array of 32 bits answer, for every argument of their types; each leaves all that was in memory as it was.
-/
import Derived.Test.YtjlgaihihgifbaaWalkB
import Derived.Deep.MidRow
namespace Go.Proofs.Ytjlgaihihgifbaa
open Go.RowKit S01

/-- The array of 32 words. -/
def cl (g : Nat → Int) : List Value := (List.range 32).map fun j => Value.int .u32 (g j)
def cf (g : Nat → Int) : Array Value := (cl g).toArray
theorem cf_size (g : Nat → Int) : (cf g).size = 32 := by simp [cf, cl]
theorem cf_get (g : Nat → Int) (k : Nat) (hk : k < 32) : (cf g)[k]? = some (.int .u32 (g k)) := by
  simp [cf, cl, hk]
theorem cf_set (g : Nat → Int) (k : Nat) (v : Int) (hk : k < 32) : (cf g).setIfInBounds k (.int .u32 v) = cf (fun j => if j = k then v else g j) := by
  apply Array.ext_getElem?
  intro i
  rw [Array.getElem?_setIfInBounds]
  by_cases hi : i < 32
  · by_cases he : k = i
    · subst he; rw [if_pos rfl, if_pos (by rw [cf_size]; exact hk), cf_get _ k hk, if_pos rfl]
    · rw [if_neg he, cf_get _ i hi, cf_get _ i hi, if_neg (fun h => he h.symm)]
  · rw [if_neg (by omega)]
    simp [cf, cl, hi]
/-- The first k of F's. -/
def gp (F : Nat → Int) (k : Nat) : Nat → Int := fun j => if j < k then F j else 0
theorem gp_zero (F : Nat → Int) : cf (gp F 0) = cf (fun _ => 0) := by
  congr 1
theorem gp_next (F : Nat → Int) (k : Nat) (hk : k < 32) : (cf (gp F k)).setIfInBounds k (.int .u32 (F k)) = cf (gp F (k + 1)) := by
  rw [cf_set _ _ _ hk]
  congr 1
  funext j
  unfold gp
  by_cases h : j = k
  · rw [if_pos h, if_pos (by omega), h]
  · rw [if_neg h]
    by_cases h2 : j < k
    · rw [if_pos h2, if_pos (by omega)]
    · rw [if_neg h2, if_neg (by omega)]
theorem gp_all (F : Nat → Int) (f : Nat → Bool) (h : ∀ j, j < 32 → F j = ((f j).toNat : Int)) (j : Nat) (hj : j < 32) : gp F 32 j = ((f j).toNat : Int) := by
  unfold gp; rw [if_pos hj, h j hj]
theorem cl_range (g : Nat → Int) (w : World) (t : TypeId) : (w.alloc (.cells (cf g) t)).rangeAt w.heap.size 0 (cl g) := by
  intro j v hv
  rw [Nat.zero_add, cell_of_row _ _ j (cf g) t (0, 0) (heap_alloc_last w _)]
  unfold cf
  rw [List.getElem?_toArray]
  exact hv
theorem two_small (f : Nat → Bool) (m : Nat) : 0 ≤ ((f m).toNat : Int) ∧ ((f m).toNat : Int) ≤ 1 := by cases f m <;> decide
set_option maxHeartbeats 400000 in
theorem rword_any (f : Nat → Bool) (g : Nat → Int) (w : World) (hg : ∀ j, j < 32 → g j = ((f j).toNat : Int)) :
    Calls Try.prog 36 #[.agg (cf g)] w fun e w' => e = .returned (.int .u32 (BM.su f 32)) ∧ Below w.heap.size w w' := by
  have HG := Lib.hid hg
  clear hg
  have HT := Lib.hid (AM.hw_top f)
  have HB : Hid (Below w.heap.size w (w.alloc (.cells (cf g) 40))) := (Below.refl _ w).alloc (Nat.le_refl _) _
  go_enter Try.func36, Try.ntmps36
  go_wp2
  go_loop [3, 4] (fun x c => ∃ m : Nat, (m : Int) ≤ 32 ∧ c = .int .i64 ((m : Int) - 1) ∧ x = .int .u32 (AM.hw f m)) (fun _ c => (intOf c + 1).toNat)
  case atStart => exact ⟨32, by omega, rfl, by rw [HT.out]⟩
  case round =>
    obtain ⟨m, hm, rfl, rfl⟩ := hrel
    rcases m with _ | n
    · go_wp2
      go_ret
      exact ⟨ret_int (AM.hw_end f), HB.out⟩
    · have hn : n < 32 := by omega
      obtain ⟨b0, b1⟩ := AM.hw_bd f n hn
      obtain ⟨t0, t1⟩ := two_small f n
      have HN := Lib.hid (AM.hw_next f n hn)
      have hc : (cf g)[n]? = some (.int .u32 ((f n).toNat : Int)) := by rw [cf_get g n hn, HG.out n hn]
      rw [show (((n + 1 : Nat) : Int) - 1) = (n : Int) by omega]
      have hn' : (n : Int) < 32 := by omega
      clear hm
      go_wp2
      go_round
      case rel => exact ⟨n, by omega, rfl, by rw [← HN.out]⟩
      case measure => simp [intOf]
def rtF (x : Int) (k : Nat) : Nat → Int := fun j => BM.bt x (((j : Int) + k) % 32)
set_option maxHeartbeats 400000 in
theorem rturned_any (x : Int) (r : Nat) (w : World) (hx0 : 0 ≤ x) (hx : x < 4294967296) (h1 : (r : Int) ≤ 31) :
    Calls Try.prog 31 #[.int .u32 x, .int .i64 r] w fun e w' => e = .returned (.int .u32 (BM.rt x r)) ∧ Below w.heap.size w w' := by
  have hz := gp_zero (rtF x r)
  go_enter Try.func31, Try.ntmps31
  go_wp2
  go_loopw [6] (fun c wr => ∃ k : Nat, (k : Int) ≤ 32 ∧ c = .int .i64 k ∧ wr = w.alloc (.cells (cf (gp (rtF x r) k)) 40)) (fun c _ => (32 - intOf c).toNat)
  case atStart => exact ⟨0, by omega, rfl, by rw [hz]; rfl⟩
  case round =>
    obtain ⟨k, hk, rfl, rfl⟩ := hrel
    by_cases hlt : (k : Int) < 32
    · have HN := Lib.hid (gp_next (rtF x r) k (by omega))
      have hc := cf_get (gp (rtF x r) k) k (by omega)
      go_wp2_with (first | (go_at_call 28; refine (bit_any _ _ _ (by omega) (by omega) (by omega) (by omega)).mono ?_; rintro e w' ⟨rfl, rfl⟩))
      go_roundw
      case rel => exact ⟨k + 1, by omega, by go_num, by rw [← HN.out]; rfl⟩
      case measure => simp [intOf]; omega
    · obtain rfl : k = 32 := by omega
      have HR := Lib.hid (cl_range (gp (rtF x r) 32) w 40)
      have HB : Hid (Below w.heap.size w (w.alloc (.cells (cf (gp (rtF x r) 32)) 40))) := (Below.refl _ w).alloc (Nat.le_refl _) _
      clear hk
      have HA : Hid (∀ j, j < 32 → gp (rtF x r) 32 j = ((x.toNat.testBit ((j + r) % 32)).toNat : Int)) := gp_all _ _ fun j _ => by
        unfold rtF BM.bt; rw [show (((j : Int) + r) % 32).toNat = (j + r) % 32 by omega]
      go_wp2_with (refine wpList_load_mid rfl 40 _ rfl w.heap.size 0 rfl (cl (gp (rtF x r) 32)) _ HR.out Try.underlying40 rfl (by kernel_rfl) ?_)
      refine (rword_any (fun j => x.toNat.testBit ((j + r) % 32)) (gp (rtF x r) 32) _ HA.out).mono ?_
      rintro e w2 ⟨rfl, h2⟩
      have H2 := Lib.hid h2
      clear h2
      go_wp2
      go_ret
      exact ⟨ret_int (by unfold BM.rt; rw [show ((r : Int) % 32).toNat = r by omega]; rfl), HB.out.trans (H2.out.mono HB.out.size)⟩

theorem gp_skip (F : Nat → Int) (k : Nat) (h : F k = 0) : gp F (k + 1) = gp F k := by
  funext j
  unfold gp
  by_cases h2 : j < k
  · rw [if_pos h2, if_pos (by omega)]
  · rw [if_neg h2]
    by_cases h3 : j < k + 1
    · rw [if_pos h3, show j = k by omega, h]
    · rw [if_neg h3]
def lgF (a b l m : Int) : Nat → Int := fun j => ((AM.lgf a b l m j).toNat : Int)
theorem lg_yes (a b l m : Int) (k : Nat) (h1 : l ≤ BM.bt a k + BM.bt b k) (h2 : BM.bt a k + BM.bt b k ≤ m) : lgF a b l m k = 1 := by
  unfold lgF AM.lgf; rw [decide_eq_true h1, decide_eq_true h2]; rfl
theorem lg_low (a b l m : Int) (k : Nat) (h1 : ¬ l ≤ BM.bt a k + BM.bt b k) : lgF a b l m k = 0 := by
  unfold lgF AM.lgf; rw [decide_eq_false h1]; rfl
theorem lg_high (a b l m : Int) (k : Nat) (h2 : ¬ BM.bt a k + BM.bt b k ≤ m) : lgF a b l m k = 0 := by
  unfold lgF AM.lgf; rw [decide_eq_false h2, Bool.and_false]; rfl
set_option maxHeartbeats 800000 in
theorem rlogic_any (a b l m : Int) (w : World) (ha0 : 0 ≤ a) (ha : a < 4294967296) (hb0 : 0 ≤ b) (hb : b < 4294967296) :
    Calls Try.prog 26 #[.int .u32 a, .int .u32 b, .int .u32 l, .int .u32 m] w fun e w' => e = .returned (.int .u32 (BM.su (AM.lgf a b l m) 32)) ∧ Below w.heap.size w w' := by
  have hz := gp_zero (lgF a b l m)
  go_enter Try.func26, Try.ntmps26
  go_wp2
  go_loopw [10] (fun c wr => ∃ k : Nat, (k : Int) ≤ 32 ∧ c = .int .i64 k ∧ wr = w.alloc (.cells (cf (gp (lgF a b l m) k)) 40)) (fun c _ => (32 - intOf c).toNat)
  case atStart => exact ⟨0, by omega, rfl, by rw [hz]; rfl⟩
  case round =>
    obtain ⟨k, hk, rfl, rfl⟩ := hrel
    by_cases hlt : (k : Int) < 32
    · obtain ⟨a0, a1⟩ := BM.bt_bd a k
      obtain ⟨b0, b1⟩ := BM.bt_bd b k
      by_cases g0 : l ≤ BM.bt a k + BM.bt b k
      · by_cases g1 : BM.bt a k + BM.bt b k ≤ m
        · have HN := Lib.hid (gp_next (lgF a b l m) k (by omega))
          have HV := Lib.hid (lg_yes a b l m k g0 g1)
          have hc := cf_get (gp (lgF a b l m) k) k (by omega)
          go_wp2_with (first | (go_at_call 28; refine (bit_any _ _ _ (by omega) (by omega) (by omega) (by omega)).mono ?_; rintro e w' ⟨rfl, rfl⟩))
          go_roundw
          case rel => exact ⟨k + 1, by omega, by go_num, by rw [← HN.out, HV.out]⟩
          case measure => simp [intOf]; omega
        · have HN := Lib.hid (gp_skip (lgF a b l m) k (lg_high a b l m k g1))
          have hd : decide (BM.bt a k + BM.bt b k ≤ m) = false := by simpa using g1
          clear g1
          go_wp2_with (first | (go_at_call 28; refine (bit_any _ _ _ (by omega) (by omega) (by omega) (by omega)).mono ?_; rintro e w' ⟨rfl, rfl⟩))
          go_roundw
          case rel => exact ⟨k + 1, by omega, by go_num, by rw [HN.out]⟩
          case measure => simp [intOf]; omega
      · have HN := Lib.hid (gp_skip (lgF a b l m) k (lg_low a b l m k g0))
        have hd : decide (l ≤ BM.bt a k + BM.bt b k) = false := by simpa using g0
        clear g0
        go_wp2_with (first | (go_at_call 28; refine (bit_any _ _ _ (by omega) (by omega) (by omega) (by omega)).mono ?_; rintro e w' ⟨rfl, rfl⟩))
        go_roundw
        case rel => exact ⟨k + 1, by omega, by go_num, by rw [HN.out]⟩
        case measure => simp [intOf]; omega
    · obtain rfl : k = 32 := by omega
      have HR := Lib.hid (cl_range (gp (lgF a b l m) 32) w 40)
      have HB : Hid (Below w.heap.size w (w.alloc (.cells (cf (gp (lgF a b l m) 32)) 40))) := (Below.refl _ w).alloc (Nat.le_refl _) _
      clear hk
      have HA : Hid (∀ j, j < 32 → gp (lgF a b l m) 32 j = ((AM.lgf a b l m j).toNat : Int)) := gp_all _ _ fun j _ => rfl
      go_wp2_with (refine wpList_load_mid rfl 40 _ rfl w.heap.size 0 rfl (cl (gp (lgF a b l m) 32)) _ HR.out Try.underlying40 rfl (by kernel_rfl) ?_)
      refine (rword_any (AM.lgf a b l m) (gp (lgF a b l m) 32) _ HA.out).mono ?_
      rintro e w2 ⟨rfl, h2⟩
      have H2 := Lib.hid h2
      clear h2
      go_wp2
      go_ret
      exact ⟨rfl, HB.out.trans (H2.out.mono HB.out.size)⟩

def mvF (x b : Int) (fb : Bool) : Nat → Int := fun j => ((AM.mvf x b fb j).toNat : Int)
theorem mv_in (x b : Int) (fb : Bool) (k : Nat) (h1 : 0 ≤ (k : Int) + b) (h2 : (k : Int) + b < 32) : mvF x b fb k = BM.bt x ((k : Int) + b) := by
  unfold mvF AM.mvf BM.bt; rw [if_pos ⟨h1, h2⟩]
theorem mv_out (x b : Int) (fb : Bool) (k : Nat) (h : ¬ (0 ≤ (k : Int) + b ∧ (k : Int) + b < 32)) : mvF x b fb k = (fb.toNat : Int) := by
  unfold mvF AM.mvf; rw [if_neg h]
/-- The first k of F's, and v at k. -/
def gq (F : Nat → Int) (k : Nat) (v : Int) : Nat → Int := fun j => if j = k then v else gp F k j
theorem gq_put (F : Nat → Int) (k : Nat) (v : Int) (hk : k < 32) : (cf (gp F k)).setIfInBounds k (.int .u32 v) = cf (gq F k v) := cf_set _ _ _ hk
theorem gq_end (F : Nat → Int) (k : Nat) (hk : k < 32) : cf (gq F k (F k)) = cf (gp F (k + 1)) := by rw [← gp_next F k hk]; exact (gq_put F k (F k) hk).symm
theorem gq_next (F : Nat → Int) (k : Nat) (v : Int) (hk : k < 32) : (cf (gq F k v)).setIfInBounds k (.int .u32 (F k)) = cf (gp F (k + 1)) := by
  rw [cf_set _ _ _ hk, ← gq_end F k hk]
  congr 1
  funext j
  unfold gq
  by_cases h : j = k
  · rw [if_pos h, if_pos h]
  · rw [if_neg h, if_neg h, if_neg h]
set_option maxHeartbeats 800000 in
theorem rmoved_any (x b v : Int) (fb : Bool) (w : World) (ha0 : 0 ≤ x) (ha : x < 4294967296) (hb0 : -31 ≤ b) (hb : b ≤ 31) (hv : Hid (v = (fb.toNat : Int))) :
    Calls Try.prog 27 #[.int .u32 x, .int .i64 b, .int .u32 v] w fun e w' => e = .returned (.int .u32 (AM.mv x b fb)) ∧ Below w.heap.size w w' := by
  have hz := gp_zero (mvF x b fb)
  go_enter Try.func27, Try.ntmps27
  go_wp2
  go_loopw [8] (fun c wr => ∃ k : Nat, (k : Int) ≤ 32 ∧ c = .int .i64 k ∧ wr = w.alloc (.cells (cf (gp (mvF x b fb) k)) 40)) (fun c _ => (32 - intOf c).toNat)
  case atStart => exact ⟨0, by omega, rfl, by rw [hz]; rfl⟩
  case round =>
    obtain ⟨k, hk, rfl, rfl⟩ := hrel
    by_cases hlt : (k : Int) < 32
    · have hc := cf_get (gp (mvF x b fb) k) k (by omega)
      have hp := gq_put (mvF x b fb) k v (by omega)
      have hc2 := cf_get (gq (mvF x b fb) k v) k (by omega)
      by_cases g0 : 0 ≤ (k : Int) + b
      · by_cases g1 : (k : Int) + b < 32
        · have HN := Lib.hid (gq_next (mvF x b fb) k v (by omega))
          have HV := Lib.hid (mv_in x b fb k g0 g1)
          go_wp2_with (first | (go_at_call 28; refine (bit_any _ _ _ (by omega) (by omega) (by omega) (by omega)).mono ?_; rintro e w' ⟨rfl, rfl⟩))
          go_roundw
          case rel => exact ⟨k + 1, by omega, by go_num, by rw [← HN.out, HV.out]⟩
          case measure => simp [intOf]; omega
        · have HN : Hid (cf (gq (mvF x b fb) k v) = cf (gp (mvF x b fb) (k + 1))) := by
            show cf (gq (mvF x b fb) k v) = cf (gp (mvF x b fb) (k + 1))
            rw [← gq_end _ k (by omega), mv_out x b fb k (by omega), ← hv.out]
          have hd : decide ((k : Int) + b < 32) = false := by simpa using g1
          clear g1
          go_wp2
          go_roundw
          case rel => exact ⟨k + 1, by omega, by go_num, by rw [HN.out]⟩
          case measure => simp [intOf]; omega
      · have HN : Hid (cf (gq (mvF x b fb) k v) = cf (gp (mvF x b fb) (k + 1))) := by
          show cf (gq (mvF x b fb) k v) = cf (gp (mvF x b fb) (k + 1))
          rw [← gq_end _ k (by omega), mv_out x b fb k (by omega), ← hv.out]
        have hd : decide (0 ≤ (k : Int) + b) = false := by simpa using g0
        clear g0
        go_wp2
        go_roundw
        case rel => exact ⟨k + 1, by omega, by go_num, by rw [HN.out]⟩
        case measure => simp [intOf]; omega
    · obtain rfl : k = 32 := by omega
      have HR := Lib.hid (cl_range (gp (mvF x b fb) 32) w 40)
      have HB : Hid (Below w.heap.size w (w.alloc (.cells (cf (gp (mvF x b fb) 32)) 40))) := (Below.refl _ w).alloc (Nat.le_refl _) _
      clear hk
      have HA : Hid (∀ j, j < 32 → gp (mvF x b fb) 32 j = ((AM.mvf x b fb j).toNat : Int)) := gp_all _ _ fun j _ => rfl
      go_wp2_with (refine wpList_load_mid rfl 40 _ rfl w.heap.size 0 rfl (cl (gp (mvF x b fb) 32)) _ HR.out Try.underlying40 rfl (by kernel_rfl) ?_)
      refine (rword_any (AM.mvf x b fb) (gp (mvF x b fb) 32) _ HA.out).mono ?_
      rintro e w2 ⟨rfl, h2⟩
      have H2 := Lib.hid h2
      clear h2
      go_wp2
      go_ret
      exact ⟨rfl, HB.out.trans (H2.out.mono HB.out.size)⟩
end Go.Proofs.Ytjlgaihihgifbaa
