/-
  Whether each control register of a core has none but its bits, as the laws ask it.
-/
import Derived.Test.YtiakoflgcpahgaaWalkG
namespace Go.Proofs.Ytiakoflgcpahgaa
open Go.RowKit S01 S10
set_option maxHeartbeats 800000 in
theorem bits_any (f : Nat → Int) (h b : Bool) (w : World) (hf : CM.Ok f) (hb : b = true ↔ CM.bq f) :
    Calls Try.prog 21 #[AR f h] w fun e w' => e = .returned (.bool b) ∧ Below w.heap.size w w' := by
  have HF := Lib.hid hf
  have HQ := Lib.hid hb
  clear hf hb
  unfold AR
  go_enter Try.func21, Try.ntmps21
  go_upto_region 1 with fail
  have HK := Lib.hid (Bk.new w f h)
  have HB := Lib.hid (below_one w (.cells (AC f h).toArray 26))
  generalize World.alloc w _ = W1 at HK HB ⊢
  go_wp2
  go_loopw [3] (fun c wr => ∃ k m : Nat, (k : Int) ≤ 12 ∧ c = .int .i64 k ∧ wr = W1.drewN m ∧ Hid (∀ i : Nat, i < k → CM.an (f (17 + i)) (CM.mk i) = f (17 + i))) (fun c _ => (12 - intOf c).toNat)
  case atStart => exact ⟨0, 0, by omega, rfl, rfl, Lib.hid fun i hi => absurd hi (Nat.not_lt_zero i)⟩
  case round =>
    obtain ⟨k, m, hk, rfl, rfl, hI⟩ := hrel
    by_cases hlt : (k : Int) < 12
    · have c0 := HK.out.cell (k := 17 + k) (by omega)
      obtain ⟨x0, x1⟩ := HF.out (17 + k) (by omega)
      have HM := Lib.hid (fun W => rmasked_any k W)
      have e0 := and_an (f (17 + k)) (CM.mk k) ⟨x0, x1⟩ (CM.mk_bd k)
      by_cases hs : CM.an (f (17 + k)) (CM.mk k) = f (17 + k)
      · have HI2 : Hid (∀ i : Nat, i < k + 1 → CM.an (f (17 + i)) (CM.mk i) = f (17 + i)) := Lib.hid fun i hi => by
          by_cases h2 : i = k
          · rw [h2]; exact hs
          · exact hI.out i (by omega)
        rw [hs] at e0
        clear hs hI
        generalize CM.mk (k : Int) = mm at HM e0
        generalize f (17 + k) = x at c0 x0 x1 e0
        go_wp2
        go_quiet ((go_at_call 13; exact q_same2 HM.out))
        go_wp2
        go_roundw
        case rel => exact ⟨k + 1, _, by omega, by go_num, rfl, HI2⟩
        case measure => simp [intOf]; omega
      · have HN : Hid (b = false) := by
          cases b with
          | false => rfl
          | true => exact absurd (HQ.out.1 rfl k (by omega)) hs
        generalize CM.mk (k : Int) = mm at HM e0 hs
        generalize CM.an (f (17 + k)) mm = y at e0 hs
        generalize f (17 + k) = x at c0 x0 x1 e0 hs
        have z : (y != x) = true := by simpa using hs
        go_wp2
        go_quiet ((go_at_call 13; exact q_same2 HM.out))
        go_wp2
        go_ret
        exact ⟨ret_bool HN.out.symm, below_drewN (below_drewN HB.out _) _⟩
    · obtain rfl : k = 12 := by omega
      have HN : Hid (b = true) := HQ.out.2 fun i hi => hI.out i (by omega)
      clear hk
      go_wp2
      go_ret
      exact ⟨ret_bool HN.out.symm, below_drewN HB.out _⟩
end Go.Proofs.Ytiakoflgcpahgaa
