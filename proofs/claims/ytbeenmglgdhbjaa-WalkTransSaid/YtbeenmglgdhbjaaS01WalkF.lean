/-
  What bits.Of and the reference's Of answer, for every slice of bytes of at most 100 elements; neither changes memory.
-/
import Derived.Test.YtbeenmglgdhbjaaS01WalkE
import Derived.Test.YtbeenmglgdhbjaaS01MathE
namespace Go.Proofs.Ytbeenmglgdhbjaa.S01
open Go.RowKit

/-- A world that has only drawn since. -/
def Dr (w w' : World) : Prop := ∃ n, w' = w.drewN n
theorem Dr.refl (w : World) : Dr w w := ⟨0, rfl⟩
theorem Dr.more {w w' : World} (h : Dr w w') (m : Nat) : Dr w (w'.drewN m) := by
  obtain ⟨n, rfl⟩ := h
  exact ⟨n + m, by rw [World.drewN_drewN]⟩
theorem Dr.cell {w w' : World} (h : Dr w w') (a : Addr) : w'.cell? a = w.cell? a := by
  obtain ⟨n, rfl⟩ := h; rfl

/-- The slice's first four cells are the list's. -/
def Four (w : World) (g off len : Nat) (l : List Int) : Prop := ∀ i : Nat, i < 4 → i < len → w.cell? ⟨g, off + i, none⟩ = some (.int .u8 (l.getD i 0))
theorem ow_or' (l : List Int) (hl : BM.Bs l) (k : Nat) (hk : k < 4) : bits .or .u32 (BM.ow l k) (l.getD k 0 * 2 ^ (8 * k) % 4294967296) = BM.ow l (k + 1) := by
  have := BM.ow_or l hl k hk
  rwa [show (8 * (k : Int)).toNat = 8 * k by omega] at this

set_option maxHeartbeats 800000 in
theorem of_low (g off len cap : Nat) (l : List Int) (w : World) (hl : BM.Bs l) (hlen : Hid (l.length = len)) (hle : len ≤ 4) (hF : Hid (Four w g off len l)) :
    Calls Try.prog 49 #[.slice (some ⟨g, off, none⟩) len cap] w fun e w' => e = .returned (.int .u32 (BM.wo l)) ∧ w = w' := by
  have HL := Lib.hid hl
  clear hl
  go_enter Try.func49, Try.ntmps49
  go_wp2
  go_loop [3, 8] (fun o i => ∃ k : Nat, (k : Int) ≤ len ∧ i = .int .i64 k ∧ o = .int .u32 (BM.ow l k)) (fun _ i => (4 - intOf i).toNat)
  case atStart => exact ⟨0, by omega, rfl, rfl⟩
  case round =>
    obtain ⟨k, hk, rfl, rfl⟩ := hrel
    by_cases hlt : (k : Int) < len
    · have HO := Lib.hid (ow_or' l HL.out k (by omega))
      have hcell := hF.out k (by omega) (by omega)
      obtain ⟨b0, b1⟩ := HL.out k
      generalize l.getD k 0 = c at *
      go_wp2
      go_round
      case rel => exact ⟨k + 1, by omega, by go_num, by rw [HO.out]⟩
      case measure => simp [intOf]; omega
    · go_wp2
      go_ret
      exact ⟨ret_int (by unfold BM.wo; rw [hlen.out, show min 4 len = k by omega]), rfl⟩
set_option maxHeartbeats 800000 in
theorem of_high (g off len cap : Nat) (l : List Int) (w : World) (hl : BM.Bs l) (hlen : Hid (l.length = len)) (hgt : 4 < len) (hle : len ≤ 100) (hF : Hid (Four w g off len l)) :
    Calls Try.prog 49 #[.slice (some ⟨g, off, none⟩) len cap] w fun e w' => e = .returned (.int .u32 (BM.wo l)) ∧ w = w' := by
  have HL := Lib.hid hl
  clear hl
  go_enter Try.func49, Try.ntmps49
  go_wp2
  go_loop [3, 8] (fun o i => ∃ k : Nat, (k : Int) ≤ 4 ∧ i = .int .i64 k ∧ o = .int .u32 (BM.ow l k)) (fun _ i => (4 - intOf i).toNat)
  case atStart => exact ⟨0, by omega, rfl, rfl⟩
  case round =>
    obtain ⟨k, hk, rfl, rfl⟩ := hrel
    by_cases hlt : (k : Int) < 4
    · have HO := Lib.hid (ow_or' l HL.out k (by omega))
      have hcell := hF.out k (by omega) (by omega)
      have hlt' : (k : Int) < len := by omega
      obtain ⟨b0, b1⟩ := HL.out k
      generalize l.getD k 0 = c at *
      go_wp2
      go_round
      case rel => exact ⟨k + 1, by omega, by go_num, by rw [HO.out]⟩
      case measure => simp [intOf]; omega
    · go_wp2
      go_ret
      exact ⟨ret_int (by unfold BM.wo; rw [hlen.out, show min 4 len = k by omega]), rfl⟩
set_option maxHeartbeats 800000 in
theorem of_empty (ao : Option Addr) (cap : Nat) (w : World) :
    Calls Try.prog 49 #[.slice ao 0 cap] w fun e w' => e = .returned (.int .u32 (BM.wo [])) ∧ w = w' := by
  go_enter Try.func49, Try.ntmps49
  go_wp2
  refine wp_loop_rounds 1 ?_
  rw [rounds_succ]
  go_wp2
  go_ret
  exact ⟨rfl, rfl⟩
end Go.Proofs.Ytbeenmglgdhbjaa.S01
