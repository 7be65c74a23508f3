/-
  The comparison of two rows of bytes, and the reference's Merge: what they answer for every row that the call itself made, and for every word and place.
-/
import Derived.Test.YtdkpigfhdiopmaaS01WalkG
namespace Go.Proofs.Ytdkpigfhdiopmaa.S01
open Go.RowKit

/-- What is known of a row that is owned. -/
theorem own_open {w : World} {B n : Nat} {x : Value} {l : List Int} (h : w.ownsRow B 5 1 x n (cs l)) :
    (n = 0 ∧ ∃ ao cap, x = .slice ao 0 cap) ∨ (∃ g cap, x = .slice (some ⟨g, 0, none⟩) n cap ∧ B ≤ g ∧ g < w.heap.size ∧ ∀ i, i < n → w.cell? ⟨g, i, none⟩ = some (.int .u8 (l.getD i 0))) := by
  have hlen : l.length = n := by have := h.1; rw [cs_len] at this; omega
  have hlt := h.lt
  rcases h.2 with ⟨rfl, rfl⟩ | ⟨g, cap, cur, rfl, hb, _⟩
  · exact .inl ⟨rfl, _, _, rfl⟩
  · refine .inr ⟨g, cap, rfl, hb, (hlt g rfl).2, fun i hi => ?_⟩
    rw [h.cellAt i (by omega)]
    have hi' : i < l.length := by omega
    simp [cs, hi']

set_option maxHeartbeats 800000 in
theorem same_none (ao bo : Option Addr) (c d : Nat) (w : World) :
    Calls Try.prog 18 #[.slice ao 0 c, .slice bo 0 d] w fun e w' => e = .returned (.bool true) ∧ Dr w w' := by
  go_enter Try.func18, Try.ntmps18
  go_wp2
  refine wp_loop_rounds 1 ?_
  rw [rounds_succ]
  go_wp2
  go_ret
  exact ⟨rfl, Dr.refl _⟩
set_option maxHeartbeats 800000 in
theorem same_some (g h n c d : Nat) (l : List Int) (w : World) (hn : n ≤ 4) (H1 : Hid (∀ i, i < n → w.cell? ⟨g, i, none⟩ = some (.int .u8 (l.getD i 0)))) (H2 : Hid (∀ i, i < n → w.cell? ⟨h, i, none⟩ = some (.int .u8 (l.getD i 0)))) :
    Calls Try.prog 18 #[.slice (some ⟨g, 0, none⟩) n c, .slice (some ⟨h, 0, none⟩) n d] w fun e w' => e = .returned (.bool true) ∧ Dr w w' := by
  go_enter Try.func18, Try.ntmps18
  go_wp2
  go_loopw [5] (fun i wr => ∃ k : Nat, (k : Int) ≤ n ∧ i = .int .i64 k ∧ Dr w wr) (fun i _ => (4 - intOf i).toNat)
  case atStart => exact ⟨0, by omega, rfl, Dr.refl _⟩
  case round =>
    obtain ⟨k, hk, rfl, hdr⟩ := hrel
    by_cases hlt : (k : Int) < n
    · have h1 := (hdr.cell _).trans (H1.out k (by omega))
      have h2 := (hdr.cell _).trans (H2.out k (by omega))
      have HD := Lib.hid hdr
      clear hdr
      generalize l.getD k 0 = x at *
      go_wp2
      go_quiet (fail)
      go_wp2
      go_roundw
      case rel => exact ⟨k + 1, by omega, by go_num, HD.out.more _⟩
      case measure => simp [intOf]; omega
    · have hd : decide ((k : Int) < n) = false := by simp; omega
      have HD := Lib.hid hdr
      clear hdr
      go_wp2
      go_ret
      exact ⟨rfl, HD.out⟩
theorem same_own (x y : Value) (n B C : Nat) (l : List Int) (w : World) (hn : n ≤ 4) (hx : w.ownsRow B 5 1 x n (cs l)) (hy : w.ownsRow C 5 1 y n (cs l)) :
    Calls Try.prog 18 #[x, y] w fun e w' => e = .returned (.bool true) ∧ Dr w w' := by
  rcases own_open hx with ⟨h0, ao, c, rfl⟩ | ⟨g, c, rfl, _, _, h1⟩
  · rcases own_open hy with ⟨_, bo, d, rfl⟩ | ⟨h, d, rfl, _, _, h2⟩
    · exact same_none ao bo c d w
    · subst h0; exact same_none ao _ c d w
  · rcases own_open hy with ⟨h0, bo, d, rfl⟩ | ⟨h, d, rfl, _, _, h2⟩
    · subst h0; exact same_none _ bo c d w
    · exact same_some g h n c d l w hn h1 h2
theorem of_own (x : Value) (n B : Nat) (l : List Int) (w : World) (hn : n ≤ 4) (hl : BM.Bs l) (hx : w.ownsRow B 5 1 x n (cs l)) :
    Calls Try.prog 23 #[x] w fun e w' => e = .returned (.int .u32 (BM.wo l)) ∧ w = w' := by
  have hlen : l.length = n := by have := hx.1; rw [cs_len] at this; omega
  rcases own_open hx with ⟨h0, ao, c, rfl⟩ | ⟨g, c, rfl, _, _, h1⟩
  · obtain rfl : l = [] := List.length_eq_zero_iff.mp (by omega)
    exact of_empty ao c w
  · exact of_low g 0 n c l w hl hlen hn (fun i _ hi => by rw [Nat.zero_add]; exact h1 i hi)
end Go.Proofs.Ytdkpigfhdiopmaa.S01
