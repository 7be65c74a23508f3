/-
  The comparison of two rows of texts: true for two rows of one list of texts that the call itself made.
-/
import Derived.Test.YtfeekgepmemanaaDoorWalkE
namespace Go.Proofs.YtfeekgepmemanaaDoor
open Go.RowKit
/-- The world has only drawn. -/
def Dr (w w' : World) : Prop := ∃ n, w' = w.drewN n
theorem Dr.refl (w : World) : Dr w w := ⟨0, rfl⟩
theorem Dr.cell {w w' : World} (h : Dr w w') (a : Addr) : w'.cell? a = w.cell? a := by obtain ⟨n, rfl⟩ := h; rfl
theorem Dr.more {w w' : World} (h : Dr w w') (n : Nat) : Dr w (w'.drewN n) := by obtain ⟨m, rfl⟩ := h; exact ⟨m + n, by simp⟩
theorem Dr.below {w w' : World} (h : Dr w w') : Below w.heap.size w w' := by
  obtain ⟨n, rfl⟩ := h
  exact below_drewN (Below.refl _ _) n
theorem own_open {w : World} {B n : Nat} {x : Value} {l : List (List UInt8)} (h : w.ownsRow B 9 1 x n (l.map NM.tv)) :
    (n = 0 ∧ ∃ ao cap, x = .slice ao 0 cap) ∨ (∃ g cap, x = .slice (some ⟨g, 0, none⟩) n cap ∧ ∀ i, i < n → w.cell? ⟨g, i, none⟩ = some (NM.tv (l.getD i []))) := by
  have hlen : l.length = n := by have := h.1; rw [List.length_map] at this; omega
  rcases h.2 with ⟨rfl, rfl⟩ | ⟨g, cap, cur, rfl, hb, _⟩
  · exact .inl ⟨rfl, _, _, rfl⟩
  · refine .inr ⟨g, cap, rfl, fun i hi => ?_⟩
    rw [h.cellAt i (by omega)]
    have hi' : i < l.length := by omega
    simp [hi']
set_option maxHeartbeats 800000 in
theorem texts_none (ao bo : Option Addr) (c d : Nat) (w : World) :
    Calls Tryd.prog 16 #[.slice ao 0 c, .slice bo 0 d] w fun e w' => e = .returned (.bool true) ∧ Dr w w' := by
  go_enter Tryd.func16, Tryd.ntmps16
  go_wp2
  refine wp_loop_rounds 1 ?_
  rw [rounds_succ]
  go_wp2
  go_ret
  exact ⟨rfl, Dr.refl _⟩
set_option maxHeartbeats 800000 in
theorem texts_some (g h n c d : Nat) (l : List (List UInt8)) (w : World) (hn : n ≤ 100000) (H1 : Hid (∀ i, i < n → w.cell? ⟨g, i, none⟩ = some (NM.tv (l.getD i [])))) (H2 : Hid (∀ i, i < n → w.cell? ⟨h, i, none⟩ = some (NM.tv (l.getD i [])))) :
    Calls Tryd.prog 16 #[.slice (some ⟨g, 0, none⟩) n c, .slice (some ⟨h, 0, none⟩) n d] w fun e w' => e = .returned (.bool true) ∧ Dr w w' := by
  go_enter Tryd.func16, Tryd.ntmps16
  go_wp2
  go_loopw [5] (fun i wr => ∃ k : Nat, k ≤ n ∧ i = .int .i64 k ∧ Dr w wr) (fun i _ => n - (intOf i).toNat)
  case atStart => exact ⟨0, by omega, rfl, Dr.refl _⟩
  case round =>
    obtain ⟨k, hk, rfl, hdr⟩ := hrel
    by_cases hlt : k < n
    · have h1 := (hdr.cell _).trans (H1.out k (by omega))
      have h2 := (hdr.cell _).trans (H2.out k (by omega))
      have HD := Lib.hid hdr
      clear hdr
      unfold NM.tv at h1 h2
      generalize (⟨(l.getD k []).toArray⟩ : ByteArray) = x at *
      go_wp2
      go_quiet (fail)
      go_wp2
      go_roundw
      case rel => exact ⟨k + 1, by omega, by go_num, HD.out.more _⟩
      case measure => simp [intOf]; omega
    · have HD := Lib.hid hdr
      clear hdr
      go_wp2
      go_ret
      exact ⟨rfl, HD.out⟩
theorem texts_own (x y : Value) (B C : Nat) (l : List (List UInt8)) (w : World) (hn : l.length ≤ 100000) (hx : w.ownsRow B 9 1 x l.length (l.map NM.tv)) (hy : w.ownsRow C 9 1 y l.length (l.map NM.tv)) :
    Calls Tryd.prog 16 #[x, y] w fun e w' => e = .returned (.bool true) ∧ Dr w w' := by
  generalize hn' : l.length = n at *
  rcases own_open hx with ⟨h0, ao, c, rfl⟩ | ⟨g, c, rfl, h1⟩
  · rcases own_open hy with ⟨_, bo, d, rfl⟩ | ⟨h, d, rfl, h2⟩
    · exact texts_none ao bo c d w
    · subst h0; exact texts_none ao _ c d w
  · rcases own_open hy with ⟨h0, bo, d, rfl⟩ | ⟨h, d, rfl, h2⟩
    · subst h0; exact texts_none _ bo c d w
    · exact texts_some g h n c d l w hn h1 h2
theorem own_below {w w' : World} {B n : Nat} {x : Value} {l : List Value} (h : w.ownsRow B 9 1 x n l) (hb : Below w.heap.size w w') : w'.ownsRow B 9 1 x n l := by
  refine ⟨h.1, ?_⟩
  have hlt := h.lt
  rcases h.2 with h' | ⟨g, cap, cur, rfl, h1, h2, h3⟩
  · exact .inl h'
  · exact .inr ⟨g, cap, cur, rfl, h1, (hb.block g (hlt g rfl).2).trans h2, h3⟩
end Go.Proofs.YtfeekgepmemanaaDoor
