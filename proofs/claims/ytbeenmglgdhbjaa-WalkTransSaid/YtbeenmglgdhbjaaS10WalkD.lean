/-
  What Write makes: new memory with the number stored; nothing that was there is changed. For every slice of bytes of a bounded length.
-/
import Derived.Test.YtbeenmglgdhbjaaS10WalkC
import Derived.Laws.CopyOwn
import Derived.Deep.RegionLaw
import Derived.Deep.Cut
namespace Go.Proofs.Ytbeenmglgdhbjaa.S10
open Go.RowKit Go.Maps S01
/-- What a write answers. -/
def MM.wt (m : List UInt8) (x s : Int) (u : Nat) : List UInt8 := if MM.ck m.length x s = 0 then MM.wr m x.toNat s.toNat u else []
theorem splice_front {α : Type} (L : List α) (z n : Nat) (ds : List α) (h : z + ds.length ≤ n) (hn : n ≤ L.length) : (splice L z ds).take n = splice (L.take n) z ds := by
  unfold splice
  rw [List.take_append, List.length_take, Nat.min_eq_left (show z ≤ L.length by omega), List.take_of_length_le (by rw [List.length_take]; omega), List.take_append, List.take_of_length_le (show ds.length ≤ n - z by omega), List.take_take, Nat.min_eq_left (show z ≤ n by omega), List.drop_take, show n - z - ds.length = n - (z + ds.length) by omega]
theorem own_spliced {w : World} {G n cap N z : Nat} {cur : List Value} {bs ds : List UInt8} (hg : w.heap[G]? = some (.cells (splice cur z (byC ds)).toArray 5 (0, 0))) (hN : N ≤ G) (hnc : n ≤ cap) (hcm : cap ≤ maxLen) (hsz : cur.length = cap * 1) (htake : cur.take (n * 1) = byC bs) (hn : bs.length = n) (hf : z + ds.length ≤ n) :
    w.ownsRow N 5 1 (.slice (some ⟨G, 0, none⟩) n cap) n (byC (splice bs z ds)) := by
  rw [Nat.mul_one] at hsz htake
  refine ⟨by rw [byC_len, length_splice _ _ _ (by omega)]; omega, .inr ⟨G, cap, _, rfl, hN, hg, hnc, hcm, ?_, ?_⟩⟩
  · rw [List.size_toArray, length_splice _ _ _ (by rw [byC_len]; omega)]; omega
  · rw [Nat.mul_one, List.toList_toArray, splice_front _ _ _ _ (by rw [byC_len]; omega) (by omega), htake, byC_splice]
theorem own_gone {w : World} {N n : Nat} {v : Value} {bs : List UInt8} (h : w.ownsRow N 5 1 v n (byC bs)) (h0 : 0 < n) : ∃ G cap cur, v = .slice (some ⟨G, 0, none⟩) n cap ∧ N ≤ G ∧ w.heap[G]? = some (.cells (cur : List Value).toArray 5 (0, 0)) ∧ n ≤ cap ∧ cap ≤ maxLen ∧ cur.length = cap * 1 ∧ cur.take (n * 1) = byC bs := by
  rcases h.2 with ⟨_, h⟩ | ⟨g, cap, cur, h1, h2, h3, h4, h5, h6, h7⟩
  · omega
  · exact ⟨g, cap, cur.toList, h1, h2, by rw [h3], h4, h5, by rw [Array.length_toList]; exact h6, h7⟩
end Go.Proofs.Ytbeenmglgdhbjaa.S10
