/-
  What Diff makes: new memory with the indices at which two slices of bytes differ; nothing that was there is changed. For slices of a bounded length.
-/
import Derived.Test.YtbeenmglgdhbjaaS10WalkE
import Derived.Deep.QuietTactic
import Derived.BigQuiet
namespace Go.Proofs.Ytbeenmglgdhbjaa.S10
open Go.RowKit Go.Maps S01
theorem info3 : (Try.prog.info? 3).map (fun i => (i.zero, i.size, i.bytes)) = some (some (.int .i64 0), 1, 8) := by kernel_rfl
/-- What the loop keeps: the differences found so far, in memory of its own. -/
def DfR (w wr : World) (x : Value) (a b : List UInt8) (k : Nat) : Prop := wr.ownsRow w.heap.size 3 1 x (MM.df a b k).length (inC (MM.df a b k)) ∧ Below w.heap.size w wr
theorem DfR.start (w : World) (a b : List UInt8) : DfR w w (.slice none 0 0) a b 0 := ⟨World.ownsRow_nil _ _ _ _, Below.refl _ _⟩
theorem DfR.drew {w wr : World} {x : Value} {a b : List UInt8} {k : Nat} (h : DfR w wr x a b k) (n : Nat) : DfR w (wr.drewN n) x a b k := ⟨own_later h.1 (below_drewN' _ _), below_then h.2 (below_drewN' _ _)⟩
theorem DfR.skip {w wr : World} {x : Value} {a b : List UInt8} {k : Nat} (h : DfR w wr x a b k) (e : a[k]? = b[k]?) : DfR w wr x a b (k + 1) := by
  unfold DfR
  rw [MM.df_succ, if_pos e, List.append_nil]
  exact h
theorem DfR.more {w wr w1 : World} {x x' : Value} {a b : List UInt8} {k n : Nat} {xs : List Value} (h : DfR w wr x a b k) (e : a[k]? ≠ b[k]?) {o : Obj} (hn : (MM.df a b k).length = n) (hxs : inC (MM.df a b k) = xs) (hown : w1.ownsRow w.heap.size 3 1 x' (n + 1) (xs ++ [.int .i64 k])) (hg : (wr.alloc o).grownBy w1 x.ownBlock) : DfR w w1 x' a b (k + 1) := by
  subst hn hxs
  unfold DfR
  rw [MM.df_succ, if_neg e]
  refine ⟨?_, (h.2.alloc h.2.size o).grown hg (Nat.le_trans h.2.size (by simp)) fun j hj => (h.1.lt j hj).1⟩
  rw [List.length_append, inC, List.map_append]
  exact hown
theorem at_both {a b : List UInt8} {k : Nat} (ha : k < a.length) (hb : k < b.length) : (a[k]? = b[k]?) ↔ ((a.getD k 0).toNat : Int) = ((b.getD k 0).toNat : Int) := by
  rw [getD_some ha, getD_some hb, Option.some.injEq, ← UInt8.toNat_inj]
  omega
theorem at_one {a b : List UInt8} {k : Nat} (h : (a.length ≤ k ∧ k < b.length) ∨ (b.length ≤ k ∧ k < a.length)) : a[k]? ≠ b[k]? := by
  rcases h with ⟨h1, h2⟩ | ⟨h1, h2⟩
  · rw [List.getElem?_eq_none h1, getD_some h2]; simp
  · rw [List.getElem?_eq_none h1, getD_some h2]; simp
/-- Where the bytes of a slice lie. -/
theorem by_cells {w : World} {A : Option Addr} {n c : Nat} {bs : List UInt8} (h : ByR w (.slice A n c) bs) (hn : bs.length = n) : ∀ k, k < n → ∃ g o, A = some ⟨g, o, none⟩ ∧ w.cell? ⟨g, o + k, none⟩ = some (.int .u8 (bs.getD k 0).toNat) := by
  intro k hk
  obtain ⟨g, o, e, -, -, hc⟩ := by_at h hn (by omega)
  exact ⟨g, o, e, hc k hk⟩
end Go.Proofs.Ytbeenmglgdhbjaa.S10
