/-
  What is read from a word, and what Dec answers, for every word, of package inst and of the reference; none changes memory that was there.
-/
import Derived.Test.YtfgkcjalfhbjjaaDoorS06WalkE
namespace Go.Proofs.YtfgkcjalfhbjjaaDoor.S06
open Go.RowKit S01
theorem sv_wrap (x : Int) (h0 : 0 ≤ x) (h1 : x < 4294967296) : wrap32 x = IM.sv x := by
  unfold IM.sv wrap32
  split <;> omega
theorem sv_bd (x : Int) (h0 : 0 ≤ x) (h1 : x < 4294967296) : -2147483648 ≤ IM.sv x ∧ IM.sv x < 2147483648 := by
  unfold IM.sv
  split <;> omega
/-- An instruction lies in the block s. -/
def At (w : World) (s : Nat) (o d a b m : Int) : Prop :=
  (w.cell? ⟨s, 0, none⟩ = some (.int .i64 o) ∧ w.cell? ⟨s, 1, none⟩ = some (.int .i64 d) ∧ w.cell? ⟨s, 2, none⟩ = some (.int .i64 a) ∧ w.cell? ⟨s, 3, none⟩ = some (.int .i64 b) ∧ w.cell? ⟨s, 4, none⟩ = some (.int .i64 m)) ∧
  (w.frozen? ⟨s, 0, none⟩ = false ∧ w.frozen? ⟨s, 1, none⟩ = false ∧ w.frozen? ⟨s, 2, none⟩ = false ∧ w.frozen? ⟨s, 3, none⟩ = false ∧ w.frozen? ⟨s, 4, none⟩ = false)
theorem At.below {w w1 : World} {s : Nat} {o d a b m : Int} (hA : At w s o d a b m) (hs : s < w.heap.size) (hb : Below w.heap.size w w1) : At w1 s o d a b m := by
  obtain ⟨⟨c0, c1, c2, c3, c4⟩, f0, f1, f2, f3, f4⟩ := hA
  exact ⟨⟨(hb.cell hs).trans c0, (hb.cell hs).trans c1, (hb.cell hs).trans c2, (hb.cell hs).trans c3, (hb.cell hs).trans c4⟩, (hb.frozen hs).trans f0, (hb.frozen hs).trans f1, (hb.frozen hs).trans f2, (hb.frozen hs).trans f3, (hb.frozen hs).trans f4⟩
theorem At.new (w : World) (t : TypeId) (o d a b m : Int) : At (w.alloc (.cells #[.int .i64 o, .int .i64 d, .int .i64 a, .int .i64 b, .int .i64 m] t)) w.heap.size o d a b m := by
  refine ⟨⟨?_, ?_, ?_, ?_, ?_⟩, ?_, ?_, ?_, ?_, ?_⟩ <;> simp [go_sem]
theorem At.more {w : World} {s : Nat} {o d a b m : Int} (hA : At w s o d a b m) (hs : s < w.heap.size) (x : Obj) : At (w.alloc x) s o d a b m := hA.below hs ((Below.refl _ _).alloc (Nat.le_refl _) _)
theorem drew_below {w w1 : World} (h : ∃ n, w1 = w.drewN n) : Below w.heap.size w w1 ∧ w1.heap.size = w.heap.size := by
  obtain ⟨n, rfl⟩ := h
  exact ⟨below_drewN (Below.refl _ _) n, by simp⟩

end Go.Proofs.YtfgkcjalfhbjjaaDoor.S06
