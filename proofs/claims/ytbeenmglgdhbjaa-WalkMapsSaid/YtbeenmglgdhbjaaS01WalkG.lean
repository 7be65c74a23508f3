/-
  What bits.Bytes and the reference's Bytes make, for every word and size: new memory that holds the word's bytes; nothing that was there is changed.
-/
import Derived.Test.YtbeenmglgdhbjaaS01WalkF
namespace Go.Proofs.Ytbeenmglgdhbjaa.S01
open Go.RowKit

theorem info5 : (Try.prog.info? 5).map (fun i => (i.zero, i.size, i.bytes)) = some (some (.int .u8 0), 1, 1) := by kernel_rfl
/-- Bytes as cells. -/
def cs (l : List Int) : List Value := l.map (Value.int .u8)
theorem cs_len (l : List Int) : (cs l).length = l.length := by simp [cs]
/-- New memory that holds n bytes; the rest is as it was. -/
def Made (w : World) (v : Value) (n : Nat) (l : List Int) (w' : World) : Prop := w'.ownsRow w.heap.size 5 1 v n (cs l) ∧ Below w.heap.size w w'

theorem clamp_at (n lo hi m : Int) (w : World) (h : lo ≤ hi) (hm : BM.cl n lo hi = m) :
    Calls Try.prog 51 #[.int .i64 n, .int .i64 lo, .int .i64 hi] w fun e w' => e = .returned (.int .i64 m) ∧ w = w' := by
  subst hm; exact clamp_any n lo hi w h
/-- The bytes so far, then noughts. -/
def part (v : Int) (n k : Nat) : List Int := BM.bl v k ++ List.replicate (n - k) 0
theorem part_len (v : Int) (n k : Nat) (h : k ≤ n) : (part v n k).length = n := by simp [part, BM.bl_len]; omega
theorem part_zero (v : Int) (n : Nat) : part v n 0 = List.replicate n 0 := by simp [part, BM.bl]
theorem part_full (v : Int) (n : Nat) : part v n n = BM.bl v n := by simp [part]
theorem part_set (v : Int) (n k : Nat) (h : k < n) : (cs (part v n k)).set k (.int .u8 (BM.bb v k)) = cs (part v n (k + 1)) := by
  unfold cs part
  rw [BM.bl_succ, show n - k = (n - (k + 1)) + 1 by omega, List.replicate_succ, List.map_append, List.map_cons, List.set_append_right _ _ (by simp [BM.bl_len])]
  simp [BM.bl_len]
theorem bb_shift' (v : Int) (k : Nat) : v / 2 ^ (8 * k) % 256 = BM.bb v k := by
  have := BM.bb_shift v k
  rwa [show (8 * (k : Int)).toNat = 8 * k by omega] at this
/-- What a store does to the row. -/
theorem part_step {w wr : World} {v : Int} {n k : Nat} (hk : k < n) (hown : wr.ownsRow w.heap.size 5 1 (.slice (some ⟨w.heap.size, 0, none⟩) n n) n (cs (part v n k))) (hb : Below w.heap.size w wr) :
    (wr.setCell ⟨w.heap.size, k, none⟩ (.int .u8 (BM.bb v k))).ownsRow w.heap.size 5 1 (.slice (some ⟨w.heap.size, 0, none⟩) n n) n (cs (part v n (k + 1))) ∧ Below w.heap.size w (wr.setCell ⟨w.heap.size, k, none⟩ (.int .u8 (BM.bb v k))) := by
  have h1 := (hown.stored k (.int .u8 (BM.bb v k))).1
  rw [part_set v n k hk] at h1
  exact ⟨h1, hb.setCell (Nat.le_refl _) _⟩
theorem part_cell {w wr : World} {v : Int} {n k : Nat} (hk : k < n) (hown : wr.ownsRow w.heap.size 5 1 (.slice (some ⟨w.heap.size, 0, none⟩) n n) n (cs (part v n k))) :
    ∃ c, wr.cell? ⟨w.heap.size, k, none⟩ = some (.int .u8 c) := by
  have h1 := hown.cellAt k (by omega)
  have h2 : k < (part v n k).length := by rw [part_len v n k (by omega)]; exact hk
  exact ⟨(part v n k)[k], by rw [h1]; simp [cs, h2]⟩

/-- What an append does to the row. -/
theorem app_step {w wr w1 : World} {v : Int} {k : Nat} {x x' : Value} {o : Obj} (hown' : w1.ownsRow w.heap.size 5 1 x' (k + 1) (cs (BM.bl v k) ++ [.int .u8 (BM.bb v k)]))
    (hown : wr.ownsRow w.heap.size 5 1 x k (cs (BM.bl v k))) (hb : Below w.heap.size w wr) (hgrow : (wr.alloc o).grownBy w1 x.ownBlock) :
    w1.ownsRow w.heap.size 5 1 x' (k + 1) (cs (BM.bl v (k + 1))) ∧ Below w.heap.size w w1 := by
  refine ⟨?_, (hb.alloc hb.size o).grown hgrow (Nat.le_trans hb.size (by simp)) fun j hj => (hown.lt j hj).1⟩
  have e : cs (BM.bl v (k + 1)) = cs (BM.bl v k) ++ [.int .u8 (BM.bb v k)] := by simp [cs, BM.bl_succ]
  rw [e]; exact hown'
end Go.Proofs.Ytbeenmglgdhbjaa.S01
