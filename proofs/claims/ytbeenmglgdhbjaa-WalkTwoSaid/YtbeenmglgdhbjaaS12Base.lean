/-
  An entry as two cells, by value and in a block of its own: what lies there, what a call leaves. No condition of its own.
-/
import Derived.Test.YtbeenmglgdhbjaaS12Math
import Derived.Test.YtbeenmglgdhbjaaS10Base
import Derived.Test.YtbeenmglgdhbjaaS11Calm
import Derived.Test.YtbeenmglgdhbjaaS01WalkA
import Derived.Deep.MidRow
import Derived.Deep.Cut
import Derived.RegionTactic
namespace Go.Proofs.Ytbeenmglgdhbjaa.S12
open Go.RowKit S01 S10 S11
/-- An entry lies in the block s. -/
def Pk (w : World) (s : Nat) (b g : Int) : Prop := w.heap[s]? = some (.cells #[.int .u32 b, .int .i64 g] 26 (0, 0))
theorem Pk.c0 {w : World} {s : Nat} {b g : Int} (h : Pk w s b g) : w.cell? ⟨s, 0, none⟩ = some (.int .u32 b) := cell_of h rfl
theorem Pk.c1 {w : World} {s : Nat} {b g : Int} (h : Pk w s b g) : w.cell? ⟨s, 1, none⟩ = some (.int .i64 g) := cell_of h rfl
theorem Pk.free {w : World} {s : Nat} {b g : Int} (h : Pk w s b g) (k : Nat) : w.frozen? ⟨s, k, none⟩ = false := unfrozen h
theorem Pk.lt {w : World} {s : Nat} {b g : Int} (h : Pk w s b g) : s < w.heap.size := lt_of_heap h
theorem Pk.below {w w1 : World} {s : Nat} {b g : Int} (h : Pk w s b g) (hb : Below w.heap.size w w1) : Pk w1 s b g := (hb.block s h.lt).trans h
theorem Pk.new (w : World) (b g : Int) : Pk (w.alloc (.cells #[.int .u32 b, .int .i64 g] 26)) w.heap.size b g := heap_alloc_new w _
theorem Pk.drew {w : World} {s : Nat} {b g : Int} (h : Pk w s b g) : Pk w.drew s b g := h
theorem Pk.range {w : World} {s : Nat} {b g : Int} (h : Pk w s b g) : w.rangeAt s 0 [.int .u32 b, .int .i64 g] := by
  intro j v hv
  rw [Nat.zero_add]
  exact cell_of h (by rw [List.getElem?_toArray]; exact hv)
/-- The entry lies in the block s, and nothing that was there is changed. -/
def Kept (w : World) (s : Nat) (b g : Int) (v : World) : Prop := Pk v s b g ∧ Below w.heap.size w v
theorem kept_call {w : World} {s : Nat} {b g : Int} {F : FuncId} {args : Array Value} {u : Value} (hc : ∀ W, Calls Try.prog F args W fun e w' => e = .returned u ∧ Below W.heap.size W w') :
    ∀ v, Kept w s b g v → Calls Try.prog F args v fun e v' => e = .returned u ∧ Kept w s b g v' :=
  fun v hv => (hc v).mono fun _ _ ⟨he, hb⟩ => ⟨he, hv.1.below hb, below_then hv.2 hb⟩
theorem kept_same {w : World} {s : Nat} {b g : Int} {F : FuncId} {args : Array Value} {u : Value} (hc : ∀ W, Calls Try.prog F args W fun e w' => e = .returned u ∧ W = w') :
    ∀ v, Kept w s b g v → Calls Try.prog F args v fun e v' => e = .returned u ∧ Kept w s b g v' :=
  fun v hv => (hc v).mono fun _ _ ⟨he, hb⟩ => ⟨he, hb ▸ hv⟩
theorem below_draw {w w' : World} (h : ∃ n, w' = w.drewN n) : Below w.heap.size w w' := by
  obtain ⟨n, rfl⟩ := h
  exact below_drewN' w n
end Go.Proofs.Ytbeenmglgdhbjaa.S12
