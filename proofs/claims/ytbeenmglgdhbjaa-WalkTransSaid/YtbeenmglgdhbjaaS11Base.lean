/-
  A core as thirty cells, by value and in a block of its own: what lies there, what a store leaves, what a call leaves. No condition of its own.
-/
import Derived.Test.YtbeenmglgdhbjaaS11Math
import Derived.Test.YtbeenmglgdhbjaaS10Base
import Derived.Deep.MidRow
import Derived.Deep.Cut
import Derived.Deep.QuietTactic
import Derived.RegionTactic
namespace Go.Proofs.Ytbeenmglgdhbjaa.S11
open Go.RowKit S01 S10
/-- The thirty cells of a core. -/
def AC (f : Nat → Int) (h : Bool) : List Value := (List.range 29).map (fun j => Value.int .u32 (f j)) ++ [.bool h]
/-- A core by value. -/
def AR (f : Nat → Int) (h : Bool) : Value := .agg (AC f h).toArray
theorem AC_len (f : Nat → Int) (h : Bool) : (AC f h).length = 30 := by simp [AC]
theorem AC_get (f : Nat → Int) (h : Bool) {k : Nat} (hk : k < 29) : (AC f h)[k]? = some (.int .u32 (f k)) := by
  unfold AC
  rw [List.getElem?_append_left (by simpa using hk)]
  simp [hk]
theorem AC_halt (f : Nat → Int) (h : Bool) : (AC f h)[29]? = some (.bool h) := by
  unfold AC
  rw [List.getElem?_append_right (by simp)]
  simp
theorem AC_one (f : Nat → Int) (h : Bool) : ∀ v ∈ AC f h, v.oneCell' = true := by
  intro v hv
  unfold AC at hv
  rcases List.mem_append.1 hv with hv | hv
  · obtain ⟨j, -, rfl⟩ := List.mem_map.1 hv; rfl
  · rw [List.mem_singleton.1 hv]; rfl
theorem AC_set (f : Nat → Int) (h : Bool) {k : Nat} (x : Int) (hk : k < 29) : (AC f h).toArray.setIfInBounds k (.int .u32 x) = (AC (CM.up f k x) h).toArray := by
  apply Array.ext_getElem?
  intro i
  rw [Array.getElem?_setIfInBounds, List.getElem?_toArray, List.getElem?_toArray]
  by_cases he : k = i
  · subst he
    rw [if_pos rfl, if_pos (by simp [AC_len]; omega), AC_get _ _ hk, CM.up_at]
  · rw [if_neg he]
    by_cases hi : i < 29
    · rw [AC_get _ _ hi, AC_get _ _ hi, CM.up_off _ _ (fun e => he e.symm)]
    · by_cases h2 : i = 29
      · subst h2; rw [AC_halt, AC_halt]
      · rw [List.getElem?_eq_none (by rw [AC_len]; omega), List.getElem?_eq_none (by rw [AC_len]; omega)]
/-- A core lies in the block s. -/
def Bk (w : World) (s : Nat) (f : Nat → Int) (h : Bool) : Prop := w.heap[s]? = some (.cells (AC f h).toArray 35 (0, 0))
theorem Bk.cell {w : World} {s : Nat} {f : Nat → Int} {h : Bool} (hB : Bk w s f h) {k : Nat} (hk : k < 29) : w.cell? ⟨s, k, none⟩ = some (.int .u32 (f k)) :=
  cell_of hB (by rw [List.getElem?_toArray]; exact AC_get f h hk)
theorem Bk.halt {w : World} {s : Nat} {f : Nat → Int} {h : Bool} (hB : Bk w s f h) : w.cell? ⟨s, 29, none⟩ = some (.bool h) :=
  cell_of hB (by rw [List.getElem?_toArray]; exact AC_halt f h)
theorem Bk.free {w : World} {s : Nat} {f : Nat → Int} {h : Bool} (hB : Bk w s f h) (k : Nat) : w.frozen? ⟨s, k, none⟩ = false := unfrozen hB
theorem Bk.lt {w : World} {s : Nat} {f : Nat → Int} {h : Bool} (hB : Bk w s f h) : s < w.heap.size := lt_of_heap hB
theorem Bk.below {w w1 : World} {s : Nat} {f : Nat → Int} {h : Bool} (hB : Bk w s f h) (hb : Below w.heap.size w w1) : Bk w1 s f h := (hb.block s hB.lt).trans hB
theorem Bk.new (w : World) (f : Nat → Int) (h : Bool) : Bk (w.alloc (.cells (AC f h).toArray 35)) w.heap.size f h := heap_alloc_new w _
theorem Bk.more {w : World} {s : Nat} {f : Nat → Int} {h : Bool} (hB : Bk w s f h) (o : Obj) : Bk (w.alloc o) s f h := hB.below (below_one w o)
theorem Bk.drew {w : World} {s : Nat} {f : Nat → Int} {h : Bool} (hB : Bk w s f h) : Bk w.drew s f h := hB
theorem Bk.drewN {w : World} {s : Nat} {f : Nat → Int} {h : Bool} (hB : Bk w s f h) (n : Nat) : Bk (w.drewN n) s f h := hB.below (below_drewN' w n)
theorem Bk.range {w : World} {s : Nat} {f : Nat → Int} {h : Bool} (hB : Bk w s f h) : w.rangeAt s 0 (AC f h) := by
  intro j v hv
  rw [Nat.zero_add]
  exact cell_of hB (by rw [List.getElem?_toArray]; exact hv)
theorem Bk.there {w : World} {s : Nat} {f : Nat → Int} {h : Bool} (hB : Bk w s f h) : w.there s 0 30 := by
  intro j hj
  refine ⟨hB.range.isSome j (by rw [AC_len]; exact hj), ?_⟩
  rw [Nat.zero_add]; exact hB.free j
theorem Bk.set {w : World} {s : Nat} {f : Nat → Int} {h : Bool} (hB : Bk w s f h) {k : Nat} (x : Int) (hk : k < 29) : Bk (w.setCell ⟨s, k, none⟩ (.int .u32 x)) s (CM.up f k x) h := by
  unfold Bk
  rw [heap_set hB, AC_set f h x hk]
theorem Bk.other {w : World} {s s' : Nat} {f : Nat → Int} {h : Bool} (hB : Bk w s f h) (hs : s ≠ s') (k : Nat) (v : Value) : Bk (w.setCell ⟨s', k, none⟩ v) s f h := (heap_other hs).trans hB
theorem heap_setCells_other {b j : Nat} (hj : j ≠ b) : ∀ (vs : List Value) (o : Nat) (w : World), (w.setCells b o vs).heap[j]? = w.heap[j]?
  | [], _, _ => rfl
  | _v :: r, o, _w => (heap_setCells_other hj r (o + 1) _).trans (heap_other hj)
theorem size_setCells (b : Nat) : ∀ (vs : List Value) (o : Nat) (w : World), (w.setCells b o vs).heap.size = w.heap.size
  | [], _, _ => rfl
  | _v :: r, o, _w => (size_setCells b r (o + 1) _).trans (size_set _ _ _)
theorem below_setCells {W : World} {B b : Nat} (hb : B ≤ b) : ∀ (vs : List Value) (o : Nat) (w : World), Below B W w → Below B W (w.setCells b o vs)
  | [], _, _, h => h
  | _ :: r, o, _, h => below_setCells hb r (o + 1) _ (h.setCell hb _)
theorem heap_setCells {b : Nat} {e : TypeId} {fr : Nat × Nat} : ∀ (vs : List Value) (o : Nat) (w : World) (c : Array Value), w.heap[b]? = some (.cells c e fr) →
    ∃ c' : Array Value, (w.setCells b o vs).heap[b]? = some (.cells c' e fr) ∧ c'.size = c.size ∧ ∀ i, c'[i]? = if o ≤ i ∧ i < o + vs.length ∧ i < c.size then vs[i - o]? else c[i]?
  | [], o, w, c, h => ⟨c, h, rfl, fun i => by rw [if_neg (by simp; omega)]⟩
  | v :: r, o, w, c, h => by
    obtain ⟨c', h1, h2, h3⟩ := heap_setCells r (o + 1) (w.setCell ⟨b, o, none⟩ v) (c.setIfInBounds o v) (heap_set h)
    refine ⟨c', h1, by rw [h2]; simp, fun i => ?_⟩
    rw [h3 i, Array.getElem?_setIfInBounds]
    simp only [List.length_cons, Array.size_setIfInBounds]
    by_cases hi : i = o
    · subst hi
      rw [if_neg (by omega), if_pos rfl]
      by_cases hc : i < c.size
      · rw [if_pos hc, if_pos (by omega)]; simp
      · rw [if_neg hc, if_neg (by omega), Array.getElem?_eq_none (by omega)]
    · by_cases h4 : o + 1 ≤ i ∧ i < o + 1 + r.length ∧ i < c.size
      · rw [if_pos h4, if_pos (by omega), show i - o = (i - (o + 1)) + 1 by omega, List.getElem?_cons_succ]
      · rw [if_neg h4, if_neg (fun e => hi e.symm), if_neg (by omega)]
theorem Bk.store {w : World} {s : Nat} {f : Nat → Int} {h : Bool} (hB : Bk w s f h) (f' : Nat → Int) (h' : Bool) : Bk (w.setCells s 0 (AC f' h')) s f' h' := by
  obtain ⟨c', h1, h2, h3⟩ := heap_setCells (AC f' h') 0 w _ hB
  have : c' = (AC f' h').toArray := by
    apply Array.ext_getElem?
    intro i
    rw [h3 i, Nat.sub_zero]
    simp only [List.size_toArray, AC_len]
    by_cases hi : i < 30
    · rw [if_pos (by omega), List.getElem?_toArray]
    · rw [if_neg (by omega), Array.getElem?_eq_none (by simp [AC_len]; omega), List.getElem?_toArray, List.getElem?_eq_none (by rw [AC_len]; omega)]
  rw [this] at h1
  exact h1
theorem Bk.store' {w : World} {s : Nat} {f : Nat → Int} {h : Bool} (hB : Bk w s f h) (f' : Nat → Int) (h' : Bool) : Bk (w.setCells s 0 (AC f' h').toArray.toList) s f' h' := hB.store f' h'
theorem Bk.besides {w : World} {s s' : Nat} {f : Nat → Int} {h : Bool} (hB : Bk w s f h) (hs : s ≠ s') (o : Nat) (vs : List Value) : Bk (w.setCells s' o vs) s f h := (heap_setCells_other hs vs o w).trans hB
/-- A whole core out of the middle of a block, at an operation behind a guard that lets it go. -/
theorem wpList_load_wanted {P : Program} {ops : Array Oper} {rest : List Oper} {op : Oper} {a : Act} {w : World} {Q : Exit → Act → World → Prop} (hw : Region.wanted op (yielded ops a.tmps) = true) (ty : TypeId) (x : Operand) (ho : op.op = .load ty x)
    (b o : Nat) (hx : a.eval x = .pointer (some ⟨b, o, none⟩)) (cs : List Value) (d : TypeDesc) (hc : w.rangeAt b o cs)
    (hu : P.underlying ty = some d) (hd : d.isRow = true) (hi : (P.info? ty).map (·.size) = some cs.length)
    (h : wpList P ops Q rest (a.put op.dst (.agg cs.toArray)) w) : wpList P ops Q (op :: rest) a w :=
  wpList_step fun K hK => by
    rw [if_pos hw]
    exact wp_load_mid ty x ho b o hx cs d hc hu hd hi (hK _ _ h)
theorem zero_core : (AC (fun _ => 0) false).toArray = #[.int .u32 0, .int .u32 0, .int .u32 0, .int .u32 0, .int .u32 0, .int .u32 0, .int .u32 0, .int .u32 0, .int .u32 0, .int .u32 0, .int .u32 0, .int .u32 0, .int .u32 0, .int .u32 0, .int .u32 0, .int .u32 0, .int .u32 0, .int .u32 0, .int .u32 0, .int .u32 0, .int .u32 0, .int .u32 0, .int .u32 0, .int .u32 0, .int .u32 0, .int .u32 0, .int .u32 0, .int .u32 0, .int .u32 0, .bool false] := rfl
end Go.Proofs.Ytbeenmglgdhbjaa.S11
