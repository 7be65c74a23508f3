/-
  The chapter's control registers as plain functions on integers: a core is what its thirty cells hold (29 words: the counter of the program, sixteen registers, twelve control registers; and whether it is halted).
-/
import Derived.Test.YtfdcnbhnegdlfaaS01
import Derived.Test.YtfdcnbhnegdlfaaS10
import Derived.Deep.MidRow
import Derived.Deep.Cut
import Derived.Deep.QuietTactic
import Derived.RegionTactic
import Derived.Deep.WholeRow
import Derived.StillTailTactics
import Derived.OrdersHeld
import Derived.ChangeKeysEq
import Derived.ProofKit
import Derived.OpenShut
import Derived.ChangeSlices
import Derived.Lib.SmallJoins
import Derived.Deep.Slices
namespace Go.Proofs.Ytfdcnbhnegdlfaa.S11
namespace CM
def an (x y : Int) : Int := ((x.toNat &&& y.toNat : Nat) : Int)
def oq (x y : Int) : Int := ((x.toNat ||| y.toNat : Nat) : Int)
/-- A word? -/
def Wd (x : Int) : Prop := 0 ≤ x ∧ x < 4294967296
/-- The bits of control register n. -/
def mk (n : Int) : Int := if n < 0 ∨ 11 < n then 0 else if n = 0 then 63 else if n = 1 then 31 else if n = 5 then 4294967232 else if n = 9 ∨ n = 10 then 7 else 4294967295
/-- The words of a core with another at k. -/
def up (f : Nat → Int) (k : Nat) (x : Int) : Nat → Int := fun j => if j = k then x else f j
/-- Kernel mode. -/
def km (f : Nat → Int) : Bool := decide (f 17 % 2 = 1)
/-- Is there such a register? -/
def kn (n : Int) : Bool := decide (0 ≤ n ∧ n ≤ 11)
/-- The cause why a register may not be used. -/
def ks (f : Nat → Int) (n : Int) : Int := if km f = true then (if kn n = true then 0 else 2) else 8
/-- The cause why it may not be read. -/
def rk (f : Nat → Int) (n : Int) : Int := if n = 7 then 0 else ks f n
def rv (f : Nat → Int) (n : Int) : Int := if rk f n = 0 then f (17 + n.toNat) else 0
/-- The words behind a write, and whether it is halted. -/
def wf (f : Nat → Int) (n v : Int) : Nat → Int := if ks f n = 0 then up f (17 + n.toNat) (an v (mk n)) else fun _ => 0
def wh (f : Nat → Int) (h : Bool) (n : Int) : Bool := if ks f n = 0 then h else false
/-- Behind lines that rise; behind a count. -/
def rs (f : Nat → Int) (l : Int) : Nat → Int := up f 27 (oq (f 27) (l % 8))
def c1 (f : Nat → Int) : Nat → Int := up f 24 ((f 24 + 1) % 4294967296)
def due (f : Nat → Int) : Bool := decide (f 25 ≠ 0 ∧ f 25 ≤ (f 24 + 1) % 4294967296)
def ct (f : Nat → Int) : Nat → Int := if due f = true then rs (c1 f) 4 else c1 f
/-- Its words are words. -/
def Ok (f : Nat → Int) : Prop := ∀ j, j < 29 → Wd (f j)
/-- Each control register has none but its bits. -/
def bq (f : Nat → Int) : Prop := ∀ i : Nat, i < 12 → an (f (17 + i)) (mk i) = f (17 + i)

theorem an_bd (x y : Int) (_hx : Wd x) (hy : Wd y) : Wd (an x y) := by
  have : x.toNat &&& y.toNat ≤ y.toNat := Nat.and_le_right
  unfold Wd at *; unfold an; omega
theorem oq_bd (x y : Int) (hx : Wd x) (hy : Wd y) : Wd (oq x y) := by
  have := Nat.or_lt_two_pow (n := 32) (x := x.toNat) (y := y.toNat) (by unfold Wd at hx; omega) (by unfold Wd at hy; omega)
  unfold Wd oq; omega
theorem mk_bd (n : Int) : Wd (mk n) := by
  unfold Wd mk
  split <;> (try split) <;> (try split) <;> (try split) <;> (try split) <;> omega
theorem kn_true {n : Int} (h0 : 0 ≤ n) (h1 : n ≤ 11) : kn n = true := decide_eq_true ⟨h0, h1⟩
theorem kn_false {n : Int} (h : n < 0 ∨ 11 < n) : kn n = false := decide_eq_false (by omega)
theorem kn_iff {n : Int} : kn n = true ↔ 0 ≤ n ∧ n ≤ 11 := by unfold kn; simp
theorem ks_zero {f : Nat → Int} {n : Int} (h : ks f n = 0) : km f = true ∧ kn n = true := by
  unfold ks at h
  by_cases h1 : km f = true
  · rw [if_pos h1] at h
    by_cases h2 : kn n = true
    · exact ⟨h1, h2⟩
    · rw [if_neg h2] at h; omega
  · rw [if_neg h1] at h; omega
theorem ks_ok {f : Nat → Int} {n : Int} (h1 : km f = true) (h2 : kn n = true) : ks f n = 0 := by unfold ks; rw [if_pos h1, if_pos h2]
theorem up_at (f : Nat → Int) (k : Nat) (x : Int) : up f k x k = x := if_pos rfl
theorem up_off (f : Nat → Int) {k j : Nat} (x : Int) (h : j ≠ k) : up f k x j = f j := if_neg h
theorem up_ok {f : Nat → Int} (hf : Ok f) (k : Nat) {x : Int} (hx : Wd x) : Ok (up f k x) := by
  intro j hj
  by_cases h : j = k
  · rw [h, up_at]; exact hx
  · rw [up_off _ _ h]; exact hf j hj
theorem up_back (f : Nat → Int) (k : Nat) (x : Int) : up (up f k x) k (f k) = f := by
  funext j
  by_cases h : j = k
  · rw [h, up_at]
  · rw [up_off _ _ h, up_off _ _ h]
theorem up_up (f : Nat → Int) (k : Nat) (x y : Int) : up (up f k x) k y = up f k y := by
  funext j
  by_cases h : j = k
  · rw [h, up_at, up_at]
  · rw [up_off _ _ h, up_off _ _ h, up_off _ _ h]
theorem zero_ok : Ok (fun _ => 0) := fun _ _ => (by decide : (0 : Int) ≤ 0 ∧ (0 : Int) < 4294967296)
theorem wf_ok {f : Nat → Int} (hf : Ok f) (n v : Int) (hv : Wd v) : Ok (wf f n v) := by
  unfold wf
  split
  · exact up_ok hf _ (an_bd _ _ hv (mk_bd n))
  · exact zero_ok
theorem rs_ok {f : Nat → Int} (hf : Ok f) (l : Int) : Ok (rs f l) := up_ok hf _ (oq_bd _ _ (hf 27 (by decide)) (by unfold Wd; omega))
theorem c1_ok {f : Nat → Int} (hf : Ok f) : Ok (c1 f) := up_ok hf _ (by unfold Wd; omega)
theorem ct_ok {f : Nat → Int} (hf : Ok f) : Ok (ct f) := by
  unfold ct
  split
  · exact rs_ok (c1_ok hf) 4
  · exact c1_ok hf
/-! ### What is kept -/
theorem an_idem (v m : Int) (_hv : Wd v) (_hm : Wd m) : an (an v m) m = an v m := by
  unfold an
  rw [Int.toNat_natCast, Nat.and_assoc, Nat.and_self]
theorem an_self (x : Int) (hx : Wd x) : an x x = x := by
  unfold an; unfold Wd at hx
  rw [Nat.and_self]; omega
theorem an_oq (x y : Int) (hx : Wd x) : an (oq x y) x = x := by
  unfold an oq; unfold Wd at hx
  rw [Int.toNat_natCast]
  have : (x.toNat ||| y.toNat) &&& x.toNat = x.toNat := by
    apply Nat.eq_of_testBit_eq
    intro i
    rw [Nat.testBit_and, Nat.testBit_or]
    cases x.toNat.testBit i <;> simp
  rw [this]; omega
theorem an_all (x : Int) (hx : Wd x) : an x 4294967295 = x := by
  unfold an; unfold Wd at hx
  have : x.toNat &&& (4294967295 : Int).toNat = x.toNat % 2 ^ 32 := Nat.and_two_pow_sub_one_eq_mod x.toNat 32
  rw [this]; omega
theorem an_seven (x : Int) (hx : Wd x) : an x 7 = x % 8 := by
  unfold an; unfold Wd at hx
  have : x.toNat &&& (7 : Int).toNat = x.toNat % 2 ^ 3 := Nat.and_two_pow_sub_one_eq_mod x.toNat 3
  rw [this]; omega
theorem oq_seven (x y : Int) (hx : Wd x) (h : an x 7 = x) : an (oq x (y % 8)) 7 = oq x (y % 8) := by
  rw [an_seven x hx] at h
  have hy : Wd (y % 8) := by unfold Wd; omega
  rw [an_seven _ (oq_bd x _ hx hy)]
  have := Nat.or_lt_two_pow (n := 3) (x := x.toNat) (y := (y % 8).toNat) (by unfold Wd at hx; omega) (by omega)
  unfold oq; omega
theorem mk_full {i : Int} (h : i = 7 ∨ i = 8) : mk i = 4294967295 := by
  rcases h with rfl | rfl <;> decide
theorem mk_ten : mk 10 = 7 := by decide
theorem rs_bq {f : Nat → Int} (hf : Ok f) (hb : bq f) (l : Int) : bq (rs f l) := by
  intro i hi
  unfold rs
  by_cases h : 17 + i = 27
  · obtain rfl : i = 10 := by omega
    rw [show 17 + 10 = 27 from rfl, up_at, show ((10 : Nat) : Int) = 10 from rfl, mk_ten]
    exact oq_seven _ _ (hf 27 (by decide)) (by have := hb 10 (by decide); rwa [show 17 + 10 = 27 from rfl, show ((10 : Nat) : Int) = 10 from rfl, mk_ten] at this)
  · rw [up_off _ _ h]; exact hb i hi
theorem c1_bq {f : Nat → Int} (hb : bq f) : bq (c1 f) := by
  intro i hi
  unfold c1
  by_cases h : 17 + i = 24
  · obtain rfl : i = 7 := by omega
    rw [show 17 + 7 = 24 from rfl, up_at, show ((7 : Nat) : Int) = 7 from rfl, mk_full (.inl rfl)]
    exact an_all _ (by unfold Wd; omega)
  · rw [up_off _ _ h]; exact hb i hi
theorem ct_bq {f : Nat → Int} (hf : Ok f) (hb : bq f) : bq (ct f) := by
  unfold ct
  split
  · exact rs_bq (c1_ok hf) (c1_bq hb) 4
  · exact c1_bq hb
theorem wf_bq {f : Nat → Int} (hb : bq f) (n v : Int) (hv : Wd v) (hk : ks f n = 0) : bq (wf f n v) := by
  intro i hi
  obtain ⟨n0, n1⟩ := kn_iff.1 (ks_zero hk).2
  unfold wf
  rw [if_pos hk]
  by_cases h : 17 + i = 17 + n.toNat
  · rw [h, up_at, show (i : Int) = n by omega]
    exact an_idem v _ hv (mk_bd n)
  · rw [up_off _ _ h]; exact hb i hi
theorem rs_keep {f : Nat → Int} (hf : Ok f) (l : Int) : an (rs f l 27) (f 27) = f 27 := by
  unfold rs; rw [up_at]; exact an_oq _ _ (hf 27 (by decide))
theorem c1_pend (f : Nat → Int) : c1 f 27 = f 27 := up_off _ _ (by decide)
theorem ct_keep {f : Nat → Int} (hf : Ok f) : an (ct f 27) (f 27) = f 27 := by
  unfold ct
  split
  · have := rs_keep (c1_ok hf) 4
    rwa [c1_pend] at this
  · rw [c1_pend]; exact an_self _ (hf 27 (by decide))
theorem wf_keep {f : Nat → Int} (hf : Ok f) (n v : Int) (hk : ks f n = 0) (hn : n ≠ 10) : an (wf f n v 27) (f 27) = f 27 := by
  obtain ⟨n0, n1⟩ := kn_iff.1 (ks_zero hk).2
  unfold wf
  rw [if_pos hk, up_off _ _ (by omega)]
  exact an_self _ (hf 27 (by decide))
end CM
end Go.Proofs.Ytfdcnbhnegdlfaa.S11
/- A core as thirty cells, by value and in a block of its own: what lies there, what a store leaves, what a call leaves. No condition of its own. -/
namespace Go.Proofs.Ytfdcnbhnegdlfaa.S11
open Go.RowKit S01 S10
/-- The thirty cells of a core. -/
def AC (f : Nat → Int) (h : Bool) : List Value := (List.range 29).map (fun j => Value.int .u32 (f j)) ++ [.bool h]
/-- A core by value. -/
def AR (f : Nat → Int) (h : Bool) : Value := .agg (AC f h).toArray
theorem AC_len (f : Nat → Int) (h : Bool) : (AC f h).length = 30 := by simp [AC]
theorem AC_get (f : Nat → Int) (h : Bool) {k : Nat} (hk : k < 29) : (AC f h)[k]? = some (.int .u32 (f k)) := by
  unfold AC
  rw [List.getElem?_append_left (by simpa using hk)]
  simp [hk]
theorem AC_halt (f : Nat → Int) (h : Bool) : (AC f h)[29]? = some (.bool h) := by
  unfold AC
  rw [List.getElem?_append_right (by simp)]
  simp
theorem AC_one (f : Nat → Int) (h : Bool) : ∀ v ∈ AC f h, v.oneCell' = true := by
  intro v hv
  unfold AC at hv
  rcases List.mem_append.1 hv with hv | hv
  · obtain ⟨j, -, rfl⟩ := List.mem_map.1 hv; rfl
  · rw [List.mem_singleton.1 hv]; rfl
theorem AC_set (f : Nat → Int) (h : Bool) {k : Nat} (x : Int) (hk : k < 29) : (AC f h).toArray.setIfInBounds k (.int .u32 x) = (AC (CM.up f k x) h).toArray := by
  apply Array.ext_getElem?
  intro i
  rw [Array.getElem?_setIfInBounds, List.getElem?_toArray, List.getElem?_toArray]
  by_cases he : k = i
  · subst he
    rw [if_pos rfl, if_pos (by simp [AC_len]; omega), AC_get _ _ hk, CM.up_at]
  · rw [if_neg he]
    by_cases hi : i < 29
    · rw [AC_get _ _ hi, AC_get _ _ hi, CM.up_off _ _ (fun e => he e.symm)]
    · by_cases h2 : i = 29
      · subst h2; rw [AC_halt, AC_halt]
      · rw [List.getElem?_eq_none (by rw [AC_len]; omega), List.getElem?_eq_none (by rw [AC_len]; omega)]
/-- A core lies in the block s. -/
def Bk (w : World) (s : Nat) (f : Nat → Int) (h : Bool) : Prop := w.heap[s]? = some (.cells (AC f h).toArray 26 (0, 0))
theorem Bk.cell {w : World} {s : Nat} {f : Nat → Int} {h : Bool} (hB : Bk w s f h) {k : Nat} (hk : k < 29) : w.cell? ⟨s, k, none⟩ = some (.int .u32 (f k)) :=
  cell_of hB (by rw [List.getElem?_toArray]; exact AC_get f h hk)
theorem Bk.halt {w : World} {s : Nat} {f : Nat → Int} {h : Bool} (hB : Bk w s f h) : w.cell? ⟨s, 29, none⟩ = some (.bool h) :=
  cell_of hB (by rw [List.getElem?_toArray]; exact AC_halt f h)
theorem Bk.free {w : World} {s : Nat} {f : Nat → Int} {h : Bool} (hB : Bk w s f h) (k : Nat) : w.frozen? ⟨s, k, none⟩ = false := unfrozen hB
theorem Bk.lt {w : World} {s : Nat} {f : Nat → Int} {h : Bool} (hB : Bk w s f h) : s < w.heap.size := lt_of_heap hB
theorem Bk.below {w w1 : World} {s : Nat} {f : Nat → Int} {h : Bool} (hB : Bk w s f h) (hb : Below w.heap.size w w1) : Bk w1 s f h := (hb.block s hB.lt).trans hB
theorem Bk.new (w : World) (f : Nat → Int) (h : Bool) : Bk (w.alloc (.cells (AC f h).toArray 26)) w.heap.size f h := heap_alloc_new w _
theorem Bk.more {w : World} {s : Nat} {f : Nat → Int} {h : Bool} (hB : Bk w s f h) (o : Obj) : Bk (w.alloc o) s f h := hB.below (below_one w o)
theorem Bk.drew {w : World} {s : Nat} {f : Nat → Int} {h : Bool} (hB : Bk w s f h) : Bk w.drew s f h := hB
theorem Bk.drewN {w : World} {s : Nat} {f : Nat → Int} {h : Bool} (hB : Bk w s f h) (n : Nat) : Bk (w.drewN n) s f h := hB.below (below_drewN' w n)
theorem Bk.range {w : World} {s : Nat} {f : Nat → Int} {h : Bool} (hB : Bk w s f h) : w.rangeAt s 0 (AC f h) := by
  intro j v hv
  rw [Nat.zero_add]
  exact cell_of hB (by rw [List.getElem?_toArray]; exact hv)
theorem Bk.there {w : World} {s : Nat} {f : Nat → Int} {h : Bool} (hB : Bk w s f h) : w.there s 0 30 := by
  intro j hj
  refine ⟨hB.range.isSome j (by rw [AC_len]; exact hj), ?_⟩
  rw [Nat.zero_add]; exact hB.free j
theorem Bk.set {w : World} {s : Nat} {f : Nat → Int} {h : Bool} (hB : Bk w s f h) {k : Nat} (x : Int) (hk : k < 29) : Bk (w.setCell ⟨s, k, none⟩ (.int .u32 x)) s (CM.up f k x) h := by
  unfold Bk
  rw [heap_set hB, AC_set f h x hk]
theorem Bk.other {w : World} {s s' : Nat} {f : Nat → Int} {h : Bool} (hB : Bk w s f h) (hs : s ≠ s') (k : Nat) (v : Value) : Bk (w.setCell ⟨s', k, none⟩ v) s f h := (heap_other hs).trans hB
theorem heap_setCells_other {b j : Nat} (hj : j ≠ b) : ∀ (vs : List Value) (o : Nat) (w : World), (w.setCells b o vs).heap[j]? = w.heap[j]?
  | [], _, _ => rfl
  | _v :: r, o, _w => (heap_setCells_other hj r (o + 1) _).trans (heap_other hj)
theorem size_setCells (b : Nat) : ∀ (vs : List Value) (o : Nat) (w : World), (w.setCells b o vs).heap.size = w.heap.size
  | [], _, _ => rfl
  | _v :: r, o, _w => (size_setCells b r (o + 1) _).trans (size_set _ _ _)
theorem below_setCells {W : World} {B b : Nat} (hb : B ≤ b) : ∀ (vs : List Value) (o : Nat) (w : World), Below B W w → Below B W (w.setCells b o vs)
  | [], _, _, h => h
  | _ :: r, o, _, h => below_setCells hb r (o + 1) _ (h.setCell hb _)
theorem heap_setCells {b : Nat} {e : TypeId} {fr : Nat × Nat} : ∀ (vs : List Value) (o : Nat) (w : World) (c : Array Value), w.heap[b]? = some (.cells c e fr) →
    ∃ c' : Array Value, (w.setCells b o vs).heap[b]? = some (.cells c' e fr) ∧ c'.size = c.size ∧ ∀ i, c'[i]? = if o ≤ i ∧ i < o + vs.length ∧ i < c.size then vs[i - o]? else c[i]?
  | [], o, w, c, h => ⟨c, h, rfl, fun i => by rw [if_neg (by simp; omega)]⟩
  | v :: r, o, w, c, h => by
    obtain ⟨c', h1, h2, h3⟩ := heap_setCells r (o + 1) (w.setCell ⟨b, o, none⟩ v) (c.setIfInBounds o v) (heap_set h)
    refine ⟨c', h1, by rw [h2]; simp, fun i => ?_⟩
    rw [h3 i, Array.getElem?_setIfInBounds]
    simp only [List.length_cons, Array.size_setIfInBounds]
    by_cases hi : i = o
    · subst hi
      rw [if_neg (by omega), if_pos rfl]
      by_cases hc : i < c.size
      · rw [if_pos hc, if_pos (by omega)]; simp
      · rw [if_neg hc, if_neg (by omega), Array.getElem?_eq_none (by omega)]
    · by_cases h4 : o + 1 ≤ i ∧ i < o + 1 + r.length ∧ i < c.size
      · rw [if_pos h4, if_pos (by omega), show i - o = (i - (o + 1)) + 1 by omega, List.getElem?_cons_succ]
      · rw [if_neg h4, if_neg (fun e => hi e.symm), if_neg (by omega)]
theorem Bk.store {w : World} {s : Nat} {f : Nat → Int} {h : Bool} (hB : Bk w s f h) (f' : Nat → Int) (h' : Bool) : Bk (w.setCells s 0 (AC f' h')) s f' h' := by
  obtain ⟨c', h1, h2, h3⟩ := heap_setCells (AC f' h') 0 w _ hB
  have : c' = (AC f' h').toArray := by
    apply Array.ext_getElem?
    intro i
    rw [h3 i, Nat.sub_zero]
    simp only [List.size_toArray, AC_len]
    by_cases hi : i < 30
    · rw [if_pos (by omega), List.getElem?_toArray]
    · rw [if_neg (by omega), Array.getElem?_eq_none (by simp [AC_len]; omega), List.getElem?_toArray, List.getElem?_eq_none (by rw [AC_len]; omega)]
  rw [this] at h1
  exact h1
theorem Bk.store' {w : World} {s : Nat} {f : Nat → Int} {h : Bool} (hB : Bk w s f h) (f' : Nat → Int) (h' : Bool) : Bk (w.setCells s 0 (AC f' h').toArray.toList) s f' h' := hB.store f' h'
theorem Bk.besides {w : World} {s s' : Nat} {f : Nat → Int} {h : Bool} (hB : Bk w s f h) (hs : s ≠ s') (o : Nat) (vs : List Value) : Bk (w.setCells s' o vs) s f h := (heap_setCells_other hs vs o w).trans hB
/-- A whole core out of the middle of a block, at an operation behind a guard that lets it go. -/
theorem wpList_load_wanted {P : Program} {ops : Array Oper} {rest : List Oper} {op : Oper} {a : Act} {w : World} {Q : Exit → Act → World → Prop} (hw : Region.wanted op (yielded ops a.tmps) = true) (ty : TypeId) (x : Operand) (ho : op.op = .load ty x)
    (b o : Nat) (hx : a.eval x = .pointer (some ⟨b, o, none⟩)) (cs : List Value) (d : TypeDesc) (hc : w.rangeAt b o cs)
    (hu : P.underlying ty = some d) (hd : d.isRow = true) (hi : (P.info? ty).map (·.size) = some cs.length)
    (h : wpList P ops Q rest (a.put op.dst (.agg cs.toArray)) w) : wpList P ops Q (op :: rest) a w :=
  wpList_step fun K hK => by
    rw [if_pos hw]
    exact wp_load_mid ty x ho b o hx cs d hc hu hd hi (hK _ _ h)
theorem zero_core : (AC (fun _ => 0) false).toArray = #[.int .u32 0, .int .u32 0, .int .u32 0, .int .u32 0, .int .u32 0, .int .u32 0, .int .u32 0, .int .u32 0, .int .u32 0, .int .u32 0, .int .u32 0, .int .u32 0, .int .u32 0, .int .u32 0, .int .u32 0, .int .u32 0, .int .u32 0, .int .u32 0, .int .u32 0, .int .u32 0, .int .u32 0, .int .u32 0, .int .u32 0, .int .u32 0, .int .u32 0, .int .u32 0, .int .u32 0, .int .u32 0, .int .u32 0, .bool false] := rfl
end Go.Proofs.Ytfdcnbhnegdlfaa.S11
/- Kernel mode and the bits of a control register, of package csr and of the reference. -/
namespace Go.Proofs.Ytfdcnbhnegdlfaa.S11
open Go.RowKit S01 S10
theorem Bk.there' {w : World} {s : Nat} {f : Nat → Int} {h : Bool} (hB : Bk w s f h) (f' : Nat → Int) (h' : Bool) : w.there s 0 (AC f' h').toArray.size := by
  rw [List.size_toArray, AC_len]; exact hB.there
/-- A core that lies in a result's cell is handed back. -/
theorem Bk.result {w : World} {s : Nat} {f : Nat → Int} {h : Bool} (hB : Bk w s f h) {fn : Func} {p : Tmp} (hr : fn.results = #[.cell p 26]) (tmps : Array Value) (hp : tmps.getD p undef = .pointer (some ⟨s, 0, none⟩)) :
    (results fn tmps).run Try.prog w = .ok (.agg (AC f h).toArray) w :=
  results_cell_row hr tmps w s 26 (AC f h).toArray (0, 0) _ hp hB Try.underlying26 rfl (by kernel_rfl)
theorem Bk.result2 {w : World} {s : Nat} {f : Nat → Int} {h : Bool} (hB : Bk w s f h) {fn : Func} {p u : Tmp} (hr : fn.results = #[.cell p 26, .tmp u]) (tmps : Array Value) (hp : tmps.getD p undef = .pointer (some ⟨s, 0, none⟩)) :
    (results fn tmps).run Try.prog w = .ok (.tuple #[.agg (AC f h).toArray, tmps.getD u undef]) w := by
  rw [results_cell_tmp hr tmps, hp]
  have e := run_loadVar_row (P := Try.prog) w s 26 26 (AC f h).toArray (0, 0) _ hB Try.underlying26 rfl (by kernel_rfl)
  simp [asAddr, e, Result.andThen]
theorem and_one (x : Int) (h0 : 0 ≤ x) (h1 : x < 4294967296) : bits .and .u32 x 1 = x % 2 := by
  obtain ⟨X, rfl⟩ := Int.eq_ofNat_of_zero_le h0
  have e : bits .and .u32 (X : Int) 1 = ((X &&& 1 : Nat) : Int) := u32_and_nat X 1 (by omega) (by omega)
  rw [e, Nat.and_one_is_mod]
  omega
theorem odd_ne (x : Int) : (x % 2 != 0) = decide (x % 2 = 1) := by
  by_cases h : x % 2 = 1
  · rw [h]; rfl
  · rw [show x % 2 = 0 by omega]; rfl
set_option maxHeartbeats 400000 in
theorem kernel_any (f : Nat → Int) (h : Bool) (w : World) (hf : CM.Ok f) :
    Calls Try.prog 18 #[AR f h] w fun e w' => e = .returned (.bool (CM.km f)) ∧ Below w.heap.size w w' := by
  have c0 := (Bk.new w f h).cell (k := 17) (by decide)
  obtain ⟨x0, x1⟩ := hf 17 (by decide)
  have HK := Lib.hid (show CM.km f = decide (f 17 % 2 = 1) from rfl)
  have e := and_one _ x0 x1
  have HB := Lib.hid (below_one w (.cells (AC f h).toArray 26))
  generalize f 17 = x at *
  unfold AR
  go_enter Try.func18, Try.ntmps18
  go_wp2
  go_ret
  exact ⟨ret_bool (by rw [HK.out]; exact odd_ne x), HB.out⟩
set_option maxHeartbeats 400000 in
theorem rkernel_any (f : Nat → Int) (h : Bool) (w : World) (hf : CM.Ok f) :
    Calls Try.prog 25 #[AR f h] w fun e w' => e = .returned (.bool (CM.km f)) ∧ Below w.heap.size w w' := by
  have c0 := (Bk.new w f h).cell (k := 17) (by decide)
  obtain ⟨x0, x1⟩ := hf 17 (by decide)
  have HK := Lib.hid (show CM.km f = decide (f 17 % 2 = 1) from rfl)
  have HB := Lib.hid (below_one w (.cells (AC f h).toArray 26))
  generalize f 17 = x at *
  unfold AR
  go_enter Try.func25, Try.ntmps25
  go_wp2
  go_ret
  exact ⟨ret_bool (by rw [HK.out]; by_cases g : x % 2 = 1 <;> simp [g]), HB.out⟩
set_option maxHeartbeats 400000 in
theorem known_any (n : Int) (w : World) :
    Calls Try.prog 27 #[.int .i64 n] w fun e w' => e = .returned (.bool (CM.kn n)) ∧ w = w' := by
  by_cases h0 : 0 ≤ n
  · by_cases h1 : n < 12
    · have HK := Lib.hid (CM.kn_true h0 (by omega))
      go_enter Try.func27, Try.ntmps27
      go_wp2
      go_ret
      exact ⟨ret_bool (by rw [HK.out]), rfl⟩
    · have HK := Lib.hid (CM.kn_false (n := n) (by omega))
      have d : decide (n < 12) = false := by simpa using h1
      go_enter Try.func27, Try.ntmps27
      go_wp2
      go_ret
      exact ⟨ret_bool (by rw [HK.out]), rfl⟩
  · have HK := Lib.hid (CM.kn_false (n := n) (by omega))
    have d : decide (0 ≤ n) = false := by simpa using h0
    go_enter Try.func27, Try.ntmps27
    go_wp2
    go_ret
    exact ⟨ret_bool (by rw [HK.out]), rfl⟩
theorem table_at (k : Nat) (hk : k < 12) : (#[.int .u32 63, .int .u32 31, .int .u32 4294967295, .int .u32 4294967295, .int .u32 4294967295, .int .u32 4294967232, .int .u32 4294967295, .int .u32 4294967295, .int .u32 4294967295, .int .u32 7, .int .u32 7, .int .u32 4294967295] : Array Value)[k]? = some (.int .u32 (CM.mk k)) := by
  obtain rfl | rfl | rfl | rfl | rfl | rfl | rfl | rfl | rfl | rfl | rfl | rfl : k = 0 ∨ k = 1 ∨ k = 2 ∨ k = 3 ∨ k = 4 ∨ k = 5 ∨ k = 6 ∨ k = 7 ∨ k = 8 ∨ k = 9 ∨ k = 10 ∨ k = 11 := by omega
  all_goals rfl
set_option maxHeartbeats 400000 in
theorem masked_out (n : Int) (w : World) (h : n < 0 ∨ 11 < n) :
    Calls Try.prog 21 #[.int .i64 n] w fun e w' => e = .returned (.int .u32 0) ∧ Below w.heap.size w w' := by
  have HK := Lib.hid (CM.kn_false h)
  clear h
  go_enter Try.func21, Try.ntmps21
  go_upto_region 2 with fail
  generalize hW : World.alloc w _ = W1
  have HB := Lib.hid (show Below w.heap.size w W1 from hW ▸ below_one w _)
  clear hW
  go_wp2_with (go_at_call 27; refine (known_any _ _).mono ?_; rintro e w' ⟨rfl, rfl⟩; rw [HK.out])
  go_ret
  exact ⟨rfl, HB.out⟩
set_option maxHeartbeats 400000 in
theorem masked_in (k : Nat) (w : World) (h : k < 12) :
    Calls Try.prog 21 #[.int .i64 k] w fun e w' => e = .returned (.int .u32 (CM.mk k)) ∧ Below w.heap.size w w' := by
  have HK := Lib.hid (CM.kn_true (n := (k : Int)) (by omega) (by omega))
  have HT := Lib.hid (table_at k h)
  have hk : (k : Int) < 12 := by omega
  generalize CM.mk (k : Int) = m at HT ⊢
  clear h
  go_enter Try.func21, Try.ntmps21
  go_upto_region 2 with fail
  generalize hW : World.alloc w _ = W1
  have HB := Lib.hid (show Below w.heap.size w W1 from hW ▸ below_one w _)
  have c0 : W1.cell? ⟨w.heap.size, k, none⟩ = some (.int .u32 m) := cell_of (hW ▸ heap_alloc_new w _) HT.out
  clear hW HT
  go_wp2_with (go_at_call 27; refine (known_any _ _).mono ?_; rintro e w' ⟨rfl, rfl⟩; rw [HK.out])
  go_ret
  exact ⟨rfl, HB.out⟩
theorem masked_any (n : Int) (w : World) :
    Calls Try.prog 21 #[.int .i64 n] w fun e w' => e = .returned (.int .u32 (CM.mk n)) ∧ Below w.heap.size w w' := by
  by_cases h : n < 0 ∨ 11 < n
  · have : CM.mk n = 0 := if_pos h
    rw [this]; exact masked_out n w h
  · obtain ⟨k, rfl⟩ := Int.eq_ofNat_of_zero_le (a := n) (by omega)
    exact masked_in k w (by omega)
set_option maxHeartbeats 400000 in
theorem rmasked_any (n : Int) (w : World) :
    Calls Try.prog 23 #[.int .i64 n] w fun e w' => e = .returned (.int .u32 (CM.mk n)) ∧ w = w' := by
  have HM := Lib.hid (show CM.mk n = if n < 0 ∨ 11 < n then 0 else if n = 0 then 63 else if n = 1 then 31 else if n = 5 then 4294967232 else if n = 9 ∨ n = 10 then 7 else 4294967295 from rfl)
  generalize CM.mk n = m at HM ⊢
  by_cases h0 : n = 0
  · subst h0
    go_enter Try.func23, Try.ntmps23
    go_wp2
    go_ret
    exact ⟨ret_int HM.out.symm, rfl⟩
  by_cases h1 : n = 1
  · subst h1
    go_enter Try.func23, Try.ntmps23
    go_wp2
    go_ret
    exact ⟨ret_int HM.out.symm, rfl⟩
  by_cases h9 : n = 9
  · subst h9
    go_enter Try.func23, Try.ntmps23
    go_wp2
    go_ret
    exact ⟨ret_int HM.out.symm, rfl⟩
  by_cases h10 : n = 10
  · subst h10
    go_enter Try.func23, Try.ntmps23
    go_wp2
    go_ret
    exact ⟨ret_int HM.out.symm, rfl⟩
  by_cases h5 : n = 5
  · subst h5
    go_enter Try.func23, Try.ntmps23
    go_wp2
    go_ret
    exact ⟨ret_int HM.out.symm, rfl⟩
  have b0 : (n == 0) = false := by simpa using h0
  have b1 : (n == 1) = false := by simpa using h1
  have b9 : (n == 9) = false := by simpa using h9
  have b10 : (n == 10) = false := by simpa using h10
  have b5 : (n == 5) = false := by simpa using h5
  by_cases hl : n < 0
  · have HV : Hid (m = 0) := Lib.hid (HM.out.trans (if_pos (.inl hl)))
    clear HM h0 h1 h9 h10 h5
    go_enter Try.func23, Try.ntmps23
    go_wp2
    go_ret
    exact ⟨ret_int HV.out.symm, rfl⟩
  by_cases hg : 11 < n
  · have HV : Hid (m = 0) := Lib.hid (HM.out.trans (if_pos (.inr hg)))
    have d : decide (n < 0) = false := by simpa using hl
    clear HM h0 h1 h9 h10 h5
    go_enter Try.func23, Try.ntmps23
    go_wp2
    go_ret
    exact ⟨ret_int HV.out.symm, rfl⟩
  · have HV : Hid (m = 4294967295) := by
      show m = 4294967295
      rw [HM.out, if_neg (by omega), if_neg h0, if_neg h1, if_neg h5, if_neg (by omega)]
    have d : decide (n < 0) = false := by simpa using hl
    have d2 : decide (11 < n) = false := by simpa using hg
    clear HM h0 h1 h9 h10 h5
    go_enter Try.func23, Try.ntmps23
    go_wp2
    go_ret
    exact ⟨ret_int HV.out.symm, rfl⟩
end Go.Proofs.Ytfdcnbhnegdlfaa.S11
/- What Write answers, of package csr and of the reference. -/
namespace Go.Proofs.Ytfdcnbhnegdlfaa.S11
open Go.RowKit S01 S10
theorem two_new (w : World) (f f' : Nat → Int) (h h' : Bool) :
    Bk ((w.alloc (.cells (AC f h).toArray 26)).alloc (.cells (AC f' h').toArray 26)) w.heap.size f h ∧ Bk ((w.alloc (.cells (AC f h).toArray 26)).alloc (.cells (AC f' h').toArray 26)) (w.heap.size + 1) f' h' ∧
      Below w.heap.size w ((w.alloc (.cells (AC f h).toArray 26)).alloc (.cells (AC f' h').toArray 26)) := by
  refine ⟨(Bk.new w f h).more _, ?_, below_then (below_one _ _) (below_one _ _)⟩
  have := Bk.new (w.alloc (.cells (AC f h).toArray 26)) f' h'
  rwa [show (w.alloc (.cells (AC f h).toArray 26)).heap.size = w.heap.size + 1 by simp] at this
theorem AC_all (f : Nat → Int) (h : Bool) : (AC f h).toArray.all (·.oneCell') = true := all_oneCell_toArray (AC_one f h)
theorem AC_size (f : Nat → Int) (h : Bool) : (Try.prog.info? 26).map (·.size) = some (AC f h).toArray.size := by kernel_rfl
theorem and_an (x y : Int) (hx : CM.Wd x) (hy : CM.Wd y) : bits .and .u32 x y = CM.an x y := u32_and x y hx.1 hx.2 hy.1 hy.2
theorem or_oq (x y : Int) (hx : CM.Wd x) (hy : CM.Wd y) : bits .or .u32 x y = CM.oq x y := u32_or x y hx.1 hx.2 hy.1 hy.2
end Go.Proofs.Ytfdcnbhnegdlfaa.S11
/- The chapter's examples hold; nothing that was there is changed. -/
namespace Go.Proofs.Ytfdcnbhnegdlfaa.S11
open Go.RowKit S01 S10
/-- The core of the examples. -/
def ex0 : Nat → Int := CM.up (CM.up (CM.up (fun _ => 0) 17 1) 25 5) 24 4
theorem ex_ok : CM.Ok ex0 := CM.up_ok (CM.up_ok (CM.up_ok CM.zero_ok _ ⟨by decide, by decide⟩) _ ⟨by decide, by decide⟩) _ ⟨by decide, by decide⟩
theorem ex_facts : CM.ks ex0 9 = 0 ∧ CM.wf ex0 9 15 26 = 7 ∧ CM.mk 5 = 4294967232 ∧ CM.ct ex0 27 = 4 := ⟨rfl, rfl, rfl, rfl⟩
theorem store_new (w : World) (f : Nat → Int) (h : Bool) : (storeCells ⟨w.heap.size, 0, none⟩ (AC f h) 0).run Try.prog (w.alloc (.cells #[.int .u32 0, .int .u32 0, .int .u32 0, .int .u32 0, .int .u32 0, .int .u32 0, .int .u32 0, .int .u32 0, .int .u32 0, .int .u32 0, .int .u32 0, .int .u32 0, .int .u32 0, .int .u32 0, .int .u32 0, .int .u32 0, .int .u32 0, .int .u32 0, .int .u32 0, .int .u32 0, .int .u32 0, .int .u32 0, .int .u32 0, .int .u32 0, .int .u32 0, .int .u32 0, .int .u32 0, .int .u32 0, .int .u32 0, .bool false] 26)) = .ok () (w.alloc (.cells (AC f h).toArray 26)) := by
  have hS := run_storeCells_new (P := Try.prog) w 26 (AC (fun _ => 0) false).toArray (AC f h).toArray (AC_size _ _) (by rw [List.size_toArray, List.size_toArray, AC_len, AC_len]) (AC_all _ _)
  rwa [zero_core] at hS
/-- The control registers, by value. -/
def CC (f : Nat → Int) : List Value := (List.range 12).map fun i => Value.int .u32 (f (17 + i))
theorem CC_get (f : Nat → Int) {k : Nat} (hk : k < 12) : (CC f)[k]? = some (.int .u32 (f (17 + k))) := by
  simp [CC, hk]
theorem AC_csr (f : Nat → Int) (h : Bool) : List.take 12 (List.drop 17 (AC f h)) = CC f := by
  apply List.ext_getElem?
  intro i
  rw [List.getElem?_take, List.getElem?_drop]
  by_cases hi : i < 12
  · rw [if_pos hi, AC_get f h (by omega), CC_get f hi]
  · rw [if_neg hi, List.getElem?_eq_none (by simp [CC]; omega)]
theorem field_csr (f : Nat → Int) (h : Bool) (w : World) : (Instr.field 26 (.agg (AC f h).toArray) 2).run Try.prog w = .ok (.agg (CC f).toArray) w := by
  simp [Instr.field, run_underlying Try.underlying26, asAgg, part, Try.isAgg24, Try.sizeOf24, AC_csr, go_sem]
theorem index_csr (f : Nat → Int) (k : Nat) (hk : k < 12) (w : World) : (Instr.index 24 (.agg (CC f).toArray) (.int .i64 k)).run Try.prog w = .ok (.int .u32 (f (17 + k))) w := by
  have hk' : (k : Int) < 12 := by omega
  have e := CC_get f hk
  simp [Instr.index, run_underlying Try.underlying24, asIntOf, part, Try.isAgg22, Try.sizeOf22, e, go_sem]
  intro h; omega
end Go.Proofs.Ytfdcnbhnegdlfaa.S11
/- A region that draws its order, whose operations keep a class of worlds: one walk in the order of the text, step by step (the kit's wp_region_quiet, at a class of one's own). -/
namespace Go.Proofs.Ytfdcnbhnegdlfaa.S11
section
variable {P : Program} {ops : Array Oper} {C : World → Prop} {Q : Act → Prop} {rest : List Oper} {o : Oper} {a : Act}
theorem wpq_val {v : Value} (hw : Region.wanted o (yielded ops a.tmps) = true) (he : ∀ w, C w → (execOp a.eval o).run P w = .ok (.value v) w) (h : wpQuiet P ops C Q rest (a.put o.dst v)) : wpQuiet P ops C Q (o :: rest) a := by
  unfold wpQuiet
  rw [if_pos hw]
  exact ⟨v, fun w hC => by unfold Oper.quietAt; rw [he w hC]; exact ⟨rfl, rfl⟩, h⟩
theorem wpq_skip (hw : Region.wanted o (yielded ops a.tmps) = false) (h : wpQuiet P ops C Q rest (a.put o.dst undef)) : wpQuiet P ops C Q (o :: rest) a := by
  unfold wpQuiet
  rw [if_neg (by rw [hw]; decide)]
  exact h
theorem wpq_load (hw : Region.wanted o (yielded ops a.tmps) = true) (ty : TypeId) (x : Operand) (ho : o.op = .load ty x) (b k : Nat) (hx : a.eval x = .pointer (some ⟨b, k, none⟩)) (cs : List Value) (d : TypeDesc) (hc : ∀ w, C w → w.rangeAt b k cs)
    (hu : P.underlying ty = some d) (hd : d.isRow = true) (hi : (P.info? ty).map (·.size) = some cs.length) (h : wpQuiet P ops C Q rest (a.put o.dst (.agg cs.toArray))) : wpQuiet P ops C Q (o :: rest) a :=
  wpq_val hw (fun w hC => by
    unfold execOp
    simp only [ho, hx, Instr.loadAt, Instr.sureAddr, Sem.run_bind, Sem.run_pure, Result.andThen_ok, run_loadVar_mid w b k ty cs d (hc w hC) hu hd hi]) h
theorem wpq_call {f : FuncId} {args : Array Value} {v : Value} (hw : Region.wanted o (yielded ops a.tmps) = true) (hc : ∀ w, C w → Calls P f args w fun e w' => e = .returned v ∧ C w') (he : ∀ w, (execOp a.eval o).run P w = .ok (.enter f args) w)
    (h : wpQuiet P ops C Q rest (a.put o.dst v)) : wpQuiet P ops C Q (o :: rest) a := by
  unfold wpQuiet
  rw [if_pos hw]
  exact ⟨v, fun w hC => by unfold Oper.quietAt; rw [he w]; exact ⟨rfl, hc w hC⟩, h⟩
/-! The same for a region of reads before a tail (wp_region_still_tail): at one world. -/
theorem wps_val {w : World} {v : Value} (hw : Region.wanted o (yielded ops a.tmps) = true) (he : (execOp a.eval o).run P w = .ok (.value v) w) (h : wpStill P ops w Q rest (a.put o.dst v)) : wpStill P ops w Q (o :: rest) a := by
  unfold wpStill
  rw [if_pos hw]
  unfold Oper.still
  rw [he, Oper.stillUpon_value]
  exact h
theorem wps_skip {w : World} (hw : Region.wanted o (yielded ops a.tmps) = false) (h : wpStill P ops w Q rest (a.put o.dst undef)) : wpStill P ops w Q (o :: rest) a := by
  unfold wpStill
  rw [if_neg (by rw [hw]; decide)]
  exact h
theorem wps_load {w : World} (hw : Region.wanted o (yielded ops a.tmps) = true) (ty : TypeId) (x : Operand) (ho : o.op = .load ty x) (b k : Nat) (hx : a.eval x = .pointer (some ⟨b, k, none⟩)) (cs : List Value) (d : TypeDesc) (hc : w.rangeAt b k cs)
    (hu : P.underlying ty = some d) (hd : d.isRow = true) (hi : (P.info? ty).map (·.size) = some cs.length) (h : wpStill P ops w Q rest (a.put o.dst (.agg cs.toArray))) : wpStill P ops w Q (o :: rest) a :=
  wps_val hw (by
    unfold execOp
    simp only [ho, hx, Instr.loadAt, Instr.sureAddr, Sem.run_bind, Sem.run_pure, Result.andThen_ok, run_loadVar_mid w b k ty cs d hc hu hd hi]) h
/-! One operation, by what it comes to. -/
theorem wp_of_val {w w' : World} {v : Value} {K : Act → World → Prop} {Q : Exit → Act → World → Prop} (he : (execOp a.eval o).run P w = .ok (.value v) w') (h : K (a.put o.dst v) w') : o.wp P a w K Q := by
  unfold Oper.wp
  rw [he, Oper.upon_value]
  exact h
theorem wp_of_enter {w : World} {f : FuncId} {args : Array Value} {v : Value} {R : World → Prop} {K : Act → World → Prop} {Q : Exit → Act → World → Prop} (hc : Calls P f args w fun e w' => e = .returned v ∧ R w') (he : (execOp a.eval o).run P w = .ok (.enter f args) w)
    (h : ∀ w', R w' → K (a.put o.dst v) w') : o.wp P a w K Q := by
  unfold Oper.wp
  rw [he, Oper.upon_enter]
  refine hc.mono ?_
  rintro e w' ⟨rfl, hr⟩
  exact h w' hr
/-- A region that is written out. -/
theorem wp_region_calm {id : Nat} {Q : Exit → Act → World → Prop} {a : Act} {w : World} {l : List Oper} (C : World → Prop) (hm : P.follows .mixedOrders = true) (hB : Region.lexB .any l.toArray = true) (hC : C w.drew)
    (h : wpQuiet P l.toArray C (fun a' => ∀ w', C w' → Q .normal a' w') l a) : (Code.region id l.toArray true).wp P Q a w :=
  wp_region_quiet (C := C) hm hB hC (by simpa using h)
end
end Go.Proofs.Ytfdcnbhnegdlfaa.S11
/- A core equals itself by Go's '=='. -/
namespace Go.Proofs.Ytfdcnbhnegdlfaa.S11
open Go.RowKit S01 S10
theorem items_same (xs : Array Value) (d : Nat) (w : World) : ∀ is : List Nat, (∀ i ∈ is, ∃ v : Int, xs[i]? = some (.int .u32 v)) → (Op.eqItems (d + 1) 22 1 xs xs is).run Try.prog w = .ok true w
  | [], _ => by simp [Op.eqItems]
  | i :: is, h => by
    obtain ⟨v, hv⟩ := h i (by simp)
    have ih := items_same xs d w is (fun j hj => h j (by simp [hj]))
    have e := run_equalIn_int w d 22 .u32 .u32 v v Try.underlying22
    simp [Op.eqItems, part, Try.isAgg22, Sem.run_bind, hv, ih, go_sem]
theorem fields_core : Try.prog.fieldsOf 26 = (match Try.prog.underlying 26 with | some (.struct fs) => fs | _ => #[]) := rfl
/-- The registers, by value. -/
def RC (f : Nat → Int) : List Value := (List.range 16).map fun i => Value.int .u32 (f (1 + i))
theorem RC_get (f : Nat → Int) {k : Nat} (hk : k < 16) : (RC f)[k]? = some (.int .u32 (f (1 + k))) := by
  simp [RC, hk]
theorem AC_reg (f : Nat → Int) (h : Bool) : List.take 16 (List.drop 1 (AC f h)) = RC f := by
  apply List.ext_getElem?
  intro i
  rw [List.getElem?_take, List.getElem?_drop]
  by_cases hi : i < 16
  · rw [if_pos hi, AC_get f h (by omega), RC_get f hi]
  · rw [if_neg hi, List.getElem?_eq_none (by simp [RC]; omega)]
theorem part_word (f : Nat → Int) (h : Bool) (k : Nat) (hk : k < 29) (w : World) : (part 22 (AC f h).toArray k).run Try.prog w = .ok (.int .u32 (f k)) w := by
  simp [part, Try.isAgg22, AC_get f h hk, go_sem]
theorem part_halt (f : Nat → Int) (h : Bool) (w : World) : (part 4 (AC f h).toArray 29).run Try.prog w = .ok (.bool h) w := by
  simp [part, Try.isAgg4, AC_halt f h, go_sem]
theorem part_regs (f : Nat → Int) (h : Bool) (w : World) : (part 23 (AC f h).toArray 1).run Try.prog w = .ok (.agg (RC f).toArray) w := by
  have e : List.take 16 (AC f h).tail = RC f := by rw [← AC_reg f h, List.drop_one]
  simp [part, Try.isAgg23, Try.sizeOf23, e, go_sem]
theorem part_csrs (f : Nat → Int) (h : Bool) (w : World) : (part 24 (AC f h).toArray 17).run Try.prog w = .ok (.agg (CC f).toArray) w := by
  simp [part, Try.isAgg24, Try.sizeOf24, AC_csr, go_sem]
theorem same_regs (f : Nat → Int) (w : World) : (Op.equalIn 9999 23 (.agg (RC f).toArray) (.agg (RC f).toArray)).run Try.prog w = .ok true w := by
  rw [run_equalIn_array w 9998 (n := 16) (e := 22) (i := (Try.prog.info? 22).get rfl) _ _ Try.underlying23 (by kernel_rfl)]
  exact items_same _ 9997 w _ fun i hi => ⟨f (1 + i), by rw [List.getElem?_toArray]; exact RC_get f (List.mem_range.1 hi)⟩
theorem same_csrs (f : Nat → Int) (w : World) : (Op.equalIn 9999 24 (.agg (CC f).toArray) (.agg (CC f).toArray)).run Try.prog w = .ok true w := by
  rw [run_equalIn_array w 9998 (n := 12) (e := 22) (i := (Try.prog.info? 22).get rfl) _ _ Try.underlying24 (by kernel_rfl)]
  exact items_same _ 9997 w _ fun i hi => ⟨f (17 + i), by rw [List.getElem?_toArray]; exact CC_get f (List.mem_range.1 hi)⟩
theorem same_core (f : Nat → Int) (h : Bool) (w : World) : (Op.equalIn 10000 26 (.agg (AC f h).toArray) (.agg (AC f h).toArray)).run Try.prog w = .ok true w := by
  rw [run_equalIn_struct w 9999 26 _ _ (by kernel_rfl) (by kernel_rfl)]
  have e1 := fun W => run_equalIn_int W 9998 22 .u32 .u32 (f 0) (f 0) Try.underlying22
  have e2 := fun W => run_equalIn_bool W 9998 4 h h Try.underlying4
  simp [fields_core, Try.underlying26, Op.eqFields, part_word f h 0 (by decide), part_halt, part_regs, part_csrs, same_regs, same_csrs, e1, e2]
end Go.Proofs.Ytfdcnbhnegdlfaa.S11
/- Arguments that are cores: how what was handed in lies in memory. -/
namespace Go.Proofs.Ytfdcnbhnegdlfaa.S11
open Go.ChangeShapes Go.WideShapes Go.RowKit Go.Joins Go.Deep S01 S10
section
variable {H : Type} {enc : TypeId × Value → H} {W : World} {spare : Nat → Bool} {held : Bool} {base : Nat}
theorem taken_one {l : List Value} {j : Nat} (h : j < l.length) : ∃ c, l[j]? = some c ∧ (l.drop j).take 1 = [c] := by
  refine ⟨l[j], List.getElem?_eq_getElem h, ?_⟩
  rw [List.drop_eq_getElem_cons h]; rfl
theorem word_at {l : List Value} {j n : Nat} {y : DataW H × List MemPlace} (hj : j < l.length) (h : DataW.trod enc Try.prog W base spare held n 22 ((l.drop j).take 1) = some y) : ∃ x : Int, l[j]? = some (.int .u32 x) ∧ CM.Wd x := by
  obtain ⟨c, hc, ht⟩ := taken_one hj
  rw [ht] at h
  obtain ⟨a, e, -, hw⟩ := DataW.trod_int Try.underlying22 h
  injection e with e
  subst e
  have hb := bounds_u32 hw
  exact ⟨a, hc, by unfold CM.Wd; omega⟩
theorem bool_at {l : List Value} {j n : Nat} {y : DataW H × List MemPlace} (hj : j < l.length) (h : DataW.trod enc Try.prog W base spare held n 4 ((l.drop j).take 1) = some y) : ∃ b : Bool, l[j]? = some (.bool b) := by
  obtain ⟨c, hc, ht⟩ := taken_one hj
  rw [ht] at h
  obtain ⟨b, e, -⟩ := DataW.trod_bool Try.underlying4 h
  injection e with e
  subst e
  exact ⟨b, hc⟩
theorem sub_one (l : List Value) (o k i : Nat) (hi : i < k) : (((l.drop o).take k).drop (i * 1)).take 1 = (l.drop (o + i)).take 1 := by
  rw [Nat.mul_one, List.drop_take, List.take_take, List.drop_drop, show min 1 (k - i) = 1 by omega]
theorem words_at {l : List Value} {t o k n : Nat} {y : DataW H × List MemPlace} (hu : Try.prog.underlying t = some (.array k 22)) (hl : o + k ≤ l.length) (hc : Try.prog.cellsOf 22 = 1) (h : DataW.trod enc Try.prog W base spare held n t ((l.drop o).take k) = some y) (i : Nat) (hi : i < k) :
    ∃ x : Int, l[o + i]? = some (.int .u32 x) ∧ CM.Wd x := by
  obtain ⟨xs, m, -, -, -, hlen, hg⟩ := DataW.trod_array hu h
  have h1 := hg i hi
  rw [hc, sub_one l o k i hi, List.getElem?_eq_getElem (by omega)] at h1
  exact word_at (by omega) h1
end
set_option maxRecDepth 100000 in
/-- A core that was handed in. -/
theorem arg_core {H : Type} {enc : TypeId × Value → H} {W : World} {b0 : Nat} {r : Reach} {v : Value} {d : DataW H} {p : List MemPlace} (hv : Value.okWide Try.prog W r b0 26 v) (h : DataW.Trod enc Try.prog W 0 (fun _ => true) true 26 v d p) :
    ∃ (f : Nat → Int) (hh : Bool), v = AR f hh ∧ CM.Ok f := by
  obtain ⟨⟨l⟩, rfl, hsz⟩ := okWide_struct Try.underlying26 hv
  have hl : l.length = 30 := hsz.trans (by kernel_rfl)
  obtain ⟨fuel, hf⟩ := h
  obtain ⟨xs, n, -, -, -, hlen, hg⟩ := DataW.trod_struct Try.underlying26 hf
  have hlen' : xs.length = 4 := hlen
  have c22 : Try.prog.cellsOf 22 = 1 := by kernel_rfl
  have c4 : Try.prog.cellsOf 4 = 1 := by kernel_rfl
  have c23 : Try.prog.cellsOf 23 = 16 := by kernel_rfl
  have c24 : Try.prog.cellsOf 24 = 12 := by kernel_rfl
  have hcells : (Value.agg l.toArray).cells.toList = l := rfl
  rw [hcells] at hg
  have g0 : DataW.trod enc Try.prog W 0 (fun _ => true) true n 22 ((l.drop 0).take (Try.prog.cellsOf 22)) = xs[0]? := hg 0 _ rfl
  have g1 : DataW.trod enc Try.prog W 0 (fun _ => true) true n 23 ((l.drop 1).take (Try.prog.cellsOf 23)) = xs[1]? := hg 1 _ rfl
  have g2 : DataW.trod enc Try.prog W 0 (fun _ => true) true n 24 ((l.drop 17).take (Try.prog.cellsOf 24)) = xs[2]? := hg 2 _ rfl
  have g3 : DataW.trod enc Try.prog W 0 (fun _ => true) true n 4 ((l.drop 29).take (Try.prog.cellsOf 4)) = xs[3]? := hg 3 _ rfl
  rw [c22, List.getElem?_eq_getElem (by omega)] at g0
  rw [c23, List.getElem?_eq_getElem (by omega)] at g1
  rw [c24, List.getElem?_eq_getElem (by omega)] at g2
  rw [c4, List.getElem?_eq_getElem (by omega)] at g3
  have w0 := word_at (j := 0) (by omega) g0
  have w1 := words_at (o := 1) (k := 16) Try.underlying23 (by omega) c22 g1
  have w2 := words_at (o := 17) (k := 12) Try.underlying24 (by omega) c22 g2
  obtain ⟨hh, w3⟩ := bool_at (j := 29) (by omega) g3
  have hall : ∀ j, j < 29 → ∃ x : Int, l[j]? = some (.int .u32 x) ∧ CM.Wd x := by
    intro j hj
    by_cases h1 : j = 0
    · rw [h1]; exact w0
    · by_cases h2 : j < 17
      · have := w1 (j - 1) (by omega)
        rwa [show 1 + (j - 1) = j by omega] at this
      · have := w2 (j - 17) (by omega)
        rwa [show 17 + (j - 17) = j by omega] at this
  obtain ⟨f, hF⟩ := choose_lt hall
  refine ⟨f, hh, ?_, fun j hj => (hF j hj).2⟩
  unfold AR
  congr 1
  congr 1
  apply List.ext_getElem?
  intro i
  by_cases h1 : i < 29
  · rw [(hF i h1).1, AC_get f hh h1]
  · by_cases h2 : i = 29
    · rw [h2, w3, AC_halt]
    · rw [List.getElem?_eq_none (by omega), List.getElem?_eq_none (by rw [AC_len]; omega)]
end Go.Proofs.Ytfdcnbhnegdlfaa.S11
