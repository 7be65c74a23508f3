/-
  Plain facts on memory as lists of bytes: numbers read, numbers written, differences. No condition but those named.
-/
import Derived.Test.YtfdcnbhnegdlfaaS01
import Derived.Laws.CopyOwn
import Derived.Maps.AppendAt
import Derived.Deep.AppendLies
import Derived.OwnWalk
import Derived.RegionTactic
import Derived.Lib.SliceRun
import Derived.Deep.RegionLaw
import Derived.Deep.Cut
import Derived.Deep.QuietTactic
import Derived.BigQuiet
import Derived.ProofKit
import Derived.OpenShut
import Derived.ChangeSlices
import Derived.Lib.SmallJoins
namespace Go.Proofs.Ytfdcnbhnegdlfaa.S10
open S01
namespace MM
/-- The cause of a location: none or 9. -/
def ck (n : Nat) (a s : Int) : Int := if (s = 1 ∨ s = 2 ∨ s = 4) ∧ a + s ≤ n then 0 else 9
/-- May memory be of so many bytes? -/
def rg (n : Nat) : Bool := decide (64 ≤ n) && (decide (n ≤ 16384) && decide (n % 64 = 0))
/-- The number of bytes, the least significant first. -/
def nb : List UInt8 → Nat
  | [] => 0
  | b :: r => b.toNat + 256 * nb r
/-- What stands at a location. -/
def seg (m : List UInt8) (a s : Nat) : List UInt8 := (m.drop a).take s
/-- A number's lowest bytes. -/
def vB (v s : Nat) : List UInt8 := (List.range s).map fun i => UInt8.ofNat (v / 2 ^ (8 * i))
/-- Memory behind a write. -/
def wr (m : List UInt8) (a s v : Nat) : List UInt8 := splice m a (vB v s)
/-- Where two memories are unlike. -/
def df (a b : List UInt8) (k : Nat) : List Nat := (List.range k).filter fun i => decide (a[i]? ≠ b[i]?)
theorem vB_len (v s : Nat) : (vB v s).length = s := by simp [vB]
theorem vB_succ (v s : Nat) : vB v (s + 1) = vB v s ++ [UInt8.ofNat (v / 2 ^ (8 * s))] := by simp [vB, List.range_succ]
theorem wr_len {m : List UInt8} {a s : Nat} (v : Nat) (h : a + s ≤ m.length) : (wr m a s v).length = m.length := length_splice _ _ _ (by rw [vB_len]; exact h)
theorem seg_len {m : List UInt8} {a s : Nat} (h : a + s ≤ m.length) : (seg m a s).length = s := by simp [seg]; omega
theorem pow256 (k : Nat) : 2 ^ (8 * (k + 1)) = 2 ^ (8 * k) * 256 := by rw [show 8 * (k + 1) = 8 * k + 8 by omega, Nat.pow_add]
theorem nb_lt : ∀ l : List UInt8, nb l < 2 ^ (8 * l.length)
  | [] => by simp [nb]
  | b :: r => by
    have := nb_lt r
    have hb := b.toNat_lt
    rw [List.length_cons, pow256, nb]
    generalize 2 ^ (8 * r.length) = P at *
    omega
theorem nb_snoc (l : List UInt8) (b : UInt8) : nb (l ++ [b]) = nb l + b.toNat * 2 ^ (8 * l.length) := by
  induction l with
  | nil => simp [nb]
  | cons c r ih =>
    rw [List.cons_append, nb, ih, nb, List.length_cons, pow256]
    have : b.toNat * (2 ^ (8 * r.length) * 256) = 256 * (b.toNat * 2 ^ (8 * r.length)) := by
      rw [← Nat.mul_assoc, Nat.mul_comm _ 256]
    omega
theorem nb_drop (l : List UInt8) (k : Nat) (h : k < l.length) : nb (l.drop k) = 256 * nb (l.drop (k + 1)) + (l.getD k 0).toNat := by
  rw [List.drop_eq_getElem_cons h, nb, List.getD_eq_getElem?_getD, List.getElem?_eq_getElem h]
  simp only [Option.getD_some]
  omega
theorem nb_vB (v : Nat) : ∀ s : Nat, nb (vB v s) = v % 2 ^ (8 * s)
  | 0 => by simp [nb, vB, Nat.mod_one]
  | s + 1 => by
    rw [vB_succ, nb_snoc, nb_vB v s, vB_len, pow256, UInt8.toNat_ofNat', Nat.mod_mul, Nat.mul_comm (2 ^ (8 * s)) (_ % 256)]
theorem vB_eq : ∀ (s : Nat) (l : List UInt8), l.length = s → vB (nb l) s = l
  | 0, l, h => by rw [List.eq_nil_of_length_eq_zero h]; rfl
  | s + 1, l, h => by
    obtain ⟨b, r, rfl⟩ : ∃ b r, l = b :: r := by cases l with
      | nil => simp at h
      | cons b r => exact ⟨b, r, rfl⟩
    have h' : r.length = s := by simpa using h
    have ih := vB_eq s r h'
    have hb := b.toNat_lt
    have e0 : UInt8.ofNat (nb (b :: r)) = b := by
      apply UInt8.toNat_inj.1
      rw [UInt8.toNat_ofNat', nb]
      omega
    have e1 : ∀ i, (nb (b :: r)) / 2 ^ (8 * (i + 1)) = nb r / 2 ^ (8 * i) := by
      intro i
      rw [pow256, Nat.mul_comm, ← Nat.div_div_eq_div_mul, nb]
      congr 1
      omega
    unfold vB
    rw [List.range_succ_eq_map, List.map_cons, List.map_map]
    simp only [Function.comp_def, Nat.succ_eq_add_one, e1, Nat.mul_zero, Nat.pow_zero, Nat.div_one, e0]
    exact congrArg (b :: ·) ih
theorem splice_take {α : Type} (L : List α) (a : Nat) (cs : List α) (h : a + cs.length ≤ L.length) : (splice L a cs).take a = L.take a := by
  unfold splice
  rw [List.take_append_of_le_length (by rw [List.length_take]; omega), List.take_take, Nat.min_self]
theorem splice_drop {α : Type} (L : List α) (a : Nat) (cs : List α) (h : a + cs.length ≤ L.length) : (splice L a cs).drop a = cs ++ L.drop (a + cs.length) := by
  unfold splice
  rw [List.drop_append_of_le_length (by rw [List.length_take]; omega), List.drop_eq_nil_of_le (by rw [List.length_take]; omega), List.nil_append]
theorem seg_wr {m : List UInt8} {a s : Nat} (v : Nat) (h : a + s ≤ m.length) : seg (wr m a s v) a s = vB v s := by
  unfold seg wr
  rw [splice_drop _ _ _ (by rw [vB_len]; exact h), List.take_append_of_le_length (by rw [vB_len]; exact Nat.le_refl _), List.take_of_length_le (by rw [vB_len]; exact Nat.le_refl _)]
theorem splice_splice {α : Type} (L : List α) (a : Nat) (cs ds : List α) (h : a + cs.length ≤ L.length) (hd : ds.length = cs.length) : splice (splice L a cs) a ds = splice L a ds := by
  show (splice L a cs).take a ++ (ds ++ (splice L a cs).drop (a + ds.length)) = _
  rw [splice_take _ _ _ h, ← List.drop_drop, splice_drop _ _ _ h, List.drop_append, List.drop_eq_nil_of_le (by omega), hd, Nat.sub_self, List.nil_append, List.drop_zero, ← hd]
  rfl
theorem splice_self {m : List UInt8} {a s : Nat} (h : a + s ≤ m.length) : splice m a (seg m a s) = m := by
  unfold splice
  rw [seg_len h]
  unfold seg
  rw [← List.drop_drop, List.take_append_drop, List.take_append_drop]
/-- Who writes what stood there restores memory. -/
theorem wr_back {m : List UInt8} {a s : Nat} (v : Nat) (h : a + s ≤ m.length) : wr (wr m a s v) a s (nb (seg m a s)) = m := by
  unfold wr
  rw [splice_splice _ _ _ _ (by rw [vB_len]; exact h) (by rw [vB_len, vB_len]), vB_eq s _ (seg_len h), splice_self h]
/-- Who writes what stands there changes nothing. -/
theorem wr_same {m : List UInt8} {a s : Nat} (v : Nat) (h : a + s ≤ m.length) (he : v % 2 ^ (8 * s) = nb (seg m a s)) : wr m a s v = m := by
  have : vB v s = seg m a s := by
    rw [← vB_eq s _ (vB_len v s), nb_vB, he, vB_eq s _ (seg_len h)]
  unfold wr
  rw [this, splice_self h]
theorem df_succ (a b : List UInt8) (k : Nat) : df a b (k + 1) = df a b k ++ if a[k]? = b[k]? then [] else [k] := by
  unfold df
  rw [List.range_succ, List.filter_append]
  congr 1
  by_cases h : a[k]? = b[k]?
  · simp [h]
  · simp [h]
theorem df_mem {a b : List UInt8} {k i : Nat} : i ∈ df a b k ↔ i < k ∧ a[i]? ≠ b[i]? := by simp [df]
theorem df_len (a b : List UInt8) (k : Nat) : (df a b k).length ≤ k := by
  unfold df
  exact Nat.le_trans (List.length_filter_le _ _) (by simp)
theorem df_nil {a b : List UInt8} : df a b (max a.length b.length) = [] ↔ a = b := by
  constructor
  · intro h
    apply List.ext_getElem?
    intro i
    by_cases hi : i < max a.length b.length
    · by_cases e : a[i]? = b[i]?
      · exact e
      · have := df_mem.2 ⟨hi, e⟩
        rw [h] at this
        simp at this
    · rw [List.getElem?_eq_none (by omega), List.getElem?_eq_none (by omega)]
  · rintro rfl
    simp [df]
/-- A write changes bytes of its location alone. -/
theorem df_in {m : List UInt8} {a s k i : Nat} (v : Nat) (h : a + s ≤ m.length) (hi : i ∈ df m (wr m a s v) k) : a ≤ i ∧ i < a + s := by
  have hne := (df_mem.1 hi).2
  unfold wr splice at hne
  rw [vB_len] at hne
  constructor
  · rcases Nat.lt_or_ge i a with h1 | h1
    · rw [List.getElem?_append_left (by rw [List.length_take]; omega), List.getElem?_take, if_pos h1] at hne
      exact absurd rfl hne
    · exact h1
  · rcases Nat.lt_or_ge i (a + s) with h1 | h1
    · exact h1
    · rw [List.getElem?_append_right (by rw [List.length_take]; omega), List.length_take, Nat.min_eq_left (by omega), List.getElem?_append_right (by rw [vB_len]; omega), vB_len, List.getElem?_drop, show a + s + (i - a - s) = i by omega] at hne
      exact absurd rfl hne
/-- Bytes as numbers. -/
def il (l : List UInt8) : List Int := l.map fun b => (b.toNat : Int)
theorem il_len (l : List UInt8) : (il l).length = l.length := by simp [il]
theorem il_get (l : List UInt8) (i : Nat) : (il l).getD i 0 = ((l.getD i 0).toNat : Int) := by
  simp only [il, List.getD_eq_getElem?_getD, List.getElem?_map]
  cases l[i]? <;> rfl
theorem il_Bs (l : List UInt8) : BM.Bs (il l) := by
  intro i
  rw [il_get]
  have := (l.getD i 0).toNat_lt
  omega
theorem ow_nb (l : List UInt8) : ∀ k : Nat, k ≤ l.length → BM.ow (il l) k = (nb (l.take k) : Int)
  | 0, _ => by simp [BM.ow, nb]
  | k + 1, h => by
    have hk : k < l.length := h
    rw [BM.ow, ow_nb l k (by omega), il_get, BM.pw8, List.take_succ_eq_append_getElem hk, nb_snoc, List.length_take, Nat.min_eq_left (by omega), List.getD_eq_getElem?_getD, List.getElem?_eq_getElem hk]
    simp
theorem wo_nb {l : List UInt8} (h : l.length ≤ 4) : BM.wo (il l) = (nb l : Int) := by
  unfold BM.wo
  rw [il_len, Nat.min_eq_right h, ow_nb l _ (Nat.le_refl _), List.take_length]
theorem bl_vB (v s : Nat) : BM.bl (v : Int) s = il (vB v s) := by
  unfold BM.bl il vB
  rw [List.map_map]
  apply List.map_congr_left
  intro i _
  unfold BM.bb BM.vb
  simp only [Function.comp_apply, UInt8.toNat_ofNat']
  omega
theorem zx_mod (v s : Nat) (hs : s ≤ 4) : BM.zx (v : Int) (8 * (s : Int)) = ((v % 2 ^ (8 * s) : Nat) : Int) := by
  unfold BM.zx BM.zxN
  rw [BM.cl_in _ _ _ (by omega) (by omega), BM.ob_mod, Int.toNat_natCast, show (8 * (s : Int)).toNat = 8 * s by omega]
end MM
end Go.Proofs.Ytfdcnbhnegdlfaa.S10
/- How bytes lie in memory, whoever owns them; blocks that stay as they were. No condition of its own. -/
namespace Go.Proofs.Ytfdcnbhnegdlfaa.S10
open Go.RowKit Go.Maps S01
theorem cell_of {w : World} {k o : Nat} {c : Array Value} {e : TypeId} {f : Nat × Nat} {v : Value} (h : w.heap[k]? = some (.cells c e f)) (hv : c[o]? = some v) : w.cell? ⟨k, o, none⟩ = some v := by
  simp [World.cell?, h, hv]
theorem unfrozen {w : World} {k o : Nat} {c : Array Value} {e : TypeId} (h : w.heap[k]? = some (.cells c e (0, 0))) : w.frozen? ⟨k, o, none⟩ = false := by
  simp [World.frozen?, h]
theorem heap_set {w : World} {k o : Nat} {c : Array Value} {e : TypeId} {f : Nat × Nat} {v : Value} (h : w.heap[k]? = some (.cells c e f)) : (w.setCell ⟨k, o, none⟩ v).heap[k]? = some (.cells (c.setIfInBounds o v) e f) := by
  simp only [World.setCell, Array.getElem?_modify]
  simp [h]
theorem lt_of_heap {w : World} {k : Nat} {o : Obj} (h : w.heap[k]? = some o) : k < w.heap.size := (Array.getElem?_eq_some_iff.1 h).1
theorem own_keep {w w' : World} {B e size n : Nat} {v : Value} {xs : List Value} (h : w.ownsRow B e size v n xs) (hb : ∀ k, v.ownBlock = some k → w'.heap[k]? = w.heap[k]?) : w'.ownsRow B e size v n xs := by
  refine ⟨h.1, ?_⟩
  rcases h.2 with h' | ⟨g, cap, cur, rfl, h1, h2, h3⟩
  · exact .inl h'
  · exact .inr ⟨g, cap, cur, rfl, h1, (hb g rfl).trans h2, h3⟩
theorem own_later {w w' : World} {B e size n : Nat} {v : Value} {xs : List Value} (h : w.ownsRow B e size v n xs) (hb : Below w.heap.size w w') : w'.ownsRow B e size v n xs :=
  own_keep h fun k hk => hb.block k (h.lt k hk).2
theorem heap_other {w : World} {k j o : Nat} {v : Value} (h : j ≠ k) : (w.setCell ⟨k, o, none⟩ v).heap[j]? = w.heap[j]? := Below.heap_setCell _ _ _ _ h
theorem size_set (w : World) (a : Addr) (v : Value) : (w.setCell a v).heap.size = w.heap.size := by simp [World.setCell]
theorem below_one (w : World) (o : Obj) : Below w.heap.size w (w.alloc o) := (Below.refl _ w).alloc (Nat.le_refl _) o
theorem below_drewN' (w : World) (n : Nat) : Below w.heap.size w (w.drewN n) := below_drewN (Below.refl _ _) n
theorem below_then {w w' w2 : World} (h : Below w.heap.size w w') (h' : Below w'.heap.size w' w2) : Below w.heap.size w w2 := h.trans (h'.mono h.size)
def byC (bs : List UInt8) : List Value := bs.map fun b => .int .u8 b.toNat
theorem byC_len (bs : List UInt8) : (byC bs).length = bs.length := by simp [byC]
theorem byC_cs (bs : List UInt8) : byC bs = cs (MM.il bs) := by simp [byC, cs, MM.il]
theorem byC_one (bs : List UInt8) : ∀ u ∈ byC bs, u.oneCell' = true := by
  intro u hu
  obtain ⟨b, -, rfl⟩ := List.mem_map.1 hu
  rfl
theorem getD_some {bs : List UInt8} {j : Nat} (h : j < bs.length) : bs[j]? = some (bs.getD j 0) := by
  rw [List.getD_eq_getElem?_getD, List.getElem?_eq_getElem h]
  rfl
theorem byC_get {bs : List UInt8} {j : Nat} {u : Value} (h : (byC bs)[j]? = some u) : j < bs.length ∧ u = .int .u8 (bs.getD j 0).toNat := by
  rw [byC, List.getElem?_map, Option.map_eq_some_iff] at h
  obtain ⟨b, h1, rfl⟩ := h
  have hj : j < bs.length := (List.getElem?_eq_some_iff.1 h1).1
  rw [getD_some hj] at h1
  injection h1 with h1
  exact ⟨hj, by rw [h1]⟩
theorem byC_at {bs : List UInt8} {j : Nat} (h : j < bs.length) : (byC bs)[j]? = some (.int .u8 (bs.getD j 0).toNat) := by
  rw [byC, List.getElem?_map, getD_some h]
  rfl
theorem byC_splice (m : List UInt8) (a : Nat) (ds : List UInt8) : splice (byC m) a (byC ds) = byC (splice m a ds) := by
  unfold splice byC
  simp
/-- A slice that reads as these bytes. -/
def ByR (w : World) (v : Value) (bs : List UInt8) : Prop :=
  (bs = [] ∧ ∃ a c, v = .slice a 0 c) ∨ (bs ≠ [] ∧ ∃ g o c, v = .slice (some ⟨g, o, none⟩) bs.length c ∧ bs.length ≤ c ∧ c ≤ maxLen ∧ ∀ j, j < bs.length → w.cell? ⟨g, o + j, none⟩ = some (.int .u8 (bs.getD j 0).toNat))
theorem cell_below {w w' : World} {a : Addr} {v : Value} (hb : Below w.heap.size w w') (h : w.cell? a = some v) : w'.cell? a = some v := (hb.cell (World.block_lt_of_cell? _ _ h)).trans h
theorem ByR.below {w w' : World} {v : Value} {bs : List UInt8} (h : ByR w v bs) (hb : Below w.heap.size w w') : ByR w' v bs := by
  rcases h with h | ⟨h0, g, o, c, hv, h1, h2, h3⟩
  · exact .inl h
  · exact .inr ⟨h0, g, o, c, hv, h1, h2, fun j hj => cell_below hb (h3 j hj)⟩
theorem ByR.of_own {w : World} {N : Nat} {v : Value} {bs : List UInt8} (h : w.ownsRow N 5 1 v bs.length (byC bs)) : ByR w v bs := by
  by_cases e : bs = []
  · subst e
    rcases h.2 with ⟨h, -⟩ | ⟨g, cap, cur, h, -⟩
    · exact .inl ⟨rfl, _, _, h⟩
    · exact .inl ⟨rfl, _, _, h⟩
  · rcases h.2 with ⟨_, h0⟩ | ⟨g, cap, cur, rfl, h1, h2, h3, h4, -⟩
    · exact absurd (List.eq_nil_of_length_eq_zero h0) e
    · refine .inr ⟨e, g, 0, cap, rfl, h3, h4, fun j hj => ?_⟩
      rw [Nat.zero_add, h.cellAt j (by omega), byC_at hj]
theorem by_form {w : World} {v : Value} {bs : List UInt8} (hs : ByR w v bs) : ∃ a c, v = .slice a bs.length c := by
  rcases hs with ⟨rfl, a, c, rfl⟩ | ⟨_, g, o, c, rfl, _⟩
  · exact ⟨a, c, rfl⟩
  · exact ⟨_, c, rfl⟩
/-- Bytes, one of them at least: where they lie. -/
theorem by_at {w : World} {a : Option Addr} {n c : Nat} {bs : List UInt8} (h : ByR w (.slice a n c) bs) (hn : bs.length = n) (h0 : 0 < n) :
    ∃ g o, a = some ⟨g, o, none⟩ ∧ n ≤ c ∧ c ≤ maxLen ∧ ∀ j, j < n → w.cell? ⟨g, o + j, none⟩ = some (.int .u8 (bs.getD j 0).toNat) := by
  rcases h with ⟨rfl, -⟩ | ⟨-, g, o, c', hv, h1, h2, h3⟩
  · simp at hn; omega
  · injection hv with e1 e2 e3
    subst e1 e3
    subst hn
    exact ⟨g, o, rfl, h1, h2, h3⟩
/-- A row of whole numbers. -/
def inC (l : List Nat) : List Value := l.map fun (k : Nat) => .int .i64 k
theorem inC_len (l : List Nat) : (inC l).length = l.length := by simp [inC]
end Go.Proofs.Ytfdcnbhnegdlfaa.S10
/- What Right, Check and LineOf answer, and the reference's; neither changes memory. For every slice of bytes. -/
namespace Go.Proofs.Ytfdcnbhnegdlfaa.S10
open Go.RowKit Go.Maps S01
theorem rg_no {n : Nat} (h : ¬ (64 ≤ n ∧ n ≤ 16384 ∧ n % 64 = 0)) : MM.rg n = false := by
  cases e : MM.rg n with
  | false => rfl
  | true => exact absurd (by simpa [MM.rg] using e) h
theorem ck_no {n : Nat} {x s : Int} (h : ¬ ((s = 1 ∨ s = 2 ∨ s = 4) ∧ x + s ≤ n)) : MM.ck n x s = 9 := if_neg h
theorem ck_yes {n : Nat} {x s : Int} (h : (s = 1 ∨ s = 2 ∨ s = 4) ∧ x + s ≤ n) : MM.ck n x s = 0 := if_pos h
end Go.Proofs.Ytfdcnbhnegdlfaa.S10
/- What Read answers, and the reference's; neither changes memory. For every slice of bytes. -/
namespace Go.Proofs.Ytfdcnbhnegdlfaa.S10
open Go.RowKit Go.Maps S01
/-- What is read at a location. -/
def MM.rd (m : List UInt8) (x s : Int) : Int := if MM.ck m.length x s = 0 then (MM.nb (MM.seg m x.toNat s.toNat) : Int) else 0
theorem ck_open {n : Nat} {x s : Int} (h : MM.ck n x s = 0) : (s = 1 ∨ s = 2 ∨ s = 4) ∧ x + s ≤ n := by
  unfold MM.ck at h
  split at h
  · assumption
  · simp at h
theorem ck_two (n : Nat) (x s : Int) : MM.ck n x s = 0 ∨ MM.ck n x s = 9 := by
  unfold MM.ck
  split
  · exact .inl rfl
  · exact .inr rfl
theorem seg_at {m : List UInt8} {a s i : Nat} (h : i < s) : (MM.seg m a s).getD i 0 = m.getD (a + i) 0 := by
  simp [MM.seg, List.getD_eq_getElem?_getD, h]
theorem seg_nb_lt {m : List UInt8} {a s : Nat} (h : a + s ≤ m.length) (hs : s ≤ 4) : MM.nb (MM.seg m a s) < 4294967296 := by
  have h1 := MM.nb_lt (MM.seg m a s)
  rw [MM.seg_len h] at h1
  have h2 : 2 ^ (8 * s) ≤ 2 ^ 32 := Nat.pow_le_pow_right (by omega) (by omega)
  exact Nat.lt_of_lt_of_le h1 h2
theorem rd_bd (m : List UInt8) (x s : Int) (h0 : 0 ≤ x) : 0 ≤ MM.rd m x s ∧ MM.rd m x s < 4294967296 := by
  unfold MM.rd
  split
  · rename_i h
    obtain ⟨h1, h2⟩ := ck_open h
    have := seg_nb_lt (m := m) (a := x.toNat) (s := s.toNat) (by omega) (by omega)
    omega
  · omega
end Go.Proofs.Ytfdcnbhnegdlfaa.S10
/- Bytes appended to a row of one's own; a copy of bytes. No condition but lengths. -/
namespace Go.Proofs.Ytfdcnbhnegdlfaa.S10
open Go.RowKit Go.Maps S01
theorem add_plain (b o j : Nat) : (⟨b, o, none⟩ : Addr).add j = ⟨b, o + j, none⟩ := by simp [Addr.add]
theorem own_new (w : World) : (w.alloc (.cells #[] 5)).ownsRow w.heap.size 5 1 (.slice (some ⟨w.heap.size, 0, none⟩) 0 0) 0 [] := by
  refine ⟨rfl, .inr ⟨w.heap.size, 0, #[], rfl, Nat.le_refl _, heap_alloc_new w _, Nat.le_refl _, by unfold maxLen; omega, rfl, rfl⟩⟩
section
variable {ops : Array Oper} {rest : List Oper} {o : Oper} {a : Act} {w : World} {base n : Nat} {v x : Value} {xs : List Value} {bs : List UInt8}
end
/-- What a copy made in new memory leaves. -/
theorem copied {w w1 : World} {v' : Value} {bs : List UInt8} (h1 : w1.ownsRow w.heap.size 5 1 v' (0 + bs.length) ([] ++ byC bs)) (h2 : (w.alloc (.cells #[] 5)).grownBy w1 (some w.heap.size)) :
    w1.ownsRow w.heap.size 5 1 v' bs.length (byC bs) ∧ Below w.heap.size w w1 := by
  rw [Nat.zero_add, List.nil_append] at h1
  exact ⟨h1, ((Below.refl _ w).alloc (Nat.le_refl _) _).grown h2 (by simp) (by intro k hk; injection hk with hk; omega)⟩
end Go.Proofs.Ytfdcnbhnegdlfaa.S10
/- What Write makes: new memory with the number stored; nothing that was there is changed. For every slice of bytes of a bounded length. -/
namespace Go.Proofs.Ytfdcnbhnegdlfaa.S10
open Go.RowKit Go.Maps S01
/-- What a write answers. -/
def MM.wt (m : List UInt8) (x s : Int) (u : Nat) : List UInt8 := if MM.ck m.length x s = 0 then MM.wr m x.toNat s.toNat u else []
theorem splice_front {α : Type} (L : List α) (z n : Nat) (ds : List α) (h : z + ds.length ≤ n) (hn : n ≤ L.length) : (splice L z ds).take n = splice (L.take n) z ds := by
  unfold splice
  rw [List.take_append, List.length_take, Nat.min_eq_left (show z ≤ L.length by omega), List.take_of_length_le (by rw [List.length_take]; omega), List.take_append, List.take_of_length_le (show ds.length ≤ n - z by omega), List.take_take, Nat.min_eq_left (show z ≤ n by omega), List.drop_take, show n - z - ds.length = n - (z + ds.length) by omega]
theorem own_spliced {w : World} {G n cap N z : Nat} {cur : List Value} {bs ds : List UInt8} (hg : w.heap[G]? = some (.cells (splice cur z (byC ds)).toArray 5 (0, 0))) (hN : N ≤ G) (hnc : n ≤ cap) (hcm : cap ≤ maxLen) (hsz : cur.length = cap * 1) (htake : cur.take (n * 1) = byC bs) (hn : bs.length = n) (hf : z + ds.length ≤ n) :
    w.ownsRow N 5 1 (.slice (some ⟨G, 0, none⟩) n cap) n (byC (splice bs z ds)) := by
  rw [Nat.mul_one] at hsz htake
  refine ⟨by rw [byC_len, length_splice _ _ _ (by omega)]; omega, .inr ⟨G, cap, _, rfl, hN, hg, hnc, hcm, ?_, ?_⟩⟩
  · rw [List.size_toArray, length_splice _ _ _ (by rw [byC_len]; omega)]; omega
  · rw [Nat.mul_one, List.toList_toArray, splice_front _ _ _ _ (by rw [byC_len]; omega) (by omega), htake, byC_splice]
theorem own_gone {w : World} {N n : Nat} {v : Value} {bs : List UInt8} (h : w.ownsRow N 5 1 v n (byC bs)) (h0 : 0 < n) : ∃ G cap cur, v = .slice (some ⟨G, 0, none⟩) n cap ∧ N ≤ G ∧ w.heap[G]? = some (.cells (cur : List Value).toArray 5 (0, 0)) ∧ n ≤ cap ∧ cap ≤ maxLen ∧ cur.length = cap * 1 ∧ cur.take (n * 1) = byC bs := by
  rcases h.2 with ⟨_, h⟩ | ⟨g, cap, cur, h1, h2, h3, h4, h5, h6, h7⟩
  · omega
  · exact ⟨g, cap, cur.toList, h1, h2, by rw [h3], h4, h5, by rw [Array.length_toList]; exact h6, h7⟩
end Go.Proofs.Ytfdcnbhnegdlfaa.S10
/- What the reference's Write makes: the same memory. For every slice of bytes of a bounded length. -/
namespace Go.Proofs.Ytfdcnbhnegdlfaa.S10
open Go.RowKit Go.Maps S01
theorem wr_zero (bs : List UInt8) (z u : Nat) : splice bs z (MM.vB u 0) = bs := by
  unfold splice
  show bs.take z ++ ([] ++ bs.drop (z + 0)) = bs
  rw [Nat.add_zero, List.nil_append, List.take_append_drop]
theorem wr_step {bs : List UInt8} {z k : Nat} (u : Nat) (h : z + k < bs.length) : (byC (splice bs z (MM.vB u k))).set (z + k) (.int .u8 (((u / 2 ^ (8 * k) : Nat) : Int) % 256)) = byC (splice bs z (MM.vB u (k + 1))) := by
  have e : Value.int .u8 (((u / 2 ^ (8 * k) : Nat) : Int) % 256) = (fun b : UInt8 => Value.int .u8 b.toNat) (UInt8.ofNat (u / 2 ^ (8 * k))) := by
    show _ = Value.int .u8 ((UInt8.ofNat (u / 2 ^ (8 * k))).toNat : Int)
    rw [UInt8.toNat_ofNat']
    congr 1
  rw [e, byC, ← List.map_set]
  show _ = List.map _ _
  congr 1
  unfold splice
  rw [MM.vB_len, MM.vB_len, MM.vB_succ, List.set_append_right _ _ (by rw [List.length_take]; omega), List.length_take, Nat.min_eq_left (by omega), show z + k - z = k by omega, List.set_append_right _ _ (by rw [MM.vB_len]; omega), MM.vB_len, Nat.sub_self, List.drop_eq_getElem_cons h, List.set_cons_zero, List.append_assoc, Nat.add_assoc]
  rfl
end Go.Proofs.Ytfdcnbhnegdlfaa.S10
/- What Diff makes: new memory with the indices at which two slices of bytes differ; nothing that was there is changed. For slices of a bounded length. -/
namespace Go.Proofs.Ytfdcnbhnegdlfaa.S10
open Go.RowKit Go.Maps S01
theorem info3 : (Try.prog.info? 3).map (fun i => (i.zero, i.size, i.bytes)) = some (some (.int .i64 0), 1, 8) := by kernel_rfl
/-- What the loop keeps: the differences found so far, in memory of its own. -/
def DfR (w wr : World) (x : Value) (a b : List UInt8) (k : Nat) : Prop := wr.ownsRow w.heap.size 3 1 x (MM.df a b k).length (inC (MM.df a b k)) ∧ Below w.heap.size w wr
theorem DfR.start (w : World) (a b : List UInt8) : DfR w w (.slice none 0 0) a b 0 := ⟨World.ownsRow_nil _ _ _ _, Below.refl _ _⟩
theorem DfR.drew {w wr : World} {x : Value} {a b : List UInt8} {k : Nat} (h : DfR w wr x a b k) (n : Nat) : DfR w (wr.drewN n) x a b k := ⟨own_later h.1 (below_drewN' _ _), below_then h.2 (below_drewN' _ _)⟩
theorem DfR.skip {w wr : World} {x : Value} {a b : List UInt8} {k : Nat} (h : DfR w wr x a b k) (e : a[k]? = b[k]?) : DfR w wr x a b (k + 1) := by
  unfold DfR
  rw [MM.df_succ, if_pos e, List.append_nil]
  exact h
theorem DfR.more {w wr w1 : World} {x x' : Value} {a b : List UInt8} {k n : Nat} {xs : List Value} (h : DfR w wr x a b k) (e : a[k]? ≠ b[k]?) {o : Obj} (hn : (MM.df a b k).length = n) (hxs : inC (MM.df a b k) = xs) (hown : w1.ownsRow w.heap.size 3 1 x' (n + 1) (xs ++ [.int .i64 k])) (hg : (wr.alloc o).grownBy w1 x.ownBlock) : DfR w w1 x' a b (k + 1) := by
  subst hn hxs
  unfold DfR
  rw [MM.df_succ, if_neg e]
  refine ⟨?_, (h.2.alloc h.2.size o).grown hg (Nat.le_trans h.2.size (by simp)) fun j hj => (h.1.lt j hj).1⟩
  rw [List.length_append, inC, List.map_append]
  exact hown
theorem at_both {a b : List UInt8} {k : Nat} (ha : k < a.length) (hb : k < b.length) : (a[k]? = b[k]?) ↔ ((a.getD k 0).toNat : Int) = ((b.getD k 0).toNat : Int) := by
  rw [getD_some ha, getD_some hb, Option.some.injEq, ← UInt8.toNat_inj]
  omega
theorem at_one {a b : List UInt8} {k : Nat} (h : (a.length ≤ k ∧ k < b.length) ∨ (b.length ≤ k ∧ k < a.length)) : a[k]? ≠ b[k]? := by
  rcases h with ⟨h1, h2⟩ | ⟨h1, h2⟩
  · rw [List.getElem?_eq_none h1, getD_some h2]; simp
  · rw [List.getElem?_eq_none h1, getD_some h2]; simp
/-- Where the bytes of a slice lie. -/
theorem by_cells {w : World} {A : Option Addr} {n c : Nat} {bs : List UInt8} (h : ByR w (.slice A n c) bs) (hn : bs.length = n) : ∀ k, k < n → ∃ g o, A = some ⟨g, o, none⟩ ∧ w.cell? ⟨g, o + k, none⟩ = some (.int .u8 (bs.getD k 0).toNat) := by
  intro k hk
  obtain ⟨g, o, e, -, -, hc⟩ := by_at h hn (by omega)
  exact ⟨g, o, e, hc k hk⟩
end Go.Proofs.Ytfdcnbhnegdlfaa.S10
/- What the reference's Diff makes: the same indices. For slices of a bounded length. -/
namespace Go.Proofs.Ytfdcnbhnegdlfaa.S10
open Go.RowKit Go.Maps S01
end Go.Proofs.Ytfdcnbhnegdlfaa.S10
/- The comparisons of bytes and of whole numbers: what they answer. For slices of a bounded length. -/
namespace Go.Proofs.Ytfdcnbhnegdlfaa.S10
open Go.RowKit Go.Maps S01
theorem take_succ_eq {α : Type} {a b : List α} {k : Nat} (h : a.take k = b.take k) (e : a[k]? = b[k]?) : a.take (k + 1) = b.take (k + 1) := by
  rw [List.take_add_one, List.take_add_one, h, e]
theorem inC_get {l : List Nat} {j : Nat} (h : j < l.length) : (inC l)[j]? = some (.int .i64 (l.getD j 0 : Nat)) := by
  rw [inC, List.getElem?_map, List.getD_eq_getElem?_getD, List.getElem?_eq_getElem h]
  rfl
theorem own_ints {w : World} {N n : Nat} {x : Value} {l : List Nat} (h : w.ownsRow N 3 1 x n (inC l)) : (n = 0 ∧ ∃ ao cap, x = .slice ao 0 cap) ∨ (∃ g cap, x = .slice (some ⟨g, 0, none⟩) n cap ∧ N ≤ g ∧ g < w.heap.size ∧ ∀ j, j < n → w.cell? ⟨g, j, none⟩ = some (.int .i64 (l.getD j 0 : Nat))) := by
  have hlen : l.length = n := by have := h.1; rw [inC_len] at this; omega
  have hlt := h.lt
  rcases h.2 with ⟨rfl, rfl⟩ | ⟨g, cap, cur, rfl, hb, _⟩
  · exact .inl ⟨rfl, _, _, rfl⟩
  · refine .inr ⟨g, cap, rfl, hb, (hlt g rfl).2, fun j hj => ?_⟩
    rw [h.cellAt j (by omega), inC_get (by omega)]
end Go.Proofs.Ytfdcnbhnegdlfaa.S10
/- The chapter's examples hold; nothing that was there is changed. -/
namespace Go.Proofs.Ytfdcnbhnegdlfaa.S10
open Go.RowKit Go.Maps S01
theorem zeros_by {w w1 : World} (hown : w1.ownsRow w.heap.size 5 1 (.slice (some ⟨w.heap.size, 0, none⟩) 64 64) 64 (madeCells (Value.int .u8 0).cells (64 * 1)).toList) : ByR w1 (.slice (some ⟨w.heap.size, 0, none⟩) 64 64) (List.replicate 64 0) := by
  refine ByR.of_own (N := w.heap.size) ?_
  have e : (madeCells (Value.int .u8 0).cells (64 * 1)).toList = byC (List.replicate 64 0) := by
    show (madeCells #[Value.int .u8 0] (64 * 1)).toList = _
    rw [toList_madeCells_one, Nat.mul_one, byC, List.map_replicate]
    rfl
  rw [e] at hown
  rw [List.length_replicate]
  exact hown
theorem ex_facts : ∃ T, MM.wt (List.replicate 64 0) 4 2 258 = T ∧ T.length = 64 ∧ MM.rd T 5 1 = 1 := ⟨_, rfl, by decide +kernel, by decide +kernel⟩
end Go.Proofs.Ytfdcnbhnegdlfaa.S10
/- Arguments that are slices of bytes: how what was handed in lies in memory. -/
namespace Go.Proofs.Ytfdcnbhnegdlfaa.S10
open Go.ChangeShapes Go.WideShapes Go.RowKit Go.Joins Go.Deep
section
variable {H : Type} {enc : TypeId × Value → H} {W : World} {fuel : Nat} {v : Value} {x : DataW H × List MemPlace}
theorem add_plain' (b o j : Nat) : (⟨b, o, none⟩ : Addr).add j = ⟨b, o + j, none⟩ := by simp [Addr.add]
end
end Go.Proofs.Ytfdcnbhnegdlfaa.S10
