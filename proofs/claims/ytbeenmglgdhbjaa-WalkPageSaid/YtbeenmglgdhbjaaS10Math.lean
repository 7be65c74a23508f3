/-
  Plain facts on memory as lists of bytes: numbers read, numbers written, differences. No condition but those named.
-/
import Derived.Test.YtbeenmglgdhbjaaS01MathE
import Derived.Laws.CopyOwn
namespace Go.Proofs.Ytbeenmglgdhbjaa.S10
open S01
namespace MM
/-- The cause of a location: none or 9. -/
def ck (n : Nat) (a s : Int) : Int := if (s = 1 ∨ s = 2 ∨ s = 4) ∧ a + s ≤ n then 0 else 9
/-- May memory be of so many bytes? -/
def rg (n : Nat) : Bool := decide (64 ≤ n) && (decide (n ≤ 16384) && decide (n % 64 = 0))
/-- The number of bytes, the least significant first. -/
def nb : List UInt8 → Nat
  | [] => 0
  | b :: r => b.toNat + 256 * nb r
/-- What stands at a location. -/
def seg (m : List UInt8) (a s : Nat) : List UInt8 := (m.drop a).take s
/-- A number's lowest bytes. -/
def vB (v s : Nat) : List UInt8 := (List.range s).map fun i => UInt8.ofNat (v / 2 ^ (8 * i))
/-- Memory behind a write. -/
def wr (m : List UInt8) (a s v : Nat) : List UInt8 := splice m a (vB v s)
/-- Where two memories are unlike. -/
def df (a b : List UInt8) (k : Nat) : List Nat := (List.range k).filter fun i => decide (a[i]? ≠ b[i]?)
theorem vB_len (v s : Nat) : (vB v s).length = s := by simp [vB]
theorem vB_succ (v s : Nat) : vB v (s + 1) = vB v s ++ [UInt8.ofNat (v / 2 ^ (8 * s))] := by simp [vB, List.range_succ]
theorem wr_len {m : List UInt8} {a s : Nat} (v : Nat) (h : a + s ≤ m.length) : (wr m a s v).length = m.length := length_splice _ _ _ (by rw [vB_len]; exact h)
theorem seg_len {m : List UInt8} {a s : Nat} (h : a + s ≤ m.length) : (seg m a s).length = s := by simp [seg]; omega
theorem pow256 (k : Nat) : 2 ^ (8 * (k + 1)) = 2 ^ (8 * k) * 256 := by rw [show 8 * (k + 1) = 8 * k + 8 by omega, Nat.pow_add]
theorem nb_lt : ∀ l : List UInt8, nb l < 2 ^ (8 * l.length)
  | [] => by simp [nb]
  | b :: r => by
    have := nb_lt r
    have hb := b.toNat_lt
    rw [List.length_cons, pow256, nb]
    generalize 2 ^ (8 * r.length) = P at *
    omega
theorem nb_snoc (l : List UInt8) (b : UInt8) : nb (l ++ [b]) = nb l + b.toNat * 2 ^ (8 * l.length) := by
  induction l with
  | nil => simp [nb]
  | cons c r ih =>
    rw [List.cons_append, nb, ih, nb, List.length_cons, pow256]
    have : b.toNat * (2 ^ (8 * r.length) * 256) = 256 * (b.toNat * 2 ^ (8 * r.length)) := by
      rw [← Nat.mul_assoc, Nat.mul_comm _ 256]
    omega
theorem nb_drop (l : List UInt8) (k : Nat) (h : k < l.length) : nb (l.drop k) = 256 * nb (l.drop (k + 1)) + (l.getD k 0).toNat := by
  rw [List.drop_eq_getElem_cons h, nb, List.getD_eq_getElem?_getD, List.getElem?_eq_getElem h]
  simp only [Option.getD_some]
  omega
theorem nb_vB (v : Nat) : ∀ s : Nat, nb (vB v s) = v % 2 ^ (8 * s)
  | 0 => by simp [nb, vB, Nat.mod_one]
  | s + 1 => by
    rw [vB_succ, nb_snoc, nb_vB v s, vB_len, pow256, UInt8.toNat_ofNat', Nat.mod_mul, Nat.mul_comm (2 ^ (8 * s)) (_ % 256)]
theorem vB_eq : ∀ (s : Nat) (l : List UInt8), l.length = s → vB (nb l) s = l
  | 0, l, h => by rw [List.eq_nil_of_length_eq_zero h]; rfl
  | s + 1, l, h => by
    obtain ⟨b, r, rfl⟩ : ∃ b r, l = b :: r := by cases l with
      | nil => simp at h
      | cons b r => exact ⟨b, r, rfl⟩
    have h' : r.length = s := by simpa using h
    have ih := vB_eq s r h'
    have hb := b.toNat_lt
    have e0 : UInt8.ofNat (nb (b :: r)) = b := by
      apply UInt8.toNat_inj.1
      rw [UInt8.toNat_ofNat', nb]
      omega
    have e1 : ∀ i, (nb (b :: r)) / 2 ^ (8 * (i + 1)) = nb r / 2 ^ (8 * i) := by
      intro i
      rw [pow256, Nat.mul_comm, ← Nat.div_div_eq_div_mul, nb]
      congr 1
      omega
    unfold vB
    rw [List.range_succ_eq_map, List.map_cons, List.map_map]
    simp only [Function.comp_def, Nat.succ_eq_add_one, e1, Nat.mul_zero, Nat.pow_zero, Nat.div_one, e0]
    exact congrArg (b :: ·) ih
theorem splice_take {α : Type} (L : List α) (a : Nat) (cs : List α) (h : a + cs.length ≤ L.length) : (splice L a cs).take a = L.take a := by
  unfold splice
  rw [List.take_append_of_le_length (by rw [List.length_take]; omega), List.take_take, Nat.min_self]
theorem splice_drop {α : Type} (L : List α) (a : Nat) (cs : List α) (h : a + cs.length ≤ L.length) : (splice L a cs).drop a = cs ++ L.drop (a + cs.length) := by
  unfold splice
  rw [List.drop_append_of_le_length (by rw [List.length_take]; omega), List.drop_eq_nil_of_le (by rw [List.length_take]; omega), List.nil_append]
theorem seg_wr {m : List UInt8} {a s : Nat} (v : Nat) (h : a + s ≤ m.length) : seg (wr m a s v) a s = vB v s := by
  unfold seg wr
  rw [splice_drop _ _ _ (by rw [vB_len]; exact h), List.take_append_of_le_length (by rw [vB_len]; exact Nat.le_refl _), List.take_of_length_le (by rw [vB_len]; exact Nat.le_refl _)]
theorem splice_splice {α : Type} (L : List α) (a : Nat) (cs ds : List α) (h : a + cs.length ≤ L.length) (hd : ds.length = cs.length) : splice (splice L a cs) a ds = splice L a ds := by
  show (splice L a cs).take a ++ (ds ++ (splice L a cs).drop (a + ds.length)) = _
  rw [splice_take _ _ _ h, ← List.drop_drop, splice_drop _ _ _ h, List.drop_append, List.drop_eq_nil_of_le (by omega), hd, Nat.sub_self, List.nil_append, List.drop_zero, ← hd]
  rfl
theorem splice_self {m : List UInt8} {a s : Nat} (h : a + s ≤ m.length) : splice m a (seg m a s) = m := by
  unfold splice
  rw [seg_len h]
  unfold seg
  rw [← List.drop_drop, List.take_append_drop, List.take_append_drop]
/-- Who writes what stood there restores memory. -/
theorem wr_back {m : List UInt8} {a s : Nat} (v : Nat) (h : a + s ≤ m.length) : wr (wr m a s v) a s (nb (seg m a s)) = m := by
  unfold wr
  rw [splice_splice _ _ _ _ (by rw [vB_len]; exact h) (by rw [vB_len, vB_len]), vB_eq s _ (seg_len h), splice_self h]
/-- Who writes what stands there changes nothing. -/
theorem wr_same {m : List UInt8} {a s : Nat} (v : Nat) (h : a + s ≤ m.length) (he : v % 2 ^ (8 * s) = nb (seg m a s)) : wr m a s v = m := by
  have : vB v s = seg m a s := by
    rw [← vB_eq s _ (vB_len v s), nb_vB, he, vB_eq s _ (seg_len h)]
  unfold wr
  rw [this, splice_self h]
theorem df_succ (a b : List UInt8) (k : Nat) : df a b (k + 1) = df a b k ++ if a[k]? = b[k]? then [] else [k] := by
  unfold df
  rw [List.range_succ, List.filter_append]
  congr 1
  by_cases h : a[k]? = b[k]?
  · simp [h]
  · simp [h]
theorem df_mem {a b : List UInt8} {k i : Nat} : i ∈ df a b k ↔ i < k ∧ a[i]? ≠ b[i]? := by simp [df]
theorem df_len (a b : List UInt8) (k : Nat) : (df a b k).length ≤ k := by
  unfold df
  exact Nat.le_trans (List.length_filter_le _ _) (by simp)
theorem df_nil {a b : List UInt8} : df a b (max a.length b.length) = [] ↔ a = b := by
  constructor
  · intro h
    apply List.ext_getElem?
    intro i
    by_cases hi : i < max a.length b.length
    · by_cases e : a[i]? = b[i]?
      · exact e
      · have := df_mem.2 ⟨hi, e⟩
        rw [h] at this
        simp at this
    · rw [List.getElem?_eq_none (by omega), List.getElem?_eq_none (by omega)]
  · rintro rfl
    simp [df]
/-- A write changes bytes of its location alone. -/
theorem df_in {m : List UInt8} {a s k i : Nat} (v : Nat) (h : a + s ≤ m.length) (hi : i ∈ df m (wr m a s v) k) : a ≤ i ∧ i < a + s := by
  have hne := (df_mem.1 hi).2
  unfold wr splice at hne
  rw [vB_len] at hne
  constructor
  · rcases Nat.lt_or_ge i a with h1 | h1
    · rw [List.getElem?_append_left (by rw [List.length_take]; omega), List.getElem?_take, if_pos h1] at hne
      exact absurd rfl hne
    · exact h1
  · rcases Nat.lt_or_ge i (a + s) with h1 | h1
    · exact h1
    · rw [List.getElem?_append_right (by rw [List.length_take]; omega), List.length_take, Nat.min_eq_left (by omega), List.getElem?_append_right (by rw [vB_len]; omega), vB_len, List.getElem?_drop, show a + s + (i - a - s) = i by omega] at hne
      exact absurd rfl hne
/-- Bytes as numbers. -/
def il (l : List UInt8) : List Int := l.map fun b => (b.toNat : Int)
theorem il_len (l : List UInt8) : (il l).length = l.length := by simp [il]
theorem il_get (l : List UInt8) (i : Nat) : (il l).getD i 0 = ((l.getD i 0).toNat : Int) := by
  simp only [il, List.getD_eq_getElem?_getD, List.getElem?_map]
  cases l[i]? <;> rfl
theorem il_Bs (l : List UInt8) : BM.Bs (il l) := by
  intro i
  rw [il_get]
  have := (l.getD i 0).toNat_lt
  omega
theorem ow_nb (l : List UInt8) : ∀ k : Nat, k ≤ l.length → BM.ow (il l) k = (nb (l.take k) : Int)
  | 0, _ => by simp [BM.ow, nb]
  | k + 1, h => by
    have hk : k < l.length := h
    rw [BM.ow, ow_nb l k (by omega), il_get, BM.pw8, List.take_succ_eq_append_getElem hk, nb_snoc, List.length_take, Nat.min_eq_left (by omega), List.getD_eq_getElem?_getD, List.getElem?_eq_getElem hk]
    simp
theorem wo_nb {l : List UInt8} (h : l.length ≤ 4) : BM.wo (il l) = (nb l : Int) := by
  unfold BM.wo
  rw [il_len, Nat.min_eq_right h, ow_nb l _ (Nat.le_refl _), List.take_length]
theorem bl_vB (v s : Nat) : BM.bl (v : Int) s = il (vB v s) := by
  unfold BM.bl il vB
  rw [List.map_map]
  apply List.map_congr_left
  intro i _
  unfold BM.bb BM.vb
  simp only [Function.comp_apply, UInt8.toNat_ofNat']
  omega
theorem zx_mod (v s : Nat) (hs : s ≤ 4) : BM.zx (v : Int) (8 * (s : Int)) = ((v % 2 ^ (8 * s) : Nat) : Int) := by
  unfold BM.zx BM.zxN
  rw [BM.cl_in _ _ _ (by omega) (by omega), BM.ob_mod, Int.toNat_natCast, show (8 * (s : Int)).toNat = 8 * s by omega]
end MM
end Go.Proofs.Ytbeenmglgdhbjaa.S10
