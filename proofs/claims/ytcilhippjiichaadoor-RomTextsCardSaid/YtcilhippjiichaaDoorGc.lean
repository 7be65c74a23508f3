/-
  What the package's Parse answers at every text: its number and its error. No condition on the text.
  What the package's Words and the reference's answer at every text: a row of the words, of the call's own memory; nothing that was there is changed.
  What the reference's Words answers at every text: a row of the same words.
  The comparison of two rows of texts: true for two rows of one list of texts that the call itself made.
  What the package's Dec and Hex answer at every number, where the library's tables are as their texts lay them; and the examples of the chapter ('awake').
  What the package's Lines answers at every text: a row of the lines, of the call's own memory, and the error.
  What the reference's Lines answers at every text: a row of the same lines, and the same error.
-/
import Derived.Test.YtcilhippjiichaaDoorGb
import Derived.Test.YtcilhippjiichaaDoorShelf
import Derived.Test.YtcilhippjiichaaDoorGa
import Derived.Maps.AppendAt
import Derived.Laws.OwnMore
import Derived.OwnWalk
import Derived.Lib.AppendIntMem
import Derived.Lib.SmallJoins

/-! S02WalkC -/
namespace Go.Proofs.YtcilhippjiichaaDoor.S02
open Go.RowKit
theorem ret_two {k k' : IntKind} {a b c d : Int} (h : a = b) (h' : c = d) : Ending.returned (.tuple #[.int k a, .int k' c]) = .returned (.tuple #[.int k b, .int k' d]) := by rw [h, h']
set_option maxHeartbeats 1600000 in
theorem parseHex_any (s : ByteArray) (w : World) (hs : s.size ≤ 9223372036854775807) :
    Calls Tryd.prog 82 #[.string s] w fun e w' => e = .returned (.tuple #[.int .i64 (NM.phN s.data.toList), .int .i64 (NM.phE s.data.toList)]) ∧ Below w.heap.size w w' := by
  have hl := NM.len_eq s
  have HL := Lib.hid hl
  clear hl
  by_cases hB : NM.vB 16 s.data.toList = true
  · by_cases h8 : s.size ≤ 8
    · have hN := NM.vN16 _ hB (by rw [HL.out]; exact h8)
      have hOk := NM.ph_ok _ hB (by rw [HL.out]; exact h8)
      have HN := Lib.hid hN
      have HO := Lib.hid hOk
      have h8' : decide (8 < s.size) = false := by simp; omega
      clear hN hOk
      go_enter Tryd.func82, Tryd.ntmps82
      go_wp2_with (go_at_call 93; refine (value_any _ 16 _ (by omega) (by omega) hs).mono ?_; rw [hB, HN.out.1]; rintro e w' ⟨rfl, hbel⟩; have hlt := HN.out.2)
      go_ret2
      exact ⟨ret_two (by rw [HO.out.2]) (by rw [HO.out.1]), hbel⟩
    · have hOk := NM.ph_bad s.data.toList (.inr (by rw [HL.out]; omega))
      have HO := Lib.hid hOk
      have h8' : decide (8 < s.size) = true := by simp; omega
      clear hOk
      go_enter Tryd.func82, Tryd.ntmps82
      go_wp2_with (go_at_call 93; refine (value_any _ 16 _ (by omega) (by omega) hs).mono ?_; rw [hB]; rintro e w' ⟨rfl, hbel⟩)
      go_ret2
      exact ⟨ret_two (by rw [HO.out.2]) (by rw [HO.out.1]), hbel⟩
  · have hB : NM.vB 16 s.data.toList = false := by simpa using hB
    have hOk := NM.ph_bad s.data.toList (.inl hB)
    have HO := Lib.hid hOk
    clear hOk
    go_enter Tryd.func82, Tryd.ntmps82
    go_wp2_with (go_at_call 93; refine (value_any _ 16 _ (by omega) (by omega) hs).mono ?_; rw [hB]; rintro e w' ⟨rfl, hbel⟩)
    go_ret2
    exact ⟨ret_two (by rw [HO.out.2]) (by rw [HO.out.1]), hbel⟩
theorem parseDec_bad (s : ByteArray) (neg : Bool) (w : World) (hs : s.size ≤ 9223372036854775807) (hB : NM.vB 10 s.data.toList = false) :
    Calls Tryd.prog 83 #[.string s, .bool neg] w fun e w' => e = .returned (.tuple #[.int .i64 (NM.pdN s.data.toList neg), .int .i64 (NM.pdE s.data.toList neg)]) ∧ Below w.heap.size w w' := by
  have HO := Lib.hid (NM.pd_bad s.data.toList neg hB)
  go_enter Tryd.func83, Tryd.ntmps83
  go_wp2_with (go_at_call 93; refine (value_any _ 10 _ (by omega) (by omega) hs).mono ?_; rw [hB]; rintro e w' ⟨rfl, hbel⟩)
  go_ret2
  exact ⟨ret_two (by rw [HO.out.2]) (by rw [HO.out.1]), hbel⟩
theorem parseDec_zero (s : ByteArray) (neg : Bool) (w : World) (hs : s.size ≤ 9223372036854775807) (hB : NM.vB 10 s.data.toList = true) (h0 : 0 < s.size) (h48 : (s[0].toNat : Int) = 48) (hn : neg = true ∨ 1 < s.size) :
    Calls Tryd.prog 83 #[.string s, .bool neg] w fun e w' => e = .returned (.tuple #[.int .i64 (NM.pdN s.data.toList neg), .int .i64 (NM.pdE s.data.toList neg)]) ∧ Below w.heap.size w w' := by
  have HO := Lib.hid (NM.pd_zero s.data.toList neg ((NM.head_eq s h0).mpr h48) (by rw [NM.len_eq]; exact hn))
  rcases hn with rfl | h1
  · go_enter Tryd.func83, Tryd.ntmps83
    go_wp2_with (go_at_call 93; refine (value_any _ 10 _ (by omega) (by omega) hs).mono ?_; rw [hB]; rintro e w' ⟨rfl, hbel⟩)
    go_ret2
    exact ⟨ret_two (by rw [HO.out.2]) (by rw [HO.out.1]), hbel⟩
  · have h1' : decide (1 < s.size) = true := by simpa using h1
    cases neg <;>
    · go_enter Tryd.func83, Tryd.ntmps83
      go_wp2_with (go_at_call 93; refine (value_any _ 10 _ (by omega) (by omega) hs).mono ?_; rw [hB]; rintro e w' ⟨rfl, hbel⟩)
      go_ret2
      exact ⟨ret_two (by rw [HO.out.2]) (by rw [HO.out.1]), hbel⟩
theorem neg_conv (v : Nat) (h0 : v ≤ 9223372036854775808) : wrap64 (IntKind.u64.wrap (-(v : Int))) = -(v : Int) := by
  unfold wrap64
  simp only [IntKind.wrap_u64]
  omega
set_option maxHeartbeats 1600000 in
theorem parseDec_rest (s : ByteArray) (neg : Bool) (w : World) (hs : s.size ≤ 9223372036854775807) (hB : NM.vB 10 s.data.toList = true) (h0 : 0 < s.size) (hz : ¬ ((s[0].toNat : Int) = 48 ∧ (neg = true ∨ 1 < s.size))) :
    Calls Tryd.prog 83 #[.string s, .bool neg] w fun e w' => e = .returned (.tuple #[.int .i64 (NM.pdN s.data.toList neg), .int .i64 (NM.pdE s.data.toList neg)]) ∧ Below w.heap.size w w' := by
  have HZ := Lib.hid (show ¬ (s.data.toList.head? = some 48 ∧ (neg = true ∨ 1 < s.data.toList.length)) by rw [NM.head_eq s h0, NM.len_eq]; exact hz)
  have HL := Lib.hid (NM.len_eq s)
  by_cases h19 : 19 < s.size
  · have HO := Lib.hid (NM.pd_long s.data.toList neg hB HZ.out (.inl (by rw [HL.out]; exact h19)))
    have h19' : decide (19 < s.size) = true := by simpa using h19
    have h1' : decide (1 < s.size) = true := by simp; omega
    have h48 : ¬ (s[0].toNat : Int) = 48 := fun h => hz ⟨h, .inr (by omega)⟩
    clear hz
    cases neg <;>
    · go_enter Tryd.func83, Tryd.ntmps83
      go_wp2_with (go_at_call 93; refine (value_any _ 10 _ (by omega) (by omega) hs).mono ?_; rw [hB]; rintro e w' ⟨rfl, hbel⟩)
      go_ret2
      exact ⟨ret_two (by rw [HO.out.2]) (by rw [HO.out.1]), hbel⟩
  · have h19' : decide (19 < (s.size : Int)) = false := by simp only [decide_eq_false_iff_not]; omega
    have HN := Lib.hid (NM.vN10 s.data.toList hB (by rw [HL.out]; omega))
    have hlt := NM.val10_lt s.data.toList (NM.vB_al hB).1 (by rw [HL.out]; omega)
    have HP := Lib.hid (fun h => NM.pd_long s.data.toList neg hB HZ.out (.inr h))
    have HQ := Lib.hid (NM.pd_ok s.data.toList neg hB HZ.out (by rw [HL.out]; omega))
    generalize NM.val 10 s.data.toList = m at *
    cases neg
    · have hg : (s[0].toNat : Int) = 48 ∧ decide (1 < (s.size : Int)) = false ∨ ¬ (s[0].toNat : Int) = 48 := by
        by_cases h : (s[0].toNat : Int) = 48
        · exact .inl ⟨h, by simp only [decide_eq_false_iff_not]; exact fun h1 => hz ⟨h, .inr (by omega)⟩⟩
        · exact .inr h
      clear hz
      by_cases hm : 9223372036854775807 < (m : Int)
      · have HO := Lib.hid (HP.out (show NM.lim false < m by simp [NM.lim]; omega))
        rcases hg with ⟨h48, h1⟩ | h48 <;>
        · go_enter Tryd.func83, Tryd.ntmps83
          go_wp2_with (go_at_call 93; refine (value_any _ 10 _ (by omega) (by omega) hs).mono ?_; rw [hB, HN.out]; rintro e w' ⟨rfl, hbel⟩)
          go_ret2
          exact ⟨ret_two (by rw [HO.out.2]) (by rw [HO.out.1]), hbel⟩
      · have HO := Lib.hid (HQ.out (show m ≤ NM.lim false by simp [NM.lim]; omega))
        rcases hg with ⟨h48, h1⟩ | h48 <;>
        · have hm' : decide (9223372036854775807 < (m : Int)) = false := by simp only [decide_eq_false_iff_not]; omega
          go_enter Tryd.func83, Tryd.ntmps83
          go_wp2_with (go_at_call 93; refine (value_any _ 10 _ (by omega) (by omega) hs).mono ?_; rw [hB, HN.out]; rintro e w' ⟨rfl, hbel⟩)
          go_ret2
          exact ⟨ret_two HO.out.2.symm HO.out.1.symm, hbel⟩
    · have h48 : ¬ (s[0].toNat : Int) = 48 := fun h => hz ⟨h, .inl rfl⟩
      clear hz
      by_cases hm : 9223372036854775808 < (m : Int)
      · have HO := Lib.hid (HP.out (show NM.lim true < m by simp [NM.lim]; omega))
        go_enter Tryd.func83, Tryd.ntmps83
        go_wp2_with (go_at_call 93; refine (value_any _ 10 _ (by omega) (by omega) hs).mono ?_; rw [hB, HN.out]; rintro e w' ⟨rfl, hbel⟩)
        go_ret2
        exact ⟨ret_two (by rw [HO.out.2]) (by rw [HO.out.1]), hbel⟩
      · have HO := Lib.hid (HQ.out (show m ≤ NM.lim true by simp [NM.lim]; omega))
        have hm' : decide (9223372036854775808 < (m : Int)) = false := by simp only [decide_eq_false_iff_not]; omega
        go_enter Tryd.func83, Tryd.ntmps83
        go_wp2_with (go_at_call 93; refine (value_any _ 10 _ (by omega) (by omega) hs).mono ?_; rw [hB, HN.out]; rintro e w' ⟨rfl, hbel⟩)
        go_ret2
        exact ⟨ret_two ((neg_conv m (by omega)).trans HO.out.2.symm) HO.out.1.symm, hbel⟩
theorem parseDec_any (s : ByteArray) (neg : Bool) (w : World) (hs : s.size ≤ 9223372036854775807) :
    Calls Tryd.prog 83 #[.string s, .bool neg] w fun e w' => e = .returned (.tuple #[.int .i64 (NM.pdN s.data.toList neg), .int .i64 (NM.pdE s.data.toList neg)]) ∧ Below w.heap.size w w' := by
  cases hB : NM.vB 10 s.data.toList
  · exact parseDec_bad s neg w hs hB
  · have h0 := NM.pos_of s 10 hB
    by_cases hz : (s[0].toNat : Int) = 48 ∧ (neg = true ∨ 1 < s.size)
    · exact parseDec_zero s neg w hs hB h0 hz.1 hz.2
    · exact parseDec_rest s neg w hs hB h0 hz
theorem size_trim (s : ByteArray) (p : List UInt8) : (⟨(Lib.trimPrefix s.data.toList p).toArray⟩ : ByteArray).size ≤ s.size := by
  show (Lib.trimPrefix s.data.toList p).toArray.size ≤ s.size
  have := NM.len_eq s
  unfold Lib.trimPrefix
  split <;> simp
theorem parse_any (s : ByteArray) (w : World) (hs : s.size ≤ 9223372036854775807) :
    Calls Tryd.prog 67 #[.string s] w fun e w' => e = .returned (.tuple #[.int .i64 (NM.pN s.data.toList), .int .i64 (NM.pE s.data.toList)]) ∧ Below w.heap.size w w' := by
  by_cases hp : Lib.hasPrefix s.data.toList [48, 120] = true
  · have HE := Lib.hid (show NM.pE s.data.toList = NM.phE (Lib.trimPrefix s.data.toList [48, 120]) by unfold NM.pE Lib.trimPrefix; rw [if_pos hp, if_pos hp]; rfl)
    have HN := Lib.hid (show NM.pN s.data.toList = NM.phN (Lib.trimPrefix s.data.toList [48, 120]) by unfold NM.pN Lib.trimPrefix; rw [if_pos hp, if_pos hp]; rfl)
    have hz := size_trim s [48, 120]
    go_enter Tryd.func67, Tryd.ntmps67
    go_wp2_with (first
      | (go_at_call 81; refine (Tryd.strings_CutPrefix _ _ _).mono ?_; rintro e w' ⟨rfl, rfl⟩)
      | (go_at_call 82; refine (parseHex_any _ _ (by simpa using Nat.le_trans hz hs)).mono ?_; rintro e w1 ⟨rfl, hbel⟩))
    go_ret2
    exact ⟨ret_two HN.out.symm HE.out.symm, hbel⟩
  · have hp : Lib.hasPrefix s.data.toList [48, 120] = false := by simpa using hp
    have HE := Lib.hid (show NM.pE s.data.toList = NM.pdE (Lib.trimPrefix s.data.toList [45]) (Lib.hasPrefix s.data.toList [45]) by unfold NM.pE; rw [if_neg (by simp [hp])])
    have HN := Lib.hid (show NM.pN s.data.toList = NM.pdN (Lib.trimPrefix s.data.toList [45]) (Lib.hasPrefix s.data.toList [45]) by unfold NM.pN; rw [if_neg (by simp [hp])])
    have hz := size_trim s [45]
    go_enter Tryd.func67, Tryd.ntmps67
    go_wp2_with (first
      | (go_at_call 81; refine (Tryd.strings_CutPrefix _ _ _).mono ?_; rintro e w' ⟨rfl, rfl⟩)
      | (go_at_call 83; refine (parseDec_any _ _ _ (by simpa using Nat.le_trans hz hs)).mono ?_; rintro e w1 ⟨rfl, hbel⟩))
    go_ret2
    exact ⟨ret_two HN.out.symm HE.out.symm, hbel⟩
end Go.Proofs.YtcilhippjiichaaDoor.S02
/-! S02WalkD -/
namespace Go.Proofs.YtcilhippjiichaaDoor.S02
open Go.RowKit
theorem str_info : (Tryd.prog.info? 9).map (fun i => (i.zero, i.size, i.bytes)) = some (some (.string ⟨#[]⟩), 1, 16) := by kernel_rfl
/-- A row of texts that the call owns; nothing below is changed. -/
def Row (w wr : World) (v : Value) (acc : List (List UInt8)) : Prop := wr.ownsRow w.heap.size 9 1 v acc.length (acc.map NM.tv) ∧ Below w.heap.size w wr
def ItRow (w wr : World) (s : ByteArray) (pos : Nat) (v : Value) (acc : List (List UInt8)) : Prop := wr.heap[w.heap.size]? = some (.stringIter s pos) ∧ Row w wr v acc
theorem own_iterAt {w : World} {B e size n : Nat} {v : Value} {xs : List Value} {k : Nat} {s : ByteArray} {pos : Nat} (h : w.ownsRow B e size v n xs) (hk : w.heap[k]? = some (.stringIter s pos)) (pos' : Nat) : (w.iterAt k s pos').ownsRow B e size v n xs := by
  refine ⟨h.1, ?_⟩
  rcases h.2 with h0 | ⟨g, cap, cur, hv, hb, hg, rest⟩
  · exact .inl h0
  · refine .inr ⟨g, cap, cur, hv, hb, ?_, rest⟩
    rw [Lib.iterAt_other _ _ _ _ _ (fun e => by subst e; rw [hk] at hg; cases hg)]
    exact hg
theorem own_ne_iter {w : World} {B e size n : Nat} {v : Value} {xs : List Value} {k : Nat} {s : ByteArray} {pos : Nat} (h : w.ownsRow B e size v n xs) (hk : w.heap[k]? = some (.stringIter s pos)) : some k ≠ v.ownBlock := by
  rcases h.2 with ⟨rfl, _⟩ | ⟨g, cap, cur, rfl, hb, hg, rest⟩
  · simp [Value.ownBlock]
  · intro e
    simp only [Value.ownBlock, Option.some.injEq] at e
    subst e
    rw [hk] at hg
    cases hg
theorem ItRow.start (w : World) (s : ByteArray) : ItRow w (w.iter s 0) s 0 (.slice none 0 0) [] :=
  ⟨World.iter_heap w s 0, ⟨rfl, .inl ⟨rfl, rfl⟩⟩, (Below.refl _ w).alloc (Nat.le_refl _) _⟩
theorem ItRow.on {w wr : World} {s : ByteArray} {pos : Nat} {v : Value} {acc : List (List UInt8)} (h : ItRow w wr s pos v acc) (n : Nat) : ItRow w (wr.iterAt w.heap.size s n) s n v acc :=
  ⟨Lib.iterAt_heap wr w.heap.size s pos n h.1, own_iterAt h.2.1 h.1 n, Lib.below_iterAt h.2.2 (Nat.le_refl _) s n⟩
theorem Row.app {w wn w1 : World} {v v' x : Value} {acc : List (List UInt8)} {y : List UInt8} {o : Obj} (h : Row w wn v acc) (hx : x = NM.tv y)
    (hown : w1.ownsRow w.heap.size 9 1 v' (acc.length + 1) (acc.map NM.tv ++ [x])) (hg : (wn.alloc o).grownBy w1 v.ownBlock) : Row w w1 v' (acc ++ [y]) := by
  subst hx
  refine ⟨by rw [List.length_append, List.map_append]; exact hown, ?_⟩
  refine (h.2.alloc h.2.size o).grown hg (by have := h.2.size; simp; omega) fun k hk => ?_
  rcases h.1.2 with ⟨rfl, _⟩ | ⟨g, cap, cur, rfl, hb, _⟩
  · simp [Value.ownBlock] at hk
  · simp only [Value.ownBlock, Option.some.injEq] at hk
    omega
theorem ItRow.app {w wn w1 : World} {s : ByteArray} {pos : Nat} {v v' x : Value} {acc : List (List UInt8)} {y : List UInt8} {o : Obj} (h : ItRow w wn s pos v acc) (hx : x = NM.tv y)
    (hown : w1.ownsRow w.heap.size 9 1 v' (acc.length + 1) (acc.map NM.tv ++ [x])) (hg : (wn.alloc o).grownBy w1 v.ownBlock) : ItRow w w1 s pos v' (acc ++ [y]) := by
  refine ⟨?_, h.2.app hx hown hg⟩
  have hlt : w.heap.size < wn.heap.size := (Array.getElem?_eq_some_iff.1 h.1).1
  rw [hg.block w.heap.size (by simp; omega) (own_ne_iter h.2.1 h.1), Below.heap_alloc wn o _ hlt]
  exact h.1
theorem new_cell (w : World) (x : Value) (t : TypeId) : ∀ j u, [x][j]? = some u → (w.alloc (.cells #[x] t)).cell? ((⟨w.heap.size, 0, none⟩ : Addr).add j) = some u := by
  intro j u hj
  match j, hj with
  | 0, hj => simp at hj; subst hj; simp [Addr.add]
theorem one_str (s : ByteArray) : ∀ u ∈ [Value.string s], u.oneCell' = true := by
  intro u hu; simp at hu; subst hu; rfl
end Go.Proofs.YtcilhippjiichaaDoor.S02
/-! S02WalkE -/
namespace Go.Proofs.YtcilhippjiichaaDoor.S02
open Go.RowKit
theorem Row.start (w : World) : Row w (w.alloc (.cells #[] 9)) (.slice (some ⟨w.heap.size, 0, none⟩) 0 0) [] :=
  ⟨World.ownsRow_lit w #[] 0 (Nat.le_refl _) (by unfold maxLen; omega) rfl, (Below.refl _ w).alloc (Nat.le_refl _) _⟩
end Go.Proofs.YtcilhippjiichaaDoor.S02
/-! S02WalkF -/
namespace Go.Proofs.YtcilhippjiichaaDoor.S02
open Go.RowKit
/-- The world has only drawn. -/
def Dr (w w' : World) : Prop := ∃ n, w' = w.drewN n
theorem Dr.refl (w : World) : Dr w w := ⟨0, rfl⟩
theorem Dr.cell {w w' : World} (h : Dr w w') (a : Addr) : w'.cell? a = w.cell? a := by obtain ⟨n, rfl⟩ := h; rfl
theorem Dr.more {w w' : World} (h : Dr w w') (n : Nat) : Dr w (w'.drewN n) := by obtain ⟨m, rfl⟩ := h; exact ⟨m + n, by simp⟩
theorem Dr.below {w w' : World} (h : Dr w w') : Below w.heap.size w w' := by
  obtain ⟨n, rfl⟩ := h
  exact below_drewN (Below.refl _ _) n
theorem own_open {w : World} {B n : Nat} {x : Value} {l : List (List UInt8)} (h : w.ownsRow B 9 1 x n (l.map NM.tv)) :
    (n = 0 ∧ ∃ ao cap, x = .slice ao 0 cap) ∨ (∃ g cap, x = .slice (some ⟨g, 0, none⟩) n cap ∧ ∀ i, i < n → w.cell? ⟨g, i, none⟩ = some (NM.tv (l.getD i []))) := by
  have hlen : l.length = n := by have := h.1; rw [List.length_map] at this; omega
  rcases h.2 with ⟨rfl, rfl⟩ | ⟨g, cap, cur, rfl, hb, _⟩
  · exact .inl ⟨rfl, _, _, rfl⟩
  · refine .inr ⟨g, cap, rfl, fun i hi => ?_⟩
    rw [h.cellAt i (by omega)]
    have hi' : i < l.length := by omega
    simp [hi']
theorem own_below {w w' : World} {B n : Nat} {x : Value} {l : List Value} (h : w.ownsRow B 9 1 x n l) (hb : Below w.heap.size w w') : w'.ownsRow B 9 1 x n l := by
  refine ⟨h.1, ?_⟩
  have hlt := h.lt
  rcases h.2 with h' | ⟨g, cap, cur, rfl, h1, h2, h3⟩
  · exact .inl h'
  · exact .inr ⟨g, cap, cur, rfl, h1, (hb.block g (hlt g rfl).2).trans h2, h3⟩
end Go.Proofs.YtcilhippjiichaaDoor.S02
/-! S02WalkN -/
namespace Go.Proofs.YtcilhippjiichaaDoor.S02
open Go.RowKit
/-- The library's tables read as their texts lay them. -/
def Tabs (w : World) : Prop := Lib.TabIs Tryd.prog w "internal/strconv.uint64pow10" .u64 Lib.pow10Tab ∧ w.cell? ⟨3, 15, none⟩ = some (.int .u8 4)
theorem lt_of_cell {w : World} {p : Addr} {v : Value} (h : w.cell? p = some v) : p.block < w.heap.size := by
  rcases Nat.lt_or_ge p.block w.heap.size with h1 | h1
  · exact h1
  · simp [World.cell?, Array.getElem?_eq_none h1] at h
theorem Tabs.on {w w' : World} (h : Tabs w) (hb : Below w.heap.size w w') : Tabs w' :=
  ⟨Joins.tab_stays (g := 1) (by kernel_rfl) h.1 hb (Nat.le_refl _), (hb.cell (lt_of_cell h.2)).trans h.2⟩
theorem Tabs.new {w : World} (h : Tabs w) : ∀ o, (w.alloc o).cell? ⟨3, 15, none⟩ = some (.int .u8 4) := fun o =>
  (World.cell?_alloc_lt w o _ (lt_of_cell h.2)).trans h.2
theorem fuint_16 (u : Nat) (w : World) (hu : u < 18446744073709551616) (ht : Tabs w) :
    Calls Tryd.prog 60 #[.int .u64 u, .int .i64 16] w fun e w' => e = .returned (.string ⟨(NM.hd u).toArray⟩) ∧ Below w.heap.size w w' := by
  have HT := Lib.hid ht.new
  clear ht
  go_enter Tryd.func60, Tryd.ntmps60
  go_wp2_with (go_at_call 71; refine (fbits_16 u _ hu HT).mono ?_; rintro e w' ⟨rfl, hb⟩)
  go_ret
  exact ⟨rfl, hb⟩
theorem sfuint_16 (u : Nat) (w : World) (hu : u < 18446744073709551616) (ht : Tabs w) :
    Calls Tryd.prog 50 #[.int .u64 u, .int .i64 16] w fun e w' => e = .returned (.string ⟨(NM.hd u).toArray⟩) ∧ Below w.heap.size w w' := by
  have HT := Lib.hid ht
  clear ht
  go_enter Tryd.func50, Tryd.ntmps50
  go_wp2_with (go_at_call 60; refine (fuint_16 u _ hu HT.out).mono ?_; rintro e w' ⟨rfl, hb⟩)
  go_ret
  exact ⟨rfl, hb⟩
set_option maxHeartbeats 800000 in
theorem hex_any (u : Nat) (w : World) (hu : u < 4294967296) (ht : Tabs w) :
    Calls Tryd.prog 39 #[.int .u32 u] w fun e w' => e = .returned (.string ⟨(NM.hxs u 8).toArray⟩) ∧ Below w.heap.size w w' := by
  have HT := Lib.hid ht
  clear ht
  obtain ⟨hl, hf⟩ := NM.hd_fill 8 u (by simpa using hu) (by omega)
  obtain ⟨t, htt⟩ : ∃ t : ByteArray, (⟨(NM.hd u).toArray⟩ : ByteArray) = t := ⟨_, rfl⟩
  have htl : t.data.toList = NM.hd u := by rw [← htt]
  have hts : t.size ≤ 8 := by rw [← NM.len_eq, htl]; exact hl
  have HF := Lib.hid (show NM.hxs u 8 = Lib.repeatL [48] (8 - t.size) ++ t.data.toList by rw [hf, NM.rep_eq, htl, ← NM.len_eq t, htl])
  have hrl : (⟨(Lib.repeatL [48] (8 - t.size)).toArray⟩ : ByteArray).size ≤ 8 := by
    show (Lib.repeatL [48] (8 - t.size)).toArray.size ≤ 8
    rw [NM.rep_eq]; simp
  have HTT := Lib.hid htt
  clear htt htl hf hl
  go_enter Tryd.func39, Tryd.ntmps39
  go_wp2_with (go_at_call 50; refine (sfuint_16 u _ (by omega) HT.out).mono ?_; rw [HTT.out]; rintro e w1 ⟨rfl, hb1⟩; refine Hid.out ?_)
  refine Lib.hid ?_
  have HB1 := Lib.hid hb1
  clear hb1
  go_wp2_with (go_at_call 51; rw [show (8 : Int) - (t.size : Int) = ((8 - t.size : Nat) : Int) by omega]; refine (Tryd.strings_Repeat ⟨#[48]⟩ (8 - t.size) _ (by omega) (by show 1 * _ ≤ _; omega)).mono ?_; rintro e w2 ⟨rfl, hb2⟩)
  go_ret
  exact ⟨ret_str (by rw [NM.data_app]; exact HF.out.symm), HB1.out.trans (hb2.mono HB1.out.size)⟩
theorem ex_hex : NM.pN [48, 120, 49, 102] = 31 ∧ NM.pE [48, 120, 49, 102] = 0 := by decide +kernel
theorem ex_007 : NM.pE [48, 48, 55] = 2 := by decide +kernel
theorem ex_dec : (⟨(Lib.itoa (-40)).toArray⟩ : ByteArray) = ⟨#[45, 52, 48]⟩ := by
  rw [NM.itoa_of_neg (-40) 40 rfl (by omega), Lib.decDigits_two (by omega) (by omega)]
  rfl
theorem ex_beef : (⟨(NM.hxs 48879 8).toArray⟩ : ByteArray) = ⟨#[48, 48, 48, 48, 98, 101, 101, 102]⟩ := by
  rw [show NM.hxs 48879 8 = [48, 48, 48, 48, 98, 101, 101, 102] by decide +kernel]
theorem ex_words : (NM.wd [97, 100, 100, 32, 114, 49, 44, 32, 114, 50]).length = 3 := by decide +kernel
theorem Row.three {w w' : World} {v : Value} {acc : List (List UInt8)} (h : Row w w' v acc) (h3 : acc.length = 3) : ∃ a c, v = .slice a 3 c := by
  have h1 := h.1
  rw [h3] at h1
  rcases own_open h1 with ⟨h0, _⟩ | ⟨g, c, rfl, _⟩
  · omega
  · exact ⟨_, _, rfl⟩
end Go.Proofs.YtcilhippjiichaaDoor.S02
/-! S02WalkG -/
namespace Go.Proofs.YtcilhippjiichaaDoor.S02
open Go.RowKit
/-- A row of texts and an error. -/
def RowE (w : World) (acc : List (List UInt8)) (n : Int) (e : Ending) (w' : World) : Prop := ∃ v, e = .returned (.tuple #[v, .int .i64 n]) ∧ Row w w' v acc
theorem RowE.mk {w w' : World} {acc acc' : List (List UInt8)} {n n' : Int} {v : Value} (h : Row w w' v acc') (ha : acc = acc') (hn : n = n') : RowE w acc n (.returned (.tuple #[v, .int .i64 n'])) w' := by
  subst ha hn
  exact ⟨v, rfl, h⟩
theorem Row.nil {w w' : World} (h : Below w.heap.size w w') : Row w w' (.slice none 0 0) [] := ⟨⟨rfl, .inl ⟨rfl, rfl⟩⟩, h⟩
theorem count_any (s : ByteArray) (c : UInt8) (w : World) : Calls Tryd.prog 44 #[.string s, .string ⟨#[c]⟩] w fun e w' => e = .returned (.int .i64 (Lib.countByte s.data.toList c)) ∧ w = w' :=
  (Tryd.strings_Count_one s c w).mono fun _ _ ⟨h, h'⟩ => ⟨h, h'.symm⟩
theorem lines_long (s : ByteArray) (w : World) (hs : s.size ≤ 9223372036854775807) (h : 65536 < s.size) :
    Calls Tryd.prog 32 #[.string s] w (RowE w (NM.lL s.data.toList) (NM.lE s.data.toList)) := by
  have HO := Lib.hid (NM.l_long s.data.toList (.inl (by rw [NM.len_eq]; exact h)))
  go_enter Tryd.func32, Tryd.ntmps32
  go_wp2
  go_ret2
  exact RowE.mk (Row.nil (Below.refl _ _)) HO.out.2 HO.out.1
theorem lines_many (s : ByteArray) (w : World) (h : s.size ≤ 65536) (hc : 4096 < Lib.countByte s.data.toList 10) :
    Calls Tryd.prog 32 #[.string s] w (RowE w (NM.lL s.data.toList) (NM.lE s.data.toList)) := by
  have HO := Lib.hid (NM.l_long s.data.toList (.inr hc))
  have h' : decide (65536 < (s.size : Int)) = false := by simp only [decide_eq_false_iff_not]; omega
  have hc' : decide (4096 < (Lib.countByte s.data.toList 10 : Int)) = true := by simp only [decide_eq_true_eq]; omega
  go_enter Tryd.func32, Tryd.ntmps32
  go_wp2_with (go_at_call 44; refine (count_any _ _ _).mono ?_; rintro e w' ⟨rfl, rfl⟩)
  go_ret2
  exact RowE.mk (Row.nil (Below.refl _ _)) HO.out.2 HO.out.1
set_option maxHeartbeats 1600000 in
theorem lines_few (s : ByteArray) (w : World) (h : s.size ≤ 65536) (hc : Lib.countByte s.data.toList 10 ≤ 4096) :
    Calls Tryd.prog 32 #[.string s] w (RowE w (NM.lL s.data.toList) (NM.lE s.data.toList)) := by
  obtain ⟨i0, HI⟩ := info_parts str_info
  have HI := Lib.hid HI
  have hlen := Lib.hid (NM.len_eq s)
  have HC := Lib.hid (show ¬ (65536 < s.data.toList.length ∨ 4096 < Lib.countByte s.data.toList 10) by rw [hlen.out]; omega)
  have h' : decide (65536 < (s.size : Int)) = false := by simp only [decide_eq_false_iff_not]; omega
  have hc' : decide (4096 < (Lib.countByte s.data.toList 10 : Int)) = false := by simp only [decide_eq_false_iff_not]; omega
  go_enter Tryd.func32, Tryd.ntmps32
  go_wp2_with (go_at_call 44; refine (count_any _ _ _).mono ?_; rintro e w' ⟨rfl, rfl⟩)
  go_loopw [4, 5] (fun v f wr => ∃ (pos fr : Nat) (acc : List (List UInt8)), pos ≤ s.size ∧ fr ≤ pos ∧ acc.length ≤ pos ∧ Hid (NM.aok (s.data.toList.take pos) = true ∧ NM.ln s.data.toList pos = (acc, fr)) ∧ f = .int .i64 fr ∧ Hid (ItRow w wr s pos v acc)) (fun _ _ wr => s.size - wr.iterPos w.heap.size)
  case atStart =>
    exact ⟨0, 0, [], by omega, by omega, by simp, Lib.hid ⟨rfl, rfl⟩, rfl, ItRow.start w s⟩
  case round =>
    obtain ⟨pos, fr, acc, hp, hfr, hacc, hln, rfl, hit⟩ := hrel
    by_cases hlt : pos < s.size
    · by_cases ha : (s[pos]).toNat < 128
      · have hnx : ∀ ty, (Instr.next (.pointer (some ⟨w.heap.size, 0, none⟩)) true ty).run Tryd.prog wr = _ := fun ty => Lib.run_next_ascii_at wr w.heap.size s pos ty hit.out.1 hlt ha
        have h1 := Lib.hid (hit.out.on (pos + 1))
        have hm : s.size - (wr.iterAt w.heap.size s (pos + 1)).iterPos w.heap.size < s.size - wr.iterPos w.heap.size := by
          simp only [World.iterPos, h1.out.1, hit.out.1]
          omega
        generalize wr.iterAt w.heap.size s (pos + 1) = wn at *
        by_cases h10 : (s[pos].toNat : Int) = 10
        · have HW := Lib.hid (show NM.aok (s.data.toList.take (pos + 1)) = true ∧ NM.ln s.data.toList (pos + 1) = (acc ++ [NM.sl s.data.toList fr pos], pos + 1) from
            ⟨by rw [NM.take_snoc s pos hlt, NM.aok_snoc, hln.out.1, (NM.okb_lf _ h10).1]; rfl, by rw [NM.ln_cut _ _ (by rw [NM.getD_eq s pos hlt]; exact (NM.okb_lf _ h10).2), hln.out.2]⟩)
          go_wp2_with (first
            | (at_builtin; refine wpList_append_own _ rfl _ _ 66 rfl w.heap.size 9 i0 (.string ⟨#[]⟩) 1 16 Tryd.underlying66 HI.out.1 HI.out.2.1 HI.out.2.2.1 HI.out.2.2.2 rfl (by decide) _ _ _ rfl (h1.out.2.1.alloc _) ⟨_, 0, none⟩ 1 1 [.string (s.extract fr pos)] rfl rfl (new_cell _ _ _) (one_str _) (by unfold maxLen; omega) (by omega) (by have := h1.out.2.2.size; simp; omega) ?_))
          intro v' w1 hown hgrow _
          have HR := Lib.hid (h1.out.app (NM.tv_extract s fr pos) hown hgrow)
          clear hown hgrow hnx
          go_wp2
          go_roundw
          case rel => exact ⟨pos + 1, pos + 1, _, by omega, by omega, by rw [List.length_append, List.length_singleton]; omega, HW, by go_num, HR⟩
          case measure =>
            simp only [World.iterPos, HR.out.1, hit.out.1]
            omega
        · have HK := Lib.hid (NM.okb_not _ h10)
          cases hpr : NM.prB s[pos]
          · have HB := Lib.hid (NM.l_bad _ HC.out (.inl (NM.aok_bad s pos hlt (by rw [HK.out.1]; exact hpr))))
            go_wp2_with (go_at_call 45; refine (printable_any _ _).mono ?_; rw [show NM.prR (s[pos].toNat : Int) = false from hpr]; rintro e w' ⟨rfl, rfl⟩)
            go_ret2
            exact RowE.mk (Row.nil h1.out.2.2) HB.out.2 HB.out.1
          · have HW := Lib.hid (show NM.aok (s.data.toList.take (pos + 1)) = true ∧ NM.ln s.data.toList (pos + 1) = (acc, fr) from
              ⟨by rw [NM.take_snoc s pos hlt, NM.aok_snoc, hln.out.1, HK.out.1, hpr]; rfl, by rw [NM.ln_no _ _ (by rw [NM.getD_eq s pos hlt]; exact HK.out.2), hln.out.2]⟩)
            go_wp2_with (go_at_call 45; refine (printable_any _ _).mono ?_; rw [show NM.prR (s[pos].toNat : Int) = true from hpr]; rintro e w' ⟨rfl, rfl⟩)
            clear hnx
            go_roundw
            case rel => exact ⟨pos + 1, fr, acc, by omega, by omega, by omega, HW, rfl, h1⟩
            case measure => exact hm
      · have hnx : ∀ ty, (Instr.next (.pointer (some ⟨w.heap.size, 0, none⟩)) true ty).run Tryd.prog wr = _ := fun ty => Lib.run_next_any_at wr w.heap.size s pos ty hit.out.1 hlt
        have hh := decode_high s pos hlt (by omega)
        have hr := decode_le s pos
        have HB := Lib.hid (NM.l_bad _ HC.out (.inl (NM.aok_bad s pos hlt (NM.okb_high _ (by omega)))))
        have HP := Lib.hid (NM.prR_high ((Utf8.decode s pos).1 : Int) (by omega))
        have hn10 : ¬ ((Utf8.decode s pos).1 : Int) = 10 := by omega
        go_wp2_with (go_at_call 45; refine (printable_any _ _).mono ?_; rw [HP.out]; rintro e w' ⟨rfl, rfl⟩)
        go_ret2
        exact RowE.mk (Row.nil (hit.out.on _).2.2) HB.out.2 HB.out.1
    · have hnx : ∀ ty, (Instr.next (.pointer (some ⟨w.heap.size, 0, none⟩)) true ty).run Tryd.prog wr = _ := fun ty => Lib.run_next_end_at wr w.heap.size s pos ty hit.out.1 hlt
      obtain rfl : pos = s.size := by omega
      have hok := hln.out.1
      rw [NM.take_all s _ (Nat.le_refl _)] at hok
      have HK := Lib.hid hok
      clear hok
      by_cases hf : fr < s.size
      · have hf' : decide (fr < s.size) = true := by simpa using hf
        have HB := Lib.hid (NM.l_bad _ HC.out (.inr (by rw [hlen.out, hln.out.2]; exact hf)))
        go_wp2
        go_ret2
        exact RowE.mk (Row.nil hit.out.2.2) HB.out.2 HB.out.1
      · have hf' : decide (fr < s.size) = false := by simp; omega
        have HB := Lib.hid (NM.l_ok _ HC.out HK.out (by rw [hlen.out, hln.out.2]; exact hf))
        have HE := Lib.hid (show (NM.ln s.data.toList s.data.toList.length).1 = acc by rw [hlen.out, hln.out.2])
        go_wp2
        go_ret2
        exact RowE.mk hit.out.2 (by rw [HB.out.2, HE.out]) HB.out.1
theorem lines_any (s : ByteArray) (w : World) (hs : s.size ≤ 9223372036854775807) :
    Calls Tryd.prog 32 #[.string s] w (RowE w (NM.lL s.data.toList) (NM.lE s.data.toList)) := by
  by_cases h : 65536 < s.size
  · exact lines_long s w hs h
  · by_cases hc : 4096 < Lib.countByte s.data.toList 10
    · exact lines_many s w (by omega) hc
    · exact lines_few s w (by omega) (by omega)
end Go.Proofs.YtcilhippjiichaaDoor.S02
/-! S02WalkH -/
namespace Go.Proofs.YtcilhippjiichaaDoor.S02
open Go.RowKit
theorem Row.fresh {w wr : World} (h : Below w.heap.size w wr) : Row w (wr.alloc (.cells #[] 9)) (.slice (some ⟨wr.heap.size, 0, none⟩) 0 0) [] :=
  ⟨World.ownsRow_lit wr #[] 0 h.size (by unfold maxLen; omega) rfl, h.alloc h.size _⟩
set_option maxHeartbeats 3200000 in
theorem rlines_any (s : ByteArray) (w : World) (hs : s.size ≤ 1000000) :
    Calls Tryd.prog 35 #[.string s] w (RowE w (NM.lL s.data.toList) (NM.lE s.data.toList)) := by
  obtain ⟨i0, HI⟩ := info_parts str_info
  have HI := Lib.hid HI
  have hlen := Lib.hid (NM.len_eq s)
  go_enter Tryd.func35, Tryd.ntmps35
  go_wp2
  go_loop [4, 5] (fun n i => ∃ k : Nat, k ≤ s.size ∧ i = .int .i64 k ∧ n = .int .i64 (Lib.countByte (s.data.toList.take k) 10)) (fun _ i => s.size - (intOf i).toNat)
  case atStart => exact ⟨0, by omega, rfl, by simp [Lib.countByte]⟩
  case round =>
    obtain ⟨k, hk, rfl, rfl⟩ := hrel
    have hcl := NM.count_le s.data.toList k
    by_cases hlt : k < s.size
    · have HC := Lib.hid (NM.count_snoc s k hlt)
      by_cases h10 : (s[k].toNat : Int) = 10
      · go_wp2
        go_round
        case rel => exact ⟨k + 1, by omega, by go_num, by rw [HC.out, if_pos h10]; go_num⟩
        case measure => simp [intOf]; omega
      · go_wp2
        go_round
        case rel => exact ⟨k + 1, by omega, by go_num, by rw [HC.out, if_neg h10]; go_num⟩
        case measure => simp [intOf]; omega
    · rw [NM.take_all s k (by omega)]
      rw [NM.take_all s k (by omega)] at hcl
      generalize hcn : Lib.countByte s.data.toList 10 = c at *
      have HCN := Lib.hid hcn
      clear hcn
      by_cases hL : 65536 < (s.size : Int)
      · have HO := Lib.hid (NM.l_long s.data.toList (.inl (by rw [hlen.out]; omega)))
        go_wp2
        go_ret2
        exact RowE.mk (Row.start w) HO.out.2 HO.out.1
      · have hL' : decide (65536 < (s.size : Int)) = false := by simp only [decide_eq_false_iff_not]; omega
        by_cases hC : 4096 < (c : Int)
        · have HO := Lib.hid (NM.l_long s.data.toList (.inr (by rw [HCN.out]; omega)))
          go_wp2
          go_ret2
          exact RowE.mk (Row.start w) HO.out.2 HO.out.1
        · have hC' : decide (4096 < (c : Int)) = false := by simp only [decide_eq_false_iff_not]; omega
          have HC := Lib.hid (show ¬ (65536 < s.data.toList.length ∨ 4096 < Lib.countByte s.data.toList 10) by rw [hlen.out, HCN.out]; omega)
          by_cases h0 : s.size = 0
          · have hz : decide (0 < (s.size : Int)) = false := by simp only [decide_eq_false_iff_not]; omega
            have hz' : decide (0 < s.size) = false := by simp only [decide_eq_false_iff_not]; omega
            have hd : s.data.toList = [] := List.length_eq_zero_iff.mp (by rw [hlen.out]; exact h0)
            have HB := Lib.hid (NM.l_ok _ HC.out (by rw [hd]; rfl) (by rw [hd]; decide))
            have HE := Lib.hid (show (NM.ln s.data.toList s.data.toList.length).1 = [] by rw [hd]; rfl)
            have hle : s.size ≤ 0 := by omega
            clear hd h0
            go_wp2
            refine wp_loop_rounds 1 ?_
            rw [rounds_succ]
            go_wp2
            go_ret2
            exact RowE.mk (Row.start w) (by rw [HB.out.2, HE.out]) HB.out.1
          · have hp : 0 < s.size := by omega
            have hp1 : 0 < (s.size : Int) := by omega
            have hb : 1 ≤ (s.size : Int) ∧ (s.size : Int) - 1 < s.size := by omega
            have HLL := Lib.hid (NM.ln_last' s hp)
            by_cases hl10 : (s[s.size - 1].toNat : Int) = 10
            · have hl' : ((s[s.size - 1].toNat : Int) != 10) = false := by rw [hl10]; rfl
              have HLA := Lib.hid (show ¬ (NM.ln s.data.toList s.size).2 < s.size from fun h => HLL.out.mp h hl10)
              clear h0 hl10
              go_wp2
              go_loopw [6, 7, 8] (fun v f i wr => ∃ (k fr : Nat) (acc : List (List UInt8)), k ≤ s.size ∧ fr ≤ k ∧ acc.length ≤ k ∧ Hid (NM.aok (s.data.toList.take k) = true ∧ NM.ln s.data.toList k = (acc, fr)) ∧ f = .int .i64 fr ∧ i = .int .i64 k ∧ Hid (Row w wr v acc)) (fun _ _ i _ => s.size - (intOf i).toNat)
              case atStart =>
                exact ⟨0, 0, [], by omega, by omega, by simp, Lib.hid ⟨rfl, rfl⟩, rfl, rfl, Row.start w⟩
              case round =>
                obtain ⟨k, fr, acc, hk, hfr, hacc, hln, rfl, rfl, hrow⟩ := hrel
                by_cases hlt : k < s.size
                · by_cases h10 : (s[k].toNat : Int) = 10
                  · have HW := Lib.hid (show NM.aok (s.data.toList.take (k + 1)) = true ∧ NM.ln s.data.toList (k + 1) = (acc ++ [NM.sl s.data.toList fr k], k + 1) from
                      ⟨by rw [NM.take_snoc s k hlt, NM.aok_snoc, hln.out.1, (NM.okb_lf _ h10).1]; rfl, by rw [NM.ln_cut _ _ (by rw [NM.getD_eq s k hlt]; exact (NM.okb_lf _ h10).2), hln.out.2]⟩)
                    go_wp2_with (first
                      | (at_builtin; refine wpList_append_own _ rfl _ _ 66 rfl w.heap.size 9 i0 (.string ⟨#[]⟩) 1 16 Tryd.underlying66 HI.out.1 HI.out.2.1 HI.out.2.2.1 HI.out.2.2.2 rfl (by decide) _ _ _ rfl (hrow.out.1.alloc _) ⟨_, 0, none⟩ 1 1 [.string (s.extract fr k)] rfl rfl (new_cell _ _ _) (one_str _) (by unfold maxLen; omega) (by omega) (by have := hrow.out.2.size; simp; omega) ?_))
                    intro v' w1 hown hgrow _
                    have HR := Lib.hid (hrow.out.app (NM.tv_extract s fr k) hown hgrow)
                    clear hown hgrow
                    go_wp2
                    go_roundw
                    case rel => exact ⟨k + 1, k + 1, _, by omega, by omega, by rw [List.length_append, List.length_singleton]; omega, HW, by go_num, by go_num, HR⟩
                    case measure => simp [intOf]; omega
                  · have HW := Lib.hid (show NM.okb s[k] = true → NM.aok (s.data.toList.take (k + 1)) = true ∧ NM.ln s.data.toList (k + 1) = (acc, fr) from
                      fun h => ⟨by rw [NM.take_snoc s k hlt, NM.aok_snoc, hln.out.1, h]; rfl, by rw [NM.ln_no _ _ (by rw [NM.getD_eq s k hlt]; exact (NM.okb_not _ h10).2), hln.out.2]⟩)
                    have HB := Lib.hid (fun h => NM.l_bad _ HC.out (.inl (NM.aok_bad s k hlt h)))
                    have hn10 : ((s[k].toNat : Int) != 10) = true := by simpa using h10
                    have hq10 : ((s[k].toNat : Int) == 10) = false := by simpa using h10
                    by_cases h9 : (s[k].toNat : Int) = 9
                    · have HO := Lib.hid (HW.out (NM.okb_tab _ h9).1)
                      go_wp2
                      go_roundw
                      case rel => exact ⟨k + 1, fr, acc, by omega, by omega, by omega, HO, rfl, by go_num, hrow⟩
                      case measure => simp [intOf]; omega
                    · have hn9 : ((s[k].toNat : Int) != 9) = true := by simpa using h9
                      by_cases h32 : (s[k].toNat : Int) < 32
                      · have HO := Lib.hid (HB.out (NM.okb_out _ h10 h9 (.inl h32)))
                        go_wp2
                        go_ret2
                        exact RowE.mk (Row.fresh hrow.out.2) HO.out.2 HO.out.1
                      · by_cases h126 : 126 < (s[k].toNat : Int)
                        · have HO := Lib.hid (HB.out (NM.okb_out _ h10 h9 (.inr h126)))
                          have h32' : decide ((s[k].toNat : Int) < 32) = false := by simp only [decide_eq_false_iff_not]; omega
                          go_wp2
                          go_ret2
                          exact RowE.mk (Row.fresh hrow.out.2) HO.out.2 HO.out.1
                        · have HO := Lib.hid (HW.out (NM.okb_in _ h10 (by omega) (by omega)).1)
                          have h32' : decide ((s[k].toNat : Int) < 32) = false := by simp only [decide_eq_false_iff_not]; omega
                          have h126' : decide (126 < (s[k].toNat : Int)) = false := by simp only [decide_eq_false_iff_not]; omega
                          go_wp2
                          go_roundw
                          case rel => exact ⟨k + 1, fr, acc, by omega, by omega, by omega, HO, rfl, by go_num, hrow⟩
                          case measure => simp [intOf]; omega
                · obtain rfl : k = s.size := by omega
                  have hok := hln.out.1
                  rw [NM.take_all s _ (Nat.le_refl _)] at hok
                  have HB := Lib.hid (NM.l_ok _ HC.out hok (by rw [hlen.out]; exact HLA.out))
                  have HE := Lib.hid (show (NM.ln s.data.toList s.data.toList.length).1 = acc by rw [hlen.out, hln.out.2])
                  clear hok
                  go_wp2
                  go_ret2
                  exact RowE.mk hrow.out (by rw [HB.out.2, HE.out]) HB.out.1
            · have hl' : ((s[s.size - 1].toNat : Int) != 10) = true := by simpa using hl10
              have HO := Lib.hid (NM.l_bad _ HC.out (.inr (by rw [hlen.out]; exact HLL.out.mpr hl10)))
              go_wp2
              go_ret2
              exact RowE.mk (Row.start w) HO.out.2 HO.out.1
end Go.Proofs.YtcilhippjiichaaDoor.S02
