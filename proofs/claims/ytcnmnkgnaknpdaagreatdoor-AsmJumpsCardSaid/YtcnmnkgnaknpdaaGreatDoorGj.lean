/-
  What the small functions of the assembler answer: letters, digits, names, numbers between bounds, the parts of a value. No condition but lengths.
  How a program that is being assembled lies in memory (its struct, its names, their map, the bytes, what is placed), and what stays as it was while it is changed: all blocks of other kinds, and all that was there before.
  What the functions on a program's names and bytes answer: a name that is fresh, a name looked up, a name defined, bytes reserved, a value put, a value read.
  A name defined; bytes reserved; a value put; a value read.
  A value put; a value read.
  The text of an imm: a number, a name's value, a part of it, a distance.
-/
import Derived.Test.YtcnmnkgnaknpdaaGreatDoorGi
import Derived.Test.YtcnmnkgnaknpdaaGreatDoorGe
import Derived.Test.YtcnmnkgnaknpdaaGreatDoorGh
import Derived.Maps.OwnSet
import Derived.OwnWalk
import Derived.RegionTactic
import Derived.StringKeys
import Derived.BigRegion
import Derived.Deep.RegionWith

/-! WalkA -/
namespace Go.Proofs.YtcnmnkgnaknpdaaGreatDoor
open Go.RowKit S02 S06 S07
theorem letter_any (c : UInt8) (w : World) : Calls Tryz.prog 158 #[.int .u8 c.toNat] w fun e w' => e = .returned (.bool (AS.letB c)) ∧ w = w' := by
  go_enter Tryz.func158, Tryz.ntmps158
  go_wp2
  all_goals
    go_ret
    refine ⟨ret_bool ?_, rfl⟩
    rw [Bool.eq_iff_iff]
    simp [AS.letB, *]
    try omega
theorem digit_any (c : UInt8) (w : World) : Calls Tryz.prog 159 #[.int .u8 c.toNat] w fun e w' => e = .returned (.bool (AS.digB c)) ∧ w = w' := by
  go_enter Tryz.func159, Tryz.ntmps159
  go_wp2
  all_goals
    go_ret
    refine ⟨ret_bool ?_, rfl⟩
    rw [Bool.eq_iff_iff]
    simp [AS.digB, *]
    try omega
theorem isName_any (s : ByteArray) (w : World) (hs : s.size ≤ 1000000) : Calls Tryz.prog 131 #[.string s] w fun e w' => e = .returned (.bool (AS.isNm s.data.toList)) ∧ w = w' := by
  have HL := Lib.hid (NM.len_eq s)
  go_enter Tryz.func131, Tryz.ntmps131
  go_wp2
  go_loop [6] (fun i => ∃ k : Nat, k ≤ s.size ∧ i = .int .i64 k ∧ Hid (AS.okTo s.data.toList k = true)) (fun i => s.size - (intOf i).toNat)
  case atStart => exact ⟨0, by omega, rfl, rfl⟩
  case round =>
    obtain ⟨k, hk, rfl, hok⟩ := hrel
    by_cases hlt : k < s.size
    · have HG := Lib.hid (NM.getD_eq s k hlt)
      have hlt' : decide (k < s.size) = true := by simpa using hlt
      cases hl : AS.letB s[k]
      · by_cases h0 : k = 0
        · have HB := Lib.hid (show AS.okB s.data.toList k = false by unfold AS.okB; rw [HG.out, hl]; simp [h0])
          have h0' : ((k : Int) == 0) = true := by simp [h0]
          clear h0
          go_wp2_with (go_at_call 158; refine (letter_any _ _).mono ?_; rw [hl]; rintro e w' ⟨rfl, rfl⟩)
          go_ret
          exact ⟨ret_bool (by unfold AS.isNm; rw [HL.out, AS.okTo_no hlt HB.out, Bool.and_false]), rfl⟩
        · have h0' : ((k : Int) == 0) = false := by simp; omega
          have h0'' : ¬ (k : Int) = 0 := by omega
          cases hd : AS.digB s[k]
          · have HB := Lib.hid (show AS.okB s.data.toList k = false by unfold AS.okB; rw [HG.out, hl, hd]; simp)
            go_wp2_with (first
              | (go_at_call 158; refine (letter_any _ _).mono ?_; rw [hl]; rintro e w' ⟨rfl, rfl⟩)
              | (go_at_call 159; refine (digit_any _ _).mono ?_; rw [hd]; rintro e w' ⟨rfl, rfl⟩))
            go_ret
            exact ⟨ret_bool (by unfold AS.isNm; rw [HL.out, AS.okTo_no hlt HB.out, Bool.and_false]), rfl⟩
          · have HB := Lib.hid (show AS.okTo s.data.toList (k + 1) = true by rw [AS.okTo, hok.out]; unfold AS.okB; rw [HG.out, hl, hd]; simp; exact h0)
            go_wp2_with (first
              | (go_at_call 158; refine (letter_any _ _).mono ?_; rw [hl]; rintro e w' ⟨rfl, rfl⟩)
              | (go_at_call 159; refine (digit_any _ _).mono ?_; rw [hd]; rintro e w' ⟨rfl, rfl⟩))
            go_round
            case rel => exact ⟨k + 1, by omega, by go_num, HB⟩
            case measure => simp [intOf]; omega
      · have HB := Lib.hid (show AS.okTo s.data.toList (k + 1) = true by rw [AS.okTo, hok.out]; unfold AS.okB; rw [HG.out, hl]; rfl)
        go_wp2_with (go_at_call 158; refine (letter_any _ _).mono ?_; rw [hl]; rintro e w' ⟨rfl, rfl⟩)
        go_round
        case rel => exact ⟨k + 1, by omega, by go_num, HB⟩
        case measure => simp [intOf]; omega
    · have hlt' : decide (k < s.size) = false := by simpa using hlt
      obtain rfl : k = s.size := by omega
      have HN := Lib.hid (show AS.isNm s.data.toList = (!decide (s.data.toList = []) && decide (s.size ≤ 16)) by unfold AS.isNm; rw [HL.out, hok.out, Bool.and_true])
      by_cases he : s.data.toList = []
      · have : s = ⟨#[]⟩ := by cases s with | mk d => simp only [ByteArray.mk.injEq]; exact Array.toList_inj.mp he
        subst this
        go_wp2
        go_ret
        exact ⟨rfl, rfl⟩
      · have h1 : ¬ s.toList = [] := by rw [ByteArray.toList_eq]; exact he
        have h2 : s.toList.isEmpty = false := by cases h : s.toList with | nil => exact absurd h h1 | cons => rfl
        go_wp2
        all_goals
          go_ret
          refine ⟨ret_bool ?_, rfl⟩
          rw [HN.out]
          simp [*]
          try omega
theorem number_any (s : ByteArray) (lo hi : Int) (w : World) (hs : s.size ≤ 1000000) :
    Calls Tryz.prog 85 #[.string s, .int .i64 lo, .int .i64 hi] w fun e w' => e = .returned (.tuple #[.int .i64 (AS.nbN s.data.toList lo hi), .int .i64 (AS.nbE s.data.toList lo hi)]) ∧ Below w.heap.size w w' := by
  have HP := Lib.hid (fun W => parse_any s W (by omega))
  by_cases hc : NM.pE s.data.toList = 0 ∧ (NM.pN s.data.toList < lo ∨ hi < NM.pN s.data.toList)
  · rw [show AS.nbN s.data.toList lo hi = 0 from if_pos hc, show AS.nbE s.data.toList lo hi = 3 from if_pos hc]
    generalize NM.pN s.data.toList = n at *
    generalize NM.pE s.data.toList = r at *
    obtain ⟨rfl, h⟩ := hc
    by_cases h1 : n < lo
    · have h1' : decide (n < lo) = true := by simpa using h1
      go_enter Tryz.func85, Tryz.ntmps85
      go_wp2_with (go_at_call 126; refine (HP.out _).mono ?_; rintro e w' ⟨rfl, hb⟩)
      go_ret2
      exact ⟨rfl, hb⟩
    · have h1' : decide (n < lo) = false := by simpa using h1
      have h2' : decide (hi < n) = true := by simp; omega
      go_enter Tryz.func85, Tryz.ntmps85
      go_wp2_with (go_at_call 126; refine (HP.out _).mono ?_; rintro e w' ⟨rfl, hb⟩)
      go_ret2
      exact ⟨rfl, hb⟩
  · rw [show AS.nbN s.data.toList lo hi = NM.pN s.data.toList from if_neg hc, show AS.nbE s.data.toList lo hi = NM.pE s.data.toList from if_neg hc]
    generalize NM.pN s.data.toList = n at *
    generalize NM.pE s.data.toList = r at *
    by_cases hr : r = 0
    · subst hr
      have h1' : decide (n < lo) = false := by simp; omega
      have h2' : decide (hi < n) = false := by simp; omega
      clear hc
      go_enter Tryz.func85, Tryz.ntmps85
      go_wp2_with (go_at_call 126; refine (HP.out _).mono ?_; rintro e w' ⟨rfl, hb⟩)
      go_ret2
      exact ⟨rfl, hb⟩
    · have hr' : (r == 0) = false := by simp [hr]
      clear hc
      go_enter Tryz.func85, Tryz.ntmps85
      go_wp2_with (go_at_call 126; refine (HP.out _).mono ?_; rintro e w' ⟨rfl, hb⟩)
      go_ret2
      exact ⟨rfl, hb⟩
theorem hasImm_any (op : Int) (w : World) : Calls Tryz.prog 162 #[.int .i64 op] w fun e w' => e = .returned (.bool (AS.hasI (IM.fm op))) ∧ w = w' := by
  have HF := Lib.hid (fun W => form_any op W)
  generalize IM.fm op = f at *
  go_enter Tryz.func162, Tryz.ntmps162
  go_wp2_with (go_at_call 38; refine (HF.out _).mono ?_; rintro e w' ⟨rfl, rfl⟩)
  all_goals
    go_ret
    refine ⟨ret_bool ?_, rfl⟩
    rw [Bool.eq_iff_iff]
    simp only [beq_iff_eq, beq_eq_false_iff_ne, ne_eq] at *
    simp [AS.hasI, *]
theorem high_any (v : Int) (w : World) (_h0 : 0 ≤ v) (_h1 : v < 4294967296) : Calls Tryz.prog 180 #[.int .u32 v] w fun e w' => e = .returned (.int .u32 (AS.hiV v)) ∧ w = w' := by
  go_enter Tryz.func180, Tryz.ntmps180
  go_wp2
  go_ret
  exact ⟨rfl, rfl⟩
theorem low_any (v : Int) (w : World) (_h0 : 0 ≤ v) (_h1 : v < 4294967296) : Calls Tryz.prog 181 #[.int .u32 v] w fun e w' => e = .returned (.int .i32 (AS.loV v)) ∧ w = w' := by
  go_enter Tryz.func181, Tryz.ntmps181
  go_wp2
  go_ret
  refine ⟨S02.ret_int ?_, rfl⟩
  unfold AS.loV wrap32
  omega
theorem sg_quo (v : Int) (h : v % 4 = 0) : wrap64 (wrap32 ((wrap32 v).tdiv 4)) = AS.sgV v / 4 := by
  obtain ⟨q, hq⟩ : ∃ q, wrap32 v = 4 * q := ⟨wrap32 v / 4, by unfold wrap32; omega⟩
  have e : AS.sgV v = 4 * q := by unfold AS.sgV; unfold wrap32 at hq; exact hq
  have b : -2147483648 ≤ wrap32 v ∧ wrap32 v ≤ 2147483647 := by unfold wrap32; omega
  rw [hq, e, Int.mul_tdiv_cancel_left _ (by decide), Int.mul_ediv_cancel_left _ (by decide)]
  unfold wrap64 wrap32
  omega
theorem distance_ok (v : Int) (w : World) (h0 : 0 ≤ v) (h1 : v < 4294967296) (h : v % 4 = 0) (ht : Tb w) :
    Calls Tryz.prog 182 #[.int .u32 v] w fun e w' => e = .returned (.tuple #[.string ⟨(Lib.itoa (AS.sgV v / 4)).toArray⟩, .int .i64 0]) ∧ Below w.heap.size w w' := by
  have HT := Lib.hid ht
  clear ht
  have h' : (v % 4 == 0) = true := by simp [h]
  have h'' : (v % 4 != 0) = false := by simp [h]
  have HQ := Lib.hid (sg_quo v h)
  have hb := AS.sgV_bd v
  clear h
  go_enter Tryz.func182, Tryz.ntmps182
  go_wp2_with (go_at_call 19; rw [HQ.out]; refine (S07.dec_any _ _ (by omega) (by omega) HT.out).mono ?_; rintro e w' ⟨rfl, hb⟩)
  go_ret2
  exact ⟨rfl, hb⟩
theorem distance_no (v : Int) (w : World) (h0 : 0 ≤ v) (h1 : v < 4294967296) (h : ¬ v % 4 = 0) :
    Calls Tryz.prog 182 #[.int .u32 v] w fun e w' => e = .returned (.tuple #[.string ⟨#[]⟩, .int .i64 3]) ∧ Below w.heap.size w w' := by
  have h' : (v % 4 == 0) = false := by simp [h]
  have h'' : (v % 4 != 0) = true := by simp [h]
  go_enter Tryz.func182, Tryz.ntmps182
  go_wp2
  go_ret2
  exact ⟨rfl, Below.refl _ _⟩
theorem plain_num (s : ByteArray) (w : World) (hs : s.size ≤ 1000000) (h : NM.pE s.data.toList = 0) (ht : Tb w) :
    Calls Tryz.prog 179 #[.string s] w fun e w' => e = .returned (.tuple #[.string ⟨(Lib.itoa (NM.pN s.data.toList)).toArray⟩, .int .i64 0]) ∧ Below w.heap.size w w' := by
  have HP := Lib.hid (fun W => parse_any s W (by omega))
  have HT := Lib.hid ht
  clear ht
  rw [h] at HP
  clear h
  have hb := AS.pN_bd s.data.toList
  generalize NM.pN s.data.toList = n at *
  go_enter Tryz.func179, Tryz.ntmps179
  go_wp2_with (first
    | (go_at_call 126; refine (HP.out _).mono ?_; rintro e w1 ⟨rfl, hb1⟩)
    | (go_at_call 19; refine (S07.dec_any _ _ (by omega) (by omega) (HT.out.on (by assumption))).mono ?_; rintro e w2 ⟨rfl, hb2⟩))
  go_ret2
  exact ⟨rfl, hb1.trans (hb2.mono hb1.size)⟩
theorem plain_form (s : ByteArray) (w : World) (hs : s.size ≤ 1000000) (h : NM.pE s.data.toList = 2) :
    Calls Tryz.prog 179 #[.string s] w fun e w' => e = .returned (.tuple #[.string s, .int .i64 0]) ∧ Below w.heap.size w w' := by
  have HP := Lib.hid (fun W => parse_any s W (by omega))
  rw [h] at HP
  clear h
  generalize NM.pN s.data.toList = n at *
  go_enter Tryz.func179, Tryz.ntmps179
  go_wp2_with (go_at_call 126; refine (HP.out _).mono ?_; rintro e w1 ⟨rfl, hb1⟩)
  go_ret2
  exact ⟨rfl, hb1⟩
theorem plain_range (s : ByteArray) (w : World) (hs : s.size ≤ 1000000) (h : NM.pE s.data.toList = 3) :
    Calls Tryz.prog 179 #[.string s] w fun e w' => e = .returned (.tuple #[.string ⟨#[]⟩, .int .i64 3]) ∧ Below w.heap.size w w' := by
  have HP := Lib.hid (fun W => parse_any s W (by omega))
  rw [h] at HP
  clear h
  generalize NM.pN s.data.toList = n at *
  go_enter Tryz.func179, Tryz.ntmps179
  go_wp2_with (go_at_call 126; refine (HP.out _).mono ?_; rintro e w1 ⟨rfl, hb1⟩)
  go_ret2
  exact ⟨rfl, hb1⟩
end Go.Proofs.YtcnmnkgnaknpdaaGreatDoor
/-! Base -/
namespace Go.Proofs.YtcnmnkgnaknpdaaGreatDoor
open Go.RowKit Go.Maps S02 S06 S07
/-- Is the block of none of the kinds that a program's own state has? -/
def calm (o : Option Obj) : Bool := match o with | some (.cells _ e _) => !(e == 64 || e == 57 || e == 4 || e == 5) | _ => false
structure Tame (w w' : World) : Prop where
  os : w'.os = w.os
  tape : w'.tape = w.tape
  output : w'.output = w.output
  size : w.heap.size ≤ w'.heap.size
  block : ∀ k : Nat, calm w.heap[k]? = true → w'.heap[k]? = w.heap[k]?
theorem calm_lt {w : World} {k : Nat} (h : calm w.heap[k]? = true) : k < w.heap.size := by
  rcases Nat.lt_or_ge k w.heap.size with h1 | h1
  · exact h1
  · rw [Array.getElem?_eq_none h1] at h; cases h
theorem Tame.refl (w : World) : Tame w w := ⟨rfl, rfl, rfl, Nat.le_refl _, fun _ _ => rfl⟩
theorem Tame.trans {a b c : World} (h : Tame a b) (k : Tame b c) : Tame a c :=
  ⟨k.os.trans h.os, k.tape.trans h.tape, k.output.trans h.output, Nat.le_trans h.size k.size, fun i hi => (k.block i (by rw [h.block i hi]; exact hi)).trans (h.block i hi)⟩
theorem Tame.below {w w' : World} (h : Below w.heap.size w w') : Tame w w' := ⟨h.os, h.tape, h.output, h.size, fun k hk => h.block k (calm_lt hk)⟩
theorem Tame.set (w : World) (a : Addr) (v : Value) (h : calm w.heap[a.block]? = false) : Tame w (w.setCell a v) :=
  ⟨rfl, rfl, rfl, by simp [World.setCell], fun k hk => Below.heap_setCell _ _ _ _ (fun e => by rw [e, h] at hk; cases hk)⟩
theorem Tame.grown {w w' : World} {row : Option Nat} (hg : w.grownBy w' row) (h : ∀ k, row = some k → calm w.heap[k]? = false) : Tame w w' :=
  ⟨hg.os, hg.tape, hg.output, hg.size, fun k hk => hg.block k (calm_lt hk) (fun e => by rw [h k e.symm] at hk; cases hk)⟩
/-- Where a program lies: N blocks were there before; its struct, its map, its bytes, what is placed; from K on rows of names. -/
structure Q where
  N : Nat
  P : Nat
  M : Nat
  B : Nat
  L : Nat
  K : Nat
/-- What moves while a program is assembled: no block of another kind, none that was there before. -/
structure Mv (q : Q) (w w' : World) : Prop where
  tame : Tame w w'
  old : Below q.N w w'
theorem Mv.refl (q : Q) (w : World) : Mv q w w := ⟨Tame.refl w, Below.refl _ w⟩
theorem Mv.trans {q : Q} {a b c : World} (h : Mv q a b) (k : Mv q b c) : Mv q a c := ⟨h.tame.trans k.tame, h.old.trans k.old⟩
theorem Mv.below {q : Q} {w w' : World} (h : Below w.heap.size w w') (hN : q.N ≤ w.heap.size) : Mv q w w' := ⟨Tame.below h, h.mono hN⟩
/-- The cells of names in a row. -/
def nmC (ns : List (List UInt8 × Nat)) : List Value := ns.flatMap fun p => [NM.tv p.1, .int .u32 p.2]
theorem nmC_len (ns : List (List UInt8 × Nat)) : (nmC ns).length = ns.length * 2 := by
  induction ns with
  | nil => rfl
  | cons p r ih => rw [nmC, List.flatMap_cons, List.length_append, ← nmC, ih]; simp; omega
theorem nmC_snoc (ns : List (List UInt8 × Nat)) (s : List UInt8) (v : Nat) : nmC (ns ++ [(s, v)]) = nmC ns ++ [NM.tv s, .int .u32 v] := by simp [nmC]
/-- The names as a map. -/
def nmD (ns : List (List UInt8 × Nat)) : DataW Unit := ns.foldl (fun D p => D.put (.string p.1) (.lit (.int .u32 p.2))) (.map [])
/-- A program that is being assembled. -/
structure PS (q : Q) (w : World) (ns : List (List UInt8 × Nat)) (x : Int) (pl : Nat → Bool) (m : Nat → UInt8) : Prop where
  tb : Tb w
  n5 : 5 ≤ q.N ∧ q.N ≤ q.P ∧ q.N ≤ q.M ∧ q.N ≤ q.B ∧ q.N ≤ q.L
  k5 : q.P < q.K ∧ q.M < q.K ∧ q.B < q.K ∧ q.L < q.K ∧ q.K ≤ w.heap.size
  ne : q.P ≠ q.M ∧ q.P ≠ q.B ∧ q.P ≠ q.L ∧ q.M ≠ q.B ∧ q.M ≠ q.L ∧ q.B ≠ q.L
  row : ∃ v, w.heap[q.P]? = some (.cells #[v, .map (some q.M), .int .i64 x, .slice (some ⟨q.B, 0, none⟩) 16384 16384, .slice (some ⟨q.L, 0, none⟩) 16384 16384] 64 (0, 0)) ∧ w.ownsRow q.K 57 2 v ns.length (nmC ns)
  un : (ns.map (·.1)).Nodup ∧ ∀ p ∈ ns, p.2 < 4294967296
  map : w.ownsMap Tryz.prog 9 (plainElem Tryz.prog 23) q.M ns.length (nmD ns)
  mem : ∃ c, w.heap[q.B]? = some (.cells c 5 (0, 0)) ∧ c.size = 16384 ∧ ∀ i, i < 16384 → c[i]? = some (.int .u8 (m i).toNat)
  plc : ∃ c, w.heap[q.L]? = some (.cells c 4 (0, 0)) ∧ c.size = 16384 ∧ ∀ i, i < 16384 → c[i]? = some (.bool (pl i))
theorem nm_find (ns : List (List UInt8 × Nat)) : ∃ es, nmD ns = .map es := by
  suffices h : ∀ (ns : List (List UInt8 × Nat)) (D : DataW Unit), (∃ es, D = .map es) → ∃ es, ns.foldl (fun D p => D.put (.string p.1) (.lit (.int .u32 p.2))) D = .map es from h ns _ ⟨[], rfl⟩
  intro ns
  induction ns with
  | nil => exact fun D h => h
  | cons p r ih =>
    intro D ⟨es, h⟩
    refine ih _ ?_
    subst h
    exact ⟨_, rfl⟩
theorem nmD_snoc (ns : List (List UInt8 × Nat)) (s : List UInt8) (v : Nat) : nmD (ns ++ [(s, v)]) = (nmD ns).put (.string s) (.lit (.int .u32 v)) := by
  unfold nmD; rw [List.foldl_append]; rfl
theorem nm_rev {C : List (List UInt8 × Nat) → Prop} (h0 : C []) (h1 : ∀ ns p, C ns → C (ns ++ [p])) (ns : List (List UInt8 × Nat)) : C ns := by
  suffices h : ∀ r : List (List UInt8 × Nat), C r.reverse by have := h ns.reverse; rwa [List.reverse_reverse] at this
  intro r
  induction r with
  | nil => exact h0
  | cons p r ih => rw [List.reverse_cons]; exact h1 _ _ ih
theorem nm_has (ns : List (List UInt8 × Nat)) (s : List UInt8) : Maps.has (nmD ns) (.string s) = (AS.fnd ns s).isSome := by
  refine nm_rev (C := fun ns => Maps.has (nmD ns) (.string s) = (AS.fnd ns s).isSome) rfl (fun ns p ih => ?_) ns
  obtain ⟨t, v⟩ := p
  rw [nmD_snoc, AS.fnd_snoc]
  by_cases e : t = s
  · subst e
    rw [has_put_same (nm_find ns) (by trivial)]
    cases AS.fnd ns t <;> simp
  · rw [has_put_other (by intro h; injection h with h; exact e h.symm), ih]
    cases AS.fnd ns s <;> simp [e]
theorem fnd_none {ns : List (List UInt8 × Nat)} {s : List UInt8} (h : s ∉ ns.map (·.1)) : AS.fnd ns s = none := by
  induction ns with
  | nil => rfl
  | cons p r ih =>
    rw [List.map_cons, List.mem_cons, not_or] at h
    rw [AS.fnd, if_neg (fun e => h.1 e.symm)]
    exact ih h.2
theorem fnd_notin {ns : List (List UInt8 × Nat)} {s : List UInt8} (h : AS.fnd ns s = none) : s ∉ ns.map (·.1) := by
  induction ns with
  | nil => simp
  | cons p r ih =>
    rw [AS.fnd] at h
    split at h
    · cases h
    · rename_i h'
      rw [List.map_cons, List.mem_cons, not_or]
      exact ⟨fun e => h' e.symm, ih h⟩
theorem nm_at (ns : List (List UInt8 × Nat)) (s : List UInt8) (hu : (ns.map (·.1)).Nodup) : (nmD ns).atKey (.string s) (.lit (.int .u32 0)) = .lit (.int .u32 (((AS.fnd ns s).getD 0 : Nat) : Int)) := by
  revert hu
  refine nm_rev (C := fun ns => (ns.map (·.1)).Nodup → (nmD ns).atKey (.string s) (.lit (.int .u32 0)) = .lit (.int .u32 (((AS.fnd ns s).getD 0 : Nat) : Int))) (fun _ => rfl) (fun ns p ih hu => ?_) ns
  obtain ⟨t, v⟩ := p
  rw [List.map_append, List.nodup_append] at hu
  obtain ⟨hu1, _, hu2⟩ := hu
  rw [nmD_snoc, AS.fnd_snoc]
  by_cases e : t = s
  · subst e
    rw [atKey_put_same (nm_find ns) (by trivial), fnd_none (fun h => hu2 _ h t (by simp) rfl)]
    simp
  · rw [atKey_put_other (by intro h; injection h with h; exact e h.symm), ih hu1]
    cases AS.fnd ns s <;> simp [e]
theorem fnd_lt {ns : List (List UInt8 × Nat)} (h : ∀ p ∈ ns, p.2 < 4294967296) (s : List UInt8) : (AS.fnd ns s).getD 0 < 4294967296 := by
  induction ns with
  | nil => exact (by decide : (0 : Nat) < 4294967296)
  | cons p r ih =>
    rw [AS.fnd]
    split
    · exact h p (by simp)
    · exact ih fun p hp => h p (List.mem_cons_of_mem _ hp)
theorem cell_of {w : World} {k o : Nat} {c : Array Value} {e : TypeId} {f : Nat × Nat} {v : Value} (h : w.heap[k]? = some (.cells c e f)) (hv : c[o]? = some v) : w.cell? ⟨k, o, none⟩ = some v := by
  simp [World.cell?, h, hv]
theorem unfrozen {w : World} {k o : Nat} {c : Array Value} {e : TypeId} (h : w.heap[k]? = some (.cells c e (0, 0))) : w.frozen? ⟨k, o, none⟩ = false := by
  simp [World.frozen?, h]
theorem heap_set {w : World} {k o : Nat} {c : Array Value} {e : TypeId} {f : Nat × Nat} {v : Value} (h : w.heap[k]? = some (.cells c e f)) : (w.setCell ⟨k, o, none⟩ v).heap[k]? = some (.cells (c.setIfInBounds o v) e f) := by
  simp only [World.setCell, Array.getElem?_modify]
  simp [h]
theorem tb_old {w w' : World} {N : Nat} (h : Tb w) (hb : Below N w w') (hN : 5 ≤ N) : Tb w' := by
  obtain ⟨h1, h2, m, h3⟩ := h
  refine ⟨?_, fun j v hv => (hb.cell (p := ⟨0, 0 + j, none⟩) (by show 0 < N; omega)).trans (h2 j v hv), m, (hb.cell (p := ⟨1, 0, none⟩) (by show 1 < N; omega)).trans h3⟩
  unfold Lib.TabIs World.var? at h1 ⊢
  have hg : Tryz.prog.globalNamed "internal/strconv.uint64pow10" = some 2 := by kernel_rfl
  rw [hg] at h1 ⊢
  simp only [Option.bind_some] at h1 ⊢
  rw [hb.block 2 (by omega)]
  exact h1
theorem lt_of_heap {w : World} {k : Nat} {o : Obj} (h : w.heap[k]? = some o) : k < w.heap.size := (Array.getElem?_eq_some_iff.1 h).1
theorem own_keep {w w' : World} {B e size n : Nat} {v : Value} {xs : List Value} (h : w.ownsRow B e size v n xs) (hb : ∀ k, v.ownBlock = some k → w'.heap[k]? = w.heap[k]?) : w'.ownsRow B e size v n xs := by
  refine ⟨h.1, ?_⟩
  rcases h.2 with h' | ⟨g, cap, cur, rfl, h1, h2, h3⟩
  · exact .inl h'
  · exact .inr ⟨g, cap, cur, rfl, h1, (hb g rfl).trans h2, h3⟩
theorem own_lt {w : World} {B e size n : Nat} {v : Value} {xs : List Value} (h : w.ownsRow B e size v n xs) {k : Nat} (hk : v.ownBlock = some k) : B ≤ k ∧ k < w.heap.size ∧ ∃ c, w.heap[k]? = some (.cells c e (0, 0)) := by
  rcases h.2 with ⟨rfl, _⟩ | ⟨g, cap, cur, rfl, h1, h2, h3⟩
  · cases hk
  · simp only [Value.ownBlock, Option.some.injEq] at hk
    subst hk
    exact ⟨h1, lt_of_heap h2, cur, h2⟩
theorem map_keep {H : Type} {w w' : World} {P : Program} {k : TypeId} {R : Value → Option (DataW H × List MemPlace)} {b n : Nat} {D : DataW H} (h : w.ownsMap P k R b n D) (hb : w'.heap[b]? = w.heap[b]?) : w'.ownsMap P k R b n D := by
  obtain ⟨es, clock, h1, h2⟩ := h
  exact ⟨es, clock, hb.trans h1, h2⟩
theorem PS.below {q : Q} {w w' : World} {ns : List (List UInt8 × Nat)} {x : Int} {pl : Nat → Bool} {m : Nat → UInt8} (h : PS q w ns x pl m) (hb : Below w.heap.size w w') : PS q w' ns x pl m := by
  obtain ⟨tb, n5, k5, ne, ⟨v, hv, ho⟩, un, hm, ⟨c, hc, c1⟩, ⟨d, hd, d1⟩⟩ := h
  have hs := hb.size
  refine ⟨tb.on hb, n5, ⟨k5.1, k5.2.1, k5.2.2.1, k5.2.2.2.1, by omega⟩, ne, ⟨v, (hb.block _ (lt_of_heap hv)).trans hv, own_keep ho fun k hk => hb.block _ (own_lt ho hk).2.1⟩, un, map_keep hm (hb.block _ (by omega)), ⟨c, (hb.block _ (lt_of_heap hc)).trans hc, c1⟩, ⟨d, (hb.block _ (lt_of_heap hd)).trans hd, d1⟩⟩
theorem PS.N {q : Q} {w : World} {ns : List (List UInt8 × Nat)} {x : Int} {pl : Nat → Bool} {m : Nat → UInt8} (h : PS q w ns x pl m) : q.N ≤ w.heap.size := by
  have := h.n5; have := h.k5; omega
/-- What is read of it. -/
theorem PS.c {q : Q} {w : World} {ns : List (List UInt8 × Nat)} {x : Int} {pl : Nat → Bool} {m : Nat → UInt8} (h : PS q w ns x pl m) :
    ∃ v, w.cell? ⟨q.P, 0, none⟩ = some v ∧ w.cell? ⟨q.P, 1, none⟩ = some (.map (some q.M)) ∧ w.cell? ⟨q.P, 2, none⟩ = some (.int .i64 x) ∧ w.cell? ⟨q.P, 3, none⟩ = some (.slice (some ⟨q.B, 0, none⟩) 16384 16384) ∧ w.cell? ⟨q.P, 4, none⟩ = some (.slice (some ⟨q.L, 0, none⟩) 16384 16384) ∧ (∀ o, w.frozen? ⟨q.P, o, none⟩ = false) ∧ w.ownsRow q.K 57 2 v ns.length (nmC ns) := by
  obtain ⟨v, hv, ho⟩ := h.row
  exact ⟨v, cell_of hv (by simp), cell_of hv (by simp), cell_of hv (by simp), cell_of hv (by simp), cell_of hv (by simp), fun o => unfrozen hv, ho⟩
theorem PS.pl_cell {q : Q} {w : World} {ns : List (List UInt8 × Nat)} {x : Int} {pl : Nat → Bool} {m : Nat → UInt8} (h : PS q w ns x pl m) (i : Nat) (hi : i < 16384) : w.cell? ⟨q.L, i, none⟩ = some (.bool (pl i)) ∧ w.frozen? ⟨q.L, i, none⟩ = false := by
  obtain ⟨d, hd, _, d1⟩ := h.plc
  exact ⟨cell_of hd (d1 i hi), unfrozen hd⟩
theorem PS.mem_cell {q : Q} {w : World} {ns : List (List UInt8 × Nat)} {x : Int} {pl : Nat → Bool} {m : Nat → UInt8} (h : PS q w ns x pl m) (i : Nat) (hi : i < 16384) : w.cell? ⟨q.B, i, none⟩ = some (.int .u8 (m i).toNat) ∧ w.frozen? ⟨q.B, i, none⟩ = false := by
  obtain ⟨d, hd, _, d1⟩ := h.mem
  exact ⟨cell_of hd (d1 i hi), unfrozen hd⟩
theorem heap_other {w : World} {k j o : Nat} {v : Value} (h : j ≠ k) : (w.setCell ⟨k, o, none⟩ v).heap[j]? = w.heap[j]? := Below.heap_setCell _ _ _ _ h
theorem size_set (w : World) (a : Addr) (v : Value) : (w.setCell a v).heap.size = w.heap.size := by simp [World.setCell]
theorem calm_of {w : World} {k : Nat} {c : Array Value} {e : TypeId} {f : Nat × Nat} (h : w.heap[k]? = some (.cells c e f)) (he : (e == 64 || e == 57 || e == 4 || e == 5) = true) : calm w.heap[k]? = false := by
  rw [h]; simp only [calm, he]; rfl
theorem PS.next {q : Q} {w : World} {ns : List (List UInt8 × Nat)} {x : Int} {pl : Nat → Bool} {m : Nat → UInt8} (h : PS q w ns x pl m) (y : Int) :
    PS q (w.setCell ⟨q.P, 2, none⟩ (.int .i64 y)) ns y pl m ∧ Mv q w (w.setCell ⟨q.P, 2, none⟩ (.int .i64 y)) := by
  obtain ⟨tb, n5, k5, ne, ⟨v, hv, ho⟩, un, hm, ⟨c, hc, c1⟩, ⟨d, hd, d1⟩⟩ := h
  have mv : Mv q w (w.setCell ⟨q.P, 2, none⟩ (.int .i64 y)) := ⟨Tame.set _ _ _ (calm_of hv rfl), (Below.refl _ w).setCell (by show q.N ≤ q.P; omega) _⟩
  refine ⟨⟨tb_old tb mv.old n5.1, n5, by rw [size_set]; exact k5, ne, ⟨v, ?_, own_keep ho fun k hk => heap_other (by have := (own_lt ho hk).1; omega)⟩, un, map_keep hm (heap_other (by omega)), ⟨c, (heap_other (by omega)).trans hc, c1⟩, ⟨d, (heap_other (by omega)).trans hd, d1⟩⟩, mv⟩
  rw [heap_set hv]
  rfl
theorem PS.place {q : Q} {w : World} {ns : List (List UInt8 × Nat)} {x : Int} {pl : Nat → Bool} {m : Nat → UInt8} (h : PS q w ns x pl m) (i : Nat) (hi : i < 16384) (b : Bool) :
    PS q (w.setCell ⟨q.L, i, none⟩ (.bool b)) ns x (fun j => if j = i then b else pl j) m ∧ Mv q w (w.setCell ⟨q.L, i, none⟩ (.bool b)) := by
  obtain ⟨tb, n5, k5, ne, ⟨v, hv, ho⟩, un, hm, ⟨c, hc, c1⟩, ⟨d, hd, d0, d1⟩⟩ := h
  have mv : Mv q w (w.setCell ⟨q.L, i, none⟩ (.bool b)) := ⟨Tame.set _ _ _ (calm_of hd rfl), (Below.refl _ w).setCell (by show q.N ≤ q.L; omega) _⟩
  refine ⟨⟨tb_old tb mv.old n5.1, n5, by rw [size_set]; exact k5, ne, ⟨v, (heap_other (by omega)).trans hv, own_keep ho fun k hk => heap_other (by have := (own_lt ho hk).1; omega)⟩, un, map_keep hm (heap_other (by omega)), ⟨c, (heap_other (by omega)).trans hc, c1⟩, ⟨_, heap_set hd, by simp [d0], fun j hj => ?_⟩⟩, mv⟩
  rw [Array.getElem?_setIfInBounds]
  by_cases e : i = j
  · subst e; simp [d0, hi]
  · rw [if_neg e, if_neg (fun h => e h.symm)]; exact d1 j hj
theorem PS.wrote {q : Q} {w : World} {ns : List (List UInt8 × Nat)} {x : Int} {pl : Nat → Bool} {m : Nat → UInt8} (h : PS q w ns x pl m) (i : Nat) (hi : i < 16384) (b : UInt8) :
    PS q (w.setCell ⟨q.B, i, none⟩ (.int .u8 b.toNat)) ns x pl (fun j => if j = i then b else m j) ∧ Mv q w (w.setCell ⟨q.B, i, none⟩ (.int .u8 b.toNat)) := by
  obtain ⟨tb, n5, k5, ne, ⟨v, hv, ho⟩, un, hm, ⟨c, hc, c0, c1⟩, ⟨d, hd, d1⟩⟩ := h
  have mv : Mv q w (w.setCell ⟨q.B, i, none⟩ (.int .u8 b.toNat)) := ⟨Tame.set _ _ _ (calm_of hc rfl), (Below.refl _ w).setCell (by show q.N ≤ q.B; omega) _⟩
  refine ⟨⟨tb_old tb mv.old n5.1, n5, by rw [size_set]; exact k5, ne, ⟨v, (heap_other (by omega)).trans hv, own_keep ho fun k hk => heap_other (by have := (own_lt ho hk).1; omega)⟩, un, map_keep hm (heap_other (by omega)), ⟨_, heap_set hc, by simp [c0], fun j hj => ?_⟩, ⟨d, (heap_other (by omega)).trans hd, d1⟩⟩, mv⟩
  rw [Array.getElem?_setIfInBounds]
  by_cases e : i = j
  · subst e; simp [c0, hi]
  · rw [if_neg e, if_neg (fun h => e h.symm)]; exact c1 j hj
end Go.Proofs.YtcnmnkgnaknpdaaGreatDoor
/-! WalkB -/
namespace Go.Proofs.YtcnmnkgnaknpdaaGreatDoor
open Go.RowKit Go.Maps S02 S06 S07
theorem law : Keyed Tryz.prog 9 := string_keyed Tryz.underlying9
theorem zero23 (w : World) : (zeroValue 23).run Tryz.prog w = .ok (.int .u32 0) w := by kernel_rfl
theorem len_max (s : ByteArray) (hs : s.size ≤ 1000000) : s.size ≤ maxLen := by unfold maxLen; omega
theorem lit_inj {q : IntKind} {a b : Int} {H : Type} (h : (DataW.lit (.int q a) : DataW H) = .lit (.int q b)) : a = b := by injection h with h; injection h
theorem fresh_any {q : Q} {w : World} {ns : List (List UInt8 × Nat)} {x : Int} {pl : Nat → Bool} {m : Nat → UInt8} (s : ByteArray) (hp : PS q w ns x pl m) (hs : s.size ≤ 1000000) :
    Calls Tryz.prog 90 #[.pointer (some ⟨q.P, 0, none⟩), .string s] w fun e w' => e = .returned (.int .i64 (AS.frE ns s.data.toList)) ∧ w = w' := by
  have HI := Lib.hid (fun W => isName_any s W hs)
  obtain ⟨v, c0, c1, c2, c3, c4, f, ho⟩ := hp.c
  have HM := Lib.hid hp.map
  cases hn : AS.isNm s.data.toList
  · rw [show AS.frE ns s.data.toList = 2 by unfold AS.frE; rw [hn]; rfl]
    rw [hn] at HI
    go_enter Tryz.func90, Tryz.ntmps90
    go_wp2_with (go_at_call 131; refine (HI.out _).mono ?_; rintro e w' ⟨rfl, rfl⟩)
    go_ret
    exact ⟨rfl, rfl⟩
  · rw [hn] at HI
    have hk : keyOf Tryz.prog 9 (.string s) = some (.string s.data.toList) := WideMaps.keyOf_string_mk Tryz.underlying9 (len_max s hs)
    have HK := Lib.hid hk
    clear hk
    have HH := Lib.hid (nm_has ns s.data.toList)
    cases hf : (AS.fnd ns s.data.toList).isSome
    · rw [show AS.frE ns s.data.toList = 0 by unfold AS.frE; rw [hn, hf]; rfl]
      rw [hf] at HH
      clear hn hf ho c0 c2 c3 c4 f
      go_enter Tryz.func90, Tryz.ntmps90
      go_wp2_with (first
        | (go_at_call 131; refine (HI.out _).mono ?_; rintro e w' ⟨rfl, rfl⟩)
        | (at_lookup; refine wpList_lookup_own_ok_int _ rfl _ _ 61 rfl 9 23 .u32 law Tryz.underlying61 Tryz.underlying23 (zero23 _) q.M _ _ rfl HM.out _ _ rfl HK.out ?_; intro c hat hwc; rw [HH.out]; clear hat hwc))
      go_ret
      exact ⟨rfl, rfl⟩
    · rw [show AS.frE ns s.data.toList = 7 by unfold AS.frE; rw [hn, hf]; rfl]
      rw [hf] at HH
      clear hn hf ho c0 c2 c3 c4 f
      go_enter Tryz.func90, Tryz.ntmps90
      go_wp2_with (first
        | (go_at_call 131; refine (HI.out _).mono ?_; rintro e w' ⟨rfl, rfl⟩)
        | (at_lookup; refine wpList_lookup_own_ok_int _ rfl _ _ 61 rfl 9 23 .u32 law Tryz.underlying61 Tryz.underlying23 (zero23 _) q.M _ _ rfl HM.out _ _ rfl HK.out ?_; intro c hat hwc; rw [HH.out]; clear hat hwc))
      go_ret
      exact ⟨rfl, rfl⟩
theorem lookup_any {q : Q} {w : World} {ns : List (List UInt8 × Nat)} {x : Int} {pl : Nat → Bool} {m : Nat → UInt8} (s : ByteArray) (hp : PS q w ns x pl m) (hs : s.size ≤ 1000000) :
    Calls Tryz.prog 157 #[.pointer (some ⟨q.P, 0, none⟩), .string s] w fun e w' => e = .returned (.tuple #[.int .u32 (AS.lkN ns s.data.toList), .int .i64 (AS.lkE ns s.data.toList)]) ∧ w = w' := by
  have HI := Lib.hid (fun W => isName_any s W hs)
  obtain ⟨v, c0, c1, c2, c3, c4, f, ho⟩ := hp.c
  have HM := Lib.hid hp.map
  have HU := Lib.hid (nm_at ns s.data.toList hp.un.1)
  cases hn : AS.isNm s.data.toList
  · rw [show AS.lkE ns s.data.toList = 2 by unfold AS.lkE; rw [hn]; rfl, show AS.lkN ns s.data.toList = 0 by unfold AS.lkN; rw [hn]; rfl]
    rw [hn] at HI
    go_enter Tryz.func157, Tryz.ntmps157
    go_wp2_with (go_at_call 131; refine (HI.out _).mono ?_; rintro e w' ⟨rfl, rfl⟩)
    go_ret2
    exact ⟨rfl, rfl⟩
  · rw [hn] at HI
    have hk : keyOf Tryz.prog 9 (.string s) = some (.string s.data.toList) := WideMaps.keyOf_string_mk Tryz.underlying9 (len_max s hs)
    have HK := Lib.hid hk
    clear hk
    have HH := Lib.hid (nm_has ns s.data.toList)
    cases hf : AS.fnd ns s.data.toList with
    | none =>
      rw [show AS.lkE ns s.data.toList = 10 by unfold AS.lkE; rw [hn, hf]; rfl, show AS.lkN ns s.data.toList = 0 by unfold AS.lkN; rw [hn, hf]; rfl]
      rw [hf] at HH
      clear hn hf ho c0 c2 c3 c4 f
      go_enter Tryz.func157, Tryz.ntmps157
      go_wp2_with (first
        | (go_at_call 131; refine (HI.out _).mono ?_; rintro e w' ⟨rfl, rfl⟩)
        | (at_lookup; refine wpList_lookup_own_ok_int _ rfl _ _ 61 rfl 9 23 .u32 law Tryz.underlying61 Tryz.underlying23 (zero23 _) q.M _ _ rfl HM.out _ _ rfl HK.out ?_; intro c hat hwc; rw [HH.out]; clear hat hwc))
      go_ret2
      exact ⟨rfl, rfl⟩
    | some u =>
      rw [show AS.lkE ns s.data.toList = 0 by unfold AS.lkE; rw [hn, hf]; rfl, show AS.lkN ns s.data.toList = (u : Int) by unfold AS.lkN; rw [hn, hf]; rfl]
      rw [hf] at HH HU
      clear hn hf ho c0 c2 c3 c4 f
      go_enter Tryz.func157, Tryz.ntmps157
      go_wp2_with (first
        | (go_at_call 131; refine (HI.out _).mono ?_; rintro e w' ⟨rfl, rfl⟩)
        | (at_lookup; refine wpList_lookup_own_ok_int _ rfl _ _ 61 rfl 9 23 .u32 law Tryz.underlying61 Tryz.underlying23 (zero23 _) q.M _ _ rfl HM.out _ _ rfl HK.out ?_; intro c hat hwc; rw [HH.out]; have hcu := Lib.hid (lit_inj (hat.symm.trans HU.out)); clear hat hwc))
      go_ret2
      exact ⟨S02.ret_two hcu.out rfl, rfl⟩
end Go.Proofs.YtcnmnkgnaknpdaaGreatDoor
/-! WalkC -/
namespace Go.Proofs.YtcnmnkgnaknpdaaGreatDoor
open Go.RowKit Go.Maps S02 S06 S07
theorem name_info : (Tryz.prog.info? 57).map (fun i => (i.zero, i.size, i.bytes)) = some (some (.agg #[.string ⟨#[]⟩, .int .u32 0]), 2, 24) := by kernel_rfl
theorem two_new (w : World) (x y : Value) (t : TypeId) : ∀ j u, [x, y][j]? = some u → (w.alloc (.cells #[x, y] t)).cell? ((⟨w.heap.size, 0, none⟩ : Addr).add j) = some u := by
  intro j u hj
  match j, hj with
  | 0, hj => simp at hj; subst hj; simp [Addr.add]
  | 1, hj => simp at hj; subst hj; simp [Addr.add]
theorem two_one (s : ByteArray) (u : Int) : ∀ z ∈ [Value.string s, .int .u32 u], z.oneCell' = true := by
  intro z hz; simp at hz; rcases hz with rfl | rfl <;> rfl
/-- The names' row has grown: the struct, the map, the bytes and what is placed lie as they did. -/
theorem PS.grew {q : Q} {w w1 : World} {ns : List (List UInt8 × Nat)} {x : Int} {pl : Nat → Bool} {m : Nat → UInt8} {o : Obj} {v : Value} (h : PS q w ns x pl m) (ho : w.ownsRow q.K 57 2 v ns.length (nmC ns)) (hg : (w.alloc o).grownBy w1 v.ownBlock) :
    (∀ k, k < q.K → w1.heap[k]? = w.heap[k]?) ∧ Mv q w w1 ∧ q.K ≤ w1.heap.size := by
  have hz : (w.alloc o).heap.size = w.heap.size + 1 := by simp
  have h1 := hg.size
  refine ⟨fun k hk => ?_, ⟨?_, ?_⟩, by have := h.k5; omega⟩
  · have := h.k5
    rw [hg.block k (by omega) (fun e => by have := (own_lt ho e.symm).1; omega)]
    exact Below.heap_alloc _ _ _ (by omega)
  · refine (Tame.below ((Below.refl _ w).alloc (Nat.le_refl _) o)).trans (Tame.grown hg fun k hk => ?_)
    obtain ⟨_, h2, c, hc⟩ := own_lt ho hk
    rw [Below.heap_alloc _ _ _ h2]
    exact calm_of hc rfl
  · refine ((Below.refl _ w).alloc h.N o).grown hg (by have := h.N; omega) fun k hk => ?_
    have := (own_lt ho hk).1
    have := h.n5; have := h.k5; omega
theorem PS.defined {q : Q} {w w1 w3 : World} {ns : List (List UInt8 × Nat)} {x : Int} {pl : Nat → Bool} {m : Nat → UInt8} {o : Obj} {v v' : Value} {s : List UInt8} {u : Nat} (h : PS q w ns x pl m) (hv : w.cell? ⟨q.P, 0, none⟩ = some v) (ho : w.ownsRow q.K 57 2 v ns.length (nmC ns))
    (hg : (w.alloc o).grownBy w1 v.ownBlock) (ho1 : w1.ownsRow q.K 57 2 v' (ns.length + 1) (nmC ns ++ [NM.tv s, .int .u32 u]))
    (hm : w3.ownsMap Tryz.prog 9 (plainElem Tryz.prog 23) q.M (ns.length + 1) ((nmD ns).put (.string s) (.lit (.int .u32 u)))) (hg3 : (w1.setCell ⟨q.P, 0, none⟩ v').grownBy w3 (some q.M)) (hf : AS.fnd ns s = none) (hu : u < 4294967296) :
    PS q w3 (ns ++ [(s, u)]) x pl m ∧ Mv q w w3 := by
  obtain ⟨hk, mv1, hK⟩ := h.grew ho hg
  obtain ⟨tb, n5, k5, ne, ⟨vv, hvv, _⟩, un, _, ⟨c, hc, c1⟩, ⟨d, hd, d1⟩⟩ := h
  obtain rfl : vv = v := by have := cell_of (o := 0) hvv (by simp; rfl); rw [hv] at this; injection this with this; exact this.symm
  have hP1 := (hk q.P (by omega)).trans hvv
  have mv2 : Mv q w1 (w1.setCell ⟨q.P, 0, none⟩ v') := ⟨Tame.set _ _ _ (calm_of hP1 rfl), (Below.refl _ w1).setCell (by show q.N ≤ q.P; omega) _⟩
  have hz := size_set w1 ⟨q.P, 0, none⟩ v'
  have mv3 : Mv q (w1.setCell ⟨q.P, 0, none⟩ v') w3 := by
    refine ⟨Tame.grown hg3 fun k hk' => ?_, (Below.refl _ _).grown hg3 (by omega) fun k hk' => ?_⟩
    · injection hk' with hk'
      subst hk'
      obtain ⟨es, cl, hb, _⟩ := hm
      by_cases hlt : q.M < (w1.setCell ⟨q.P, 0, none⟩ v').heap.size
      · cases hcm : calm (w1.setCell ⟨q.P, 0, none⟩ v').heap[q.M]? with
        | false => rfl
        | true =>
          exfalso
          rw [heap_other (by omega), hk q.M (by omega)] at hcm
          obtain ⟨es', cl', hb', _⟩ := ‹w.ownsMap _ _ _ _ _ _›
          rw [hb'] at hcm
          cases hcm
      · omega
    · injection hk' with hk'; omega
  have mv := (mv1.trans mv2).trans mv3
  have kk : ∀ k, k < w1.heap.size → k ≠ q.M → k ≠ q.P → w3.heap[k]? = w1.heap[k]? := fun k h1 h2 h3 => by
    rw [hg3.block k (by omega) (fun e => h2 (by injection e))]
    exact heap_other h3
  refine ⟨⟨tb_old tb mv.old n5.1, n5, ⟨k5.1, k5.2.1, k5.2.2.1, k5.2.2.2.1, by have := hg3.size; omega⟩, ne, ⟨v', ?_, ?_⟩, ⟨?_, ?_⟩, ?_, ⟨c, (kk _ (by omega) (by omega) (by omega)).trans ((hk _ (by omega)).trans hc), c1⟩, ⟨d, (kk _ (by omega) (by omega) (by omega)).trans ((hk _ (by omega)).trans hd), d1⟩⟩, mv⟩
  · rw [hg3.block q.P (by omega) (fun e => ne.1 (by injection e)), heap_set hP1]
    rfl
  · rw [List.length_append, List.length_singleton, nmC_snoc]
    refine own_keep ho1 fun k hk' => ?_
    have := own_lt ho1 hk'
    exact kk k this.2.1 (by omega) (by omega)
  · rw [List.map_append, List.nodup_append]
    refine ⟨un.1, by simp, fun a ha b hb e => ?_⟩
    simp at hb
    subst e hb
    exact fnd_notin hf ha
  · intro p hp
    rw [List.mem_append] at hp
    rcases hp with hp | hp
    · exact un.2 p hp
    · simp at hp; subst hp; exact hu
  · rw [List.length_append, List.length_singleton, nmD_snoc]
    exact hm
theorem wf_u32 (u : Nat) (h : u < 4294967296) : (Lit.int .u32 (u : Int)).wf = true := by
  simp only [Lit.wf, IntKind.min, IntKind.max, IntKind.signed, IntKind.bits, Bool.and_eq_true]
  simp
  omega
theorem define_any {q : Q} {w : World} {ns : List (List UInt8 × Nat)} {x : Int} {pl : Nat → Bool} {m : Nat → UInt8} (s : ByteArray) (u : Nat) (hp : PS q w ns x pl m) (hs : s.size ≤ 1000000) (hf : AS.fnd ns s.data.toList = none) (hu : u < 4294967296) (hn : ns.length ≤ 1000000) :
    Calls Tryz.prog 91 #[.pointer (some ⟨q.P, 0, none⟩), .string s, .int .u32 u] w fun e w' => e = .returned (.tuple #[]) ∧ PS q w' (ns ++ [(s.data.toList, u)]) x pl m ∧ Mv q w w' := by
  obtain ⟨i0, HI⟩ := info_parts name_info
  have HI := Lib.hid HI
  obtain ⟨v, c0, c1, c2, c3, c4, f, ho⟩ := hp.c
  have HO := Lib.hid ho
  have HP := Lib.hid hp
  have HC := Lib.hid c0
  have HK := Lib.hid (show keyOf Tryz.prog 9 (.string s) = some (.string s.data.toList) from WideMaps.keyOf_string_mk Tryz.underlying9 (len_max s hs))
  have HF := Lib.hid hf
  have HE := Lib.hid (plainElem_int (H := Unit) Tryz.underlying23 (wf_u32 u hu))
  clear ho hp hf c2 c3 c4
  go_enter Tryz.func91, Tryz.ntmps91
  go_wp2_with (at_builtin; refine wpList_append_own _ rfl _ _ 27 rfl q.K 57 i0 (.agg #[.string ⟨#[]⟩, .int .u32 0]) 2 24 Tryz.underlying27 HI.out.1 HI.out.2.1 HI.out.2.2.1 HI.out.2.2.2 rfl (by decide) _ _ _ rfl (HO.out.alloc _) ⟨_, 0, none⟩ 1 1 [.string s, .int .u32 u] rfl rfl (two_new _ _ _ _) (two_one _ _) (by unfold maxLen; omega) (by omega) (by have := HP.out.k5; simp; omega) ?_)
  intro v' w1 ho1 hg1 hnil
  clear hnil
  obtain ⟨g, cap, rfl⟩ : ∃ g cap, v' = .slice (some ⟨g, 0, none⟩) (ns.length + 1) cap := by
    rcases ho1.2 with ⟨_, h0⟩ | ⟨g, cap, cur, rfl, _⟩
    · omega
    · exact ⟨g, cap, rfl⟩
  have HO1 := Lib.hid ho1
  have HG1 := Lib.hid hg1
  obtain ⟨hk, -, -⟩ := HP.out.grew HO.out hg1
  have k5 := HP.out.k5
  have ne := HP.out.ne
  have d1 : w1.cell? ⟨q.P, 1, none⟩ = some (.map (some q.M)) := (World.cell?_of_block (w := w) (a := ⟨q.P, 1, none⟩) (hk q.P k5.1)).trans c1
  have d0 : w1.cell? ⟨q.P, 0, none⟩ = some v := (World.cell?_of_block (w := w) (a := ⟨q.P, 0, none⟩) (hk q.P k5.1)).trans HC.out
  have d2 : w1.frozen? ⟨q.P, 0, none⟩ = false := (World.frozen?_of_block (w := w) (a := ⟨q.P, 0, none⟩) (hk q.P k5.1)).trans (f 0)
  have HM := Lib.hid (map_keep HP.out.map ((heap_other (v := .slice (some ⟨g, 0, none⟩) (ns.length + 1) cap) (o := 0) ne.1.symm).trans (hk q.M k5.2.1)))
  clear hk ho1 hg1 k5 ne c0 c1 f
  go_wp2_with (at_mapUpdate; refine wpList_mapUpdate_own _ rfl _ _ _ 61 rfl 9 23 law Tryz.underlying61 _ q.M _ _ rfl HM.out (by unfold maxLen; omega) _ _ _ rfl rfl HK.out _ [] HE.out ?_)
  intro w3 hm3 hg3
  have HR := Lib.hid (HP.out.defined HC.out HO.out HG1.out HO1.out hm3 hg3 HF.out hu)
  clear hm3 hg3
  go_wp2
  go_end0
  exact ⟨rfl, HR.out⟩
/-- What is placed, with the first bytes from an address on. -/
def plTo (pl : Nat → Bool) (x j : Nat) : Nat → Bool := fun i => pl i || (decide (x ≤ i) && decide (i < x + j))
theorem plTo_zero (pl : Nat → Bool) (x : Nat) : plTo pl x 0 = pl := by
  funext i
  unfold plTo
  cases pl i <;> simp
theorem plTo_at (pl : Nat → Bool) (x j : Nat) : plTo pl x j (x + j) = pl (x + j) := by unfold plTo; simp
theorem plTo_succ (pl : Nat → Bool) (x j : Nat) : (fun i => if i = x + j then true else plTo pl x j i) = plTo pl x (j + 1) := by
  funext i
  unfold plTo
  by_cases e : i = x + j
  · subst e; simp
  · rw [if_neg e]
    congr 1
    rw [Bool.eq_iff_iff]
    simp
    omega
theorem PS.out {q : Q} {w : World} {ns : List (List UInt8 × Nat)} {x : Int} {pl : Nat → Bool} {m : Nat → UInt8} (h : PS q w ns x pl m) : w.cell? ⟨q.P, 2, none⟩ = some (.int .i64 x) ∧ w.frozen? ⟨q.P, 2, none⟩ = false ∧ w.cell? ⟨q.P, 4, none⟩ = some (.slice (some ⟨q.L, 0, none⟩) 16384 16384) ∧ w.cell? ⟨q.P, 3, none⟩ = some (.slice (some ⟨q.B, 0, none⟩) 16384 16384) := by
  obtain ⟨v, c0, c1, c2, c3, c4, f, ho⟩ := h.c
  exact ⟨c2, f 2, c4, c3⟩
theorem reserve_no {q : Q} {w : World} {ns : List (List UInt8 × Nat)} {x size : Nat} {al : Int} {pl : Nat → Bool} {m : Nat → UInt8} (hp : PS q w ns x pl m) (hx : x ≤ 1000000) (hs : size ≤ 1000000) (ha : al = 1 ∨ al = 4) (h : ¬ (x : Int) % al = 0 ∨ 16384 < x + size) :
    Calls Tryz.prog 87 #[.pointer (some ⟨q.P, 0, none⟩), .int .i64 size, .int .i64 al] w fun e w' => e = .returned (.int .i64 3) ∧ Mv q w w' := by
  obtain ⟨c2, f2, c4, c3⟩ := hp.out
  clear c3 f2
  rcases ha with rfl | rfl
  · have h2 : decide (16384 < (x : Int) + size) = true := by simp; omega
    have h3 : ((x : Int) % 1 != 0) = false := by simp
    have h6 : ((x : Int) % 1 == 0) = true := by simp
    have HO := Lib.hid h
    clear h
    go_enter Tryz.func87, Tryz.ntmps87
    go_wp2
    all_goals first
      | (go_ret; exact ⟨rfl, Mv.refl _ _⟩)
      | (exfalso; omega)
  · by_cases h1 : (x : Int) % 4 = 0
    · have h2 : decide (16384 < (x : Int) + size) = true := by simp; omega
      have h3 : ((x : Int) % 4 != 0) = false := by simp; omega
      have h6 : ((x : Int) % 4 == 0) = true := by simp; omega
      clear h h1
      go_enter Tryz.func87, Tryz.ntmps87
      go_wp2
      all_goals (go_ret; exact ⟨rfl, Mv.refl _ _⟩)
    · have h3 : ((x : Int) % 4 != 0) = true := by simp; omega
      have h6 : ((x : Int) % 4 == 0) = false := by simp; omega
      clear h
      go_enter Tryz.func87, Tryz.ntmps87
      go_wp2
      all_goals (go_ret; exact ⟨rfl, Mv.refl _ _⟩)
def RsvPost (q : Q) (w : World) (ns : List (List UInt8 × Nat)) (x size : Nat) (pl : Nat → Bool) (m : Nat → UInt8) (e : Ending) (w' : World) : Prop :=
  e = .returned (.int .i64 (if AS.ovl pl x size = true then 7 else 0)) ∧ Mv q w w' ∧ (AS.ovl pl x size = false → PS q w' ns (x + size : Nat) (plTo pl x size) m)
theorem ovl_more {pl : Nat → Bool} {x j n : Nat} (hj : j < n) (h : pl (x + j) = true) : AS.ovl pl x n = true := by
  induction n with
  | zero => omega
  | succ n ih =>
    rw [AS.ovl]
    by_cases e : j = n
    · subst e; rw [h, Bool.or_true]
    · rw [ih (by omega), Bool.true_or]
theorem reserve_ok {q : Q} {w : World} {ns : List (List UInt8 × Nat)} {x size : Nat} {al : Int} {pl : Nat → Bool} {m : Nat → UInt8} (hp : PS q w ns x pl m) (ha : al = 1 ∨ al = 4) (h1 : (x : Int) % al = 0) (h2 : x + size ≤ 16384) :
    Calls Tryz.prog 87 #[.pointer (some ⟨q.P, 0, none⟩), .int .i64 size, .int .i64 al] w (RsvPost q w ns x size pl m) := by
  obtain ⟨c2, f2, c4, c3⟩ := hp.out
  have HP := Lib.hid hp
  have h7 : decide (16384 < (x : Int) + size) = false := by simp; omega
  clear f2 hp
  have g3 : ((x : Int) % al != 0) = false := by simp [h1]
  have g6 : ((x : Int) % al == 0) = true := by simp [h1]
  have H1 := Lib.hid h1
  clear h1
  rcases ha with rfl | rfl
  all_goals
    go_enter Tryz.func87, Tryz.ntmps87
    go_wp2
    go_loopw [8] (fun a wr => ∃ j : Nat, j ≤ size ∧ a = .int .i64 ((x + j : Nat) : Int) ∧ Hid (PS q wr ns x (plTo pl x j) m ∧ Mv q w wr ∧ AS.ovl pl x j = false)) (fun a _ => x + size - (intOf a).toNat)
    case atStart => exact ⟨0, by omega, rfl, by rw [plTo_zero]; exact ⟨HP.out, Mv.refl _ _, rfl⟩⟩
    case round =>
      clear c2 c3 c4 h7
      obtain ⟨j, hj, rfl, hR⟩ := hrel
      obtain ⟨c2, f2, c4, c3⟩ := hR.out.1.out
      clear c3
      by_cases hlt : j < size
      · have hlt' : decide (((x + j : Nat) : Int) < (x : Int) + size) = true := by simp; omega
        obtain ⟨g1, g2⟩ := hR.out.1.pl_cell (x + j) (by omega)
        rw [plTo_at] at g1
        have hb : x + j < 16384 := by omega
        cases hpl : pl (x + j)
        · rw [hpl] at g1
          have HN := Lib.hid (hR.out.1.place (x + j) hb true)
          have HV := Lib.hid (show AS.ovl pl x (j + 1) = false by rw [AS.ovl, hR.out.2.2, hpl]; rfl)
          go_wp2
          go_roundw
          case rel => exact ⟨j + 1, by omega, by go_num, by rw [← plTo_succ]; exact ⟨HN.out.1, hR.out.2.1.trans HN.out.2, HV.out⟩⟩
          case measure => simp [intOf]; omega
        · rw [hpl] at g1
          have HV := Lib.hid (ovl_more hlt hpl)
          go_wp2
          go_ret
          refine ⟨?_, hR.out.2.1, fun hn => ?_⟩
          · rw [if_pos HV.out]; rfl
          · rw [HV.out] at hn; cases hn
      · have hlt' : decide (((x + j : Nat) : Int) < (x : Int) + size) = false := by simp; omega
        obtain rfl : j = size := by omega
        have HN := Lib.hid (hR.out.1.next (x + j : Nat))
        go_wp2
        go_ret
        refine ⟨?_, ?_, fun hn => ?_⟩
        · rw [if_neg (by rw [hR.out.2.2]; simp)]; rfl
        · exact hR.out.2.1.trans HN.out.2
        · exact HN.out.1
end Go.Proofs.YtcnmnkgnaknpdaaGreatDoor
/-! WalkD -/
namespace Go.Proofs.YtcnmnkgnaknpdaaGreatDoor
open Go.RowKit Go.Maps S02 S06 S07
theorem le_len (v n : Nat) : (AS.le v n).length = n := by simp [AS.le]
theorem le_at (v n i : Nat) (h : i < n) : (AS.le v n).getD i 0 = AS.byt v i := by simp [AS.le, List.getD_eq_getElem?_getD, h]
theorem wr_succ (m : Nat → UInt8) (a v k : Nat) : (fun j => if j = a + k then AS.byt v k else AS.wr m a (AS.le v k) j) = AS.wr m a (AS.le v (k + 1)) := by
  funext j
  unfold AS.wr
  rw [le_len, le_len]
  by_cases e : j = a + k
  · subst e
    rw [if_pos rfl, if_pos (by omega), le_at _ _ _ (by omega)]
    congr 1; omega
  · rw [if_neg e]
    by_cases h : a ≤ j ∧ j < a + k
    · rw [if_pos h, if_pos (by omega), le_at _ _ _ (by omega), le_at _ _ _ (by omega)]
    · rw [if_neg h, if_neg (by omega)]
theorem wr_zero (m : Nat → UInt8) (a v : Nat) : AS.wr m a (AS.le v 0) = m := by
  funext j
  unfold AS.wr
  rw [le_len, if_neg (by omega)]
theorem byt_nat (v k : Nat) : ((AS.byt v k).toNat : Int) = ((v / 256 ^ k % 256 : Nat) : Int) := by
  unfold AS.byt
  rw [UInt8.toNat_ofNat']
  omega
theorem PS.drew {q : Q} {w : World} {ns : List (List UInt8 × Nat)} {x : Int} {pl : Nat → Bool} {m : Nat → UInt8} (h : PS q w ns x pl m) : PS q w.drew ns x pl m := h.below ((Below.refl _ w).drew)
theorem Mv.drew {q : Q} {w w' : World} (h : Mv q w w') : Mv q w w'.drew := ⟨⟨h.tame.os, h.tame.tape, h.tame.output, h.tame.size, h.tame.block⟩, h.old.drew⟩
theorem put_step {q : Q} {w wr : World} {ns : List (List UInt8 × Nat)} {x : Int} {pl : Nat → Bool} {m : Nat → UInt8} {a v k o k' : Nat} {X : Int} (hR : PS q wr ns x pl (AS.wr m a (AS.le v k)) ∧ Mv q w wr) (ho : o = a + k) (hk : k' = k + 1) (hX : X = ((v / 256 ^ k % 256 : Nat) : Int)) (hb : a + k < 16384) :
    PS q (wr.setCell ⟨q.B, o, none⟩ (.int .u8 X)).drew ns x pl (AS.wr m a (AS.le v k')) ∧ Mv q w (wr.setCell ⟨q.B, o, none⟩ (.int .u8 X)).drew := by
  subst ho hX hk
  obtain ⟨h1, h2⟩ := hR.1.wrote (a + k) hb (AS.byt v k)
  rw [wr_succ, byt_nat] at h1
  rw [byt_nat] at h2
  exact ⟨h1.drew, (hR.2.trans h2).drew⟩
theorem put_any {q : Q} {w : World} {ns : List (List UInt8 × Nat)} {x : Int} {pl : Nat → Bool} {m : Nat → UInt8} (a sz : Nat) (size : Int) (v : Nat) (hp : PS q w ns x pl m) (hz : size = 1 ∧ sz = 1 ∨ size = 4 ∧ sz = 4) (ha : a + sz ≤ 16384) (hv : v < 4294967296) :
    Calls Tryz.prog 130 #[.pointer (some ⟨q.P, 0, none⟩), .int .i64 a, .int .i64 size, .int .u32 v] w fun e w' => e = .returned (.tuple #[]) ∧ PS q w' ns x pl (AS.wr m a (AS.le v sz)) ∧ Mv q w w' := by
  have HP := Lib.hid hp
  clear hp
  have hsz : (sz : Int) = size := by omega
  have HZ := Lib.hid hz
  have hs4 : sz ≤ 4 := by omega
  clear hz
  subst hsz
  go_enter Tryz.func130, Tryz.ntmps130
  go_wp2
  go_loopw [10] (fun i wr => ∃ k : Nat, k ≤ sz ∧ i = .int .i64 k ∧ Hid (PS q wr ns x pl (AS.wr m a (AS.le v k)) ∧ Mv q w wr)) (fun i _ => sz - (intOf i).toNat)
  case atStart => exact ⟨0, by omega, rfl, by rw [wr_zero]; exact ⟨HP.out, Mv.refl _ _⟩⟩
  case round =>
    obtain ⟨k, hk, rfl, hR⟩ := hrel
    by_cases hlt : k < sz
    · have hlt' : decide (k < sz) = true := by simpa using hlt
      obtain ⟨c2, f2, c4, c3⟩ := hR.out.1.out
      obtain ⟨g1, g2⟩ := hR.out.1.mem_cell (a + k) (by omega)
      have hk4 : k = 0 ∨ k = 1 ∨ k = 2 ∨ k = 3 := by omega
      clear c2 f2 c4
      have hak : a + k < 16384 := by omega
      have HV := Lib.hid hv
      rcases hk4 with rfl | rfl | rfl | rfl
      · rw [Nat.add_zero] at g1 g2 hak
        go_wp2
        go_region
        go_wp2
        go_roundw
        case rel => exact ⟨1, by omega, by go_num, Lib.hid (put_step hR.out rfl rfl (by simp) hak)⟩
        case measure => simp [intOf]; omega
      · go_wp2
        go_region
        go_wp2
        go_roundw
        case rel => exact ⟨2, by omega, by go_num, Lib.hid (put_step hR.out rfl rfl (by simp) hak)⟩
        case measure => simp [intOf]; omega
      · go_wp2
        go_region
        go_wp2
        go_roundw
        case rel => exact ⟨3, by omega, by go_num, Lib.hid (put_step hR.out rfl rfl (by simp) hak)⟩
        case measure => simp [intOf]; omega
      · go_wp2
        go_region
        go_wp2
        go_roundw
        case rel => exact ⟨4, by omega, by go_num, Lib.hid (put_step hR.out rfl rfl (by simp; omega) hak)⟩
        case measure => simp [intOf]; omega
    · have hlt' : decide (k < sz) = false := by simpa using hlt
      obtain rfl : k = sz := by omega
      go_wp2
      go_end0
      exact ⟨rfl, hR.out⟩
theorem lkN_bd {q : Q} {w : World} {ns : List (List UInt8 × Nat)} {x : Int} {pl : Nat → Bool} {m : Nat → UInt8} (hp : PS q w ns x pl m) (s : List UInt8) : 0 ≤ AS.lkN ns s ∧ AS.lkN ns s < 4294967296 := by
  have := fnd_lt hp.un.2 s
  unfold AS.lkN
  split <;> omega
theorem value_any {q : Q} {w : World} {ns : List (List UInt8 × Nat)} {x : Int} {pl : Nat → Bool} {m : Nat → UInt8} (s : ByteArray) (lo hi : Int) (hp : PS q w ns x pl m) (hs : s.size ≤ 1000000) :
    Calls Tryz.prog 129 #[.pointer (some ⟨q.P, 0, none⟩), .string s, .int .i64 lo, .int .i64 hi] w fun e w' => e = .returned (.tuple #[.int .u32 (AS.vaN ns s.data.toList lo hi), .int .i64 (AS.vaE ns s.data.toList lo hi)]) ∧ Below w.heap.size w w' := by
  have HI := Lib.hid (fun W => isName_any s W hs)
  cases hn : AS.isNm s.data.toList
  · have HN := Lib.hid (fun W => number_any s lo hi W hs)
    rw [show AS.vaE ns s.data.toList lo hi = AS.nbE s.data.toList lo hi by unfold AS.vaE; rw [hn]; rfl, show AS.vaN ns s.data.toList lo hi = AS.nbN s.data.toList lo hi % 4294967296 by unfold AS.vaN; rw [hn]; rfl]
    rw [hn] at HI
    generalize AS.nbE s.data.toList lo hi = E at *
    generalize AS.nbN s.data.toList lo hi = V at *
    clear hn hp
    go_enter Tryz.func129, Tryz.ntmps129
    go_wp2_with (first
      | (go_at_call 131; refine (HI.out _).mono ?_; rintro e w' ⟨rfl, rfl⟩)
      | (go_at_call 85; refine (HN.out _).mono ?_; rintro e w' ⟨rfl, hb⟩))
    go_ret2
    exact ⟨rfl, hb⟩
  · have HL := Lib.hid (lookup_any s hp hs)
    have hb := lkN_bd hp s.data.toList
    rw [hn] at HI
    by_cases hc : AS.lkE ns s.data.toList = 0 ∧ hi < AS.lkN ns s.data.toList
    · rw [show AS.vaE ns s.data.toList lo hi = 3 by unfold AS.vaE; rw [hn, if_pos rfl, if_pos hc], show AS.vaN ns s.data.toList lo hi = 0 by unfold AS.vaN; rw [hn, if_pos rfl, if_pos hc]]
      generalize AS.lkE ns s.data.toList = E at *
      generalize AS.lkN ns s.data.toList = V at *
      obtain ⟨rfl, hc⟩ := hc
      have hc' : decide (hi < V) = true := by simpa using hc
      clear hn hp
      go_enter Tryz.func129, Tryz.ntmps129
      go_wp2_with (first
        | (go_at_call 131; refine (HI.out _).mono ?_; rintro e w' ⟨rfl, rfl⟩)
        | (go_at_call 157; refine HL.out.mono ?_; rintro e w' ⟨rfl, rfl⟩))
      go_ret2
      exact ⟨rfl, Below.refl _ _⟩
    · rw [show AS.vaE ns s.data.toList lo hi = AS.lkE ns s.data.toList by unfold AS.vaE; rw [hn, if_pos rfl, if_neg hc], show AS.vaN ns s.data.toList lo hi = AS.lkN ns s.data.toList by unfold AS.vaN; rw [hn, if_pos rfl, if_neg hc]]
      generalize AS.lkE ns s.data.toList = E at *
      generalize AS.lkN ns s.data.toList = V at *
      clear hn hp
      by_cases hE : E = 0
      · subst hE
        have hc' : decide (hi < V) = false := by simp; omega
        clear hc
        go_enter Tryz.func129, Tryz.ntmps129
        go_wp2_with (first
          | (go_at_call 131; refine (HI.out _).mono ?_; rintro e w' ⟨rfl, rfl⟩)
          | (go_at_call 157; refine HL.out.mono ?_; rintro e w' ⟨rfl, rfl⟩))
        go_ret2
        exact ⟨rfl, Below.refl _ _⟩
      · have hE' : (E == 0) = false := by simp [hE]
        clear hc
        go_enter Tryz.func129, Tryz.ntmps129
        go_wp2_with (first
          | (go_at_call 131; refine (HI.out _).mono ?_; rintro e w' ⟨rfl, rfl⟩)
          | (go_at_call 157; refine HL.out.mono ?_; rintro e w' ⟨rfl, rfl⟩))
        go_ret2
        exact ⟨rfl, Below.refl _ _⟩
end Go.Proofs.YtcnmnkgnaknpdaaGreatDoor
/-! WalkE -/
namespace Go.Proofs.YtcnmnkgnaknpdaaGreatDoor
open Go.RowKit Go.Maps S02 S06 S07
/-- A text and an error; the text is told where there is none. -/
def TxPost (w : World) (er : Int) (t : List UInt8) (e : Ending) (w' : World) : Prop := ∃ b : ByteArray, e = .returned (.tuple #[.string b, .int .i64 er]) ∧ (er = 0 → b.data.toList = t) ∧ Below w.heap.size w w'
theorem TxPost.ok {w w' : World} {t : List UInt8} (hb : Below w.heap.size w w') : TxPost w 0 t (.returned (.tuple #[.string ⟨t.toArray⟩, .int .i64 0])) w' := ⟨_, rfl, fun _ => rfl, hb⟩
theorem imm_num {q : Q} {w : World} {ns : List (List UInt8 × Nat)} {x : Int} {pl : Nat → Bool} {m : Nat → UInt8} (a : Nat) (op : Int) (s : ByteArray) (hp : PS q w ns x pl m) (hs : s.size ≤ 1000000) (hn : AS.isNm s.data.toList = false) :
    Calls Tryz.prog 174 #[.pointer (some ⟨q.P, 0, none⟩), .int .i64 a, .int .i64 op, .string ⟨#[]⟩, .string s] w (TxPost w (AS.imE ns a op [] s.data.toList) (AS.imT ns a op [] s.data.toList)) := by
  have HI := Lib.hid (fun W => isName_any s W hs)
  rw [hn] at HI
  have e1 : AS.imE ns a op [] s.data.toList = if NM.pE s.data.toList = 0 ∨ NM.pE s.data.toList = 2 then 0 else NM.pE s.data.toList := by unfold AS.imE; rw [if_pos ⟨rfl, hn⟩]
  have e2 : AS.imT ns a op [] s.data.toList = if NM.pE s.data.toList = 0 then Lib.itoa (NM.pN s.data.toList) else s.data.toList := by unfold AS.imT; rw [if_pos ⟨rfl, hn⟩]
  rw [e1, e2]
  have HT := Lib.hid hp.tb
  rcases AS.pE_cases s.data.toList with h | h | h
  · rw [if_pos (.inl h), if_pos h]
    have HP := Lib.hid (plain_num s w hs h hp.tb)
    clear hn e1 e2 h hp
    go_enter Tryz.func174, Tryz.ntmps174
    go_wp2_with (first
      | (go_at_call 131; refine (HI.out _).mono ?_; rintro e w' ⟨rfl, rfl⟩)
      | (go_at_call 179; refine HP.out.mono ?_; rintro e w' ⟨rfl, hb⟩))
    go_ret2
    exact TxPost.ok hb
  · rw [if_pos (.inr h), if_neg (by omega)]
    have HP := Lib.hid (plain_form s w hs h)
    clear hn e1 e2 h hp
    go_enter Tryz.func174, Tryz.ntmps174
    go_wp2_with (first
      | (go_at_call 131; refine (HI.out _).mono ?_; rintro e w' ⟨rfl, rfl⟩)
      | (go_at_call 179; refine HP.out.mono ?_; rintro e w' ⟨rfl, hb⟩))
    go_ret2
    exact ⟨_, rfl, fun _ => rfl, hb⟩
  · rw [if_neg (by omega), if_neg (by omega), h]
    have HP := Lib.hid (plain_range s w hs h)
    clear hn e1 e2 h hp
    go_enter Tryz.func174, Tryz.ntmps174
    go_wp2_with (first
      | (go_at_call 131; refine (HI.out _).mono ?_; rintro e w' ⟨rfl, rfl⟩)
      | (go_at_call 179; refine HP.out.mono ?_; rintro e w' ⟨rfl, hb⟩))
    go_ret2
    exact ⟨_, rfl, (fun h => by cases h), hb⟩
/-- The parts ahead of a name. -/
theorem imm_bad {q : Q} {w : World} {ns : List (List UInt8 × Nat)} {x : Int} {pl : Nat → Bool} {m : Nat → UInt8} (a : Nat) (op : Int) (p s : ByteArray) (t : List UInt8) (hp : PS q w ns x pl m) (hs : s.size ≤ 1000000) (hq : p = ⟨#[]⟩ ∧ AS.isNm s.data.toList = true ∨ p = ⟨#[104, 105]⟩ ∨ p = ⟨#[108, 111]⟩) (hl : ¬ AS.lkE ns s.data.toList = 0) :
    Calls Tryz.prog 174 #[.pointer (some ⟨q.P, 0, none⟩), .int .i64 a, .int .i64 op, .string p, .string s] w (TxPost w (AS.lkE ns s.data.toList) t) := by
  have HI := Lib.hid (fun W => isName_any s W hs)
  have HL := Lib.hid (lookup_any s hp hs)
  generalize AS.lkE ns s.data.toList = E at *
  generalize AS.lkN ns s.data.toList = V at *
  have hE' : (E == 0) = false := by simp [hl]
  have hE'' : (E != 0) = true := by simp [hl]
  clear hp
  rcases hq with ⟨rfl, hn⟩ | rfl | rfl
  · rw [hn] at HI
    go_enter Tryz.func174, Tryz.ntmps174
    go_wp2_with (first
      | (go_at_call 131; refine (HI.out _).mono ?_; rintro e w' ⟨rfl, rfl⟩)
      | (go_at_call 157; refine HL.out.mono ?_; rintro e w' ⟨rfl, rfl⟩))
    go_ret2
    exact ⟨_, rfl, fun h => absurd h hl, Below.refl _ _⟩
  all_goals
    go_enter Tryz.func174, Tryz.ntmps174
    go_wp2_with (go_at_call 157; refine HL.out.mono ?_; rintro e w' ⟨rfl, rfl⟩)
    go_ret2
    exact ⟨_, rfl, fun h => absurd h hl, Below.refl _ _⟩
theorem imm_hi {q : Q} {w : World} {ns : List (List UInt8 × Nat)} {x : Int} {pl : Nat → Bool} {m : Nat → UInt8} (a : Nat) (op : Int) (s : ByteArray) (hp : PS q w ns x pl m) (hs : s.size ≤ 1000000) (hl : AS.lkE ns s.data.toList = 0) :
    Calls Tryz.prog 174 #[.pointer (some ⟨q.P, 0, none⟩), .int .i64 a, .int .i64 op, .string ⟨#[104, 105]⟩, .string s] w (TxPost w 0 (Lib.itoa (AS.hiV (AS.lkN ns s.data.toList)))) := by
  have HL := Lib.hid (lookup_any s hp hs)
  have hb := lkN_bd hp s.data.toList
  have HT := Lib.hid hp.tb
  rw [hl] at HL
  clear hl hp
  generalize AS.lkN ns s.data.toList = V at *
  have HH := Lib.hid (fun W => high_any V W hb.1 hb.2)
  have hh := AS.hiV_bd V
  generalize AS.hiV V = Z at *
  go_enter Tryz.func174, Tryz.ntmps174
  go_wp2_with (first
    | (go_at_call 157; refine HL.out.mono ?_; rintro e w' ⟨rfl, rfl⟩)
    | (go_at_call 180; refine (HH.out _).mono ?_; rintro e w' ⟨rfl, rfl⟩)
    | (go_at_call 19; refine (S07.dec_any _ _ (by omega) (by omega) HT.out).mono ?_; rintro e w' ⟨rfl, hb⟩))
  go_ret2
  exact TxPost.ok hb
theorem imm_lo {q : Q} {w : World} {ns : List (List UInt8 × Nat)} {x : Int} {pl : Nat → Bool} {m : Nat → UInt8} (a : Nat) (op : Int) (s : ByteArray) (hp : PS q w ns x pl m) (hs : s.size ≤ 1000000) (hl : AS.lkE ns s.data.toList = 0) :
    Calls Tryz.prog 174 #[.pointer (some ⟨q.P, 0, none⟩), .int .i64 a, .int .i64 op, .string ⟨#[108, 111]⟩, .string s] w (TxPost w 0 (Lib.itoa (AS.loV (AS.lkN ns s.data.toList)))) := by
  have HL := Lib.hid (lookup_any s hp hs)
  have hb := lkN_bd hp s.data.toList
  have HT := Lib.hid hp.tb
  rw [hl] at HL
  clear hl hp
  generalize AS.lkN ns s.data.toList = V at *
  have HH := Lib.hid (fun W => low_any V W hb.1 hb.2)
  have hh := AS.loV_bd V
  generalize AS.loV V = Z at *
  go_enter Tryz.func174, Tryz.ntmps174
  go_wp2_with (first
    | (go_at_call 157; refine HL.out.mono ?_; rintro e w' ⟨rfl, rfl⟩)
    | (go_at_call 181; refine (HH.out _).mono ?_; rintro e w' ⟨rfl, rfl⟩)
    | (go_at_call 19; refine (S07.dec_any _ _ (by omega) (by omega) HT.out).mono ?_; rintro e w' ⟨rfl, hb⟩))
  go_ret2
  exact TxPost.ok hb
theorem imm_val {q : Q} {w : World} {ns : List (List UInt8 × Nat)} {x : Int} {pl : Nat → Bool} {m : Nat → UInt8} (a : Nat) (op : Int) (s : ByteArray) (hp : PS q w ns x pl m) (hs : s.size ≤ 1000000) (hn : AS.isNm s.data.toList = true) (hl : AS.lkE ns s.data.toList = 0) (ho : ¬ (op = 49 ∨ IM.fm op = 4)) :
    Calls Tryz.prog 174 #[.pointer (some ⟨q.P, 0, none⟩), .int .i64 a, .int .i64 op, .string ⟨#[]⟩, .string s] w (TxPost w 0 (Lib.itoa (AS.sgV (AS.lkN ns s.data.toList)))) := by
  have HI := Lib.hid (fun W => isName_any s W hs)
  rw [hn] at HI
  have HL := Lib.hid (lookup_any s hp hs)
  have hb := lkN_bd hp s.data.toList
  have HT := Lib.hid hp.tb
  rw [hl] at HL
  have HF := Lib.hid (fun W => form_any op W)
  generalize IM.fm op = f at *
  have o1 : (op == 49) = false := by simp; omega
  have o2 : (f == 4) = false := by simp; omega
  clear hl hp hn ho
  generalize AS.lkN ns s.data.toList = V at *
  have hh := AS.sgV_bd V
  have HW := Lib.hid (show wrap64 (wrap32 V) = AS.sgV V by unfold wrap64 wrap32; unfold AS.sgV at *; omega)
  go_enter Tryz.func174, Tryz.ntmps174
  go_wp2_with (first
    | (go_at_call 131; refine (HI.out _).mono ?_; rintro e w' ⟨rfl, rfl⟩)
    | (go_at_call 157; refine HL.out.mono ?_; rintro e w' ⟨rfl, rfl⟩)
    | (go_at_call 38; refine (HF.out _).mono ?_; rintro e w' ⟨rfl, rfl⟩)
    | (go_at_call 19; rw [HW.out]; refine (S07.dec_any _ _ (by omega) (by omega) HT.out).mono ?_; rintro e w' ⟨rfl, hb⟩))
  go_ret2
  exact TxPost.ok hb
theorem sgV_mod (v : Int) : AS.sgV (v % 4294967296) = AS.sgV v := by unfold AS.sgV; omega
theorem imm_dist {q : Q} {w : World} {ns : List (List UInt8 × Nat)} {x : Int} {pl : Nat → Bool} {m : Nat → UInt8} (a : Nat) (op : Int) (s : ByteArray) (hp : PS q w ns x pl m) (hs : s.size ≤ 1000000) (ha : a ≤ 16384) (hn : AS.isNm s.data.toList = true) (hl : AS.lkE ns s.data.toList = 0) (ho : op = 49 ∨ IM.fm op = 4) :
    Calls Tryz.prog 174 #[.pointer (some ⟨q.P, 0, none⟩), .int .i64 a, .int .i64 op, .string ⟨#[]⟩, .string s] w (TxPost w (if ¬ (AS.lkN ns s.data.toList - a) % 4 = 0 then 3 else 0) (Lib.itoa (AS.sgV (AS.lkN ns s.data.toList - a) / 4))) := by
  have HI := Lib.hid (fun W => isName_any s W hs)
  rw [hn] at HI
  have HL := Lib.hid (lookup_any s hp hs)
  have hb := lkN_bd hp s.data.toList
  have HT := Lib.hid hp.tb
  rw [hl] at HL
  have HF := Lib.hid (fun W => form_any op W)
  generalize IM.fm op = f at *
  clear hl hp hn
  generalize AS.lkN ns s.data.toList = V at *
  obtain ⟨D, hD⟩ : ∃ D, D = (V - a) % 4294967296 := ⟨_, rfl⟩
  have hD0 : 0 ≤ D ∧ D < 4294967296 := by omega
  have HD := Lib.hid (show IntKind.u32.wrap (V - a) = D by rw [hD]; exact IntKind.wrap_u32 _)
  have HD2 := Lib.hid hD.symm
  have hm : (V - a) % 4 = D % 4 := by omega
  have hs : AS.sgV (V - a) = AS.sgV D := by rw [hD, sgV_mod]
  rw [hm, hs]
  clear hm hs hD
  by_cases h4 : D % 4 = 0
  · rw [if_neg (by simpa using h4)]
    have HX := Lib.hid (fun W (hW : Tb W) => distance_ok D W hD0.1 hD0.2 h4 hW)
    clear h4
    by_cases o1 : op = 49
    · subst o1
      go_enter Tryz.func174, Tryz.ntmps174
      go_wp2_with (first
        | (go_at_call 131; refine (HI.out _).mono ?_; rintro e w' ⟨rfl, rfl⟩)
        | (go_at_call 157; refine HL.out.mono ?_; rintro e w' ⟨rfl, rfl⟩)
        | (go_at_call 182; first | rw [HD.out] | rw [HD2.out]; refine (HX.out _ HT.out).mono ?_; rintro e w' ⟨rfl, hb⟩))
      go_ret2
      exact TxPost.ok hb
    · have o1' : (op == 49) = false := by simp [o1]
      obtain rfl : f = 4 := by omega
      clear ho
      go_enter Tryz.func174, Tryz.ntmps174
      go_wp2_with (first
        | (go_at_call 131; refine (HI.out _).mono ?_; rintro e w' ⟨rfl, rfl⟩)
        | (go_at_call 157; refine HL.out.mono ?_; rintro e w' ⟨rfl, rfl⟩)
        | (go_at_call 38; refine (HF.out _).mono ?_; rintro e w' ⟨rfl, rfl⟩)
        | (go_at_call 182; first | rw [HD.out] | rw [HD2.out]; refine (HX.out _ HT.out).mono ?_; rintro e w' ⟨rfl, hb⟩))
      go_ret2
      exact TxPost.ok hb
  · rw [if_pos (by simpa using h4)]
    have HX := Lib.hid (fun W => distance_no D W hD0.1 hD0.2 h4)
    clear h4
    by_cases o1 : op = 49
    · subst o1
      go_enter Tryz.func174, Tryz.ntmps174
      go_wp2_with (first
        | (go_at_call 131; refine (HI.out _).mono ?_; rintro e w' ⟨rfl, rfl⟩)
        | (go_at_call 157; refine HL.out.mono ?_; rintro e w' ⟨rfl, rfl⟩)
        | (go_at_call 182; first | rw [HD.out] | rw [HD2.out]; refine (HX.out _).mono ?_; rintro e w' ⟨rfl, hb⟩))
      go_ret2
      exact ⟨_, rfl, (fun h => by cases h), hb⟩
    · have o1' : (op == 49) = false := by simp [o1]
      obtain rfl : f = 4 := by omega
      clear ho
      go_enter Tryz.func174, Tryz.ntmps174
      go_wp2_with (first
        | (go_at_call 131; refine (HI.out _).mono ?_; rintro e w' ⟨rfl, rfl⟩)
        | (go_at_call 157; refine HL.out.mono ?_; rintro e w' ⟨rfl, rfl⟩)
        | (go_at_call 38; refine (HF.out _).mono ?_; rintro e w' ⟨rfl, rfl⟩)
        | (go_at_call 182; first | rw [HD.out] | rw [HD2.out]; refine (HX.out _).mono ?_; rintro e w' ⟨rfl, hb⟩))
      go_ret2
      exact ⟨_, rfl, (fun h => by cases h), hb⟩
theorem lk_name {ns : List (List UInt8 × Nat)} {s : List UInt8} (h : AS.lkE ns s = 0) : AS.isNm s = true := by
  cases hn : AS.isNm s
  · unfold AS.lkE at h; rw [hn] at h; simp at h
  · rfl
theorem imm_any {q : Q} {w : World} {ns : List (List UInt8 × Nat)} {x : Int} {pl : Nat → Bool} {m : Nat → UInt8} (a : Nat) (op : Int) (p s : ByteArray) (hp : PS q w ns x pl m) (hs : s.size ≤ 1000000) (ha : a ≤ 16384) (hq : p = ⟨#[]⟩ ∨ p = ⟨#[104, 105]⟩ ∨ p = ⟨#[108, 111]⟩) :
    Calls Tryz.prog 174 #[.pointer (some ⟨q.P, 0, none⟩), .int .i64 a, .int .i64 op, .string p, .string s] w (TxPost w (AS.imE ns a op p.data.toList s.data.toList) (AS.imT ns a op p.data.toList s.data.toList)) := by
  by_cases hl : AS.lkE ns s.data.toList = 0
  · have hn := lk_name hl
    rcases hq with rfl | rfl | rfl
    · show Calls Tryz.prog 174 _ w (TxPost w (AS.imE ns a op [] s.data.toList) (AS.imT ns a op [] s.data.toList))
      by_cases ho : op = 49 ∨ IM.fm op = 4
      · have e1 : AS.imE ns a op [] s.data.toList = (if ¬ (AS.lkN ns s.data.toList - a) % 4 = 0 then 3 else 0) := by
          unfold AS.imE
          rw [hn, if_neg (by simp), if_pos hl]
          by_cases h4 : (AS.lkN ns s.data.toList - a) % 4 = 0
          · rw [if_neg (by simp [h4]), if_neg (by simp [h4])]
          · rw [if_pos ⟨rfl, ho, h4⟩, if_pos h4]
        have e2 : AS.imT ns a op [] s.data.toList = Lib.itoa (AS.sgV (AS.lkN ns s.data.toList - a) / 4) := by
          unfold AS.imT AS.tHi AS.tLo
          rw [hn, if_neg (by simp), if_neg (by simp), if_neg (by simp), if_pos ho]
        rw [e1, e2]
        exact imm_dist a op s hp hs ha hn hl ho
      · have e1 : AS.imE ns a op [] s.data.toList = 0 := by
          unfold AS.imE
          rw [hn, if_neg (by simp), if_pos hl, if_neg (by intro h; exact ho h.2.1)]
        have e2 : AS.imT ns a op [] s.data.toList = Lib.itoa (AS.sgV (AS.lkN ns s.data.toList)) := by
          unfold AS.imT AS.tHi AS.tLo
          rw [hn, if_neg (by simp), if_neg (by simp), if_neg (by simp), if_neg ho]
        rw [e1, e2]
        exact imm_val a op s hp hs hn hl ho
    · show Calls Tryz.prog 174 _ w (TxPost w (AS.imE ns a op [104, 105] s.data.toList) (AS.imT ns a op [104, 105] s.data.toList))
      rw [show AS.imE ns a op [104, 105] s.data.toList = 0 by unfold AS.imE; rw [if_neg (by simp), if_pos hl, if_neg (by simp)], show AS.imT ns a op [104, 105] s.data.toList = Lib.itoa (AS.hiV (AS.lkN ns s.data.toList)) by unfold AS.imT AS.tHi; rw [if_neg (by simp), if_pos rfl]]
      exact imm_hi a op s hp hs hl
    · show Calls Tryz.prog 174 _ w (TxPost w (AS.imE ns a op [108, 111] s.data.toList) (AS.imT ns a op [108, 111] s.data.toList))
      rw [show AS.imE ns a op [108, 111] s.data.toList = 0 by unfold AS.imE; rw [if_neg (by simp), if_pos hl, if_neg (by simp)], show AS.imT ns a op [108, 111] s.data.toList = Lib.itoa (AS.loV (AS.lkN ns s.data.toList)) by unfold AS.imT AS.tHi AS.tLo; rw [if_neg (by simp), if_neg (by decide), if_pos rfl]]
      exact imm_lo a op s hp hs hl
  · by_cases hn : p = ⟨#[]⟩ ∧ AS.isNm s.data.toList = false
    · obtain ⟨rfl, hn⟩ := hn
      exact imm_num a op s hp hs hn
    · have hc : ¬ (p.data.toList = [] ∧ AS.isNm s.data.toList = false) := by
        rintro ⟨h1, h2⟩
        refine hn ⟨?_, h2⟩
        cases p
        simp only [ByteArray.mk.injEq]
        exact Array.toList_inj.mp h1
      rw [show AS.imE ns a op p.data.toList s.data.toList = AS.lkE ns s.data.toList by unfold AS.imE; rw [if_neg hc, if_neg hl]]
      refine imm_bad a op p s _ hp hs ?_ hl
      rcases hq with h | h | h
      · exact .inl ⟨h, by cases hb : AS.isNm s.data.toList; exact absurd ⟨h, hb⟩ hn; rfl⟩
      · exact .inr (.inl h)
      · exact .inr (.inr h)
end Go.Proofs.YtcnmnkgnaknpdaaGreatDoor
