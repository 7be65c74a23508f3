/-
  The law TextOnce, walked: for every two instructions the answer is true, and memory that was there is unchanged.
-/
import Derived.Test.YtfgkcjalfhbjjaaDoorWalkH
namespace Go.Proofs.YtfgkcjalfhbjjaaDoor
open Go.RowKit S02 S06
/-- Both instructions lie where the law laid them. -/
def OW (w v : World) (op d a b m op' d' a' b' m' : Int) : Prop := At v w.heap.size op d a b m ∧ At v (w.heap.size + 1) op' d' a' b' m' ∧ w.heap.size + 1 < v.heap.size ∧ Below w.heap.size w v
theorem OW.on {w v v1 : World} {op d a b m op' d' a' b' m' : Int} (h : OW w v op d a b m op' d' a' b' m') (hb : Below v.heap.size v v1) : OW w v1 op d a b m op' d' a' b' m' := by
  obtain ⟨h1, h2, h3, h4⟩ := h
  exact ⟨h1.below (by omega) hb, h2.below h3 hb, Nat.lt_of_lt_of_le h3 hb.size, h4.trans (hb.mono h4.size)⟩
theorem OW.start (w : World) (op d a b m op' d' a' b' m' : Int) : OW w ((w.alloc (.cells #[.int .i64 op, .int .i64 d, .int .i64 a, .int .i64 b, .int .i64 m] 27)).alloc (.cells #[.int .i64 op', .int .i64 d', .int .i64 a', .int .i64 b', .int .i64 m'] 27)) op d a b m op' d' a' b' m' := by
  refine ⟨(At.new w 27 op d a b m).more (by simp) _, ?_, by simp, ((Below.refl _ w).alloc (Nat.le_refl _) _).alloc (by simp) _⟩
  have := At.new (w.alloc (.cells #[.int .i64 op, .int .i64 d, .int .i64 a, .int .i64 b, .int .i64 m] 27)) 27 op' d' a' b' m'
  simpa using this
theorem OS.of {w v : World} {op d a b m op' d' a' b' m' : Int} (h : OW w v op d a b m op' d' a' b' m') : v.cell? ⟨w.heap.size, 0, none⟩ = some (.int .i64 op) ∧ v.cell? ⟨w.heap.size, 1, none⟩ = some (.int .i64 d) ∧ v.cell? ⟨w.heap.size, 2, none⟩ = some (.int .i64 a) ∧ v.cell? ⟨w.heap.size, 3, none⟩ = some (.int .i64 b) ∧ v.cell? ⟨w.heap.size, 4, none⟩ = some (.int .i64 m) ∧ v.cell? ⟨w.heap.size + 1, 0, none⟩ = some (.int .i64 op') ∧ v.cell? ⟨w.heap.size + 1, 1, none⟩ = some (.int .i64 d') ∧ v.cell? ⟨w.heap.size + 1, 2, none⟩ = some (.int .i64 a') ∧ v.cell? ⟨w.heap.size + 1, 3, none⟩ = some (.int .i64 b') ∧ v.cell? ⟨w.heap.size + 1, 4, none⟩ = some (.int .i64 m') ∧ Hid (OW w v op d a b m op' d' a' b' m') :=
  ⟨h.1.1.1, h.1.1.2.1, h.1.1.2.2.1, h.1.1.2.2.2.1, h.1.1.2.2.2.2, h.2.1.1.1, h.2.1.1.2.1, h.2.1.1.2.2.1, h.2.1.1.2.2.2.1, h.2.1.1.2.2.2.2, Lib.hid h⟩
theorem OS.end {w v : World} {op d a b m op' d' a' b' m' : Int} (h : v.cell? ⟨w.heap.size, 0, none⟩ = some (.int .i64 op) ∧ v.cell? ⟨w.heap.size, 1, none⟩ = some (.int .i64 d) ∧ v.cell? ⟨w.heap.size, 2, none⟩ = some (.int .i64 a) ∧ v.cell? ⟨w.heap.size, 3, none⟩ = some (.int .i64 b) ∧ v.cell? ⟨w.heap.size, 4, none⟩ = some (.int .i64 m) ∧ v.cell? ⟨w.heap.size + 1, 0, none⟩ = some (.int .i64 op') ∧ v.cell? ⟨w.heap.size + 1, 1, none⟩ = some (.int .i64 d') ∧ v.cell? ⟨w.heap.size + 1, 2, none⟩ = some (.int .i64 a') ∧ v.cell? ⟨w.heap.size + 1, 3, none⟩ = some (.int .i64 b') ∧ v.cell? ⟨w.heap.size + 1, 4, none⟩ = some (.int .i64 m') ∧ Hid (OW w v op d a b m op' d' a' b' m')) : OW w v op d a b m op' d' a' b' m' := h.2.2.2.2.2.2.2.2.2.2.out
theorem OS.call {w v v1 : World} {op d a b m op' d' a' b' m' : Int} (h : v.cell? ⟨w.heap.size, 0, none⟩ = some (.int .i64 op) ∧ v.cell? ⟨w.heap.size, 1, none⟩ = some (.int .i64 d) ∧ v.cell? ⟨w.heap.size, 2, none⟩ = some (.int .i64 a) ∧ v.cell? ⟨w.heap.size, 3, none⟩ = some (.int .i64 b) ∧ v.cell? ⟨w.heap.size, 4, none⟩ = some (.int .i64 m) ∧ v.cell? ⟨w.heap.size + 1, 0, none⟩ = some (.int .i64 op') ∧ v.cell? ⟨w.heap.size + 1, 1, none⟩ = some (.int .i64 d') ∧ v.cell? ⟨w.heap.size + 1, 2, none⟩ = some (.int .i64 a') ∧ v.cell? ⟨w.heap.size + 1, 3, none⟩ = some (.int .i64 b') ∧ v.cell? ⟨w.heap.size + 1, 4, none⟩ = some (.int .i64 m') ∧ Hid (OW w v op d a b m op' d' a' b' m')) (hb : Below v.heap.size v v1) : v1.cell? ⟨w.heap.size, 0, none⟩ = some (.int .i64 op) ∧ v1.cell? ⟨w.heap.size, 1, none⟩ = some (.int .i64 d) ∧ v1.cell? ⟨w.heap.size, 2, none⟩ = some (.int .i64 a) ∧ v1.cell? ⟨w.heap.size, 3, none⟩ = some (.int .i64 b) ∧ v1.cell? ⟨w.heap.size, 4, none⟩ = some (.int .i64 m) ∧ v1.cell? ⟨w.heap.size + 1, 0, none⟩ = some (.int .i64 op') ∧ v1.cell? ⟨w.heap.size + 1, 1, none⟩ = some (.int .i64 d') ∧ v1.cell? ⟨w.heap.size + 1, 2, none⟩ = some (.int .i64 a') ∧ v1.cell? ⟨w.heap.size + 1, 3, none⟩ = some (.int .i64 b') ∧ v1.cell? ⟨w.heap.size + 1, 4, none⟩ = some (.int .i64 m') ∧ Hid (OW w v1 op d a b m op' d' a' b' m') := OS.of ((OS.end h).on hb)
theorem OS.drew {w v : World} {op d a b m op' d' a' b' m' : Int} (h : OW w v op d a b m op' d' a' b' m') : v.drew.cell? ⟨w.heap.size, 0, none⟩ = some (.int .i64 op) ∧ v.drew.cell? ⟨w.heap.size, 1, none⟩ = some (.int .i64 d) ∧ v.drew.cell? ⟨w.heap.size, 2, none⟩ = some (.int .i64 a) ∧ v.drew.cell? ⟨w.heap.size, 3, none⟩ = some (.int .i64 b) ∧ v.drew.cell? ⟨w.heap.size, 4, none⟩ = some (.int .i64 m) ∧ v.drew.cell? ⟨w.heap.size + 1, 0, none⟩ = some (.int .i64 op') ∧ v.drew.cell? ⟨w.heap.size + 1, 1, none⟩ = some (.int .i64 d') ∧ v.drew.cell? ⟨w.heap.size + 1, 2, none⟩ = some (.int .i64 a') ∧ v.drew.cell? ⟨w.heap.size + 1, 3, none⟩ = some (.int .i64 b') ∧ v.drew.cell? ⟨w.heap.size + 1, 4, none⟩ = some (.int .i64 m') ∧ Hid (OW w v.drew op d a b m op' d' a' b' m') := OS.of (h.on (Below.refl _ _).drew)
theorem OS.below {w v : World} {op d a b m op' d' a' b' m' : Int} (h : v.cell? ⟨w.heap.size, 0, none⟩ = some (.int .i64 op) ∧ v.cell? ⟨w.heap.size, 1, none⟩ = some (.int .i64 d) ∧ v.cell? ⟨w.heap.size, 2, none⟩ = some (.int .i64 a) ∧ v.cell? ⟨w.heap.size, 3, none⟩ = some (.int .i64 b) ∧ v.cell? ⟨w.heap.size, 4, none⟩ = some (.int .i64 m) ∧ v.cell? ⟨w.heap.size + 1, 0, none⟩ = some (.int .i64 op') ∧ v.cell? ⟨w.heap.size + 1, 1, none⟩ = some (.int .i64 d') ∧ v.cell? ⟨w.heap.size + 1, 2, none⟩ = some (.int .i64 a') ∧ v.cell? ⟨w.heap.size + 1, 3, none⟩ = some (.int .i64 b') ∧ v.cell? ⟨w.heap.size + 1, 4, none⟩ = some (.int .i64 m') ∧ Hid (OW w v op d a b m op' d' a' b' m')) : Below w.heap.size w v := (OS.end h).2.2.2
set_option maxHeartbeats 3200000 in
theorem once_apart (op d a b m op' d' a' b' m' : Int) (A B : ByteArray) (w : World) (HT : Hid (Tb w)) (hAB : ¬ A.toList = B.toList) (hne : ¬ (op = op' ∧ d = d' ∧ a = a' ∧ b = b' ∧ m = m'))
    (H1 : Hid (∀ W, Tb W → Calls Tryd.prog 13 #[.agg #[.int .i64 op, .int .i64 d, .int .i64 a, .int .i64 b, .int .i64 m]] W fun e w' => e = .returned (.string A) ∧ Below W.heap.size W w'))
    (H2 : Hid (∀ W, Tb W → Calls Tryd.prog 13 #[.agg #[.int .i64 op', .int .i64 d', .int .i64 a', .int .i64 b', .int .i64 m']] W fun e w' => e = .returned (.string B) ∧ Below W.heap.size W w')) :
    Calls Tryd.prog 6 #[.agg #[.int .i64 op, .int .i64 d, .int .i64 a, .int .i64 b, .int .i64 m], .agg #[.int .i64 op', .int .i64 d', .int .i64 a', .int .i64 b', .int .i64 m']] w fun e w' => e = .returned (.bool true) ∧ Below w.heap.size w w' := by
  have hAB' : (A.toList == B.toList) = false := by simpa using hAB
  go_enter Tryd.func6, Tryd.ntmps6
  have O1 := Lib.hid (OW.start w op d a b m op' d' a' b' m')
  go_wp2_with fail
  go_region_held3 (fun v => v.cell? ⟨w.heap.size, 0, none⟩ = some (.int .i64 op) ∧ v.cell? ⟨w.heap.size, 1, none⟩ = some (.int .i64 d) ∧ v.cell? ⟨w.heap.size, 2, none⟩ = some (.int .i64 a) ∧ v.cell? ⟨w.heap.size, 3, none⟩ = some (.int .i64 b) ∧ v.cell? ⟨w.heap.size, 4, none⟩ = some (.int .i64 m) ∧ v.cell? ⟨w.heap.size + 1, 0, none⟩ = some (.int .i64 op') ∧ v.cell? ⟨w.heap.size + 1, 1, none⟩ = some (.int .i64 d') ∧ v.cell? ⟨w.heap.size + 1, 2, none⟩ = some (.int .i64 a') ∧ v.cell? ⟨w.heap.size + 1, 3, none⟩ = some (.int .i64 b') ∧ v.cell? ⟨w.heap.size + 1, 4, none⟩ = some (.int .i64 m') ∧ Hid (OW w v op d a b m op' d' a' b' m')) (first | exact OS.drew O1.out | exact OS.call (by assumption) (by assumption))
    (first | (go_at_call 13; with_reducible refine (H1.out _ (HT.out.on (OS.below (by assumption)))).mono ?_; rintro e w2 ⟨rfl, hb2⟩) | (go_at_call 13; with_reducible refine (H2.out _ (HT.out.on (OS.below (by assumption)))).mono ?_; rintro e w3 ⟨rfl, hb3⟩))
  all_goals
    have O2 := Lib.hid (OS.end (w := w) (op := op) (d := d) (a := a) (b := b) (m := m) (op' := op') (d' := d') (a' := a') (b' := b') (m' := m') (by assumption))
    obtain ⟨⟨c0, c1, c2, c3, c4⟩, f0, f1, f2, f3, f4⟩ := O2.out.1
    obtain ⟨⟨k0, k1, k2, k3, k4⟩, l0, l1, l2, l3, l4⟩ := O2.out.2.1
    go_wp2_with (go_at_call 8; refine (awake_any _ (HT.out.on O2.out.2.2.2)).mono ?_; rintro e w5 ⟨rfl, hb⟩)
    all_goals
      first
        | (exfalso; exact hne ⟨by assumption, by assumption, by assumption, by assumption, by assumption⟩)
        | (go_ret; exact ⟨rfl, (O2.out.on hb).2.2.2⟩)
set_option maxHeartbeats 3200000 in
theorem once_nil (op d a b m op' d' a' b' m' : Int) (A : ByteArray) (w : World) (HT : Hid (Tb w)) (hA : A.toList = []) (hne : ¬ (op = op' ∧ d = d' ∧ a = a' ∧ b = b' ∧ m = m'))
    (H1 : Hid (∀ W, Tb W → Calls Tryd.prog 13 #[.agg #[.int .i64 op, .int .i64 d, .int .i64 a, .int .i64 b, .int .i64 m]] W fun e w' => e = .returned (.string A) ∧ Below W.heap.size W w'))
    (H2 : Hid (∀ W, Tb W → Calls Tryd.prog 13 #[.agg #[.int .i64 op', .int .i64 d', .int .i64 a', .int .i64 b', .int .i64 m']] W fun e w' => e = .returned (.string A) ∧ Below W.heap.size W w')) :
    Calls Tryd.prog 6 #[.agg #[.int .i64 op, .int .i64 d, .int .i64 a, .int .i64 b, .int .i64 m], .agg #[.int .i64 op', .int .i64 d', .int .i64 a', .int .i64 b', .int .i64 m']] w fun e w' => e = .returned (.bool true) ∧ Below w.heap.size w w' := by
  go_enter Tryd.func6, Tryd.ntmps6
  have O1 := Lib.hid (OW.start w op d a b m op' d' a' b' m')
  go_wp2_with fail
  go_region_held3 (fun v => v.cell? ⟨w.heap.size, 0, none⟩ = some (.int .i64 op) ∧ v.cell? ⟨w.heap.size, 1, none⟩ = some (.int .i64 d) ∧ v.cell? ⟨w.heap.size, 2, none⟩ = some (.int .i64 a) ∧ v.cell? ⟨w.heap.size, 3, none⟩ = some (.int .i64 b) ∧ v.cell? ⟨w.heap.size, 4, none⟩ = some (.int .i64 m) ∧ v.cell? ⟨w.heap.size + 1, 0, none⟩ = some (.int .i64 op') ∧ v.cell? ⟨w.heap.size + 1, 1, none⟩ = some (.int .i64 d') ∧ v.cell? ⟨w.heap.size + 1, 2, none⟩ = some (.int .i64 a') ∧ v.cell? ⟨w.heap.size + 1, 3, none⟩ = some (.int .i64 b') ∧ v.cell? ⟨w.heap.size + 1, 4, none⟩ = some (.int .i64 m') ∧ Hid (OW w v op d a b m op' d' a' b' m')) (first | exact OS.drew O1.out | exact OS.call (by assumption) (by assumption))
    (first | (go_at_call 13; with_reducible refine (H1.out _ (HT.out.on (OS.below (by assumption)))).mono ?_; rintro e w2 ⟨rfl, hb2⟩) | (go_at_call 13; with_reducible refine (H2.out _ (HT.out.on (OS.below (by assumption)))).mono ?_; rintro e w3 ⟨rfl, hb3⟩))
  all_goals
    have O2 := Lib.hid (OS.end (w := w) (op := op) (d := d) (a := a) (b := b) (m := m) (op' := op') (d' := d') (a' := a') (b' := b') (m' := m') (by assumption))
    obtain ⟨⟨c0, c1, c2, c3, c4⟩, f0, f1, f2, f3, f4⟩ := O2.out.1
    obtain ⟨⟨k0, k1, k2, k3, k4⟩, l0, l1, l2, l3, l4⟩ := O2.out.2.1
    go_wp2_with (go_at_call 8; refine (awake_any _ (HT.out.on O2.out.2.2.2)).mono ?_; rintro e w5 ⟨rfl, hb⟩)
    all_goals
      first
        | (exfalso; exact hne ⟨by assumption, by assumption, by assumption, by assumption, by assumption⟩)
        | (go_ret; exact ⟨rfl, (O2.out.on hb).2.2.2⟩)
set_option maxHeartbeats 3200000 in
theorem once_same_nil (op d a b m : Int) (A : ByteArray) (w : World) (HT : Hid (Tb w)) (hA : A.toList = [])
    (H1 : Hid (∀ W, Tb W → Calls Tryd.prog 13 #[.agg #[.int .i64 op, .int .i64 d, .int .i64 a, .int .i64 b, .int .i64 m]] W fun e w' => e = .returned (.string A) ∧ Below W.heap.size W w')) :
    Calls Tryd.prog 6 #[.agg #[.int .i64 op, .int .i64 d, .int .i64 a, .int .i64 b, .int .i64 m], .agg #[.int .i64 op, .int .i64 d, .int .i64 a, .int .i64 b, .int .i64 m]] w fun e w' => e = .returned (.bool true) ∧ Below w.heap.size w w' := by
  go_enter Tryd.func6, Tryd.ntmps6
  have O1 := Lib.hid (OW.start w op d a b m op d a b m)
  go_wp2_with fail
  go_region_held3 (fun v => v.cell? ⟨w.heap.size, 0, none⟩ = some (.int .i64 op) ∧ v.cell? ⟨w.heap.size, 1, none⟩ = some (.int .i64 d) ∧ v.cell? ⟨w.heap.size, 2, none⟩ = some (.int .i64 a) ∧ v.cell? ⟨w.heap.size, 3, none⟩ = some (.int .i64 b) ∧ v.cell? ⟨w.heap.size, 4, none⟩ = some (.int .i64 m) ∧ v.cell? ⟨w.heap.size + 1, 0, none⟩ = some (.int .i64 op) ∧ v.cell? ⟨w.heap.size + 1, 1, none⟩ = some (.int .i64 d) ∧ v.cell? ⟨w.heap.size + 1, 2, none⟩ = some (.int .i64 a) ∧ v.cell? ⟨w.heap.size + 1, 3, none⟩ = some (.int .i64 b) ∧ v.cell? ⟨w.heap.size + 1, 4, none⟩ = some (.int .i64 m) ∧ Hid (OW w v op d a b m op d a b m)) (first | exact OS.drew O1.out | exact OS.call (by assumption) (by assumption))
    (first | (go_at_call 13; with_reducible refine (H1.out _ (HT.out.on (OS.below (by assumption)))).mono ?_; rintro e w2 ⟨rfl, hb2⟩))
  all_goals
    have O2 := Lib.hid (OS.end (w := w) (op := op) (d := d) (a := a) (b := b) (m := m) (op' := op) (d' := d) (a' := a) (b' := b) (m' := m) (by assumption))
    obtain ⟨⟨c0, c1, c2, c3, c4⟩, f0, f1, f2, f3, f4⟩ := O2.out.1
    obtain ⟨⟨k0, k1, k2, k3, k4⟩, l0, l1, l2, l3, l4⟩ := O2.out.2.1
    go_wp2_with (go_at_call 8; refine (awake_any _ (HT.out.on O2.out.2.2.2)).mono ?_; rintro e w5 ⟨rfl, hb⟩)
    all_goals
      first
        | (go_ret; exact ⟨rfl, (O2.out.on hb).2.2.2⟩)
set_option maxHeartbeats 3200000 in
theorem once_same (op d a b m : Int) (A : ByteArray) (w : World) (HT : Hid (Tb w)) (hA : ¬ A.toList = [])
    (H1 : Hid (∀ W, Tb W → Calls Tryd.prog 13 #[.agg #[.int .i64 op, .int .i64 d, .int .i64 a, .int .i64 b, .int .i64 m]] W fun e w' => e = .returned (.string A) ∧ Below W.heap.size W w')) :
    Calls Tryd.prog 6 #[.agg #[.int .i64 op, .int .i64 d, .int .i64 a, .int .i64 b, .int .i64 m], .agg #[.int .i64 op, .int .i64 d, .int .i64 a, .int .i64 b, .int .i64 m]] w fun e w' => e = .returned (.bool true) ∧ Below w.heap.size w w' := by
  obtain ⟨hA1, hA2⟩ := nil_facts hA
  go_enter Tryd.func6, Tryd.ntmps6
  have O1 := Lib.hid (OW.start w op d a b m op d a b m)
  go_wp2_with fail
  go_region_held3 (fun v => v.cell? ⟨w.heap.size, 0, none⟩ = some (.int .i64 op) ∧ v.cell? ⟨w.heap.size, 1, none⟩ = some (.int .i64 d) ∧ v.cell? ⟨w.heap.size, 2, none⟩ = some (.int .i64 a) ∧ v.cell? ⟨w.heap.size, 3, none⟩ = some (.int .i64 b) ∧ v.cell? ⟨w.heap.size, 4, none⟩ = some (.int .i64 m) ∧ v.cell? ⟨w.heap.size + 1, 0, none⟩ = some (.int .i64 op) ∧ v.cell? ⟨w.heap.size + 1, 1, none⟩ = some (.int .i64 d) ∧ v.cell? ⟨w.heap.size + 1, 2, none⟩ = some (.int .i64 a) ∧ v.cell? ⟨w.heap.size + 1, 3, none⟩ = some (.int .i64 b) ∧ v.cell? ⟨w.heap.size + 1, 4, none⟩ = some (.int .i64 m) ∧ Hid (OW w v op d a b m op d a b m)) (first | exact OS.drew O1.out | exact OS.call (by assumption) (by assumption))
    (first | (go_at_call 13; with_reducible refine (H1.out _ (HT.out.on (OS.below (by assumption)))).mono ?_; rintro e w2 ⟨rfl, hb2⟩))
  all_goals
    have O2 := Lib.hid (OS.end (w := w) (op := op) (d := d) (a := a) (b := b) (m := m) (op' := op) (d' := d) (a' := a) (b' := b) (m' := m) (by assumption))
    obtain ⟨⟨c0, c1, c2, c3, c4⟩, f0, f1, f2, f3, f4⟩ := O2.out.1
    obtain ⟨⟨k0, k1, k2, k3, k4⟩, l0, l1, l2, l3, l4⟩ := O2.out.2.1
    go_wp2_with (go_at_call 8; refine (awake_any _ (HT.out.on O2.out.2.2.2)).mono ?_; rintro e w5 ⟨rfl, hb⟩)
    all_goals
      first
        | (go_ret; exact ⟨rfl, (O2.out.on hb).2.2.2⟩)
theorem once_walk (op d a b m op' d' a' b' m' : Int) (w : World) (ht : Tb w) :
    Calls Tryd.prog 6 #[.agg #[.int .i64 op, .int .i64 d, .int .i64 a, .int .i64 b, .int .i64 m], .agg #[.int .i64 op', .int .i64 d', .int .i64 a', .int .i64 b', .int .i64 m']] w fun e w' => e = .returned (.bool true) ∧ Below w.heap.size w w' := by
  have H1 := Lib.hid (fun W (hW : Tb W) => print_any op d a b m W hW)
  have H2 := Lib.hid (fun W (hW : Tb W) => print_any op' d' a' b' m' W hW)
  obtain ⟨A, hA⟩ : ∃ S, (⟨(TX.pr op d a b m).toArray⟩ : ByteArray) = S := ⟨_, rfl⟩
  obtain ⟨B, hB⟩ : ∃ S, (⟨(TX.pr op' d' a' b' m').toArray⟩ : ByteArray) = S := ⟨_, rfl⟩
  have lA := list_of hA
  have lB := list_of hB
  by_cases he : op = op' ∧ d = d' ∧ a = a' ∧ b = b' ∧ m = m'
  · obtain ⟨rfl, rfl, rfl, rfl, rfl⟩ := he
    rw [hA] at H1
    by_cases hN : A.toList = []
    · exact once_same_nil op d a b m A w (Lib.hid ht) hN H1
    · exact once_same op d a b m A w (Lib.hid ht) hN H1
  · rw [hA] at H1
    rw [hB] at H2
    by_cases hAB : A.toList = B.toList
    · have hN : A.toList = [] := Decidable.byContradiction fun hN => he (TX.pr_once (by rw [← lA, ← lB, hAB]) (by rw [← lA]; exact hN))
      have : B = A := by
        rw [← hB, ← hA]
        rw [show TX.pr op' d' a' b' m' = TX.pr op d a b m by rw [← lA, ← lB, hAB]]
      rw [this] at H2
      exact once_nil op d a b m op' d' a' b' m' A w (Lib.hid ht) hN he H1 H2
    · exact once_apart op d a b m op' d' a' b' m' A B w (Lib.hid ht) hAB he H1 H2
end Go.Proofs.YtfgkcjalfhbjjaaDoor
