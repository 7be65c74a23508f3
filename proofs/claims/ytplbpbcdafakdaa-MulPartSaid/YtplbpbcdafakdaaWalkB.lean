/-
  What mul.Run and the reference's Run answer, for every multiplication; neither changes memory that was there.
-/
import Derived.Test.YtplbpbcdafakdaaWalkA
namespace Go.Proofs.Ytplbpbcdafakdaa
open Go.RowKit S01

/-- A multiplication lies in the block s. -/
def At (w : World) (s : Nat) (a b h l n : Int) : Prop :=
  (w.cell? ⟨s, 0, none⟩ = some (.int .u32 a) ∧ w.cell? ⟨s, 1, none⟩ = some (.int .u32 b) ∧ w.cell? ⟨s, 2, none⟩ = some (.int .u32 h) ∧ w.cell? ⟨s, 3, none⟩ = some (.int .u32 l) ∧ w.cell? ⟨s, 4, none⟩ = some (.int .i64 n)) ∧
  (w.frozen? ⟨s, 0, none⟩ = false ∧ w.frozen? ⟨s, 1, none⟩ = false ∧ w.frozen? ⟨s, 2, none⟩ = false ∧ w.frozen? ⟨s, 3, none⟩ = false ∧ w.frozen? ⟨s, 4, none⟩ = false)
theorem At.below {w w1 : World} {s : Nat} {a b h l n : Int} (hA : At w s a b h l n) (hs : s < w.heap.size) (hb : Below w.heap.size w w1) : At w1 s a b h l n := by
  obtain ⟨⟨c0, c1, c2, c3, c4⟩, f0, f1, f2, f3, f4⟩ := hA
  exact ⟨⟨(hb.cell hs).trans c0, (hb.cell hs).trans c1, (hb.cell hs).trans c2, (hb.cell hs).trans c3, (hb.cell hs).trans c4⟩, (hb.frozen hs).trans f0, (hb.frozen hs).trans f1, (hb.frozen hs).trans f2, (hb.frozen hs).trans f3, (hb.frozen hs).trans f4⟩
theorem At.store {w : World} {s : Nat} {a b h l n : Int} (hA : At w s a b h l n) (a' b' h' l' n' : Int) :
    At (((((w.setCell ⟨s, 0, none⟩ (.int .u32 a')).setCell ⟨s, 1, none⟩ (.int .u32 b')).setCell ⟨s, 2, none⟩ (.int .u32 h')).setCell ⟨s, 3, none⟩ (.int .u32 l')).setCell ⟨s, 4, none⟩ (.int .i64 n')) s a' b' h' l' n' := by
  obtain ⟨⟨c0, c1, c2, c3, c4⟩, f0, f1, f2, f3, f4⟩ := hA
  refine ⟨⟨?_, ?_, ?_, ?_, ?_⟩, ?_, ?_, ?_, ?_, ?_⟩ <;> simp [go_sem, c0, c1, c2, c3, c4, f0, f1, f2, f3, f4]
theorem At.new (w : World) (t : TypeId) (a b h l n : Int) : At (w.alloc (.cells #[.int .u32 a, .int .u32 b, .int .u32 h, .int .u32 l, .int .i64 n] t)) w.heap.size a b h l n := by
  refine ⟨⟨?_, ?_, ?_, ?_, ?_⟩, ?_, ?_, ?_, ?_, ?_⟩ <;> simp [go_sem]
theorem lt_new (w : World) (o : Obj) : w.heap.size < (w.alloc o).heap.size := by simp
def lft (v : Option Value) : Nat := (intOf (v.getD undef)).toNat
theorem ret_two {a b c d : Int} (h : a = c ∧ b = d) : Ending.returned (.tuple #[.int .u32 a, .int .u32 b]) = .returned (.tuple #[.int .u32 c, .int .u32 d]) := by rw [h.1, h.2]
theorem bcell {W w1 : World} (hb : Below W.heap.size W w1) : (∀ b o, b < W.heap.size → w1.cell? ⟨b, o, none⟩ = W.cell? ⟨b, o, none⟩) ∧ (∀ b o, b < W.heap.size → w1.frozen? ⟨b, o, none⟩ = W.frozen? ⟨b, o, none⟩) :=
  ⟨fun b o h => hb.cell (p := ⟨b, o, none⟩) h, fun b o h => hb.frozen (p := ⟨b, o, none⟩) h⟩
theorem five_size (w : World) (p0 p1 p2 p3 p4 : Addr) (v0 v1 v2 v3 v4 : Value) : (((((w.setCell p0 v0).setCell p1 v1).setCell p2 v2).setCell p3 v3).setCell p4 v4).heap.size = w.heap.size := by simp [World.setCell]
theorem five_below {W w : World} {s : Nat} (h : Below W.heap.size W w) (hs : W.heap.size ≤ s) (v0 v1 v2 v3 v4 : Value) : Below W.heap.size W (((((w.setCell ⟨s, 0, none⟩ v0).setCell ⟨s, 1, none⟩ v1).setCell ⟨s, 2, none⟩ v2).setCell ⟨s, 3, none⟩ v3).setCell ⟨s, 4, none⟩ v4) :=
  ((((h.setCell hs _).setCell hs _).setCell hs _).setCell hs _).setCell hs _
theorem lft_less {w1 w2 : World} {s : Nat} {a b h l m a' b' h' l' : Int} (h1 : At w1 s a b h l (m - 1)) (h2 : At w2 s a' b' h' l' m) (hm : 1 ≤ m) : lft (w1.cell? ⟨s, 4, none⟩) < lft (w2.cell? ⟨s, 4, none⟩) := by
  rw [h1.1.2.2.2.2, h2.1.2.2.2.2]
  show (m - 1).toNat < m.toNat
  omega
theorem k_next {a b h l m R L : Int} (hm : 1 ≤ m) (hK : MM.kh a m.toNat b h = R ∧ MM.kl a m.toNat b h l = L) : MM.kh a (m - 1).toNat (b / 2) (MM.sh a b h) = R ∧ MM.kl a (m - 1).toNat (b / 2) (MM.sh a b h) (MM.sl a b h l) = L := by
  rw [show m.toNat = (m - 1).toNat + 1 by omega] at hK
  exact hK
set_option maxHeartbeats 400000 in
theorem run_neg (a b h l n : Int) (w : World) (a0 : 0 ≤ a) (a1 : a < 4294967296) (b0 : 0 ≤ b) (b1 : b < 4294967296) (h0 : 0 ≤ h) (h1 : h < 4294967296) (l0 : 0 ≤ l) (l1 : l < 4294967296) (hn : n < 0) :
    Calls Try.prog 7 #[.agg #[.int .u32 a, .int .u32 b, .int .u32 h, .int .u32 l, .int .i64 n]] w fun e w' => e = .returned (.tuple #[.int .u32 (MM.kh a 0 b h), .int .u32 (MM.kl a 0 b h l)]) ∧ Below w.heap.size w w' := by
  obtain ⟨R, hR⟩ : ∃ R, MM.kh a 0 b h = R := ⟨_, rfl⟩
  obtain ⟨L, hL⟩ : ∃ L, MM.kl a 0 b h l = L := ⟨_, rfl⟩
  rw [hR, hL]
  have HR := Lib.hid (And.intro hR hL)
  clear hR hL
  go_enter Try.func7, Try.ntmps7
  go_wp2
  go_loopw [] (fun wr => ∃ (m b' h' l' : Int), m ≤ 32 ∧ 0 ≤ b' ∧ b' < 4294967296 ∧ 0 ≤ h' ∧ h' < 4294967296 ∧ 0 ≤ l' ∧ l' < 4294967296 ∧ w.heap.size < wr.heap.size ∧ Hid (At wr w.heap.size a b' h' l' m) ∧ Hid (Below w.heap.size w wr) ∧ Hid (MM.kh a m.toNat b' h' = R ∧ MM.kl a m.toNat b' h' l' = L)) (fun wr => lft (wr.cell? ⟨w.heap.size, 4, none⟩))
  case atStart => exact ⟨n, b, h, l, by omega, b0, b1, h0, h1, l0, l1, lt_new _ _, Lib.hid (At.new _ _ _ _ _ _ _), Lib.hid ((Below.refl _ _).alloc (Nat.le_refl _) _), Lib.hid (by rw [← HR.out.1, ← HR.out.2]; rw [show n.toNat = 0 by omega]; exact ⟨rfl, rfl⟩)⟩
  case round =>
    obtain ⟨m, b', h', l', m1, hb0, hb1, hh0, hh1, hl0, hl1, hs, hA, hB, hK⟩ := hrel
    obtain ⟨⟨c0, c1, c2, c3, c4⟩, f0, f1, f2, f3, f4⟩ := hA.out
    by_cases hm : 1 ≤ m
    · have Hh := Lib.hid (MM.sh_bd a b' h' a0 a1 hh0 hh1)
      have Hl := Lib.hid (MM.sl_bd a b' h' l' hl0 hl1)
      go_wp2_with ((go_at_call 11; refine (step_any _ _ _ _ _ _ (by omega) (by omega) (by omega) (by omega) (by omega) (by omega) (by omega) (by omega) (by omega) (by omega)).mono ?_; rintro e w1 ⟨rfl, hb⟩; have HB := Lib.hid hb; obtain ⟨hc, hf⟩ := bcell hb; clear hb))
      have hA1 := (hA.out.below hs HB.out).store a (b' / 2) (MM.sh a b' h') (MM.sl a b' h' l') (m - 1)
      go_roundw
      case rel => exact ⟨m - 1, b' / 2, MM.sh a b' h', MM.sl a b' h' l', by omega, by omega, by omega, Hh.out.1, Hh.out.2, Hl.out.1, Hl.out.2, by rw [five_size]; exact Nat.lt_of_lt_of_le hs HB.out.size, Lib.hid hA1, Lib.hid (five_below (hB.out.trans (HB.out.mono (Nat.le_of_lt hs))) (Nat.le_refl _) _ _ _ _ _), Lib.hid (k_next hm hK.out)⟩
      case measure => exact lft_less hA1 hA.out hm
    · go_wp2
      go_quiet (fail)
      go_wp2
      go_ret2
      exact ⟨ret_two (by have := hK.out; rw [show m.toNat = 0 by omega] at this; exact this), below_drewN hB.out _⟩
set_option maxHeartbeats 400000 in
theorem run_mid (a b h l n : Int) (w : World) (a0 : 0 ≤ a) (a1 : a < 4294967296) (b0 : 0 ≤ b) (b1 : b < 4294967296) (h0 : 0 ≤ h) (h1 : h < 4294967296) (l0 : 0 ≤ l) (l1 : l < 4294967296) (n0 : 0 ≤ n) (n1 : n ≤ 32) :
    Calls Try.prog 7 #[.agg #[.int .u32 a, .int .u32 b, .int .u32 h, .int .u32 l, .int .i64 n]] w fun e w' => e = .returned (.tuple #[.int .u32 (MM.kh a n.toNat b h), .int .u32 (MM.kl a n.toNat b h l)]) ∧ Below w.heap.size w w' := by
  obtain ⟨R, hR⟩ : ∃ R, MM.kh a n.toNat b h = R := ⟨_, rfl⟩
  obtain ⟨L, hL⟩ : ∃ L, MM.kl a n.toNat b h l = L := ⟨_, rfl⟩
  rw [hR, hL]
  have HR := Lib.hid (And.intro hR hL)
  clear hR hL
  go_enter Try.func7, Try.ntmps7
  go_wp2
  go_loopw [] (fun wr => ∃ (m b' h' l' : Int), m ≤ 32 ∧ 0 ≤ b' ∧ b' < 4294967296 ∧ 0 ≤ h' ∧ h' < 4294967296 ∧ 0 ≤ l' ∧ l' < 4294967296 ∧ w.heap.size < wr.heap.size ∧ Hid (At wr w.heap.size a b' h' l' m) ∧ Hid (Below w.heap.size w wr) ∧ Hid (MM.kh a m.toNat b' h' = R ∧ MM.kl a m.toNat b' h' l' = L)) (fun wr => lft (wr.cell? ⟨w.heap.size, 4, none⟩))
  case atStart => exact ⟨n, b, h, l, by omega, b0, b1, h0, h1, l0, l1, lt_new _ _, Lib.hid (At.new _ _ _ _ _ _ _), Lib.hid ((Below.refl _ _).alloc (Nat.le_refl _) _), Lib.hid (by rw [← HR.out.1, ← HR.out.2]; exact ⟨rfl, rfl⟩)⟩
  case round =>
    obtain ⟨m, b', h', l', m1, hb0, hb1, hh0, hh1, hl0, hl1, hs, hA, hB, hK⟩ := hrel
    obtain ⟨⟨c0, c1, c2, c3, c4⟩, f0, f1, f2, f3, f4⟩ := hA.out
    by_cases hm : 1 ≤ m
    · have Hh := Lib.hid (MM.sh_bd a b' h' a0 a1 hh0 hh1)
      have Hl := Lib.hid (MM.sl_bd a b' h' l' hl0 hl1)
      go_wp2_with ((go_at_call 11; refine (step_any _ _ _ _ _ _ (by omega) (by omega) (by omega) (by omega) (by omega) (by omega) (by omega) (by omega) (by omega) (by omega)).mono ?_; rintro e w1 ⟨rfl, hb⟩; have HB := Lib.hid hb; obtain ⟨hc, hf⟩ := bcell hb; clear hb))
      have hA1 := (hA.out.below hs HB.out).store a (b' / 2) (MM.sh a b' h') (MM.sl a b' h' l') (m - 1)
      go_roundw
      case rel => exact ⟨m - 1, b' / 2, MM.sh a b' h', MM.sl a b' h' l', by omega, by omega, by omega, Hh.out.1, Hh.out.2, Hl.out.1, Hl.out.2, by rw [five_size]; exact Nat.lt_of_lt_of_le hs HB.out.size, Lib.hid hA1, Lib.hid (five_below (hB.out.trans (HB.out.mono (Nat.le_of_lt hs))) (Nat.le_refl _) _ _ _ _ _), Lib.hid (k_next hm hK.out)⟩
      case measure => exact lft_less hA1 hA.out hm
    · go_wp2
      go_quiet (fail)
      go_wp2
      go_ret2
      exact ⟨ret_two (by have := hK.out; rw [show m.toNat = 0 by omega] at this; exact this), below_drewN hB.out _⟩
set_option maxHeartbeats 400000 in
theorem run_big (a b h l n : Int) (w : World) (a0 : 0 ≤ a) (a1 : a < 4294967296) (b0 : 0 ≤ b) (b1 : b < 4294967296) (h0 : 0 ≤ h) (h1 : h < 4294967296) (l0 : 0 ≤ l) (l1 : l < 4294967296) (n0 : 33 ≤ n) :
    Calls Try.prog 7 #[.agg #[.int .u32 a, .int .u32 b, .int .u32 h, .int .u32 l, .int .i64 n]] w fun e w' => e = .returned (.tuple #[.int .u32 (MM.kh a 32 b h), .int .u32 (MM.kl a 32 b h l)]) ∧ Below w.heap.size w w' := by
  obtain ⟨R, hR⟩ : ∃ R, MM.kh a 32 b h = R := ⟨_, rfl⟩
  obtain ⟨L, hL⟩ : ∃ L, MM.kl a 32 b h l = L := ⟨_, rfl⟩
  rw [hR, hL]
  have HR := Lib.hid (And.intro hR hL)
  clear hR hL
  go_enter Try.func7, Try.ntmps7
  go_wp2
  go_loopw [] (fun wr => ∃ (m b' h' l' : Int), m ≤ 32 ∧ 0 ≤ b' ∧ b' < 4294967296 ∧ 0 ≤ h' ∧ h' < 4294967296 ∧ 0 ≤ l' ∧ l' < 4294967296 ∧ w.heap.size < wr.heap.size ∧ Hid (At wr w.heap.size a b' h' l' m) ∧ Hid (Below w.heap.size w wr) ∧ Hid (MM.kh a m.toNat b' h' = R ∧ MM.kl a m.toNat b' h' l' = L)) (fun wr => lft (wr.cell? ⟨w.heap.size, 4, none⟩))
  case atStart => exact ⟨32, b, h, l, by omega, b0, b1, h0, h1, l0, l1, lt_new _ _, Lib.hid (At.new _ _ _ _ _ _ _), Lib.hid ((Below.refl _ _).alloc (Nat.le_refl _) _), Lib.hid (by rw [← HR.out.1, ← HR.out.2]; exact ⟨rfl, rfl⟩)⟩
  case round =>
    obtain ⟨m, b', h', l', m1, hb0, hb1, hh0, hh1, hl0, hl1, hs, hA, hB, hK⟩ := hrel
    obtain ⟨⟨c0, c1, c2, c3, c4⟩, f0, f1, f2, f3, f4⟩ := hA.out
    by_cases hm : 1 ≤ m
    · have Hh := Lib.hid (MM.sh_bd a b' h' a0 a1 hh0 hh1)
      have Hl := Lib.hid (MM.sl_bd a b' h' l' hl0 hl1)
      go_wp2_with ((go_at_call 11; refine (step_any _ _ _ _ _ _ (by omega) (by omega) (by omega) (by omega) (by omega) (by omega) (by omega) (by omega) (by omega) (by omega)).mono ?_; rintro e w1 ⟨rfl, hb⟩; have HB := Lib.hid hb; obtain ⟨hc, hf⟩ := bcell hb; clear hb))
      have hA1 := (hA.out.below hs HB.out).store a (b' / 2) (MM.sh a b' h') (MM.sl a b' h' l') (m - 1)
      go_roundw
      case rel => exact ⟨m - 1, b' / 2, MM.sh a b' h', MM.sl a b' h' l', by omega, by omega, by omega, Hh.out.1, Hh.out.2, Hl.out.1, Hl.out.2, by rw [five_size]; exact Nat.lt_of_lt_of_le hs HB.out.size, Lib.hid hA1, Lib.hid (five_below (hB.out.trans (HB.out.mono (Nat.le_of_lt hs))) (Nat.le_refl _) _ _ _ _ _), Lib.hid (k_next hm hK.out)⟩
      case measure => exact lft_less hA1 hA.out hm
    · go_wp2
      go_quiet (fail)
      go_wp2
      go_ret2
      exact ⟨ret_two (by have := hK.out; rw [show m.toNat = 0 by omega] at this; exact this), below_drewN hB.out _⟩
theorem run_any (a b h l n : Int) (w : World) (a0 : 0 ≤ a) (a1 : a < 4294967296) (b0 : 0 ≤ b) (b1 : b < 4294967296) (h0 : 0 ≤ h) (h1 : h < 4294967296) (l0 : 0 ≤ l) (l1 : l < 4294967296) :
    Calls Try.prog 7 #[.agg #[.int .u32 a, .int .u32 b, .int .u32 h, .int .u32 l, .int .i64 n]] w fun e w' => e = .returned (.tuple #[.int .u32 (MM.rh a b h n), .int .u32 (MM.rl a b h l n)]) ∧ Below w.heap.size w w' := by
  unfold MM.rh MM.rl
  by_cases hn : n < 0
  · rw [show (min n 32).toNat = 0 by omega]; exact run_neg a b h l n w a0 a1 b0 b1 h0 h1 l0 l1 hn
  · by_cases hn2 : n ≤ 32
    · rw [show (min n 32).toNat = n.toNat by omega]; exact run_mid a b h l n w a0 a1 b0 b1 h0 h1 l0 l1 (by omega) hn2
    · rw [show (min n 32).toNat = 32 by omega]; exact run_big a b h l n w a0 a1 b0 b1 h0 h1 l0 l1 (by omega)
set_option maxHeartbeats 400000 in
theorem rrun_neg (a b h l n : Int) (w : World) (a0 : 0 ≤ a) (a1 : a < 4294967296) (b0 : 0 ≤ b) (b1 : b < 4294967296) (h0 : 0 ≤ h) (h1 : h < 4294967296) (l0 : 0 ≤ l) (l1 : l < 4294967296) (hn : n < 0) :
    Calls Try.prog 9 #[.agg #[.int .u32 a, .int .u32 b, .int .u32 h, .int .u32 l, .int .i64 n]] w fun e w' => e = .returned (.tuple #[.int .u32 (MM.kh a 0 b h), .int .u32 (MM.kl a 0 b h l)]) ∧ Below w.heap.size w w' := by
  obtain ⟨R, hR⟩ : ∃ R, MM.kh a 0 b h = R := ⟨_, rfl⟩
  obtain ⟨L, hL⟩ : ∃ L, MM.kl a 0 b h l = L := ⟨_, rfl⟩
  rw [hR, hL]
  have HR := Lib.hid (And.intro hR hL)
  clear hR hL
  go_enter Try.func9, Try.ntmps9
  go_wp2
  go_loopw [] (fun wr => ∃ (m b' h' l' : Int), m ≤ 32 ∧ 0 ≤ b' ∧ b' < 4294967296 ∧ 0 ≤ h' ∧ h' < 4294967296 ∧ 0 ≤ l' ∧ l' < 4294967296 ∧ w.heap.size < wr.heap.size ∧ Hid (At wr w.heap.size a b' h' l' m) ∧ Hid (Below w.heap.size w wr) ∧ Hid (MM.kh a m.toNat b' h' = R ∧ MM.kl a m.toNat b' h' l' = L)) (fun wr => lft (wr.cell? ⟨w.heap.size, 4, none⟩))
  case atStart => exact ⟨0, b, h, l, by omega, b0, b1, h0, h1, l0, l1, lt_new _ _, Lib.hid (At.new _ _ _ _ _ _ _), Lib.hid ((Below.refl _ _).alloc (Nat.le_refl _) _), Lib.hid (by rw [← HR.out.1, ← HR.out.2]; exact ⟨rfl, rfl⟩)⟩
  case round =>
    obtain ⟨m, b', h', l', m1, hb0, hb1, hh0, hh1, hl0, hl1, hs, hA, hB, hK⟩ := hrel
    obtain ⟨⟨c0, c1, c2, c3, c4⟩, f0, f1, f2, f3, f4⟩ := hA.out
    by_cases hm : 1 ≤ m
    · have Hh := Lib.hid (MM.sh_bd a b' h' a0 a1 hh0 hh1)
      have Hl := Lib.hid (MM.sl_bd a b' h' l' hl0 hl1)
      go_wp2_with ((go_at_call 12; refine (rstep_any _ _ _ _ _ _ (by omega) (by omega) (by omega) (by omega) (by omega) (by omega) (by omega) (by omega) (by omega) (by omega)).mono ?_; rintro e w1 ⟨rfl, hb⟩; have HB := Lib.hid hb; obtain ⟨hc, hf⟩ := bcell hb; clear hb))
      have hA1 := (hA.out.below hs HB.out).store a (b' / 2) (MM.sh a b' h') (MM.sl a b' h' l') (m - 1)
      go_roundw
      case rel => exact ⟨m - 1, b' / 2, MM.sh a b' h', MM.sl a b' h' l', by omega, by omega, by omega, Hh.out.1, Hh.out.2, Hl.out.1, Hl.out.2, by rw [five_size]; exact Nat.lt_of_lt_of_le hs HB.out.size, Lib.hid hA1, Lib.hid (five_below (hB.out.trans (HB.out.mono (Nat.le_of_lt hs))) (Nat.le_refl _) _ _ _ _ _), Lib.hid (k_next hm hK.out)⟩
      case measure => exact lft_less hA1 hA.out hm
    · go_wp2
      go_quiet (fail)
      go_wp2
      go_ret2
      exact ⟨ret_two (by have := hK.out; rw [show m.toNat = 0 by omega] at this; exact this), below_drewN hB.out _⟩
set_option maxHeartbeats 400000 in
theorem rrun_mid (a b h l n : Int) (w : World) (a0 : 0 ≤ a) (a1 : a < 4294967296) (b0 : 0 ≤ b) (b1 : b < 4294967296) (h0 : 0 ≤ h) (h1 : h < 4294967296) (l0 : 0 ≤ l) (l1 : l < 4294967296) (n0 : 0 ≤ n) (n1 : n ≤ 32) :
    Calls Try.prog 9 #[.agg #[.int .u32 a, .int .u32 b, .int .u32 h, .int .u32 l, .int .i64 n]] w fun e w' => e = .returned (.tuple #[.int .u32 (MM.kh a n.toNat b h), .int .u32 (MM.kl a n.toNat b h l)]) ∧ Below w.heap.size w w' := by
  obtain ⟨R, hR⟩ : ∃ R, MM.kh a n.toNat b h = R := ⟨_, rfl⟩
  obtain ⟨L, hL⟩ : ∃ L, MM.kl a n.toNat b h l = L := ⟨_, rfl⟩
  rw [hR, hL]
  have HR := Lib.hid (And.intro hR hL)
  clear hR hL
  go_enter Try.func9, Try.ntmps9
  go_wp2
  go_loopw [] (fun wr => ∃ (m b' h' l' : Int), m ≤ 32 ∧ 0 ≤ b' ∧ b' < 4294967296 ∧ 0 ≤ h' ∧ h' < 4294967296 ∧ 0 ≤ l' ∧ l' < 4294967296 ∧ w.heap.size < wr.heap.size ∧ Hid (At wr w.heap.size a b' h' l' m) ∧ Hid (Below w.heap.size w wr) ∧ Hid (MM.kh a m.toNat b' h' = R ∧ MM.kl a m.toNat b' h' l' = L)) (fun wr => lft (wr.cell? ⟨w.heap.size, 4, none⟩))
  case atStart => exact ⟨n, b, h, l, by omega, b0, b1, h0, h1, l0, l1, lt_new _ _, Lib.hid (At.new _ _ _ _ _ _ _), Lib.hid ((Below.refl _ _).alloc (Nat.le_refl _) _), Lib.hid (by rw [← HR.out.1, ← HR.out.2]; exact ⟨rfl, rfl⟩)⟩
  case round =>
    obtain ⟨m, b', h', l', m1, hb0, hb1, hh0, hh1, hl0, hl1, hs, hA, hB, hK⟩ := hrel
    obtain ⟨⟨c0, c1, c2, c3, c4⟩, f0, f1, f2, f3, f4⟩ := hA.out
    by_cases hm : 1 ≤ m
    · have Hh := Lib.hid (MM.sh_bd a b' h' a0 a1 hh0 hh1)
      have Hl := Lib.hid (MM.sl_bd a b' h' l' hl0 hl1)
      go_wp2_with ((go_at_call 12; refine (rstep_any _ _ _ _ _ _ (by omega) (by omega) (by omega) (by omega) (by omega) (by omega) (by omega) (by omega) (by omega) (by omega)).mono ?_; rintro e w1 ⟨rfl, hb⟩; have HB := Lib.hid hb; obtain ⟨hc, hf⟩ := bcell hb; clear hb))
      have hA1 := (hA.out.below hs HB.out).store a (b' / 2) (MM.sh a b' h') (MM.sl a b' h' l') (m - 1)
      go_roundw
      case rel => exact ⟨m - 1, b' / 2, MM.sh a b' h', MM.sl a b' h' l', by omega, by omega, by omega, Hh.out.1, Hh.out.2, Hl.out.1, Hl.out.2, by rw [five_size]; exact Nat.lt_of_lt_of_le hs HB.out.size, Lib.hid hA1, Lib.hid (five_below (hB.out.trans (HB.out.mono (Nat.le_of_lt hs))) (Nat.le_refl _) _ _ _ _ _), Lib.hid (k_next hm hK.out)⟩
      case measure => exact lft_less hA1 hA.out hm
    · go_wp2
      go_quiet (fail)
      go_wp2
      go_ret2
      exact ⟨ret_two (by have := hK.out; rw [show m.toNat = 0 by omega] at this; exact this), below_drewN hB.out _⟩
set_option maxHeartbeats 400000 in
theorem rrun_big (a b h l n : Int) (w : World) (a0 : 0 ≤ a) (a1 : a < 4294967296) (b0 : 0 ≤ b) (b1 : b < 4294967296) (h0 : 0 ≤ h) (h1 : h < 4294967296) (l0 : 0 ≤ l) (l1 : l < 4294967296) (n0 : 33 ≤ n) :
    Calls Try.prog 9 #[.agg #[.int .u32 a, .int .u32 b, .int .u32 h, .int .u32 l, .int .i64 n]] w fun e w' => e = .returned (.tuple #[.int .u32 (MM.kh a 32 b h), .int .u32 (MM.kl a 32 b h l)]) ∧ Below w.heap.size w w' := by
  obtain ⟨R, hR⟩ : ∃ R, MM.kh a 32 b h = R := ⟨_, rfl⟩
  obtain ⟨L, hL⟩ : ∃ L, MM.kl a 32 b h l = L := ⟨_, rfl⟩
  rw [hR, hL]
  have HR := Lib.hid (And.intro hR hL)
  clear hR hL
  have hd0 : decide (n < 0) = false := by simp; omega
  have hd1 : decide (32 < n) = true := by simp; omega
  go_enter Try.func9, Try.ntmps9
  go_wp2
  go_loopw [] (fun wr => ∃ (m b' h' l' : Int), m ≤ 32 ∧ 0 ≤ b' ∧ b' < 4294967296 ∧ 0 ≤ h' ∧ h' < 4294967296 ∧ 0 ≤ l' ∧ l' < 4294967296 ∧ w.heap.size < wr.heap.size ∧ Hid (At wr w.heap.size a b' h' l' m) ∧ Hid (Below w.heap.size w wr) ∧ Hid (MM.kh a m.toNat b' h' = R ∧ MM.kl a m.toNat b' h' l' = L)) (fun wr => lft (wr.cell? ⟨w.heap.size, 4, none⟩))
  case atStart => exact ⟨32, b, h, l, by omega, b0, b1, h0, h1, l0, l1, lt_new _ _, Lib.hid (At.new _ _ _ _ _ _ _), Lib.hid ((Below.refl _ _).alloc (Nat.le_refl _) _), Lib.hid (by rw [← HR.out.1, ← HR.out.2]; exact ⟨rfl, rfl⟩)⟩
  case round =>
    obtain ⟨m, b', h', l', m1, hb0, hb1, hh0, hh1, hl0, hl1, hs, hA, hB, hK⟩ := hrel
    obtain ⟨⟨c0, c1, c2, c3, c4⟩, f0, f1, f2, f3, f4⟩ := hA.out
    by_cases hm : 1 ≤ m
    · have Hh := Lib.hid (MM.sh_bd a b' h' a0 a1 hh0 hh1)
      have Hl := Lib.hid (MM.sl_bd a b' h' l' hl0 hl1)
      go_wp2_with ((go_at_call 12; refine (rstep_any _ _ _ _ _ _ (by omega) (by omega) (by omega) (by omega) (by omega) (by omega) (by omega) (by omega) (by omega) (by omega)).mono ?_; rintro e w1 ⟨rfl, hb⟩; have HB := Lib.hid hb; obtain ⟨hc, hf⟩ := bcell hb; clear hb))
      have hA1 := (hA.out.below hs HB.out).store a (b' / 2) (MM.sh a b' h') (MM.sl a b' h' l') (m - 1)
      go_roundw
      case rel => exact ⟨m - 1, b' / 2, MM.sh a b' h', MM.sl a b' h' l', by omega, by omega, by omega, Hh.out.1, Hh.out.2, Hl.out.1, Hl.out.2, by rw [five_size]; exact Nat.lt_of_lt_of_le hs HB.out.size, Lib.hid hA1, Lib.hid (five_below (hB.out.trans (HB.out.mono (Nat.le_of_lt hs))) (Nat.le_refl _) _ _ _ _ _), Lib.hid (k_next hm hK.out)⟩
      case measure => exact lft_less hA1 hA.out hm
    · go_wp2
      go_quiet (fail)
      go_wp2
      go_ret2
      exact ⟨ret_two (by have := hK.out; rw [show m.toNat = 0 by omega] at this; exact this), below_drewN hB.out _⟩
theorem rrun_any (a b h l n : Int) (w : World) (a0 : 0 ≤ a) (a1 : a < 4294967296) (b0 : 0 ≤ b) (b1 : b < 4294967296) (h0 : 0 ≤ h) (h1 : h < 4294967296) (l0 : 0 ≤ l) (l1 : l < 4294967296) :
    Calls Try.prog 9 #[.agg #[.int .u32 a, .int .u32 b, .int .u32 h, .int .u32 l, .int .i64 n]] w fun e w' => e = .returned (.tuple #[.int .u32 (MM.rh a b h n), .int .u32 (MM.rl a b h l n)]) ∧ Below w.heap.size w w' := by
  unfold MM.rh MM.rl
  by_cases hn : n < 0
  · rw [show (min n 32).toNat = 0 by omega]; exact rrun_neg a b h l n w a0 a1 b0 b1 h0 h1 l0 l1 hn
  · by_cases hn2 : n ≤ 32
    · rw [show (min n 32).toNat = n.toNat by omega]; exact rrun_mid a b h l n w a0 a1 b0 b1 h0 h1 l0 l1 (by omega) hn2
    · rw [show (min n 32).toNat = 32 by omega]; exact rrun_big a b h l n w a0 a1 b0 b1 h0 h1 l0 l1 (by omega)
end Go.Proofs.Ytplbpbcdafakdaa
