/-
  What a step answers, of package div and of the reference, for every division; neither changes memory that was there.
-/
import Derived.Test.YtfobopchfiehgaaWalkA
import Derived.Laws.BitsLemmas
namespace Go.Proofs.Ytfobopchfiehgaa
open Go.RowKit
theorem and_one (x : Int) (h0 : 0 ≤ x) (h1 : x < 4294967296) : bits .and .u32 x 1 = x % 2 :=
  bits_mask .u32 32 (by decide) (fun n h₀ h₁ => by rw [IntKind.wrap_u32]; omega) 1 (by decide) x h0 h1
theorem or_bit (l t : Int) (h0 : 0 ≤ l) (h1 : l < 4294967296) (t0 : 0 ≤ t) (t1 : t < 2) : bits .or .u64 (l * 2) t = l * 2 + t :=
  bits_join .u64 64 (by decide) (fun n h₀ h₁ => by rw [IntKind.wrap_u64]; omega) 1 (l * 2) t (by omega) (by omega) (by omega) t0 (by omega) (by omega)
theorem or_one (h : Int) : bits .or .u32 (h * 2 % 4294967296) 1 = h * 2 % 4294967296 + 1 :=
  bits_join .u32 32 (by decide) (fun n h₀ h₁ => by rw [IntKind.wrap_u32]; omega) 1 (h * 2 % 4294967296) 1 (by omega) (by omega) (by omega) (by decide) (by decide) (by decide)
/-- A division lies in the block s. -/
def At (w : World) (s : Nat) (a b h l n : Int) : Prop :=
  (w.cell? ⟨s, 0, none⟩ = some (.int .u32 a) ∧ w.cell? ⟨s, 1, none⟩ = some (.int .u32 b) ∧ w.cell? ⟨s, 2, none⟩ = some (.int .u32 h) ∧ w.cell? ⟨s, 3, none⟩ = some (.int .u32 l) ∧ w.cell? ⟨s, 4, none⟩ = some (.int .i64 n)) ∧
  (w.frozen? ⟨s, 0, none⟩ = false ∧ w.frozen? ⟨s, 1, none⟩ = false ∧ w.frozen? ⟨s, 2, none⟩ = false ∧ w.frozen? ⟨s, 3, none⟩ = false ∧ w.frozen? ⟨s, 4, none⟩ = false)
theorem At.below {w w1 : World} {s : Nat} {a b h l n : Int} (hA : At w s a b h l n) (hs : s < w.heap.size) (hb : Below w.heap.size w w1) : At w1 s a b h l n := by
  obtain ⟨⟨c0, c1, c2, c3, c4⟩, f0, f1, f2, f3, f4⟩ := hA
  exact ⟨⟨(hb.cell hs).trans c0, (hb.cell hs).trans c1, (hb.cell hs).trans c2, (hb.cell hs).trans c3, (hb.cell hs).trans c4⟩, (hb.frozen hs).trans f0, (hb.frozen hs).trans f1, (hb.frozen hs).trans f2, (hb.frozen hs).trans f3, (hb.frozen hs).trans f4⟩
theorem At.store {w : World} {s : Nat} {a b h l n : Int} (hA : At w s a b h l n) (a' b' h' l' n' : Int) :
    At (((((w.setCell ⟨s, 0, none⟩ (.int .u32 a')).setCell ⟨s, 1, none⟩ (.int .u32 b')).setCell ⟨s, 2, none⟩ (.int .u32 h')).setCell ⟨s, 3, none⟩ (.int .u32 l')).setCell ⟨s, 4, none⟩ (.int .i64 n')) s a' b' h' l' n' := by
  obtain ⟨⟨c0, c1, c2, c3, c4⟩, f0, f1, f2, f3, f4⟩ := hA
  refine ⟨⟨?_, ?_, ?_, ?_, ?_⟩, ?_, ?_, ?_, ?_, ?_⟩ <;> simp [go_sem, c0, c1, c2, c3, c4, f0, f1, f2, f3, f4]
theorem At.new (w : World) (t : TypeId) (a b h l n : Int) : At (w.alloc (.cells #[.int .u32 a, .int .u32 b, .int .u32 h, .int .u32 l, .int .i64 n] t)) w.heap.size a b h l n := by
  refine ⟨⟨?_, ?_, ?_, ?_, ?_⟩, ?_, ?_, ?_, ?_, ?_⟩ <;> simp [go_sem]
theorem lt_new (w : World) (o : Obj) : w.heap.size < (w.alloc o).heap.size := by simp
def lft (v : Option Value) : Nat := (intOf (v.getD undef)).toNat
theorem ret_two {a b c d : Int} (h : a = c ∧ b = d) : Ending.returned (.tuple #[.int .u32 a, .int .u32 b]) = .returned (.tuple #[.int .u32 c, .int .u32 d]) := by rw [h.1, h.2]
theorem bcell {W w1 : World} (hb : Below W.heap.size W w1) : (∀ b o, b < W.heap.size → w1.cell? ⟨b, o, none⟩ = W.cell? ⟨b, o, none⟩) ∧ (∀ b o, b < W.heap.size → w1.frozen? ⟨b, o, none⟩ = W.frozen? ⟨b, o, none⟩) :=
  ⟨fun b o h => hb.cell (p := ⟨b, o, none⟩) h, fun b o h => hb.frozen (p := ⟨b, o, none⟩) h⟩
theorem five_size (w : World) (p0 p1 p2 p3 p4 : Addr) (v0 v1 v2 v3 v4 : Value) : (((((w.setCell p0 v0).setCell p1 v1).setCell p2 v2).setCell p3 v3).setCell p4 v4).heap.size = w.heap.size := by simp [World.setCell]
theorem five_below {W w : World} {s : Nat} (h : Below W.heap.size W w) (hs : W.heap.size ≤ s) (v0 v1 v2 v3 v4 : Value) : Below W.heap.size W (((((w.setCell ⟨s, 0, none⟩ v0).setCell ⟨s, 1, none⟩ v1).setCell ⟨s, 2, none⟩ v2).setCell ⟨s, 3, none⟩ v3).setCell ⟨s, 4, none⟩ v4) :=
  ((((h.setCell hs _).setCell hs _).setCell hs _).setCell hs _).setCell hs _
theorem lft_less {w1 w2 : World} {s : Nat} {a b h l m a' b' h' l' : Int} (h1 : At w1 s a b h l (m - 1)) (h2 : At w2 s a' b' h' l' m) (hm : 1 ≤ m) : lft (w1.cell? ⟨s, 4, none⟩) < lft (w2.cell? ⟨s, 4, none⟩) := by
  rw [h1.1.2.2.2.2, h2.1.2.2.2.2]
  show (m - 1).toNat < m.toNat
  omega
theorem At.more {w : World} {s : Nat} {a b h l n : Int} (hA : At w s a b h l n) (hs : s < w.heap.size) (o : Obj) : At (w.alloc o) s a b h l n := hA.below hs ((Below.refl _ _).alloc (Nat.le_refl _) _)
theorem At.drewN {w : World} {s : Nat} {a b h l n : Int} (hA : At w s a b h l n) (hs : s < w.heap.size) (q : Nat) : At (w.drewN q) s a b h l n := hA.below hs (below_drewN (Below.refl _ _) q)
theorem two_blocks (w : World) (t : TypeId) (a b h l k : Int) (o : Obj) (q : Nat) :
    At ((((w.alloc (.cells #[.int .u32 a, .int .u32 b, .int .u32 h, .int .u32 l, .int .i64 k] t)).alloc (.cells #[.int .u32 0, .int .u32 0, .int .u32 0, .int .u32 0, .int .i64 0] t)).alloc o).drewN q) w.heap.size a b h l k ∧
    At ((((w.alloc (.cells #[.int .u32 a, .int .u32 b, .int .u32 h, .int .u32 l, .int .i64 k] t)).alloc (.cells #[.int .u32 0, .int .u32 0, .int .u32 0, .int .u32 0, .int .i64 0] t)).alloc o).drewN q) (w.heap.size + 1) 0 0 0 0 0 ∧
    Below w.heap.size w ((((w.alloc (.cells #[.int .u32 a, .int .u32 b, .int .u32 h, .int .u32 l, .int .i64 k] t)).alloc (.cells #[.int .u32 0, .int .u32 0, .int .u32 0, .int .u32 0, .int .i64 0] t)).alloc o).drewN q) := by
  refine ⟨(((At.new w t a b h l k).more (by simp) _).more (by simp; omega) o).drewN (by simp; omega) q, ?_, below_drewN ((((Below.refl _ _).alloc (Nat.le_refl _) _).alloc (by simp) _).alloc (by simp; omega) _) q⟩
  have h2 := At.new (w.alloc (.cells #[.int .u32 a, .int .u32 b, .int .u32 h, .int .u32 l, .int .i64 k] t)) t 0 0 0 0 0
  rw [show (w.alloc (.cells #[.int .u32 a, .int .u32 b, .int .u32 h, .int .u32 l, .int .i64 k] t)).heap.size = w.heap.size + 1 by simp] at h2
  exact (h2.more (by simp) o).drewN (by simp) q
set_option maxHeartbeats 400000 in
theorem step_end (a b h l n : Int) (w : World) (hn : DM.lf n = 0) :
    Calls Try.prog 9 #[.agg #[.int .u32 a, .int .u32 b, .int .u32 h, .int .u32 l, .int .i64 n]] w fun e w' => e = .returned (.agg #[.int .u32 a, .int .u32 b, .int .u32 h, .int .u32 l, .int .i64 0]) ∧ Below w.heap.size w w' := by
  have HR := Lib.hid (fun W => remaining_at a b h l n W)
  rw [hn] at HR
  clear hn
  go_enter Try.func9, Try.ntmps9
  go_wp2_with (first | (go_at_call 19; (with_reducible refine (HR.out _).mono ?_); rintro e w1 ⟨rfl, rfl⟩))
  exact bodyPost_ret (v := .agg #[.int .u32 a, .int .u32 b, .int .u32 h, .int .u32 l, .int .i64 0]) (by simp [results, Try.results9, go_sem]) rfl ⟨rfl, (((Below.refl _ _).alloc (Nat.le_refl _) _).alloc (by simp) _).alloc (by simp; omega) _⟩
/-- In a region that draws: a callee that leaves the world. -/
theorem q_same {P : Program} {f : FuncId} {args : Array Value} {v : Value} (h : ∀ W, Calls P f args W fun e w' => e = .returned v ∧ W = w') {w : World} {n : Nat} :
    Calls P f args (w.drewN n) fun e w'' => e = .returned v ∧ ∃ m, w'' = w.drewN m :=
  (h _).mono fun _ _ ⟨he, hw⟩ => ⟨he, n, hw.symm⟩
theorem two_new (w : World) (t : TypeId) (a b h l k : Int) (q : Nat) :
    At (((w.alloc (.cells #[.int .u32 a, .int .u32 b, .int .u32 h, .int .u32 l, .int .i64 k] t)).alloc (.cells #[.int .u32 0, .int .u32 0, .int .u32 0, .int .u32 0, .int .i64 0] t)).drewN q) w.heap.size a b h l k ∧
    At (((w.alloc (.cells #[.int .u32 a, .int .u32 b, .int .u32 h, .int .u32 l, .int .i64 k] t)).alloc (.cells #[.int .u32 0, .int .u32 0, .int .u32 0, .int .u32 0, .int .i64 0] t)).drewN q) (w.heap.size + 1) 0 0 0 0 0 ∧
    Below w.heap.size w (((w.alloc (.cells #[.int .u32 a, .int .u32 b, .int .u32 h, .int .u32 l, .int .i64 k] t)).alloc (.cells #[.int .u32 0, .int .u32 0, .int .u32 0, .int .u32 0, .int .i64 0] t)).drewN q) := by
  refine ⟨((At.new w t a b h l k).more (by simp) _).drewN (by simp; omega) q, ?_, below_drewN (((Below.refl _ _).alloc (Nat.le_refl _) _).alloc (by simp) _) q⟩
  have h2 := At.new (w.alloc (.cells #[.int .u32 a, .int .u32 b, .int .u32 h, .int .u32 l, .int .i64 k] t)) t 0 0 0 0 0
  rw [show (w.alloc (.cells #[.int .u32 a, .int .u32 b, .int .u32 h, .int .u32 l, .int .i64 k] t)).heap.size = w.heap.size + 1 by simp] at h2
  exact h2.drewN (by simp) q
set_option maxHeartbeats 400000 in
theorem step_lo (a b h l n : Int) (k : Nat) (w : World) (a0 : 0 ≤ a) (a1 : a < 4294967296) (b0 : 0 ≤ b) (b1 : b < 4294967296) (h0 : 0 ≤ h) (h1 : h < 4294967296) (l0 : 0 ≤ l) (l1 : l < 4294967296) (hn : DM.lf n = (k : Int) + 1) (hk : (k : Int) ≤ 31) (hx : ¬ b ≤ DM.xx a l k) :
    Calls Try.prog 9 #[.agg #[.int .u32 a, .int .u32 b, .int .u32 h, .int .u32 l, .int .i64 n]] w fun e w' => e = .returned (.agg #[.int .u32 a, .int .u32 b, .int .u32 (DM.sq a b h l k), .int .u32 (DM.sr a b l k), .int .i64 k]) ∧ Below w.heap.size w w' := by
  have HR := Lib.hid (fun W => remaining_at a b h l n W)
  rw [hn] at HR
  obtain ⟨u0, u1⟩ := DM.up_bd a a0 a1 k
  obtain ⟨t0, t1⟩ := DM.bt_bd a k
  have e1 : bits .and .u32 (a / 2 ^ k) 1 = DM.bt a k := and_one _ u0 u1
  obtain ⟨t, ht⟩ : ∃ t, DM.bt a k = t := ⟨_, rfl⟩
  have hX : DM.xx a l k = l * 2 + t := by unfold DM.xx; rw [ht]; omega
  have HS := Lib.hid (show DM.sq a b h l k = h * 2 % 4294967296 by unfold DM.sq; rw [if_neg hx]; omega)
  have HT := Lib.hid (show DM.sr a b l k = l * 2 + t by unfold DM.sr; rw [if_neg hx, hX]; omega)
  rw [ht] at e1 t0 t1
  rw [hX] at hx
  have e2 : bits .or .u64 (l * 2) t = l * 2 + t := or_bit l t l0 l1 t0 t1
  clear hn ht hX u0 u1
  go_enter Try.func9, Try.ntmps9
  go_wp2_with (first | (go_at_call 19; (with_reducible refine (HR.out _).mono ?_); rintro e w1 ⟨rfl, rfl⟩))
  go_quiet (fail)
  generalize hW : World.drewN _ _ = W
  obtain ⟨hA, hZ, hB⟩ : At W w.heap.size a b h l k ∧ At W (w.heap.size + 1) 0 0 0 0 0 ∧ Below w.heap.size w W := by rw [← hW]; exact two_blocks w 26 a b h l k _ _
  have HB := Lib.hid hB
  clear hW hB
  obtain ⟨⟨c0, c1, c2, c3, c4⟩, f0, f1, f2, f3, f4⟩ := hA
  obtain ⟨⟨d0, d1, d2, d3, d4⟩, g0, g1, g2, g3, g4⟩ := hZ
  go_wp2
  refine bodyPost_ret (v := .agg #[.int .u32 a, .int .u32 b, .int .u32 (h * 2 % 4294967296), .int .u32 (l * 2 + t), .int .i64 k]) (by simp [results, Try.results9, go_sem, d0, d1, d2, d3, d4]) rfl ⟨by rw [HS.out, HT.out], ?_⟩
  exact (((((((HB.out.setCell (by simp) _).setCell (by simp) _).setCell (by simp) _).setCell (by simp) _).setCell (by simp) _).setCell (by simp) _).setCell (by simp) _)
set_option maxHeartbeats 400000 in
theorem step_hi (a b h l n : Int) (k : Nat) (w : World) (a0 : 0 ≤ a) (a1 : a < 4294967296) (b0 : 0 ≤ b) (b1 : b < 4294967296) (h0 : 0 ≤ h) (h1 : h < 4294967296) (l0 : 0 ≤ l) (l1 : l < 4294967296) (hn : DM.lf n = (k : Int) + 1) (hk : (k : Int) ≤ 31) (hx : b ≤ DM.xx a l k) :
    Calls Try.prog 9 #[.agg #[.int .u32 a, .int .u32 b, .int .u32 h, .int .u32 l, .int .i64 n]] w fun e w' => e = .returned (.agg #[.int .u32 a, .int .u32 b, .int .u32 (DM.sq a b h l k), .int .u32 (DM.sr a b l k), .int .i64 k]) ∧ Below w.heap.size w w' := by
  have HR := Lib.hid (fun W => remaining_at a b h l n W)
  rw [hn] at HR
  obtain ⟨u0, u1⟩ := DM.up_bd a a0 a1 k
  obtain ⟨t0, t1⟩ := DM.bt_bd a k
  have e1 : bits .and .u32 (a / 2 ^ k) 1 = DM.bt a k := and_one _ u0 u1
  obtain ⟨t, ht⟩ : ∃ t, DM.bt a k = t := ⟨_, rfl⟩
  have hX : DM.xx a l k = l * 2 + t := by unfold DM.xx; rw [ht]; omega
  have HS := Lib.hid (show DM.sq a b h l k = h * 2 % 4294967296 + 1 by unfold DM.sq; rw [if_pos hx]; omega)
  have HT := Lib.hid (show DM.sr a b l k = (l * 2 + t - b) % 4294967296 by unfold DM.sr; rw [if_pos hx, hX])
  rw [ht] at e1 t0 t1
  rw [hX] at hx
  have e2 : bits .or .u64 (l * 2) t = l * 2 + t := or_bit l t l0 l1 t0 t1
  have e3 : bits .or .u32 (h * 2 % 4294967296) 1 = h * 2 % 4294967296 + 1 := or_one h
  clear hn ht hX u0 u1
  go_enter Try.func9, Try.ntmps9
  go_wp2_with (first | (go_at_call 19; (with_reducible refine (HR.out _).mono ?_); rintro e w1 ⟨rfl, rfl⟩))
  go_quiet (fail)
  generalize hW : World.drewN _ _ = W
  obtain ⟨hA, hZ, hB⟩ : At W w.heap.size a b h l k ∧ At W (w.heap.size + 1) 0 0 0 0 0 ∧ Below w.heap.size w W := by rw [← hW]; exact two_blocks w 26 a b h l k _ _
  have HB := Lib.hid hB
  clear hW hB
  obtain ⟨⟨c0, c1, c2, c3, c4⟩, f0, f1, f2, f3, f4⟩ := hA
  obtain ⟨⟨d0, d1, d2, d3, d4⟩, g0, g1, g2, g3, g4⟩ := hZ
  go_wp2
  refine bodyPost_ret (v := .agg #[.int .u32 a, .int .u32 b, .int .u32 (h * 2 % 4294967296 + 1), .int .u32 ((l * 2 + t - b) % 4294967296), .int .i64 k]) (by simp [results, Try.results9, go_sem, d0, d1, d2, d3, d4]) rfl ⟨by rw [HS.out, HT.out], ?_⟩
  exact ((((((((HB.out.setCell (by simp) _).setCell (by simp) _).setCell (by simp) _).setCell (by simp) _).setCell (by simp) _).setCell (by simp) _).setCell (by simp) _).setCell (by simp) _)
set_option maxHeartbeats 400000 in
theorem rstep_end (a b h l n : Int) (w : World) (hn : DM.lf n = 0) :
    Calls Try.prog 11 #[.agg #[.int .u32 a, .int .u32 b, .int .u32 h, .int .u32 l, .int .i64 n]] w fun e w' => e = .returned (.agg #[.int .u32 a, .int .u32 b, .int .u32 h, .int .u32 l, .int .i64 0]) ∧ Below w.heap.size w w' := by
  have HR := Lib.hid (fun W => left_any n W)
  rw [hn] at HR
  clear hn
  go_enter Try.func11, Try.ntmps11
  go_wp2_with (first | (go_at_call 20; (with_reducible refine (HR.out _).mono ?_); rintro e w1 ⟨rfl, rfl⟩))
  exact bodyPost_ret (v := .agg #[.int .u32 a, .int .u32 b, .int .u32 h, .int .u32 l, .int .i64 0]) (by simp [results, Try.results11, go_sem]) rfl ⟨rfl, ((Below.refl _ _).alloc (Nat.le_refl _) _).alloc (by simp) _⟩
set_option maxHeartbeats 400000 in
theorem rstep_lo (a b h l n : Int) (k : Nat) (w : World) (a0 : 0 ≤ a) (a1 : a < 4294967296) (b0 : 0 ≤ b) (b1 : b < 4294967296) (h0 : 0 ≤ h) (h1 : h < 4294967296) (l0 : 0 ≤ l) (l1 : l < 4294967296) (hn : DM.lf n = (k : Int) + 1) (hk : (k : Int) ≤ 31) (hx : ¬ b ≤ DM.xx a l k) :
    Calls Try.prog 11 #[.agg #[.int .u32 a, .int .u32 b, .int .u32 h, .int .u32 l, .int .i64 n]] w fun e w' => e = .returned (.agg #[.int .u32 a, .int .u32 b, .int .u32 (DM.sq a b h l k), .int .u32 (DM.sr a b l k), .int .i64 k]) ∧ Below w.heap.size w w' := by
  have HR := Lib.hid (fun W => left_any n W)
  have HBT := Lib.hid (fun W => bit_any a k W a0 a1 hk)
  rw [hn] at HR
  obtain ⟨u0, u1⟩ := DM.up_bd a a0 a1 k
  obtain ⟨t0, t1⟩ := DM.bt_bd a k
  obtain ⟨t, ht⟩ : ∃ t, DM.bt a k = t := ⟨_, rfl⟩
  have hX : DM.xx a l k = l * 2 + t := by unfold DM.xx; rw [ht]; omega
  have HS := Lib.hid (show DM.sq a b h l k = 2 * h % 4294967296 by unfold DM.sq; rw [if_neg hx])
  have HT := Lib.hid (show DM.sr a b l k = 2 * l + t by unfold DM.sr; rw [if_neg hx, hX]; omega)
  rw [ht] at HBT t0 t1
  rw [hX, Int.mul_comm l 2] at hx
  clear hn ht hX u0 u1
  go_enter Try.func11, Try.ntmps11
  go_wp2_with (first | (go_at_call 20; (with_reducible refine (HR.out _).mono ?_); rintro e w1 ⟨rfl, rfl⟩))
  go_quiet ((go_at_call 21; exact q_same HBT.out))
  generalize hW : World.drewN _ _ = W
  obtain ⟨hA, hZ, hB⟩ : At W w.heap.size a b h l k ∧ At W (w.heap.size + 1) 0 0 0 0 0 ∧ Below w.heap.size w W := by rw [← hW]; exact two_new w 24 a b h l k _
  have HB := Lib.hid hB
  clear hW hB
  obtain ⟨⟨c0, c1, c2, c3, c4⟩, f0, f1, f2, f3, f4⟩ := hA
  obtain ⟨⟨d0, d1, d2, d3, d4⟩, g0, g1, g2, g3, g4⟩ := hZ
  go_wp2
  refine bodyPost_ret (v := .agg #[.int .u32 a, .int .u32 b, .int .u32 (2 * h % 4294967296), .int .u32 (2 * l + t), .int .i64 k]) (by simp [results, Try.results11, go_sem, d0, d1, d2, d3, d4]) rfl ⟨by rw [HS.out, HT.out], ?_⟩
  exact (((((((HB.out.setCell (by simp) _).setCell (by simp) _).setCell (by simp) _).setCell (by simp) _).setCell (by simp) _).setCell (by simp) _).setCell (by simp) _)
set_option maxHeartbeats 400000 in
theorem rstep_hi (a b h l n : Int) (k : Nat) (w : World) (a0 : 0 ≤ a) (a1 : a < 4294967296) (b0 : 0 ≤ b) (b1 : b < 4294967296) (h0 : 0 ≤ h) (h1 : h < 4294967296) (l0 : 0 ≤ l) (l1 : l < 4294967296) (hn : DM.lf n = (k : Int) + 1) (hk : (k : Int) ≤ 31) (hx : b ≤ DM.xx a l k) :
    Calls Try.prog 11 #[.agg #[.int .u32 a, .int .u32 b, .int .u32 h, .int .u32 l, .int .i64 n]] w fun e w' => e = .returned (.agg #[.int .u32 a, .int .u32 b, .int .u32 (DM.sq a b h l k), .int .u32 (DM.sr a b l k), .int .i64 k]) ∧ Below w.heap.size w w' := by
  have HR := Lib.hid (fun W => left_any n W)
  have HBT := Lib.hid (fun W => bit_any a k W a0 a1 hk)
  rw [hn] at HR
  obtain ⟨u0, u1⟩ := DM.up_bd a a0 a1 k
  obtain ⟨t0, t1⟩ := DM.bt_bd a k
  obtain ⟨t, ht⟩ : ∃ t, DM.bt a k = t := ⟨_, rfl⟩
  have hX : DM.xx a l k = l * 2 + t := by unfold DM.xx; rw [ht]; omega
  have HS := Lib.hid (show DM.sq a b h l k = (2 * h + 1) % 4294967296 by unfold DM.sq; rw [if_pos hx]; omega)
  have HT := Lib.hid (show DM.sr a b l k = (2 * l + t - b) % 4294967296 by unfold DM.sr; rw [if_pos hx, hX]; omega)
  rw [ht] at HBT t0 t1
  rw [hX, Int.mul_comm l 2] at hx
  clear hn ht hX u0 u1
  go_enter Try.func11, Try.ntmps11
  go_wp2_with (first | (go_at_call 20; (with_reducible refine (HR.out _).mono ?_); rintro e w1 ⟨rfl, rfl⟩))
  go_quiet ((go_at_call 21; exact q_same HBT.out))
  generalize hW : World.drewN _ _ = W
  obtain ⟨hA, hZ, hB⟩ : At W w.heap.size a b h l k ∧ At W (w.heap.size + 1) 0 0 0 0 0 ∧ Below w.heap.size w W := by rw [← hW]; exact two_new w 24 a b h l k _
  have HB := Lib.hid hB
  clear hW hB
  obtain ⟨⟨c0, c1, c2, c3, c4⟩, f0, f1, f2, f3, f4⟩ := hA
  obtain ⟨⟨d0, d1, d2, d3, d4⟩, g0, g1, g2, g3, g4⟩ := hZ
  go_wp2
  refine bodyPost_ret (v := .agg #[.int .u32 a, .int .u32 b, .int .u32 ((2 * h + 1) % 4294967296), .int .u32 ((2 * l + t - b) % 4294967296), .int .i64 k]) (by simp [results, Try.results11, go_sem, d0, d1, d2, d3, d4]) rfl ⟨by rw [HS.out, HT.out], ?_⟩
  exact (((((((HB.out.setCell (by simp) _).setCell (by simp) _).setCell (by simp) _).setCell (by simp) _).setCell (by simp) _).setCell (by simp) _).setCell (by simp) _)
theorem step_any (a b h l n : Int) (w : World) (a0 : 0 ≤ a) (a1 : a < 4294967296) (b0 : 0 ≤ b) (b1 : b < 4294967296) (h0 : 0 ≤ h) (h1 : h < 4294967296) (l0 : 0 ≤ l) (l1 : l < 4294967296) :
    Calls Try.prog 9 #[.agg #[.int .u32 a, .int .u32 b, .int .u32 h, .int .u32 l, .int .i64 n]] w fun e w' => e = .returned (.agg #[.int .u32 a, .int .u32 b, .int .u32 (DM.tq a b h l n), .int .u32 (DM.tr a b l n), .int .i64 (DM.tn n)]) ∧ Below w.heap.size w w' := by
  unfold DM.tq DM.tr DM.tn
  by_cases hn : DM.lf n = 0
  · rw [if_pos hn, if_pos hn, if_pos hn]; exact step_end a b h l n w hn
  · rw [if_neg hn, if_neg hn, if_neg hn]
    have hb := DM.lf_bd n
    have hk : ((DM.lf n - 1).toNat : Int) = DM.lf n - 1 := by omega
    rw [← hk]
    by_cases hx : b ≤ DM.xx a l (DM.lf n - 1).toNat
    · exact step_hi a b h l n _ w a0 a1 b0 b1 h0 h1 l0 l1 (by omega) (by omega) hx
    · exact step_lo a b h l n _ w a0 a1 b0 b1 h0 h1 l0 l1 (by omega) (by omega) hx
theorem rstep_any (a b h l n : Int) (w : World) (a0 : 0 ≤ a) (a1 : a < 4294967296) (b0 : 0 ≤ b) (b1 : b < 4294967296) (h0 : 0 ≤ h) (h1 : h < 4294967296) (l0 : 0 ≤ l) (l1 : l < 4294967296) :
    Calls Try.prog 11 #[.agg #[.int .u32 a, .int .u32 b, .int .u32 h, .int .u32 l, .int .i64 n]] w fun e w' => e = .returned (.agg #[.int .u32 a, .int .u32 b, .int .u32 (DM.tq a b h l n), .int .u32 (DM.tr a b l n), .int .i64 (DM.tn n)]) ∧ Below w.heap.size w w' := by
  unfold DM.tq DM.tr DM.tn
  by_cases hn : DM.lf n = 0
  · rw [if_pos hn, if_pos hn, if_pos hn]; exact rstep_end a b h l n w hn
  · rw [if_neg hn, if_neg hn, if_neg hn]
    have hb := DM.lf_bd n
    have hk : ((DM.lf n - 1).toNat : Int) = DM.lf n - 1 := by omega
    rw [← hk]
    by_cases hx : b ≤ DM.xx a l (DM.lf n - 1).toNat
    · exact rstep_hi a b h l n _ w a0 a1 b0 b1 h0 h1 l0 l1 (by omega) (by omega) hx
    · exact rstep_lo a b h l n _ w a0 a1 b0 b1 h0 h1 l0 l1 (by omega) (by omega) hx
end Go.Proofs.Ytfobopchfiehgaa
