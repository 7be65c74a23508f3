/-
  The law on what control registers keep: it returns true for every core and every acts, and leaves all that was in memory as it was.
-/
import Derived.Test.YtiakoflgcpahgaaLsE
import Derived.Test.YtiakoflgcpahgaaWalkH
import Derived.StillTailTactics
import Derived.Deep.CutRange
namespace Go.Proofs.Ytiakoflgcpahgaa
open Go.RowKit S01 S10
/-- The acts: a slice of names whose numbers are L. -/
def Acts (w : World) (A : Option Addr) (n : Nat) (L : Nat → Int) : Prop := ∀ i, i < n → ∃ g o, A = some ⟨g, o, none⟩ ∧ w.cell? ⟨g, o + i * 2 + 1, none⟩ = some (.int .u32 (L i)) ∧ CM.Wd (L i)
theorem Acts.below {w w' : World} {A : Option Addr} {n : Nat} {L : Nat → Int} (h : Acts w A n L) (hb : Below w.heap.size w w') : Acts w' A n L := fun i hi => by
  obtain ⟨g, o, h1, h2, h3⟩ := h i hi
  exact ⟨g, o, h1, cell_below hb h2, h3⟩
set_option maxHeartbeats 1600000 in
theorem keeps_many (f : Nat → Int) (h : Bool) (A : Option Addr) (n c : Nat) (w : World) (hn : 40 < (n : Int)) (_hm : (n : Int) ≤ 9223372036854775807) :
    Calls Try.prog 7 #[AR f h, .slice A n c] w fun e w' => e = .returned (.bool true) ∧ Below w.heap.size w w' := by
  unfold AR
  go_enter Try.func7, Try.ntmps7
  go_upto_region 1 with fail
  have B0 := Lib.hid (below_one w (.cells (AC f h).toArray 26))
  generalize World.alloc w _ = W0 at B0 ⊢
  go_wp2_with (go_at_call 14; refine (awake_any _).mono ?_; rintro e w4 ⟨rfl, hb⟩; have HB4 := Lib.hid (below_then B0.out hb); clear hb)
  go_ret
  exact ⟨rfl, HB4.out⟩
set_option maxHeartbeats 1600000 in
theorem keeps_not (f : Nat → Int) (h : Bool) (A : Option Addr) (n c : Nat) (w : World) (hn : (n : Int) ≤ 40) (hf : CM.Ok f) (hb : ¬ CM.bq f) :
    Calls Try.prog 7 #[AR f h, .slice A n c] w fun e w' => e = .returned (.bool true) ∧ Below w.heap.size w w' := by
  have H1 := Lib.hid (fun W => bits_any f h false W hf ⟨fun e => absurd e (by decide), fun e => absurd e hb⟩)
  have d : decide (40 < (n : Int)) = false := by simpa using hn
  clear hb hf
  unfold AR at H1 ⊢
  go_enter Try.func7, Try.ntmps7
  go_upto_region 1 with fail
  have R0 := Lib.hid (Bk.new w f h).range
  have B0 := Lib.hid (below_one w (.cells (AC f h).toArray 26))
  generalize World.alloc w _ = W0 at R0 B0 ⊢
  go_wp2_with (first | (refine wpList_load_wanted rfl 26 _ rfl w.heap.size 0 rfl (AC f h) _ R0.out Try.underlying26 rfl (by kernel_rfl) ?_) | (go_at_call 21; (with_reducible refine (H1.out _).mono ?_); rintro e w3 ⟨rfl, hb⟩; have B3 := Lib.hid (below_then B0.out hb); clear hb) | (go_at_call 14; refine (awake_any _).mono ?_; rintro e w4 ⟨rfl, hb⟩; have HB4 := Lib.hid (below_then B3.out hb); clear hb))
  go_ret
  exact ⟨rfl, HB4.out⟩
/-- In the region of a write: the core lies in the block s, the act's number at a, and nothing that was there is changed. -/
def Held (w : World) (s : Nat) (f : Nat → Int) (h : Bool) (a : Addr) (v : Value) (W : World) : Prop := Bk W s f h ∧ W.cell? a = some v ∧ Below w.heap.size w W
theorem Held.below {w : World} {s : Nat} {f : Nat → Int} {h : Bool} {a : Addr} {v : Value} {W W' : World} (hH : Held w s f h a v W) (hb : Below W.heap.size W W') : Held w s f h a v W' :=
  ⟨hH.1.below hb, cell_below hb hH.2.1, below_then hH.2.2 hb⟩
theorem Held.stored {w : World} {s : Nat} {f : Nat → Int} {h : Bool} {a : Addr} {v : Value} {W : World} {b : Nat} (hH : Held w s f h a v W) (hs : s ≠ b) (hb : w.heap.size ≤ b) (ha : a.block ≠ b) (g : Nat → Int) (h' : Bool) : Held w s f h a v (W.setCells b 0 (AC g h')) :=
  ⟨hH.1.besides hs 0 _, (World.cell?_setCells_out b _ 0 W a (fun e => absurd e ha)).trans hH.2.1, below_setCells hb _ _ _ hH.2.2⟩
end Go.Proofs.Ytiakoflgcpahgaa
