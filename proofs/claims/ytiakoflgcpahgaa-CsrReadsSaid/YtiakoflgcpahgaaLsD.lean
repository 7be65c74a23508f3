/-
  The law on what is written and read back: it returns true for every core, register and word, and leaves all that was in memory as it was.
-/
import Derived.Test.YtiakoflgcpahgaaLsC
namespace Go.Proofs.Ytiakoflgcpahgaa
open Go.RowKit S01 S10
/-- Two cores lie in the blocks s and s', and nothing that was there is changed. -/
def Kept2 (w : World) (s : Nat) (f : Nat → Int) (h : Bool) (s' : Nat) (f' : Nat → Int) (h' : Bool) (v : World) : Prop := Bk v s f h ∧ Bk v s' f' h' ∧ Below w.heap.size w v
theorem kept2_call {w : World} {s : Nat} {f : Nat → Int} {h : Bool} {s' : Nat} {f' : Nat → Int} {h' : Bool} {F : FuncId} {args : Array Value} {u : Value} (hc : ∀ W, Calls Try.prog F args W fun e w' => e = .returned u ∧ Below W.heap.size W w') :
    ∀ v, Kept2 w s f h s' f' h' v → Calls Try.prog F args v fun e v' => e = .returned u ∧ Kept2 w s f h s' f' h' v' :=
  fun v hv => (hc v).mono fun _ _ ⟨he, hb⟩ => ⟨he, hv.1.below hb, hv.2.1.below hb, below_then hv.2.2 hb⟩
theorem zero_same (w : World) : (Op.equalIn 10000 26 (.agg (AC (fun _ => 0) false).toArray) (.agg #[.int .u32 0, .int .u32 0, .int .u32 0, .int .u32 0, .int .u32 0, .int .u32 0, .int .u32 0, .int .u32 0, .int .u32 0, .int .u32 0, .int .u32 0, .int .u32 0, .int .u32 0, .int .u32 0, .int .u32 0, .int .u32 0, .int .u32 0, .int .u32 0, .int .u32 0, .int .u32 0, .int .u32 0, .int .u32 0, .int .u32 0, .int .u32 0, .int .u32 0, .int .u32 0, .int .u32 0, .int .u32 0, .int .u32 0, .bool false])).run Try.prog w = .ok true w := by
  have := same_core (fun _ => 0) false w
  rwa [zero_core] at this ⊢
set_option maxHeartbeats 1600000 in
theorem back_bad (f : Nat → Int) (h : Bool) (n v : Int) (w : World) (hf : CM.Ok f) (hv : CM.Wd v) (hk : CM.ks f n ≠ 0) :
    Calls Try.prog 6 #[AR f h, .int .i64 n, .int .u32 v] w fun e w' => e = .returned (.bool true) ∧ Below w.heap.size w w' := by
  have H1 := Lib.hid (fun W => write_any f h n v W hf hv)
  have e1 : CM.wf f n v = fun _ => 0 := if_neg hk
  have e2 : CM.wh f h n = false := if_neg hk
  rw [e1, e2] at H1
  have H3 := Lib.hid (fun W => kernel_any f h W hf)
  have HC : Hid (CM.km f = false ∨ n < 0 ∨ 11 < n) := by
    show CM.km f = false ∨ n < 0 ∨ 11 < n
    by_cases h1 : CM.km f = true
    · by_cases h2 : CM.kn n = true
      · exact absurd (CM.ks_ok h1 h2) hk
      · by_cases h3 : 0 ≤ n ∧ n ≤ 11
        · exact absurd (CM.kn_iff.2 h3) h2
        · exact .inr (by omega)
    · exact .inl (by simpa using h1)
  generalize CM.ks f n = ks at H1 hk
  generalize CM.km f = km at H3 HC
  have z : (ks == 0) = false := by simpa using hk
  clear hk e1 e2 hf hv
  unfold AR at H1 H3 ⊢
  go_enter Try.func6, Try.ntmps6
  go_upto_region 1 with fail
  have K0 := Lib.hid (Bk.new w f h)
  have B0 := Lib.hid (below_one w (.cells (AC f h).toArray 26))
  generalize World.alloc w _ = W0 at K0 B0 ⊢
  have R0 := Lib.hid K0.out.range
  go_upto_region 3 with (first | (refine wpList_load_mid rfl 26 _ rfl w.heap.size 0 rfl (AC f h) _ R0.out Try.underlying26 rfl (by kernel_rfl) ?_) | (go_at_call 15; (with_reducible refine (H1.out _).mono ?_); rintro e w1 ⟨rfl, hb⟩; have HB1 := Lib.hid hb; clear hb; have hS := store_new w1 (fun _ => 0) false; have hl := AC_len (fun _ => 0) false))
  clear hS hl
  have L1 := Lib.hid (Bk.new w1 (fun _ => 0) false).range
  have K1 := Lib.hid ((K0.out.below HB1.out).more (.cells (AC (fun _ => 0) false).toArray 26)).range
  have B1 := Lib.hid (below_then (below_then B0.out HB1.out) (below_one w1 (.cells (AC (fun _ => 0) false).toArray 26)))
  generalize World.alloc w1 _ = W1 at K1 L1 B1 ⊢
  generalize w1.heap.size = s1 at *
  have hE := zero_same
  rcases HC.out with hm | hm | hm
  · subst hm
    go_wp2_with (first | (refine wpList_load_mid rfl 26 _ rfl s1 0 rfl (AC (fun _ => 0) false) _ L1.out Try.underlying26 rfl (by kernel_rfl) ?_) | (refine wpList_load_wanted rfl 26 _ rfl w.heap.size 0 rfl (AC f h) _ K1.out Try.underlying26 rfl (by kernel_rfl) ?_) | (go_at_call 10; (with_reducible refine (H3.out _).mono ?_); rintro e w3 ⟨rfl, hb⟩; have HB3 := Lib.hid (below_then B1.out hb); clear hb) | (go_at_call 14; refine (awake_any _).mono ?_; rintro e w4 ⟨rfl, hb⟩; have HB4 := Lib.hid (below_then HB3.out hb); clear hb))
    go_ret
    exact ⟨rfl, HB4.out⟩
  · have d : decide (n < 0) = true := decide_eq_true hm
    cases km
    all_goals
      go_wp2_with (first | (refine wpList_load_mid rfl 26 _ rfl s1 0 rfl (AC (fun _ => 0) false) _ L1.out Try.underlying26 rfl (by kernel_rfl) ?_) | (refine wpList_load_wanted rfl 26 _ rfl w.heap.size 0 rfl (AC f h) _ K1.out Try.underlying26 rfl (by kernel_rfl) ?_) | (go_at_call 10; (with_reducible refine (H3.out _).mono ?_); rintro e w3 ⟨rfl, hb⟩; have HB3 := Lib.hid (below_then B1.out hb); clear hb) | (go_at_call 14; refine (awake_any _).mono ?_; rintro e w4 ⟨rfl, hb⟩; have HB4 := Lib.hid (below_then HB3.out hb); clear hb))
      go_ret
      exact ⟨rfl, HB4.out⟩
  · have d : decide (n < 0) = false := by simpa using (by omega : 0 ≤ n)
    have d2 : decide (12 ≤ n) = true := decide_eq_true (by omega)
    cases km
    all_goals
      go_wp2_with (first | (refine wpList_load_mid rfl 26 _ rfl s1 0 rfl (AC (fun _ => 0) false) _ L1.out Try.underlying26 rfl (by kernel_rfl) ?_) | (refine wpList_load_wanted rfl 26 _ rfl w.heap.size 0 rfl (AC f h) _ K1.out Try.underlying26 rfl (by kernel_rfl) ?_) | (go_at_call 10; (with_reducible refine (H3.out _).mono ?_); rintro e w3 ⟨rfl, hb⟩; have HB3 := Lib.hid (below_then B1.out hb); clear hb) | (go_at_call 14; refine (awake_any _).mono ?_; rintro e w4 ⟨rfl, hb⟩; have HB4 := Lib.hid (below_then HB3.out hb); clear hb))
      go_ret
      exact ⟨rfl, HB4.out⟩
end Go.Proofs.Ytiakoflgcpahgaa
