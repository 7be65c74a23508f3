/-
  The law TrapBack holds: for every input the call returns true and leaves its arguments as they were. No condition.
-/
import Derived.Test.YtfdcnbhnegdlfaaRows
import Derived.Test.YtfdcnbhnegdlfaaEnds
import Derived.ProofKit
import Derived.OpenShut
import Derived.ShutString
import Derived.ChangeOld
import Derived.Lib.SmallJoins
namespace Go.Proofs.Ytfdcnbhnegdlfaa
open Go.ChangeShapes Go.WideShapes Go.ChangeAt Go.RowKit Go.Joins
open Go.ChangeMaps (open_string shut_string)
open S06 S11
set_option linter.unusedVariables false

theorem trapBack_own : ownKnob Try.prog.godebug = none := by kernel_rfl
theorem trapBack_laid : laidOutB Try.prog = true := by kernel_rfl

set_option maxRecDepth 100000 in
theorem trapBack_lifted (os : Os) (started : os.Started) (H : Type) (enc : TypeId × Value → H) :
    ReturnsInHanded {} Try.checked os 6 .any (Rows.trapBackSpec.pre6 enc Try.prog Try.f6 Rows.trapBackRow.domain false) (Rows.trapBackSpec.post enc Try.prog Try.f6 false true false false) := by
  refine returnsInHanded_of_change (C := Try.checked) trapBack_own started (by kernel_rfl) Try.func6
    (ChangeSpec.witness6 (enc := enc) (C := Try.checked) false ⟨#[], #[.agg #[.int .u32 0, .int .u32 0, .int .u32 0, .int .u32 0, .int .u32 0, .int .u32 0, .int .u32 0, .int .u32 0, .int .u32 0, .int .u32 0, .int .u32 0, .int .u32 0, .int .u32 0, .int .u32 0, .int .u32 0, .int .u32 0, .int .u32 0, .int .u32 0, .int .u32 0, .int .u32 0, .int .u32 0, .int .u32 0, .int .u32 0, .int .u32 0, .int .u32 0, .int .u32 0, .int .u32 0, .int .u32 0, .int .u32 0, .bool false], .int .i64 0, .agg #[.int .u32 0, .int .u32 0, .int .i64 0, .int .u32 0, .int .i64 0, .int .u32 0, .int .i64 0, .int .u32 0, .int .u32 0, .int .i64 0, .int .u32 0, .int .u32 0]], []⟩ 8 (by kernel_rfl) (by kernel_rfl) (by kernel_rfl) (by kernel_rfl)) ?_
  intro W base args ds gs before hval0 hW hcnd _
  have hval : ∀ (j : Nat) t v, Try.f6.params[j]? = some t → args[j]? = some v → Value.okWide Try.prog W .any base t v := hval0
  have hW' := hW
  obtain ⟨p, q, hA0, hV, rfl, hfz, hnd⟩ := hW
  have hA : DataW.TrodAll enc Try.prog W 0 (fun _ => true) true Try.f6.params.toList args.toList ds p := hA0
  rw [Try.params6] at hA hval
  obtain ⟨v0, vs0, d0, ds0, p0, q0, hargs, rfl, rfl, h0, r0⟩ := trodAll_cons hA
  obtain ⟨v1, vs1, d1, ds1, p1, q1, rfl, rfl, rfl, h1, r1⟩ := trodAll_cons r0
  obtain ⟨v2, vs2, d2, ds2, p2, q2, rfl, rfl, rfl, h2, r2⟩ := trodAll_cons r1
  obtain ⟨rfl, rfl, rfl⟩ := trodAll_nil r2
  obtain rfl : args = #[v0, v1, v2] := by cases args; simp_all
  obtain ⟨rfl, rfl⟩ := trodVars_none hV
  have k0 := h0
  have lt0 : ∀ x ∈ p0, x.block < W.heap.size := by obtain ⟨m, hm⟩ := k0; exact DataW.trod_lt m _ _ _ hm
  obtain ⟨f0, b0, rfl, w0⟩ := arg_core (hval 0 26 v0 rfl rfl) h0
  have k1 := h1
  have lt1 : ∀ x ∈ p1, x.block < W.heap.size := by obtain ⟨m, hm⟩ := k1; exact DataW.trod_lt m _ _ _ hm
  obtain ⟨a1, rfl, rfl, rfl, w1⟩ := open_int Try.underlying3 (hval 1 3 v1 rfl rfl) h1
  have b1 := bounds_i64 w1
  have k2 := h2
  have lt2 : ∀ x ∈ p2, x.block < W.heap.size := by obtain ⟨m, hm⟩ := k2; exact DataW.trod_lt m _ _ _ hm
  obtain ⟨l2, rfl, hl2, hg2⟩ := open_fields Try.underlying28 (by kernel_rfl) (by kernel_rfl) (hval 2 28 v2 rfl rfl) h2
  obtain ⟨c20, c21, c22, c23, c24, c25, c26, c27, c28, c29, c210, c211, rfl⟩ := (show ∀ l : List Value, l.length = 12 → ∃ c20 c21 c22 c23 c24 c25 c26 c27 c28 c29 c210 c211, l = [c20, c21, c22, c23, c24, c25, c26, c27, c28, c29, c210, c211] from fun l h => match l, h with | [xc20, xc21, xc22, xc23, xc24, xc25, xc26, xc27, xc28, xc29, xc210, xc211], _ => ⟨xc20, xc21, xc22, xc23, xc24, xc25, xc26, xc27, xc28, xc29, xc210, xc211, rfl⟩) l2 hl2
  obtain ⟨x20, y20, m20, hc20, ht20⟩ := hg2 0 _ rfl
  obtain rfl : c20 = x20 := Option.some.inj hc20
  obtain ⟨a20, e20, -, w20⟩ := DataW.trod_int Try.underlying22 ht20
  simp only [List.cons.injEq, and_true] at e20
  subst e20
  have b20 := bounds_u32 w20
  obtain ⟨x21, y21, m21, hc21, ht21⟩ := hg2 1 _ rfl
  obtain rfl : c21 = x21 := Option.some.inj hc21
  obtain ⟨a21, e21, -, w21⟩ := DataW.trod_int Try.underlying22 ht21
  simp only [List.cons.injEq, and_true] at e21
  subst e21
  have b21 := bounds_u32 w21
  obtain ⟨x22, y22, m22, hc22, ht22⟩ := hg2 2 _ rfl
  obtain rfl : c22 = x22 := Option.some.inj hc22
  obtain ⟨a22, e22, -, w22⟩ := DataW.trod_int Try.underlying3 ht22
  simp only [List.cons.injEq, and_true] at e22
  subst e22
  have b22 := bounds_i64 w22
  obtain ⟨x23, y23, m23, hc23, ht23⟩ := hg2 3 _ rfl
  obtain rfl : c23 = x23 := Option.some.inj hc23
  obtain ⟨a23, e23, -, w23⟩ := DataW.trod_int Try.underlying22 ht23
  simp only [List.cons.injEq, and_true] at e23
  subst e23
  have b23 := bounds_u32 w23
  obtain ⟨x24, y24, m24, hc24, ht24⟩ := hg2 4 _ rfl
  obtain rfl : c24 = x24 := Option.some.inj hc24
  obtain ⟨a24, e24, -, w24⟩ := DataW.trod_int Try.underlying3 ht24
  simp only [List.cons.injEq, and_true] at e24
  subst e24
  have b24 := bounds_i64 w24
  obtain ⟨x25, y25, m25, hc25, ht25⟩ := hg2 5 _ rfl
  obtain rfl : c25 = x25 := Option.some.inj hc25
  obtain ⟨a25, e25, -, w25⟩ := DataW.trod_int Try.underlying22 ht25
  simp only [List.cons.injEq, and_true] at e25
  subst e25
  have b25 := bounds_u32 w25
  obtain ⟨x26, y26, m26, hc26, ht26⟩ := hg2 6 _ rfl
  obtain rfl : c26 = x26 := Option.some.inj hc26
  obtain ⟨a26, e26, -, w26⟩ := DataW.trod_int Try.underlying3 ht26
  simp only [List.cons.injEq, and_true] at e26
  subst e26
  have b26 := bounds_i64 w26
  obtain ⟨x27, y27, m27, hc27, ht27⟩ := hg2 7 _ rfl
  obtain rfl : c27 = x27 := Option.some.inj hc27
  obtain ⟨a27, e27, -, w27⟩ := DataW.trod_int Try.underlying22 ht27
  simp only [List.cons.injEq, and_true] at e27
  subst e27
  have b27 := bounds_u32 w27
  obtain ⟨x28, y28, m28, hc28, ht28⟩ := hg2 8 _ rfl
  obtain rfl : c28 = x28 := Option.some.inj hc28
  obtain ⟨a28, e28, -, w28⟩ := DataW.trod_int Try.underlying22 ht28
  simp only [List.cons.injEq, and_true] at e28
  subst e28
  have b28 := bounds_u32 w28
  obtain ⟨x29, y29, m29, hc29, ht29⟩ := hg2 9 _ rfl
  obtain rfl : c29 = x29 := Option.some.inj hc29
  obtain ⟨a29, e29, -, w29⟩ := DataW.trod_int Try.underlying3 ht29
  simp only [List.cons.injEq, and_true] at e29
  subst e29
  have b29 := bounds_i64 w29
  obtain ⟨x210, y210, m210, hc210, ht210⟩ := hg2 10 _ rfl
  obtain rfl : c210 = x210 := Option.some.inj hc210
  obtain ⟨a210, e210, -, w210⟩ := DataW.trod_int Try.underlying22 ht210
  simp only [List.cons.injEq, and_true] at e210
  subst e210
  have b210 := bounds_u32 w210
  obtain ⟨x211, y211, m211, hc211, ht211⟩ := hg2 11 _ rfl
  obtain rfl : c211 = x211 := Option.some.inj hc211
  obtain ⟨a211, e211, -, w211⟩ := DataW.trod_int Try.underlying22 ht211
  simp only [List.cons.injEq, and_true] at e211
  subst e211
  have b211 := bounds_u32 w211
  clear hA0 hval0
  refine (back_end f0 b0 a1 a20 a21 a22 a23 a24 a25 a26 a27 a28 a29 a210 a211 W w0 (by omega) (by omega) (by omega) (by omega) b22.1 b22.2 (by omega) (by omega) b24.1 b24.2 (by omega) (by omega) b26.1 b26.2 (by omega) (by omega) (by omega) (by omega) b29.1 b29.2 (by omega) (by omega) (by omega) (by omega)).mono fun e W' ⟨he, bel⟩ => ?_
  subst he
  exact ⟨_, rfl, _, _, _, [], _, [], hW', trodAll_mk1 (shut_bool Try.underlying4 _), (trodAll_cons_mk (Below.trod trapBack_laid (by kernel_rfl) (of_decide_eq_true (by kernel_rfl)) k0 bel lt0) (trodAll_cons_mk (Below.trod trapBack_laid (by kernel_rfl) (of_decide_eq_true (by kernel_rfl)) k1 bel lt1) (trodAll_cons_mk (Below.trod trapBack_laid (by kernel_rfl) (of_decide_eq_true (by kernel_rfl)) k2 bel lt2) trodAll_mk0))), rfl, bel.frame _, fun h => by cases h⟩

theorem trapBack_holds : Rows.TrapBackSaid :=
  OpenClaim.holds_of_wide 6 Try.f6 rfl rfl rfl rfl rfl rfl rfl ⟨rfl, rfl, rfl, rfl, rfl⟩ rfl rfl rfl rfl rfl (by kernel_rfl) Try.func6 (by kernel_rfl)
    (of_decide_eq_true (by kernel_rfl)) (by unfold Func.isWrapper; first | (rw [if_pos (by decide +kernel)]; kernel_rfl) | (rw [if_neg (by decide +kernel)]; exact ⟨rfl, rfl⟩))
    (fun os started H enc _ => trapBack_lifted os started H enc)
#print axioms trapBack_holds
end Go.Proofs.Ytfdcnbhnegdlfaa
