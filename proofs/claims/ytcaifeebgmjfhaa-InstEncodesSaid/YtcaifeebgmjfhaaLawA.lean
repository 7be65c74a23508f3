/-
  The law InstEncodes holds: the encoding of any instruction, and its first error, are as the reference's; no condition.
-/
import Derived.Test.YtcaifeebgmjfhaaRows
import Derived.Test.YtcaifeebgmjfhaaWalkI
import Derived.Test.YtcaifeebgmjfhaaOpen
import Derived.ProofKit
import Derived.OpenShut
import Derived.ShutString
import Derived.ChangeOld
import Derived.Lib.SmallJoins
namespace Go.Proofs.Ytcaifeebgmjfhaa
open Go.ChangeShapes Go.WideShapes Go.ChangeAt Go.RowKit Go.Joins
open Go.ChangeMaps (open_string shut_string)
set_option linter.unusedVariables false

theorem instEncodes_own : ownKnob Try.prog.godebug = none := by kernel_rfl
theorem instEncodes_laid : laidOutB Try.prog = true := by kernel_rfl

set_option maxRecDepth 100000 in
theorem instEncodes_lifted (os : Os) (started : os.Started) (H : Type) (enc : TypeId × Value → H) :
    ReturnsInHanded {} Try.checked os 3 .any (Rows.instEncodesSpec.pre6 enc Try.prog Try.f3 Rows.instEncodesRow.domain false) (Rows.instEncodesSpec.post enc Try.prog Try.f3 false true false false) := by
  refine returnsInHanded_of_change (C := Try.checked) instEncodes_own started (by kernel_rfl) Try.func3
    (ChangeSpec.witness6 (enc := enc) (C := Try.checked) false ⟨#[], #[.agg #[.int .i64 0, .int .i64 0, .int .i64 0, .int .i64 0, .int .i64 0]], []⟩ 8 (by kernel_rfl) (by kernel_rfl) (by kernel_rfl) (by kernel_rfl)) ?_
  intro W base args ds gs before hval0 hW hcnd _
  have hval : ∀ (j : Nat) t v, Try.f3.params[j]? = some t → args[j]? = some v → Value.okWide Try.prog W .any base t v := hval0
  have hW' := hW
  obtain ⟨p, q, hA0, hV, rfl, hfz, hnd⟩ := hW
  have hA : DataW.TrodAll enc Try.prog W 0 (fun _ => true) true Try.f3.params.toList args.toList ds p := hA0
  rw [Try.params3] at hA hval
  obtain ⟨v0, vs0, d0, ds0, p0, q0, hargs, rfl, rfl, h0, r0⟩ := trodAll_cons hA
  obtain ⟨rfl, rfl, rfl⟩ := trodAll_nil r0
  obtain rfl : args = #[v0] := by cases args; simp_all
  obtain ⟨rfl, rfl⟩ := trodVars_none hV
  have k0 := h0
  have lt0 : ∀ x ∈ p0, x.block < W.heap.size := by obtain ⟨m, hm⟩ := k0; exact DataW.trod_lt m _ _ _ hm
  obtain ⟨l0, rfl, hl0, hg0⟩ := open_fields Try.underlying23 (by kernel_rfl) (by kernel_rfl) (hval 0 23 v0 rfl rfl) h0
  obtain ⟨c00, c01, c02, c03, c04, rfl⟩ := (show ∀ l : List Value, l.length = 5 → ∃ c00 c01 c02 c03 c04, l = [c00, c01, c02, c03, c04] from fun l h => match l, h with | [xc00, xc01, xc02, xc03, xc04], _ => ⟨xc00, xc01, xc02, xc03, xc04, rfl⟩) l0 hl0
  obtain ⟨x00, y00, m00, hc00, ht00⟩ := hg0 0 _ rfl
  obtain rfl : c00 = x00 := Option.some.inj hc00
  obtain ⟨a00, e00, -, w00⟩ := DataW.trod_int Try.underlying3 ht00
  simp only [List.cons.injEq, and_true] at e00
  subst e00
  have b00 := bounds_i64 w00
  obtain ⟨x01, y01, m01, hc01, ht01⟩ := hg0 1 _ rfl
  obtain rfl : c01 = x01 := Option.some.inj hc01
  obtain ⟨a01, e01, -, w01⟩ := DataW.trod_int Try.underlying3 ht01
  simp only [List.cons.injEq, and_true] at e01
  subst e01
  have b01 := bounds_i64 w01
  obtain ⟨x02, y02, m02, hc02, ht02⟩ := hg0 2 _ rfl
  obtain rfl : c02 = x02 := Option.some.inj hc02
  obtain ⟨a02, e02, -, w02⟩ := DataW.trod_int Try.underlying3 ht02
  simp only [List.cons.injEq, and_true] at e02
  subst e02
  have b02 := bounds_i64 w02
  obtain ⟨x03, y03, m03, hc03, ht03⟩ := hg0 3 _ rfl
  obtain rfl : c03 = x03 := Option.some.inj hc03
  obtain ⟨a03, e03, -, w03⟩ := DataW.trod_int Try.underlying3 ht03
  simp only [List.cons.injEq, and_true] at e03
  subst e03
  have b03 := bounds_i64 w03
  obtain ⟨x04, y04, m04, hc04, ht04⟩ := hg0 4 _ rfl
  obtain rfl : c04 = x04 := Option.some.inj hc04
  obtain ⟨a04, e04, -, w04⟩ := DataW.trod_int Try.underlying3 ht04
  simp only [List.cons.injEq, and_true] at e04
  subst e04
  have b04 := bounds_i64 w04
  clear hA0 hval0
  refine (encodes_walk a00 a01 a02 a03 a04 W ).mono fun e W' ⟨he, bel⟩ => ?_
  subst he
  exact ⟨_, rfl, _, _, _, [], _, [], hW', trodAll_mk1 (shut_bool Try.underlying4 _), (trodAll_cons_mk (Below.trod instEncodes_laid (by kernel_rfl) (of_decide_eq_true (by kernel_rfl)) k0 bel lt0) trodAll_mk0), rfl, bel.frame _, fun h => by cases h⟩

theorem instEncodes_holds : Rows.InstEncodesSaid :=
  OpenClaim.holds_of_wide 3 Try.f3 rfl rfl rfl rfl rfl rfl rfl ⟨rfl, rfl, rfl, rfl, rfl⟩ rfl rfl rfl rfl rfl (by kernel_rfl) Try.func3 (by kernel_rfl)
    (of_decide_eq_true (by kernel_rfl)) (by unfold Func.isWrapper; first | (rw [if_pos (by decide +kernel)]; kernel_rfl) | (rw [if_neg (by decide +kernel)]; exact ⟨rfl, rfl⟩))
    (fun os started H enc _ => instEncodes_lifted os started H enc)
#print axioms instEncodes_holds
end Go.Proofs.Ytcaifeebgmjfhaa
