/-
  The law TextPrints holds: every instruction is printed as the reference prints it, and read back as it was; the variables read as their texts lay them (the card ties them).
-/
import Derived.Test.YtfgkcjalfhbjjaaDoorRows
import Derived.Test.YtfgkcjalfhbjjaaDoorWalkH
import Derived.Test.YtfgkcjalfhbjjaaDoorS06Open
import Derived.ProofKit
import Derived.OpenShut
import Derived.ShutString
import Derived.ChangeOld
import Derived.Lib.SmallJoins
import Derived.Test.YtfgkcjalfhbjjaaDoorLay
import Derived.Test.YtfgkcjalfhbjjaaDoorCards
import Derived.Test.YtfgkcjalfhbjjaaDoorTie
import Derived.SevenTiedAt
namespace Go.Proofs.YtfgkcjalfhbjjaaDoor
open Go.ChangeShapes Go.WideShapes Go.ChangeAt Go.RowKit Go.Joins
open Go.ChangeMaps (open_string shut_string)
open S06
set_option linter.unusedVariables false

set_option maxRecDepth 100000 in
theorem textPrints_lifted (os : Os) (started : os.Started) (H : Type) (enc : TypeId × Value → H) :
    ReturnsInHanded {} Tryd.checked os 4 .any (fun w args => (Rows.textPrintsSpec.pre enc Tryd.prog Tryd.f4 [] false w args ∧ laidMetH Tryd.prog laids w) ∧ sizedMet enc Tryd.prog Tryd.f4 (OpenSpec.ofChange Rows.textPrintsSpec) false w args) (Rows.textPrintsSpec.post enc Tryd.prog Tryd.f4 false true false false) := by
  refine returns_shaped (C := Tryd.checked) (X := fun w _ => laidMetH Tryd.prog laids w) (fun _ _ _ hh h => h.of_heap hh) seat_own started (by kernel_rfl) Tryd.func4
    (ChangeSpec.witness_shaped (enc := enc) (C := Tryd.checked) (os := os) (X := fun w _ => laidMetH Tryd.prog laids w) false (World.doorLaid Tryd.prog 400 os) #[.agg #[.int .i64 0, .int .i64 0, .int .i64 0, .int .i64 0, .int .i64 0]] 8 rfl (World.shaped_of_RefB (by kernel_rfl) (by kernel_rfl)) (by kernel_rfl) (by kernel_rfl) (by kernel_rfl) (door_met os _)) ?_
  intro W base args ds gs before hval0 hW hL hsh
  have hval : ∀ (j : Nat) t v, Tryd.f4.params[j]? = some t → args[j]? = some v → Value.okWide Tryd.prog W .any base t v := hval0
  have hW' := hW
  obtain ⟨p, q, hA0, hV, rfl, hfz, hnd⟩ := hW
  have hA : DataW.TrodAll enc Tryd.prog W 0 (fun _ => true) true Tryd.f4.params.toList args.toList ds p := hA0
  rw [Tryd.params4] at hA hval
  obtain ⟨v0, vs0, d0, ds0, p0, q0, hargs, rfl, rfl, h0, r0⟩ := trodAll_cons hA
  obtain ⟨rfl, rfl, rfl⟩ := trodAll_nil r0
  obtain rfl : args = #[v0] := by cases args; simp_all
  obtain ⟨rfl, rfl⟩ := trodVars_none hV
  have k0 := h0
  have lt0 : ∀ x ∈ p0, x.block < W.heap.size := by obtain ⟨m, hm⟩ := k0; exact DataW.trod_lt m _ _ _ hm
  obtain ⟨l0, rfl, hl0, hg0⟩ := open_fields Tryd.underlying27 (by kernel_rfl) (by kernel_rfl) (hval 0 27 v0 rfl rfl) h0
  obtain ⟨c00, c01, c02, c03, c04, rfl⟩ := (show ∀ l : List Value, l.length = 5 → ∃ c00 c01 c02 c03 c04, l = [c00, c01, c02, c03, c04] from fun l h => match l, h with | [xc00, xc01, xc02, xc03, xc04], _ => ⟨xc00, xc01, xc02, xc03, xc04, rfl⟩) l0 hl0
  obtain ⟨x00, y00, m00, hc00, ht00⟩ := hg0 0 _ rfl
  obtain rfl : c00 = x00 := Option.some.inj hc00
  obtain ⟨a00, e00, -, w00⟩ := DataW.trod_int Tryd.underlying3 ht00
  simp only [List.cons.injEq, and_true] at e00
  subst e00
  have b00 := bounds_i64 w00
  obtain ⟨x01, y01, m01, hc01, ht01⟩ := hg0 1 _ rfl
  obtain rfl : c01 = x01 := Option.some.inj hc01
  obtain ⟨a01, e01, -, w01⟩ := DataW.trod_int Tryd.underlying3 ht01
  simp only [List.cons.injEq, and_true] at e01
  subst e01
  have b01 := bounds_i64 w01
  obtain ⟨x02, y02, m02, hc02, ht02⟩ := hg0 2 _ rfl
  obtain rfl : c02 = x02 := Option.some.inj hc02
  obtain ⟨a02, e02, -, w02⟩ := DataW.trod_int Tryd.underlying3 ht02
  simp only [List.cons.injEq, and_true] at e02
  subst e02
  have b02 := bounds_i64 w02
  obtain ⟨x03, y03, m03, hc03, ht03⟩ := hg0 3 _ rfl
  obtain rfl : c03 = x03 := Option.some.inj hc03
  obtain ⟨a03, e03, -, w03⟩ := DataW.trod_int Tryd.underlying3 ht03
  simp only [List.cons.injEq, and_true] at e03
  subst e03
  have b03 := bounds_i64 w03
  obtain ⟨x04, y04, m04, hc04, ht04⟩ := hg0 4 _ rfl
  obtain rfl : c04 = x04 := Option.some.inj hc04
  obtain ⟨a04, e04, -, w04⟩ := DataW.trod_int Tryd.underlying3 ht04
  simp only [List.cons.injEq, and_true] at e04
  subst e04
  have b04 := bounds_i64 w04
  clear hA0 hval0
  refine (prints_walk a00 a01 a02 a03 a04 W  (of_laid hL hsh)).mono fun e W' ⟨he, bel⟩ => ?_
  subst he
  exact ⟨_, rfl, _, _, _, [], _, [], hW', trodAll_mk1 (shut_bool Tryd.underlying4 _), (trodAll_cons_mk (Below.trod seat_laid (by kernel_rfl) (of_decide_eq_true (by kernel_rfl)) k0 bel lt0) trodAll_mk0), rfl, bel.frame _, fun h => by cases h⟩

theorem textPrints_holds : Rows.TextPrintsSaid :=
  OpenClaim.holds_of_wide 4 Tryd.f4 rfl rfl rfl rfl rfl rfl rfl ⟨rfl, rfl, rfl, rfl, rfl⟩ rfl rfl rfl rfl rfl (by kernel_rfl) Tryd.func4 (by kernel_rfl)
    (of_decide_eq_true (by kernel_rfl)) (by unfold Func.isWrapper; first | (rw [if_pos (by decide +kernel)]; kernel_rfl) | (rw [if_neg (by decide +kernel)]; exact ⟨rfl, rfl⟩))
    (fun os started H enc _ => textPrints_lifted os started H enc)
theorem textPrints_card : Rows.TextPrintsCardSaid :=
  Claim7.holds_tied_plain_at .later [] [.data, .data, .data, .data] true (true, "53eef0fb0ff9d3e537a0f99bb9da0062f56fd91b69385bed8ca23c3ea5d7fb0e") false
    textPrints_holds (fun _ h => by cases h) (by kernel_rfl) (fun _ h => by cases h) textPrints_row_tie rfl ⟨rfl, rfl⟩ (by kernel_rfl) rfl
    (fun f fn hf hfn => by
      obtain rfl : f = 4 := Option.some.inj ((show Tryd.prog.funcNamed "cotterel/cotterellaw07.TextPrints" = some 4 by kernel_rfl).symm.trans hf) |>.symm
      obtain rfl : fn = Tryd.f4 := (Option.some.inj (Tryd.func4.symm.trans hfn)).symm
      exact ⟨by kernel_rfl, fun j t ht => by
        rw [Tryd.params4] at ht
        have hm : t ∈ [27] := by simpa using Array.mem_of_getElem? ht
        have hall : ([27].all fun u => !Tryd.prog.wantsStandIn u) = true := by kernel_rfl
        exact (show Tryd.prog.wantsStandIn t = false by simpa using List.all_eq_true.1 hall t hm)⟩)
    (by kernel_rfl)
#print axioms textPrints_card
end Go.Proofs.YtfgkcjalfhbjjaaDoor
