/-
  No cell of these rows narrows 'for every input' (looked for: loops, veiled, ifaces, maps, wideKeys, modest, calm, conditions, laid).
  DERIVED. THE GIVEN ROWS OF THIS SEAT. 5 by the template 'for every input the law returns true; each argument reads behind the call as it read before'; 0 by the template 'total and deterministic' (their statements: YtmjgjojmnjpaoaaTotals.lean).
  GIVEN WITH THE SEED: the statements are not yours to turn. If you find one false, say at which input.
  Laid BY PROGRAM, IN A SANDBOX (cutbox-rows.mjs): the forced cells as the released guide's own fill.sh prints them over the translation d96e5505ad487c95… (all of the seat's roots in one cut). By AI agents, Wed Nov 11 2026. No macro, syntax, notation, axiom, sorry.
-/
import Derived.Test.YtmjgjojmnjpaoaaChecked
import GoSem.Claim
import GoSem.ClaimJoined
import GoSem.ClaimMapViews
import Derived.JoinedTies
import Derived.KernelRfl
namespace Go.Proofs.Ytmjgjojmnjpaoaa
/- THE CELL 'sum', in the pinned program and in every row, IS THE sha256 OF THE DUMP (.gsa) THAT YtmjgjojmnjpaoaaProg.lean LOADS. Nothing in Lean hashes anything: it is a label: what it is worth is what the hold of that sum in a sandbox is worth. -/
noncomputable def Try.pinned : Pinned := { name := "ytmjgjojmnjpaoaa", sum := "d96e5505ad487c95c1d43a020b95a06ed16c30df7765ca6eb7c161a0f5cb04d3", checked := Try.checked }
namespace Rows
def none {H : Type} : Left H := { results := [], args := [] }

/-- 'cotterellaw12.PteWords': WHATEVER THE INPUT: true; the input reads as it did. -/
def pteWordsSpec : ChangeSpec := { name := "pteWords", fn := fun _ => fun
  | [d1, d2] => { results := [.lit (.bool true)], args := [d1, d2] }
  | _ => none }
def pteWordsRow : OpenClaim := { program := "ytmjgjojmnjpaoaa", sum := "d96e5505ad487c95c1d43a020b95a06ed16c30df7765ca6eb7c161a0f5cb04d3", func := "cotterel/cotterellaw12.PteWords", spec := "pteWords", apart := false }
def PteWordsSaid : Prop := pteWordsRow.holds Try.pinned (OpenSpec.ofChange pteWordsSpec)

/-- ITS FALSE NEIGHBOUR: 'it returns false'. Refute it at one input. -/
def pteWordsWrong : ChangeSpec := { name := "pteWords", fn := fun _ => fun
  | [d1, d2] => { results := [.lit (.bool false)], args := [d1, d2] }
  | _ => none }
def PteWordsWrongFalsely : Prop := pteWordsRow.holds Try.pinned (OpenSpec.ofChange pteWordsWrong)

/-- 'cotterellaw12.PteAllows': WHATEVER THE INPUT: true; the input reads as it did. -/
def pteAllowsSpec : ChangeSpec := { name := "pteAllows", fn := fun _ => fun
  | [d1, d2, d3] => { results := [.lit (.bool true)], args := [d1, d2, d3] }
  | _ => none }
def pteAllowsRow : OpenClaim := { program := "ytmjgjojmnjpaoaa", sum := "d96e5505ad487c95c1d43a020b95a06ed16c30df7765ca6eb7c161a0f5cb04d3", func := "cotterel/cotterellaw12.PteAllows", spec := "pteAllows", apart := false }
def PteAllowsSaid : Prop := pteAllowsRow.holds Try.pinned (OpenSpec.ofChange pteAllowsSpec)

/-- ITS FALSE NEIGHBOUR: 'it returns false'. Refute it at one input. -/
def pteAllowsWrong : ChangeSpec := { name := "pteAllows", fn := fun _ => fun
  | [d1, d2, d3] => { results := [.lit (.bool false)], args := [d1, d2, d3] }
  | _ => none }
def PteAllowsWrongFalsely : Prop := pteAllowsRow.holds Try.pinned (OpenSpec.ofChange pteAllowsWrong)

/-- 'cotterellaw12.PtePlaces': WHATEVER THE INPUT: true; the input reads as it did. -/
def ptePlacesSpec : ChangeSpec := { name := "ptePlaces", fn := fun _ => fun
  | [d1, d2, d3] => { results := [.lit (.bool true)], args := [d1, d2, d3] }
  | _ => none }
def ptePlacesRow : OpenClaim := { program := "ytmjgjojmnjpaoaa", sum := "d96e5505ad487c95c1d43a020b95a06ed16c30df7765ca6eb7c161a0f5cb04d3", func := "cotterel/cotterellaw12.PtePlaces", spec := "ptePlaces", apart := false }
def PtePlacesSaid : Prop := ptePlacesRow.holds Try.pinned (OpenSpec.ofChange ptePlacesSpec)

/-- ITS FALSE NEIGHBOUR: 'it returns false'. Refute it at one input. -/
def ptePlacesWrong : ChangeSpec := { name := "ptePlaces", fn := fun _ => fun
  | [d1, d2, d3] => { results := [.lit (.bool false)], args := [d1, d2, d3] }
  | _ => none }
def PtePlacesWrongFalsely : Prop := ptePlacesRow.holds Try.pinned (OpenSpec.ofChange ptePlacesWrong)

/-- 'cotterellaw12.PteBack': WHATEVER THE INPUT: true; the input reads as it did. -/
def pteBackSpec : ChangeSpec := { name := "pteBack", fn := fun _ => fun
  | [d1, d2] => { results := [.lit (.bool true)], args := [d1, d2] }
  | _ => none }
def pteBackRow : OpenClaim := { program := "ytmjgjojmnjpaoaa", sum := "d96e5505ad487c95c1d43a020b95a06ed16c30df7765ca6eb7c161a0f5cb04d3", func := "cotterel/cotterellaw12.PteBack", spec := "pteBack", apart := false }
def PteBackSaid : Prop := pteBackRow.holds Try.pinned (OpenSpec.ofChange pteBackSpec)

/-- ITS FALSE NEIGHBOUR: 'it returns false'. Refute it at one input. -/
def pteBackWrong : ChangeSpec := { name := "pteBack", fn := fun _ => fun
  | [d1, d2] => { results := [.lit (.bool false)], args := [d1, d2] }
  | _ => none }
def PteBackWrongFalsely : Prop := pteBackRow.holds Try.pinned (OpenSpec.ofChange pteBackWrong)

/-- 'cotterellaw12.PteMore': WHATEVER THE INPUT: true; the input reads as it did. -/
def pteMoreSpec : ChangeSpec := { name := "pteMore", fn := fun _ => fun
  | [d1, d2, d3] => { results := [.lit (.bool true)], args := [d1, d2, d3] }
  | _ => none }
def pteMoreRow : OpenClaim := { program := "ytmjgjojmnjpaoaa", sum := "d96e5505ad487c95c1d43a020b95a06ed16c30df7765ca6eb7c161a0f5cb04d3", func := "cotterel/cotterellaw12.PteMore", spec := "pteMore", apart := false }
def PteMoreSaid : Prop := pteMoreRow.holds Try.pinned (OpenSpec.ofChange pteMoreSpec)

/-- ITS FALSE NEIGHBOUR: 'it returns false'. Refute it at one input. -/
def pteMoreWrong : ChangeSpec := { name := "pteMore", fn := fun _ => fun
  | [d1, d2, d3] => { results := [.lit (.bool false)], args := [d1, d2, d3] }
  | _ => none }
def PteMoreWrongFalsely : Prop := pteMoreRow.holds Try.pinned (OpenSpec.ofChange pteMoreWrong)

/- THE SECOND FORM. 'bulk': how many values and letters a reading holds, each counted each time it is reached (what is shared counts as often as it is met; a slice's spare places count too). A statement '..UptoSaid' is the law's where the arguments, and the package variables that the reading takes, are together of bulk at most 1048576: NARROWER than '..Said'. Prove '..Said' where nothing that the law and all that it calls make is longer than what came in: it says more and counts as full. Else prove '..UptoSaid'. A law counts once. -/
mutual
def uptoBulk {H : Type} : DataW H → Nat
  | .lit (.string bytes) => bytes.length + 1
  | .lit _ => 1
  | .nil => 1
  | .ptr d => uptoBulk d + 1
  | .slice elems spare => uptoBulkAll elems + uptoBulkAll spare + 1
  | .agg parts => uptoBulkAll parts + 1
  | .iface _ d => uptoBulk d + 1
  | .map entries => uptoBulkEntries entries + 1
  | .held _ => 1
def uptoBulkAll {H : Type} : List (DataW H) → Nat
  | [] => 0
  | d :: r => uptoBulk d + uptoBulkAll r
def uptoBulkEntries {H : Type} : List (Lit × DataW H) → Nat
  | [] => 0
  | x :: r => uptoBulkEntry x + uptoBulkEntries r
def uptoBulkEntry {H : Type} : Lit × DataW H → Nat
  | (.string bytes, d) => bytes.length + uptoBulk d + 1
  | (_, d) => uptoBulk d + 1
 end
def uptoSmall : (H : Type) → List (DataW H) → Bool := fun _ ds => decide (uptoBulkAll ds ≤ 1048576)
def OpenSpec.upto (s : _root_.Go.ChangeSpec) : _root_.Go.OpenSpec := { _root_.Go.OpenSpec.ofChange s with cond := some uptoSmall }

/-- 'cotterellaw12.PteWords', WHERE WHAT IT READS IS OF BULK AT MOST 1048576: true; the input reads as it did. -/
def pteWordsUptoRow : OpenClaim := { program := "ytmjgjojmnjpaoaa", sum := "d96e5505ad487c95c1d43a020b95a06ed16c30df7765ca6eb7c161a0f5cb04d3", func := "cotterel/cotterellaw12.PteWords", spec := "pteWords", apart := false, narrowed := true }
def PteWordsUptoSaid : Prop := pteWordsUptoRow.holds Try.pinned (OpenSpec.upto pteWordsSpec)

/-- 'cotterellaw12.PteAllows', WHERE WHAT IT READS IS OF BULK AT MOST 1048576: true; the input reads as it did. -/
def pteAllowsUptoRow : OpenClaim := { program := "ytmjgjojmnjpaoaa", sum := "d96e5505ad487c95c1d43a020b95a06ed16c30df7765ca6eb7c161a0f5cb04d3", func := "cotterel/cotterellaw12.PteAllows", spec := "pteAllows", apart := false, narrowed := true }
def PteAllowsUptoSaid : Prop := pteAllowsUptoRow.holds Try.pinned (OpenSpec.upto pteAllowsSpec)

/-- 'cotterellaw12.PtePlaces', WHERE WHAT IT READS IS OF BULK AT MOST 1048576: true; the input reads as it did. -/
def ptePlacesUptoRow : OpenClaim := { program := "ytmjgjojmnjpaoaa", sum := "d96e5505ad487c95c1d43a020b95a06ed16c30df7765ca6eb7c161a0f5cb04d3", func := "cotterel/cotterellaw12.PtePlaces", spec := "ptePlaces", apart := false, narrowed := true }
def PtePlacesUptoSaid : Prop := ptePlacesUptoRow.holds Try.pinned (OpenSpec.upto ptePlacesSpec)

/-- 'cotterellaw12.PteBack', WHERE WHAT IT READS IS OF BULK AT MOST 1048576: true; the input reads as it did. -/
def pteBackUptoRow : OpenClaim := { program := "ytmjgjojmnjpaoaa", sum := "d96e5505ad487c95c1d43a020b95a06ed16c30df7765ca6eb7c161a0f5cb04d3", func := "cotterel/cotterellaw12.PteBack", spec := "pteBack", apart := false, narrowed := true }
def PteBackUptoSaid : Prop := pteBackUptoRow.holds Try.pinned (OpenSpec.upto pteBackSpec)

/-- 'cotterellaw12.PteMore', WHERE WHAT IT READS IS OF BULK AT MOST 1048576: true; the input reads as it did. -/
def pteMoreUptoRow : OpenClaim := { program := "ytmjgjojmnjpaoaa", sum := "d96e5505ad487c95c1d43a020b95a06ed16c30df7765ca6eb7c161a0f5cb04d3", func := "cotterel/cotterellaw12.PteMore", spec := "pteMore", apart := false, narrowed := true }
def PteMoreUptoSaid : Prop := pteMoreUptoRow.holds Try.pinned (OpenSpec.upto pteMoreSpec)

end Rows
end Go.Proofs.Ytmjgjojmnjpaoaa
