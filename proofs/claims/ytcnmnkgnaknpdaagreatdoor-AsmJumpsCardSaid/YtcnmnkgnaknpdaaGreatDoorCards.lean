/-
  DERIVED. GIVEN WITH THE SEED: THE CARDS: each row of YtcnmnkgnaknpdaaGreatDoorRows.lean that lists a variable, with what it lists TIED to the program's text (the seventh form; the later family's looks); each row that meets fmt, with fmt's text TOLD by the authors' own Lean function (tested against real Go, not proved from fmt's source: count such statements apart). THE CARD IS WHAT COUNTS. Prove the row's statement (the work); the ties are given (YtcnmnkgnaknpdaaGreatDoorTie.lean); close each card by the builder's one call (the guide's Derived/Test/ToyasCard.lean, 'card_holds'). Laid BY PROGRAM, IN A SANDBOX (cutbox-door.mjs). By AI agents, Wed Nov 11 2026. No macro, syntax, notation, axiom, sorry.
-/
import Derived.Test.YtcnmnkgnaknpdaaGreatDoorRows
import GoSem.ClaimSeven
namespace Go.Proofs.YtcnmnkgnaknpdaaGreatDoor
namespace Rows

/-- THE TIED CARD OF 'cotterellaw08.AsmPrograms'. -/
def asmProgramsCard : Claim7 := { stood := { row := asmProgramsRow, standIns := [], harness := (true, "7d8262f9f14966b1cfcbc27cd26aff574f1a72295ccd5ac5399edb7c3a1c3050"), looks := false }, kinds := [], alts := [], laidByText := true, laidKinds := [.data, .data, .data, .data], laidTests := true, laidLooks := .later }
def AsmProgramsCardSaid : Prop := Claim7.holds Tryz.pinned (.plain (OpenSpec.ofChange asmProgramsSpec)) asmProgramsCard

/-- THE TIED CARD OF 'cotterellaw08.AsmListing'. -/
def asmListingCard : Claim7 := { stood := { row := asmListingRow, standIns := [], harness := (true, "7d8262f9f14966b1cfcbc27cd26aff574f1a72295ccd5ac5399edb7c3a1c3050"), looks := false }, kinds := [], alts := [], laidByText := true, laidKinds := [.data, .data, .data, .data], laidTests := true, laidLooks := .later }
def AsmListingCardSaid : Prop := Claim7.holds Tryz.pinned (.plain (OpenSpec.ofChange asmListingSpec)) asmListingCard

/-- THE TIED CARD OF 'cotterellaw08.AsmInsts'. -/
def asmInstsCard : Claim7 := { stood := { row := asmInstsRow, standIns := [], harness := (true, "7d8262f9f14966b1cfcbc27cd26aff574f1a72295ccd5ac5399edb7c3a1c3050"), looks := false }, kinds := [], alts := [], laidByText := true, laidKinds := [.data, .data, .data, .data], laidTests := true, laidLooks := .later }
def AsmInstsCardSaid : Prop := Claim7.holds Tryz.pinned (.plain (OpenSpec.ofChange asmInstsSpec)) asmInstsCard

/-- THE TIED CARD OF 'cotterellaw08.AsmBytes'. -/
def asmBytesCard : Claim7 := { stood := { row := asmBytesRow, standIns := [], harness := (true, "7d8262f9f14966b1cfcbc27cd26aff574f1a72295ccd5ac5399edb7c3a1c3050"), looks := false }, kinds := [], alts := [], laidByText := true, laidKinds := [.data, .data, .data, .data], laidTests := true, laidLooks := .later }
def AsmBytesCardSaid : Prop := Claim7.holds Tryz.pinned (.plain (OpenSpec.ofChange asmBytesSpec)) asmBytesCard

/-- THE TIED CARD OF 'cotterellaw08.AsmJumps'. -/
def asmJumpsCard : Claim7 := { stood := { row := asmJumpsRow, standIns := [], harness := (true, "7d8262f9f14966b1cfcbc27cd26aff574f1a72295ccd5ac5399edb7c3a1c3050"), looks := false }, kinds := [], alts := [], laidByText := true, laidKinds := [.data, .data, .data, .data], laidTests := true, laidLooks := .later }
def AsmJumpsCardSaid : Prop := Claim7.holds Tryz.pinned (.plain (OpenSpec.ofChange asmJumpsSpec)) asmJumpsCard

/-- THE SECOND FORM's CARD OF 'cotterellaw08.AsmPrograms'. -/
def asmProgramsUptoCard : Claim7 := { stood := { row := asmProgramsUptoRow, standIns := [], harness := (true, "7d8262f9f14966b1cfcbc27cd26aff574f1a72295ccd5ac5399edb7c3a1c3050"), looks := false }, kinds := [], alts := [], laidByText := true, laidKinds := [.data, .data, .data, .data], laidTests := true, laidLooks := .later }
def AsmProgramsUptoCardSaid : Prop := Claim7.holds Tryz.pinned (.plain (OpenSpec.upto asmProgramsSpec)) asmProgramsUptoCard

/-- THE SECOND FORM's CARD OF 'cotterellaw08.AsmListing'. -/
def asmListingUptoCard : Claim7 := { stood := { row := asmListingUptoRow, standIns := [], harness := (true, "7d8262f9f14966b1cfcbc27cd26aff574f1a72295ccd5ac5399edb7c3a1c3050"), looks := false }, kinds := [], alts := [], laidByText := true, laidKinds := [.data, .data, .data, .data], laidTests := true, laidLooks := .later }
def AsmListingUptoCardSaid : Prop := Claim7.holds Tryz.pinned (.plain (OpenSpec.upto asmListingSpec)) asmListingUptoCard

/-- THE SECOND FORM's CARD OF 'cotterellaw08.AsmInsts'. -/
def asmInstsUptoCard : Claim7 := { stood := { row := asmInstsUptoRow, standIns := [], harness := (true, "7d8262f9f14966b1cfcbc27cd26aff574f1a72295ccd5ac5399edb7c3a1c3050"), looks := false }, kinds := [], alts := [], laidByText := true, laidKinds := [.data, .data, .data, .data], laidTests := true, laidLooks := .later }
def AsmInstsUptoCardSaid : Prop := Claim7.holds Tryz.pinned (.plain (OpenSpec.upto asmInstsSpec)) asmInstsUptoCard

/-- THE SECOND FORM's CARD OF 'cotterellaw08.AsmBytes'. -/
def asmBytesUptoCard : Claim7 := { stood := { row := asmBytesUptoRow, standIns := [], harness := (true, "7d8262f9f14966b1cfcbc27cd26aff574f1a72295ccd5ac5399edb7c3a1c3050"), looks := false }, kinds := [], alts := [], laidByText := true, laidKinds := [.data, .data, .data, .data], laidTests := true, laidLooks := .later }
def AsmBytesUptoCardSaid : Prop := Claim7.holds Tryz.pinned (.plain (OpenSpec.upto asmBytesSpec)) asmBytesUptoCard

/-- THE SECOND FORM's CARD OF 'cotterellaw08.AsmJumps'. -/
def asmJumpsUptoCard : Claim7 := { stood := { row := asmJumpsUptoRow, standIns := [], harness := (true, "7d8262f9f14966b1cfcbc27cd26aff574f1a72295ccd5ac5399edb7c3a1c3050"), looks := false }, kinds := [], alts := [], laidByText := true, laidKinds := [.data, .data, .data, .data], laidTests := true, laidLooks := .later }
def AsmJumpsUptoCardSaid : Prop := Claim7.holds Tryz.pinned (.plain (OpenSpec.upto asmJumpsSpec)) asmJumpsUptoCard
end Rows
end Go.Proofs.YtcnmnkgnaknpdaaGreatDoor
