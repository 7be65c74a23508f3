/-
  DERIVED. GIVEN WITH THE SEED: THE CARDS: each row of YtfeekgepmemanaaDoorRows.lean that lists a variable, with what it lists TIED to the program's text (the seventh form; the later family's looks); each row that meets fmt, with fmt's text TOLD by the authors' own Lean function (tested against real Go, not proved from fmt's source: count such statements apart). THE CARD IS WHAT COUNTS. Prove the row's statement (the work); the ties are given (YtfeekgepmemanaaDoorTie.lean); close each card by the builder's one call (the guide's Derived/Test/ToyasCard.lean, 'card_holds'). Laid BY PROGRAM, IN A SANDBOX (cutbox-door.mjs). By AI agents, Wed Nov 11 2026. No macro, syntax, notation, axiom, sorry.
-/
import Derived.Test.YtfeekgepmemanaaDoorRows
import GoSem.ClaimSeven
namespace Go.Proofs.YtfeekgepmemanaaDoor
namespace Rows

/-- THE TIED CARD OF 'cotterellaw02.NumDigits'. -/
def numDigitsCard : Claim7 := { stood := { row := numDigitsRow, standIns := [], harness := (true, "7ffd766120137cf33ff64f81cbf1baca11b8f9d7fe2a916a4f94025ffe63bd99"), looks := false }, kinds := [], alts := [], laidByText := true, laidKinds := [.data, .data, .data], laidTests := true, laidLooks := .later }
def NumDigitsCardSaid : Prop := Claim7.holds Tryd.pinned (.plain (OpenSpec.ofChange numDigitsSpec)) numDigitsCard

/-- THE TIED CARD OF 'cotterellaw02.NumParse'. -/
def numParseCard : Claim7 := { stood := { row := numParseRow, standIns := [], harness := (true, "7ffd766120137cf33ff64f81cbf1baca11b8f9d7fe2a916a4f94025ffe63bd99"), looks := false }, kinds := [], alts := [], laidByText := true, laidKinds := [.data, .data, .data], laidTests := true, laidLooks := .later }
def NumParseCardSaid : Prop := Claim7.holds Tryd.pinned (.plain (OpenSpec.ofChange numParseSpec)) numParseCard

/-- THE TIED CARD OF 'cotterellaw02.NumWords'. -/
def numWordsCard : Claim7 := { stood := { row := numWordsRow, standIns := [], harness := (true, "7ffd766120137cf33ff64f81cbf1baca11b8f9d7fe2a916a4f94025ffe63bd99"), looks := false }, kinds := [], alts := [], laidByText := true, laidKinds := [.data, .data, .data], laidTests := true, laidLooks := .later }
def NumWordsCardSaid : Prop := Claim7.holds Tryd.pinned (.plain (OpenSpec.ofChange numWordsSpec)) numWordsCard

/-- THE TIED CARD OF 'cotterellaw02.NumLines'. -/
def numLinesCard : Claim7 := { stood := { row := numLinesRow, standIns := [], harness := (true, "7ffd766120137cf33ff64f81cbf1baca11b8f9d7fe2a916a4f94025ffe63bd99"), looks := false }, kinds := [], alts := [], laidByText := true, laidKinds := [.data, .data, .data], laidTests := true, laidLooks := .later }
def NumLinesCardSaid : Prop := Claim7.holds Tryd.pinned (.plain (OpenSpec.ofChange numLinesSpec)) numLinesCard

/-- THE TIED CARD OF 'cotterellaw02.NumBack'. -/
def numBackCard : Claim7 := { stood := { row := numBackRow, standIns := [], harness := (true, "7ffd766120137cf33ff64f81cbf1baca11b8f9d7fe2a916a4f94025ffe63bd99"), looks := false }, kinds := [], alts := [], laidByText := true, laidKinds := [.data, .data, .data], laidTests := true, laidLooks := .later }
def NumBackCardSaid : Prop := Claim7.holds Tryd.pinned (.plain (OpenSpec.ofChange numBackSpec)) numBackCard

/-- THE TIED CARD OF 'cotterellaw02.NumJoined'. -/
def numJoinedCard : Claim7 := { stood := { row := numJoinedRow, standIns := [], harness := (true, "7ffd766120137cf33ff64f81cbf1baca11b8f9d7fe2a916a4f94025ffe63bd99"), looks := false }, kinds := [], alts := [], laidByText := true, laidKinds := [.data, .data, .data], laidTests := true, laidLooks := .later }
def NumJoinedCardSaid : Prop := Claim7.holds Tryd.pinned (.plain (OpenSpec.ofChange numJoinedSpec)) numJoinedCard

/-- THE SECOND FORM's CARD OF 'cotterellaw02.NumDigits'. -/
def numDigitsUptoCard : Claim7 := { stood := { row := numDigitsUptoRow, standIns := [], harness := (true, "7ffd766120137cf33ff64f81cbf1baca11b8f9d7fe2a916a4f94025ffe63bd99"), looks := false }, kinds := [], alts := [], laidByText := true, laidKinds := [.data, .data, .data], laidTests := true, laidLooks := .later }
def NumDigitsUptoCardSaid : Prop := Claim7.holds Tryd.pinned (.plain (OpenSpec.upto numDigitsSpec)) numDigitsUptoCard

/-- THE SECOND FORM's CARD OF 'cotterellaw02.NumParse'. -/
def numParseUptoCard : Claim7 := { stood := { row := numParseUptoRow, standIns := [], harness := (true, "7ffd766120137cf33ff64f81cbf1baca11b8f9d7fe2a916a4f94025ffe63bd99"), looks := false }, kinds := [], alts := [], laidByText := true, laidKinds := [.data, .data, .data], laidTests := true, laidLooks := .later }
def NumParseUptoCardSaid : Prop := Claim7.holds Tryd.pinned (.plain (OpenSpec.upto numParseSpec)) numParseUptoCard

/-- THE SECOND FORM's CARD OF 'cotterellaw02.NumWords'. -/
def numWordsUptoCard : Claim7 := { stood := { row := numWordsUptoRow, standIns := [], harness := (true, "7ffd766120137cf33ff64f81cbf1baca11b8f9d7fe2a916a4f94025ffe63bd99"), looks := false }, kinds := [], alts := [], laidByText := true, laidKinds := [.data, .data, .data], laidTests := true, laidLooks := .later }
def NumWordsUptoCardSaid : Prop := Claim7.holds Tryd.pinned (.plain (OpenSpec.upto numWordsSpec)) numWordsUptoCard

/-- THE SECOND FORM's CARD OF 'cotterellaw02.NumLines'. -/
def numLinesUptoCard : Claim7 := { stood := { row := numLinesUptoRow, standIns := [], harness := (true, "7ffd766120137cf33ff64f81cbf1baca11b8f9d7fe2a916a4f94025ffe63bd99"), looks := false }, kinds := [], alts := [], laidByText := true, laidKinds := [.data, .data, .data], laidTests := true, laidLooks := .later }
def NumLinesUptoCardSaid : Prop := Claim7.holds Tryd.pinned (.plain (OpenSpec.upto numLinesSpec)) numLinesUptoCard

/-- THE SECOND FORM's CARD OF 'cotterellaw02.NumBack'. -/
def numBackUptoCard : Claim7 := { stood := { row := numBackUptoRow, standIns := [], harness := (true, "7ffd766120137cf33ff64f81cbf1baca11b8f9d7fe2a916a4f94025ffe63bd99"), looks := false }, kinds := [], alts := [], laidByText := true, laidKinds := [.data, .data, .data], laidTests := true, laidLooks := .later }
def NumBackUptoCardSaid : Prop := Claim7.holds Tryd.pinned (.plain (OpenSpec.upto numBackSpec)) numBackUptoCard

/-- THE SECOND FORM's CARD OF 'cotterellaw02.NumJoined'. -/
def numJoinedUptoCard : Claim7 := { stood := { row := numJoinedUptoRow, standIns := [], harness := (true, "7ffd766120137cf33ff64f81cbf1baca11b8f9d7fe2a916a4f94025ffe63bd99"), looks := false }, kinds := [], alts := [], laidByText := true, laidKinds := [.data, .data, .data], laidTests := true, laidLooks := .later }
def NumJoinedUptoCardSaid : Prop := Claim7.holds Tryd.pinned (.plain (OpenSpec.upto numJoinedSpec)) numJoinedUptoCard
end Rows
end Go.Proofs.YtfeekgepmemanaaDoor
