/-
  DERIVED. GIVEN WITH THE SEED: THE CARDS: each row of YtaojnljppcnhjaaGreatDoorRows.lean that lists a variable, with what it lists TIED to the program's text (the seventh form; the later family's looks); each row that meets fmt, with fmt's text TOLD by the authors' own Lean function (tested against real Go, not proved from fmt's source: count such statements apart). THE CARD IS WHAT COUNTS. Prove the row's statement (the work); the ties are given (YtaojnljppcnhjaaGreatDoorTie.lean); close each card by the builder's one call (the guide's Derived/Test/ToyasCard.lean, 'card_holds'). Laid BY PROGRAM, IN A SANDBOX (cutbox-door.mjs). By AI agents, Wed Nov 11 2026. No macro, syntax, notation, axiom, sorry.
-/
import Derived.Test.YtaojnljppcnhjaaGreatDoorRows
import GoSem.ClaimSeven
namespace Go.Proofs.YtaojnljppcnhjaaGreatDoor
namespace Rows

/-- THE TIED CARD OF 'constraintlaw13.SyntaxPrograms'. -/
def syntaxProgramsCard : Claim7 := { stood := { row := syntaxProgramsRow, standIns := [], harness := (true, "3fc2b3024182fb1fb525956b4c54cfdb03668552b00c3a45dc60a0bf7afba7cd"), looks := true }, kinds := [], alts := [], laidByText := true, laidKinds := [.data, .data, .data, .sentinel, .sentinel], laidTests := true, laidLooks := .later }
def SyntaxProgramsCardSaid : Prop := Claim7.holds Tryz.pinned (.plain (OpenSpec.ofChange syntaxProgramsSpec)) syntaxProgramsCard

/-- THE TIED CARD OF 'constraintlaw13.SyntaxRules'. -/
def syntaxRulesCard : Claim7 := { stood := { row := syntaxRulesRow, standIns := [], harness := (true, "3fc2b3024182fb1fb525956b4c54cfdb03668552b00c3a45dc60a0bf7afba7cd"), looks := true }, kinds := [], alts := [], laidByText := true, laidKinds := [.data, .data, .data, .sentinel, .sentinel], laidTests := true, laidLooks := .later }
def SyntaxRulesCardSaid : Prop := Claim7.holds Tryz.pinned (.plain (OpenSpec.ofChange syntaxRulesSpec)) syntaxRulesCard

/-- THE TIED CARD OF 'constraintlaw13.SyntaxGoals'. -/
def syntaxGoalsCard : Claim7 := { stood := { row := syntaxGoalsRow, standIns := [], harness := (true, "3fc2b3024182fb1fb525956b4c54cfdb03668552b00c3a45dc60a0bf7afba7cd"), looks := true }, kinds := [], alts := [], laidByText := true, laidKinds := [.data, .data, .data, .sentinel, .sentinel], laidTests := true, laidLooks := .later }
def SyntaxGoalsCardSaid : Prop := Claim7.holds Tryz.pinned (.plain (OpenSpec.ofChange syntaxGoalsSpec)) syntaxGoalsCard

/-- THE TIED CARD OF 'constraintlaw13.SyntaxValid'. -/
def syntaxValidCard : Claim7 := { stood := { row := syntaxValidRow, standIns := [], harness := (true, "3fc2b3024182fb1fb525956b4c54cfdb03668552b00c3a45dc60a0bf7afba7cd"), looks := true }, kinds := [], alts := [], laidByText := true, laidKinds := [.data, .data, .data, .sentinel, .sentinel], laidTests := true, laidLooks := .later }
def SyntaxValidCardSaid : Prop := Claim7.holds Tryz.pinned (.plain (OpenSpec.ofChange syntaxValidSpec)) syntaxValidCard

/-- THE TIED CARD OF 'constraintlaw13.SyntaxSpaces'. -/
def syntaxSpacesCard : Claim7 := { stood := { row := syntaxSpacesRow, standIns := [], harness := (true, "3fc2b3024182fb1fb525956b4c54cfdb03668552b00c3a45dc60a0bf7afba7cd"), looks := true }, kinds := [], alts := [], laidByText := true, laidKinds := [.data, .data, .data, .sentinel, .sentinel], laidTests := true, laidLooks := .later }
def SyntaxSpacesCardSaid : Prop := Claim7.holds Tryz.pinned (.plain (OpenSpec.ofChange syntaxSpacesSpec)) syntaxSpacesCard

/-- THE TIED CARD OF 'constraintlaw13.SyntaxAppends'. -/
def syntaxAppendsCard : Claim7 := { stood := { row := syntaxAppendsRow, standIns := [], harness := (true, "3fc2b3024182fb1fb525956b4c54cfdb03668552b00c3a45dc60a0bf7afba7cd"), looks := true }, kinds := [], alts := [], laidByText := true, laidKinds := [.data, .data, .data, .sentinel, .sentinel], laidTests := true, laidLooks := .later }
def SyntaxAppendsCardSaid : Prop := Claim7.holds Tryz.pinned (.plain (OpenSpec.ofChange syntaxAppendsSpec)) syntaxAppendsCard

/-- THE SECOND FORM's CARD OF 'constraintlaw13.SyntaxPrograms'. -/
def syntaxProgramsUptoCard : Claim7 := { stood := { row := syntaxProgramsUptoRow, standIns := [], harness := (true, "3fc2b3024182fb1fb525956b4c54cfdb03668552b00c3a45dc60a0bf7afba7cd"), looks := true }, kinds := [], alts := [], laidByText := true, laidKinds := [.data, .data, .data, .sentinel, .sentinel], laidTests := true, laidLooks := .later }
def SyntaxProgramsUptoCardSaid : Prop := Claim7.holds Tryz.pinned (.plain (OpenSpec.upto syntaxProgramsSpec)) syntaxProgramsUptoCard

/-- THE SECOND FORM's CARD OF 'constraintlaw13.SyntaxRules'. -/
def syntaxRulesUptoCard : Claim7 := { stood := { row := syntaxRulesUptoRow, standIns := [], harness := (true, "3fc2b3024182fb1fb525956b4c54cfdb03668552b00c3a45dc60a0bf7afba7cd"), looks := true }, kinds := [], alts := [], laidByText := true, laidKinds := [.data, .data, .data, .sentinel, .sentinel], laidTests := true, laidLooks := .later }
def SyntaxRulesUptoCardSaid : Prop := Claim7.holds Tryz.pinned (.plain (OpenSpec.upto syntaxRulesSpec)) syntaxRulesUptoCard

/-- THE SECOND FORM's CARD OF 'constraintlaw13.SyntaxGoals'. -/
def syntaxGoalsUptoCard : Claim7 := { stood := { row := syntaxGoalsUptoRow, standIns := [], harness := (true, "3fc2b3024182fb1fb525956b4c54cfdb03668552b00c3a45dc60a0bf7afba7cd"), looks := true }, kinds := [], alts := [], laidByText := true, laidKinds := [.data, .data, .data, .sentinel, .sentinel], laidTests := true, laidLooks := .later }
def SyntaxGoalsUptoCardSaid : Prop := Claim7.holds Tryz.pinned (.plain (OpenSpec.upto syntaxGoalsSpec)) syntaxGoalsUptoCard

/-- THE SECOND FORM's CARD OF 'constraintlaw13.SyntaxValid'. -/
def syntaxValidUptoCard : Claim7 := { stood := { row := syntaxValidUptoRow, standIns := [], harness := (true, "3fc2b3024182fb1fb525956b4c54cfdb03668552b00c3a45dc60a0bf7afba7cd"), looks := true }, kinds := [], alts := [], laidByText := true, laidKinds := [.data, .data, .data, .sentinel, .sentinel], laidTests := true, laidLooks := .later }
def SyntaxValidUptoCardSaid : Prop := Claim7.holds Tryz.pinned (.plain (OpenSpec.upto syntaxValidSpec)) syntaxValidUptoCard

/-- THE SECOND FORM's CARD OF 'constraintlaw13.SyntaxSpaces'. -/
def syntaxSpacesUptoCard : Claim7 := { stood := { row := syntaxSpacesUptoRow, standIns := [], harness := (true, "3fc2b3024182fb1fb525956b4c54cfdb03668552b00c3a45dc60a0bf7afba7cd"), looks := true }, kinds := [], alts := [], laidByText := true, laidKinds := [.data, .data, .data, .sentinel, .sentinel], laidTests := true, laidLooks := .later }
def SyntaxSpacesUptoCardSaid : Prop := Claim7.holds Tryz.pinned (.plain (OpenSpec.upto syntaxSpacesSpec)) syntaxSpacesUptoCard

/-- THE SECOND FORM's CARD OF 'constraintlaw13.SyntaxAppends'. -/
def syntaxAppendsUptoCard : Claim7 := { stood := { row := syntaxAppendsUptoRow, standIns := [], harness := (true, "3fc2b3024182fb1fb525956b4c54cfdb03668552b00c3a45dc60a0bf7afba7cd"), looks := true }, kinds := [], alts := [], laidByText := true, laidKinds := [.data, .data, .data, .sentinel, .sentinel], laidTests := true, laidLooks := .later }
def SyntaxAppendsUptoCardSaid : Prop := Claim7.holds Tryz.pinned (.plain (OpenSpec.upto syntaxAppendsSpec)) syntaxAppendsUptoCard
end Rows
end Go.Proofs.YtaojnljppcnhjaaGreatDoor
