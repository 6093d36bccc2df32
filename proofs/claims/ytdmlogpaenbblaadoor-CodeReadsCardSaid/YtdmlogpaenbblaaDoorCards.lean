/-
  DERIVED. GIVEN WITH THE SEED: THE CARDS: each row of YtdmlogpaenbblaaDoorRows.lean that lists a variable, with what it lists TIED to the program's text (the seventh form; the later family's looks); each row that meets fmt, with fmt's text TOLD by the authors' own Lean function (tested against real Go, not proved from fmt's source: count such statements apart). THE CARD IS WHAT COUNTS. Prove the row's statement (the work); the ties are given (YtdmlogpaenbblaaDoorTie.lean); close each card by the builder's one call (the guide's Derived/Test/ToyasCard.lean, 'card_holds'). Laid BY PROGRAM, IN A SANDBOX (cutbox-door.mjs). By AI agents, Wed Nov 11 2026. No macro, syntax, notation, axiom, sorry.
-/
import Derived.Test.YtdmlogpaenbblaaDoorRows
import GoSem.ClaimSeven
namespace Go.Proofs.YtdmlogpaenbblaaDoor
namespace Rows

/-- THE TIED CARD OF 'hallmarklaw05.CodeWrites'. -/
def codeWritesCard : Claim7 := { stood := { row := codeWritesRow, standIns := [], harness := (true, "33a239f5608565ef2ab96b55f73f1f8d0d8b4651f7c5a6c9340b49d35eae8e91"), looks := true }, kinds := [], alts := [], laidByText := true, laidKinds := [.data], laidTests := true, laidLooks := .later }
def CodeWritesCardSaid : Prop := Claim7.holds Tryd.pinned (.plain (OpenSpec.ofChange codeWritesSpec)) codeWritesCard

/-- THE TIED CARD OF 'hallmarklaw05.CodeReads'. -/
def codeReadsCard : Claim7 := { stood := { row := codeReadsRow, standIns := [], harness := (true, "33a239f5608565ef2ab96b55f73f1f8d0d8b4651f7c5a6c9340b49d35eae8e91"), looks := true }, kinds := [], alts := [], laidByText := true, laidKinds := [.data], laidTests := true, laidLooks := .later }
def CodeReadsCardSaid : Prop := Claim7.holds Tryd.pinned (.plain (OpenSpec.ofChange codeReadsSpec)) codeReadsCard

/-- THE TIED CARD OF 'hallmarklaw05.CodeBack'. -/
def codeBackCard : Claim7 := { stood := { row := codeBackRow, standIns := [], harness := (true, "33a239f5608565ef2ab96b55f73f1f8d0d8b4651f7c5a6c9340b49d35eae8e91"), looks := true }, kinds := [], alts := [], laidByText := true, laidKinds := [.data], laidTests := true, laidLooks := .later }
def CodeBackCardSaid : Prop := Claim7.holds Tryd.pinned (.plain (OpenSpec.ofChange codeBackSpec)) codeBackCard

/-- THE TIED CARD OF 'hallmarklaw05.CodeCuts'. -/
def codeCutsCard : Claim7 := { stood := { row := codeCutsRow, standIns := [], harness := (true, "33a239f5608565ef2ab96b55f73f1f8d0d8b4651f7c5a6c9340b49d35eae8e91"), looks := true }, kinds := [], alts := [], laidByText := true, laidKinds := [.data], laidTests := true, laidLooks := .later }
def CodeCutsCardSaid : Prop := Claim7.holds Tryd.pinned (.plain (OpenSpec.ofChange codeCutsSpec)) codeCutsCard

/-- THE TIED CARD OF 'hallmarklaw05.CodeCopies'. -/
def codeCopiesCard : Claim7 := { stood := { row := codeCopiesRow, standIns := [], harness := (true, "33a239f5608565ef2ab96b55f73f1f8d0d8b4651f7c5a6c9340b49d35eae8e91"), looks := true }, kinds := [], alts := [], laidByText := true, laidKinds := [.data], laidTests := true, laidLooks := .later }
def CodeCopiesCardSaid : Prop := Claim7.holds Tryd.pinned (.plain (OpenSpec.ofChange codeCopiesSpec)) codeCopiesCard

/-- THE TIED CARD OF 'hallmarklaw05.CodeNumbers'. -/
def codeNumbersCard : Claim7 := { stood := { row := codeNumbersRow, standIns := [], harness := (true, "33a239f5608565ef2ab96b55f73f1f8d0d8b4651f7c5a6c9340b49d35eae8e91"), looks := true }, kinds := [], alts := [], laidByText := true, laidKinds := [.data], laidTests := true, laidLooks := .later }
def CodeNumbersCardSaid : Prop := Claim7.holds Tryd.pinned (.plain (OpenSpec.ofChange codeNumbersSpec)) codeNumbersCard

/-- THE TIED CARD OF 'hallmarklaw06.ShowOps'. -/
def showOpsCard : Claim7 := { stood := { row := showOpsRow, standIns := [], harness := (true, "33a239f5608565ef2ab96b55f73f1f8d0d8b4651f7c5a6c9340b49d35eae8e91"), looks := true }, kinds := [], alts := [], laidByText := true, laidKinds := [.data, .data, .data, .data, .data, .data], laidTests := true, laidLooks := .later }
def ShowOpsCardSaid : Prop := Claim7.holds Tryd.pinned (.plain (OpenSpec.ofChange showOpsSpec)) showOpsCard

/-- THE TIED CARD OF 'hallmarklaw06.ShowTypes'. -/
def showTypesCard : Claim7 := { stood := { row := showTypesRow, standIns := [], harness := (true, "33a239f5608565ef2ab96b55f73f1f8d0d8b4651f7c5a6c9340b49d35eae8e91"), looks := true }, kinds := [], alts := [], laidByText := true, laidKinds := [.data, .data, .data, .data, .data, .data, .data], laidTests := true, laidLooks := .later }
def ShowTypesCardSaid : Prop := Claim7.holds Tryd.pinned (.plain (OpenSpec.ofChange showTypesSpec)) showTypesCard

/-- THE TIED CARD OF 'hallmarklaw06.ShowProgs'. -/
def showProgsCard : Claim7 := { stood := { row := showProgsRow, standIns := [], harness := (true, "33a239f5608565ef2ab96b55f73f1f8d0d8b4651f7c5a6c9340b49d35eae8e91"), looks := true }, kinds := [], alts := [], laidByText := true, laidKinds := [.data, .data, .data, .data, .data, .data, .data], laidTests := true, laidLooks := .later }
def ShowProgsCardSaid : Prop := Claim7.holds Tryd.pinned (.plain (OpenSpec.ofChange showProgsSpec)) showProgsCard

/-- THE TIED CARD OF 'hallmarklaw06.ShowApart'. -/
def showApartCard : Claim7 := { stood := { row := showApartRow, standIns := [], harness := (true, "33a239f5608565ef2ab96b55f73f1f8d0d8b4651f7c5a6c9340b49d35eae8e91"), looks := true }, kinds := [], alts := [], laidByText := true, laidKinds := [.data, .data, .data, .data, .data, .data, .data], laidTests := true, laidLooks := .later }
def ShowApartCardSaid : Prop := Claim7.holds Tryd.pinned (.plain (OpenSpec.ofChange showApartSpec)) showApartCard

/-- THE SECOND FORM's CARD OF 'hallmarklaw05.CodeWrites'. -/
def codeWritesUptoCard : Claim7 := { stood := { row := codeWritesUptoRow, standIns := [], harness := (true, "33a239f5608565ef2ab96b55f73f1f8d0d8b4651f7c5a6c9340b49d35eae8e91"), looks := true }, kinds := [], alts := [], laidByText := true, laidKinds := [.data], laidTests := true, laidLooks := .later }
def CodeWritesUptoCardSaid : Prop := Claim7.holds Tryd.pinned (.plain (OpenSpec.upto codeWritesSpec)) codeWritesUptoCard

/-- THE SECOND FORM's CARD OF 'hallmarklaw05.CodeReads'. -/
def codeReadsUptoCard : Claim7 := { stood := { row := codeReadsUptoRow, standIns := [], harness := (true, "33a239f5608565ef2ab96b55f73f1f8d0d8b4651f7c5a6c9340b49d35eae8e91"), looks := true }, kinds := [], alts := [], laidByText := true, laidKinds := [.data], laidTests := true, laidLooks := .later }
def CodeReadsUptoCardSaid : Prop := Claim7.holds Tryd.pinned (.plain (OpenSpec.upto codeReadsSpec)) codeReadsUptoCard

/-- THE SECOND FORM's CARD OF 'hallmarklaw05.CodeBack'. -/
def codeBackUptoCard : Claim7 := { stood := { row := codeBackUptoRow, standIns := [], harness := (true, "33a239f5608565ef2ab96b55f73f1f8d0d8b4651f7c5a6c9340b49d35eae8e91"), looks := true }, kinds := [], alts := [], laidByText := true, laidKinds := [.data], laidTests := true, laidLooks := .later }
def CodeBackUptoCardSaid : Prop := Claim7.holds Tryd.pinned (.plain (OpenSpec.upto codeBackSpec)) codeBackUptoCard

/-- THE SECOND FORM's CARD OF 'hallmarklaw05.CodeCuts'. -/
def codeCutsUptoCard : Claim7 := { stood := { row := codeCutsUptoRow, standIns := [], harness := (true, "33a239f5608565ef2ab96b55f73f1f8d0d8b4651f7c5a6c9340b49d35eae8e91"), looks := true }, kinds := [], alts := [], laidByText := true, laidKinds := [.data], laidTests := true, laidLooks := .later }
def CodeCutsUptoCardSaid : Prop := Claim7.holds Tryd.pinned (.plain (OpenSpec.upto codeCutsSpec)) codeCutsUptoCard

/-- THE SECOND FORM's CARD OF 'hallmarklaw05.CodeCopies'. -/
def codeCopiesUptoCard : Claim7 := { stood := { row := codeCopiesUptoRow, standIns := [], harness := (true, "33a239f5608565ef2ab96b55f73f1f8d0d8b4651f7c5a6c9340b49d35eae8e91"), looks := true }, kinds := [], alts := [], laidByText := true, laidKinds := [.data], laidTests := true, laidLooks := .later }
def CodeCopiesUptoCardSaid : Prop := Claim7.holds Tryd.pinned (.plain (OpenSpec.upto codeCopiesSpec)) codeCopiesUptoCard

/-- THE SECOND FORM's CARD OF 'hallmarklaw05.CodeNumbers'. -/
def codeNumbersUptoCard : Claim7 := { stood := { row := codeNumbersUptoRow, standIns := [], harness := (true, "33a239f5608565ef2ab96b55f73f1f8d0d8b4651f7c5a6c9340b49d35eae8e91"), looks := true }, kinds := [], alts := [], laidByText := true, laidKinds := [.data], laidTests := true, laidLooks := .later }
def CodeNumbersUptoCardSaid : Prop := Claim7.holds Tryd.pinned (.plain (OpenSpec.upto codeNumbersSpec)) codeNumbersUptoCard

/-- THE SECOND FORM's CARD OF 'hallmarklaw06.ShowOps'. -/
def showOpsUptoCard : Claim7 := { stood := { row := showOpsUptoRow, standIns := [], harness := (true, "33a239f5608565ef2ab96b55f73f1f8d0d8b4651f7c5a6c9340b49d35eae8e91"), looks := true }, kinds := [], alts := [], laidByText := true, laidKinds := [.data, .data, .data, .data, .data, .data], laidTests := true, laidLooks := .later }
def ShowOpsUptoCardSaid : Prop := Claim7.holds Tryd.pinned (.plain (OpenSpec.upto showOpsSpec)) showOpsUptoCard

/-- THE SECOND FORM's CARD OF 'hallmarklaw06.ShowTypes'. -/
def showTypesUptoCard : Claim7 := { stood := { row := showTypesUptoRow, standIns := [], harness := (true, "33a239f5608565ef2ab96b55f73f1f8d0d8b4651f7c5a6c9340b49d35eae8e91"), looks := true }, kinds := [], alts := [], laidByText := true, laidKinds := [.data, .data, .data, .data, .data, .data, .data], laidTests := true, laidLooks := .later }
def ShowTypesUptoCardSaid : Prop := Claim7.holds Tryd.pinned (.plain (OpenSpec.upto showTypesSpec)) showTypesUptoCard

/-- THE SECOND FORM's CARD OF 'hallmarklaw06.ShowProgs'. -/
def showProgsUptoCard : Claim7 := { stood := { row := showProgsUptoRow, standIns := [], harness := (true, "33a239f5608565ef2ab96b55f73f1f8d0d8b4651f7c5a6c9340b49d35eae8e91"), looks := true }, kinds := [], alts := [], laidByText := true, laidKinds := [.data, .data, .data, .data, .data, .data, .data], laidTests := true, laidLooks := .later }
def ShowProgsUptoCardSaid : Prop := Claim7.holds Tryd.pinned (.plain (OpenSpec.upto showProgsSpec)) showProgsUptoCard

/-- THE SECOND FORM's CARD OF 'hallmarklaw06.ShowApart'. -/
def showApartUptoCard : Claim7 := { stood := { row := showApartUptoRow, standIns := [], harness := (true, "33a239f5608565ef2ab96b55f73f1f8d0d8b4651f7c5a6c9340b49d35eae8e91"), looks := true }, kinds := [], alts := [], laidByText := true, laidKinds := [.data, .data, .data, .data, .data, .data, .data], laidTests := true, laidLooks := .later }
def ShowApartUptoCardSaid : Prop := Claim7.holds Tryd.pinned (.plain (OpenSpec.upto showApartSpec)) showApartUptoCard
end Rows
end Go.Proofs.YtdmlogpaenbblaaDoor
