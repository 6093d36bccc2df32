/-
  DERIVED. GIVEN WITH THE SEED: THE CARDS: each row of YthjdeoppajlcoaaGreatDoorRows.lean that lists a variable, with what it lists TIED to the program's text (the seventh form; the later family's looks); each row that meets fmt, with fmt's text TOLD by the authors' own Lean function (tested against real Go, not proved from fmt's source: count such statements apart). THE CARD IS WHAT COUNTS. Prove the row's statement (the work); the ties are given (YthjdeoppajlcoaaGreatDoorTie.lean); close each card by the builder's one call (the guide's Derived/Test/ToyasCard.lean, 'card_holds'). Laid BY PROGRAM, IN A SANDBOX (cutbox-door.mjs). By AI agents, Wed Nov 11 2026. No macro, syntax, notation, axiom, sorry.
-/
import Derived.Test.YthjdeoppajlcoaaGreatDoorRows
import GoSem.ClaimSeven
namespace Go.Proofs.YthjdeoppajlcoaaGreatDoor
namespace Rows

/-- THE TIED CARD OF 'hallmarklaw09.WellChecks'. -/
def wellChecksCard : Claim7 := { stood := { row := wellChecksRow, standIns := [], harness := (true, "c6e4a1df4d13658d9906113357cc60e01bc0a8e2671b1e7de58d4a8bf88aef56"), looks := true }, kinds := [], alts := [], laidByText := true, laidKinds := [.data], laidTests := true, laidLooks := .later }
def WellChecksCardSaid : Prop := Claim7.holds Tryz.pinned (.plain (OpenSpec.ofChange wellChecksSpec)) wellChecksCard

/-- THE TIED CARD OF 'hallmarklaw09.WellTypes'. -/
def wellTypesCard : Claim7 := { stood := { row := wellTypesRow, standIns := [], harness := (true, "c6e4a1df4d13658d9906113357cc60e01bc0a8e2671b1e7de58d4a8bf88aef56"), looks := true }, kinds := [], alts := [], laidByText := true, laidKinds := [.data], laidTests := true, laidLooks := .later }
def WellTypesCardSaid : Prop := Claim7.holds Tryz.pinned (.plain (OpenSpec.ofChange wellTypesSpec)) wellTypesCard

/-- THE TIED CARD OF 'hallmarklaw09.WellSees'. -/
def wellSeesCard : Claim7 := { stood := { row := wellSeesRow, standIns := [], harness := (true, "c6e4a1df4d13658d9906113357cc60e01bc0a8e2671b1e7de58d4a8bf88aef56"), looks := true }, kinds := [], alts := [], laidByText := true, laidKinds := [.data], laidTests := true, laidLooks := .later }
def WellSeesCardSaid : Prop := Claim7.holds Tryz.pinned (.plain (OpenSpec.ofChange wellSeesSpec)) wellSeesCard

/-- THE TIED CARD OF 'hallmarklaw09.WellUp'. -/
def wellUpCard : Claim7 := { stood := { row := wellUpRow, standIns := [], harness := (true, "c6e4a1df4d13658d9906113357cc60e01bc0a8e2671b1e7de58d4a8bf88aef56"), looks := true }, kinds := [], alts := [], laidByText := true, laidKinds := [.data], laidTests := true, laidLooks := .later }
def WellUpCardSaid : Prop := Claim7.holds Tryz.pinned (.plain (OpenSpec.ofChange wellUpSpec)) wellUpCard

/-- THE TIED CARD OF 'hallmarklaw09.WellBytes'. -/
def wellBytesCard : Claim7 := { stood := { row := wellBytesRow, standIns := [], harness := (true, "c6e4a1df4d13658d9906113357cc60e01bc0a8e2671b1e7de58d4a8bf88aef56"), looks := true }, kinds := [], alts := [], laidByText := true, laidKinds := [.data], laidTests := true, laidLooks := .later }
def WellBytesCardSaid : Prop := Claim7.holds Tryz.pinned (.plain (OpenSpec.ofChange wellBytesSpec)) wellBytesCard

/-- THE SECOND FORM's CARD OF 'hallmarklaw09.WellChecks'. -/
def wellChecksUptoCard : Claim7 := { stood := { row := wellChecksUptoRow, standIns := [], harness := (true, "c6e4a1df4d13658d9906113357cc60e01bc0a8e2671b1e7de58d4a8bf88aef56"), looks := true }, kinds := [], alts := [], laidByText := true, laidKinds := [.data], laidTests := true, laidLooks := .later }
def WellChecksUptoCardSaid : Prop := Claim7.holds Tryz.pinned (.plain (OpenSpec.upto wellChecksSpec)) wellChecksUptoCard

/-- THE SECOND FORM's CARD OF 'hallmarklaw09.WellTypes'. -/
def wellTypesUptoCard : Claim7 := { stood := { row := wellTypesUptoRow, standIns := [], harness := (true, "c6e4a1df4d13658d9906113357cc60e01bc0a8e2671b1e7de58d4a8bf88aef56"), looks := true }, kinds := [], alts := [], laidByText := true, laidKinds := [.data], laidTests := true, laidLooks := .later }
def WellTypesUptoCardSaid : Prop := Claim7.holds Tryz.pinned (.plain (OpenSpec.upto wellTypesSpec)) wellTypesUptoCard

/-- THE SECOND FORM's CARD OF 'hallmarklaw09.WellSees'. -/
def wellSeesUptoCard : Claim7 := { stood := { row := wellSeesUptoRow, standIns := [], harness := (true, "c6e4a1df4d13658d9906113357cc60e01bc0a8e2671b1e7de58d4a8bf88aef56"), looks := true }, kinds := [], alts := [], laidByText := true, laidKinds := [.data], laidTests := true, laidLooks := .later }
def WellSeesUptoCardSaid : Prop := Claim7.holds Tryz.pinned (.plain (OpenSpec.upto wellSeesSpec)) wellSeesUptoCard

/-- THE SECOND FORM's CARD OF 'hallmarklaw09.WellUp'. -/
def wellUpUptoCard : Claim7 := { stood := { row := wellUpUptoRow, standIns := [], harness := (true, "c6e4a1df4d13658d9906113357cc60e01bc0a8e2671b1e7de58d4a8bf88aef56"), looks := true }, kinds := [], alts := [], laidByText := true, laidKinds := [.data], laidTests := true, laidLooks := .later }
def WellUpUptoCardSaid : Prop := Claim7.holds Tryz.pinned (.plain (OpenSpec.upto wellUpSpec)) wellUpUptoCard

/-- THE SECOND FORM's CARD OF 'hallmarklaw09.WellBytes'. -/
def wellBytesUptoCard : Claim7 := { stood := { row := wellBytesUptoRow, standIns := [], harness := (true, "c6e4a1df4d13658d9906113357cc60e01bc0a8e2671b1e7de58d4a8bf88aef56"), looks := true }, kinds := [], alts := [], laidByText := true, laidKinds := [.data], laidTests := true, laidLooks := .later }
def WellBytesUptoCardSaid : Prop := Claim7.holds Tryz.pinned (.plain (OpenSpec.upto wellBytesSpec)) wellBytesUptoCard
end Rows
end Go.Proofs.YthjdeoppajlcoaaGreatDoor
