/-
  DERIVED. GIVEN WITH THE SEED: THE CARDS: each row of YtdchhfdmingnaaaDoorRows.lean that lists a variable, with what it lists TIED to the program's text (the seventh form; the later family's looks); each row that meets fmt, with fmt's text TOLD by the authors' own Lean function (tested against real Go, not proved from fmt's source: count such statements apart). THE CARD IS WHAT COUNTS. Prove the row's statement (the work); the ties are given (YtdchhfdmingnaaaDoorTie.lean); close each card by the builder's one call (the guide's Derived/Test/ToyasCard.lean, 'card_holds'). Laid BY PROGRAM, IN A SANDBOX (cutbox-door.mjs). By AI agents, Wed Nov 11 2026. No macro, syntax, notation, axiom, sorry.
-/
import Derived.Test.YtdchhfdmingnaaaDoorRows
import GoSem.ClaimSeven
namespace Go.Proofs.YtdchhfdmingnaaaDoor
namespace Rows

/-- THE TIED CARD OF 'hallmarklaw13.UsesOf'. -/
def usesOfCard : Claim7 := { stood := { row := usesOfRow, standIns := [], harness := (true, "a03bef0e2373c6f3c82c80e402c7b2b15f91710ed7686b546a5313a13e2b5fed"), looks := false }, kinds := [], alts := [], laidByText := true, laidKinds := [.data], laidTests := true, laidLooks := .later }
def UsesOfCardSaid : Prop := Claim7.holds Tryd.pinned (.plain (OpenSpec.ofChange usesOfSpec)) usesOfCard

/-- THE TIED CARD OF 'hallmarklaw13.UsesNeeded'. -/
def usesNeededCard : Claim7 := { stood := { row := usesNeededRow, standIns := [], harness := (true, "a03bef0e2373c6f3c82c80e402c7b2b15f91710ed7686b546a5313a13e2b5fed"), looks := false }, kinds := [], alts := [], laidByText := true, laidKinds := [.data], laidTests := true, laidLooks := .later }
def UsesNeededCardSaid : Prop := Claim7.holds Tryd.pinned (.plain (OpenSpec.ofChange usesNeededSpec)) usesNeededCard

/-- THE TIED CARD OF 'hallmarklaw13.UsesAlong'. -/
def usesAlongCard : Claim7 := { stood := { row := usesAlongRow, standIns := [], harness := (true, "a03bef0e2373c6f3c82c80e402c7b2b15f91710ed7686b546a5313a13e2b5fed"), looks := false }, kinds := [], alts := [], laidByText := true, laidKinds := [.data], laidTests := true, laidLooks := .later }
def UsesAlongCardSaid : Prop := Claim7.holds Tryd.pinned (.plain (OpenSpec.ofChange usesAlongSpec)) usesAlongCard

/-- THE TIED CARD OF 'hallmarklaw13.UsesFirst'. -/
def usesFirstCard : Claim7 := { stood := { row := usesFirstRow, standIns := [], harness := (true, "a03bef0e2373c6f3c82c80e402c7b2b15f91710ed7686b546a5313a13e2b5fed"), looks := false }, kinds := [], alts := [], laidByText := true, laidKinds := [.data], laidTests := true, laidLooks := .later }
def UsesFirstCardSaid : Prop := Claim7.holds Tryd.pinned (.plain (OpenSpec.ofChange usesFirstSpec)) usesFirstCard

/-- THE SECOND FORM's CARD OF 'hallmarklaw13.UsesOf'. -/
def usesOfUptoCard : Claim7 := { stood := { row := usesOfUptoRow, standIns := [], harness := (true, "a03bef0e2373c6f3c82c80e402c7b2b15f91710ed7686b546a5313a13e2b5fed"), looks := false }, kinds := [], alts := [], laidByText := true, laidKinds := [.data], laidTests := true, laidLooks := .later }
def UsesOfUptoCardSaid : Prop := Claim7.holds Tryd.pinned (.plain (OpenSpec.upto usesOfSpec)) usesOfUptoCard

/-- THE SECOND FORM's CARD OF 'hallmarklaw13.UsesNeeded'. -/
def usesNeededUptoCard : Claim7 := { stood := { row := usesNeededUptoRow, standIns := [], harness := (true, "a03bef0e2373c6f3c82c80e402c7b2b15f91710ed7686b546a5313a13e2b5fed"), looks := false }, kinds := [], alts := [], laidByText := true, laidKinds := [.data], laidTests := true, laidLooks := .later }
def UsesNeededUptoCardSaid : Prop := Claim7.holds Tryd.pinned (.plain (OpenSpec.upto usesNeededSpec)) usesNeededUptoCard

/-- THE SECOND FORM's CARD OF 'hallmarklaw13.UsesAlong'. -/
def usesAlongUptoCard : Claim7 := { stood := { row := usesAlongUptoRow, standIns := [], harness := (true, "a03bef0e2373c6f3c82c80e402c7b2b15f91710ed7686b546a5313a13e2b5fed"), looks := false }, kinds := [], alts := [], laidByText := true, laidKinds := [.data], laidTests := true, laidLooks := .later }
def UsesAlongUptoCardSaid : Prop := Claim7.holds Tryd.pinned (.plain (OpenSpec.upto usesAlongSpec)) usesAlongUptoCard

/-- THE SECOND FORM's CARD OF 'hallmarklaw13.UsesFirst'. -/
def usesFirstUptoCard : Claim7 := { stood := { row := usesFirstUptoRow, standIns := [], harness := (true, "a03bef0e2373c6f3c82c80e402c7b2b15f91710ed7686b546a5313a13e2b5fed"), looks := false }, kinds := [], alts := [], laidByText := true, laidKinds := [.data], laidTests := true, laidLooks := .later }
def UsesFirstUptoCardSaid : Prop := Claim7.holds Tryd.pinned (.plain (OpenSpec.upto usesFirstSpec)) usesFirstUptoCard
end Rows
end Go.Proofs.YtdchhfdmingnaaaDoor
