/-
  NARROWER THAN 'FOR EVERY INPUT', by the rows' own cells (each row's printed sentence says how): WellChecks: laid · WellTypes: laid · WellSees: laid · WellUp: laid · WellBytes: laid.
  DERIVED. THE GIVEN ROWS OF THIS SEAT. 5 by the template 'for every input the law returns true; each argument reads behind the call as it read before'; 0 by the template 'total and deterministic' (their statements: YthjdeoppajlcoaaGreatDoorTotals.lean).
  GIVEN WITH THE SEED: the statements are not yours to turn. If you find one false, say at which input.
  Laid BY PROGRAM, IN A SANDBOX (cutbox-rows.mjs): the forced cells as the released guide's own fill.sh prints them over the translation 6f63e6103b436ccc… (all of the seat's roots in one cut). By AI agents, Wed Nov 11 2026. No macro, syntax, notation, axiom, sorry.
-/
import Derived.Test.YthjdeoppajlcoaaGreatDoorChecked
import GoSem.Claim
import GoSem.ClaimJoined
import GoSem.ClaimMapViews
import Derived.JoinedTies
import Derived.KernelRfl
namespace Go.Proofs.YthjdeoppajlcoaaGreatDoor
/- THE CELL 'sum', in the pinned program and in every row, IS THE sha256 OF THE DUMP (.gsa) THAT YthjdeoppajlcoaaGreatDoorProg.lean LOADS. Nothing in Lean hashes anything: it is a label: what it is worth is what the hold of that sum in a sandbox is worth. -/
noncomputable def Tryz.pinned : Pinned := { name := "ythjdeoppajlcoaagreatdoor", sum := "6f63e6103b436cccf86852fb672bac97fb4ad50a75eae2c9881b5b0e0e408299", checked := Tryz.checked }
namespace Rows
def none {H : Type} : Left H := { results := [], args := [] }

/- WHAT THE LISTED PACKAGE-LEVEL VARIABLES READ AS WHEN THE CALL BEGINS. Each datum BY PROGRAM (the guide's laid-datum.mjs) off the statement by which the dump's own 'gosem.cut.vars' lays the variable. In a bare row this is a premise. The card (YthjdeoppajlcoaaGreatDoorCards.lean) ties it to the program's text. -/
def laid_hallmark_kind_fields {H : Type} : DataW H := .agg [.lit (.string [78]), .lit (.string [78]), .lit (.string [83]), .lit (.string [78, 65, 66]), .lit (.string [65]), .lit (.string [65, 66]), .lit (.string [65]), .lit (.string [65, 66]), .lit (.string [65, 66]), .lit (.string [78, 76, 75]), .lit (.string [78, 65]), .lit (.string [78, 65, 66]), .lit (.string [78, 75]), .lit (.string [65]), .lit (.string [65]), .lit (.string [65, 66]), .lit (.string [65, 66, 67]), .lit (.string [75]), .lit (.string [65, 66, 67]), .lit (.string [65, 66]), .lit (.string [65]), .lit (.string [65, 66]), .lit (.string [65]), .lit (.string [78, 76]), .lit (.string [78, 65, 76]), .lit (.string [65])]

/-- 'hallmarklaw09.WellChecks': WHATEVER THE INPUT: true; the input reads as it did. -/
def wellChecksSpec : ChangeSpec := { name := "wellChecks", fn := fun _ => fun
  | [d] => { results := [.lit (.bool true)], args := [d] }
  | _ => none }
def wellChecksRow : OpenClaim := { program := "ythjdeoppajlcoaagreatdoor", sum := "6f63e6103b436cccf86852fb672bac97fb4ad50a75eae2c9881b5b0e0e408299", func := "hallmark/hallmarklaw09.WellChecks", spec := "wellChecks", unfollowed := true, recurses := true, named := ["hallmark/kind.fields"], apart := false, laid := [("hallmark/kind.fields", laid_hallmark_kind_fields)] }
def WellChecksSaid : Prop := wellChecksRow.holds Tryz.pinned (OpenSpec.ofChange wellChecksSpec)

/-- ITS FALSE NEIGHBOUR: 'it returns false'. Refute it at one input. -/
def wellChecksWrong : ChangeSpec := { name := "wellChecks", fn := fun _ => fun
  | [d] => { results := [.lit (.bool false)], args := [d] }
  | _ => none }
def WellChecksWrongFalsely : Prop := wellChecksRow.holds Tryz.pinned (OpenSpec.ofChange wellChecksWrong)

/-- 'hallmarklaw09.WellTypes': WHATEVER THE INPUT: true; the input reads as it did. -/
def wellTypesSpec : ChangeSpec := { name := "wellTypes", fn := fun _ => fun
  | [d1, d2] => { results := [.lit (.bool true)], args := [d1, d2] }
  | _ => none }
def wellTypesRow : OpenClaim := { program := "ythjdeoppajlcoaagreatdoor", sum := "6f63e6103b436cccf86852fb672bac97fb4ad50a75eae2c9881b5b0e0e408299", func := "hallmark/hallmarklaw09.WellTypes", spec := "wellTypes", unfollowed := true, recurses := true, named := ["hallmark/kind.fields"], apart := false, laid := [("hallmark/kind.fields", laid_hallmark_kind_fields)] }
def WellTypesSaid : Prop := wellTypesRow.holds Tryz.pinned (OpenSpec.ofChange wellTypesSpec)

/-- ITS FALSE NEIGHBOUR: 'it returns false'. Refute it at one input. -/
def wellTypesWrong : ChangeSpec := { name := "wellTypes", fn := fun _ => fun
  | [d1, d2] => { results := [.lit (.bool false)], args := [d1, d2] }
  | _ => none }
def WellTypesWrongFalsely : Prop := wellTypesRow.holds Tryz.pinned (OpenSpec.ofChange wellTypesWrong)

/-- 'hallmarklaw09.WellSees': WHATEVER THE INPUT: true; the input reads as it did. -/
def wellSeesSpec : ChangeSpec := { name := "wellSees", fn := fun _ => fun
  | [d1, d2, d3] => { results := [.lit (.bool true)], args := [d1, d2, d3] }
  | _ => none }
def wellSeesRow : OpenClaim := { program := "ythjdeoppajlcoaagreatdoor", sum := "6f63e6103b436cccf86852fb672bac97fb4ad50a75eae2c9881b5b0e0e408299", func := "hallmark/hallmarklaw09.WellSees", spec := "wellSees", unfollowed := true, recurses := true, named := ["hallmark/kind.fields"], apart := false, laid := [("hallmark/kind.fields", laid_hallmark_kind_fields)] }
def WellSeesSaid : Prop := wellSeesRow.holds Tryz.pinned (OpenSpec.ofChange wellSeesSpec)

/-- ITS FALSE NEIGHBOUR: 'it returns false'. Refute it at one input. -/
def wellSeesWrong : ChangeSpec := { name := "wellSees", fn := fun _ => fun
  | [d1, d2, d3] => { results := [.lit (.bool false)], args := [d1, d2, d3] }
  | _ => none }
def WellSeesWrongFalsely : Prop := wellSeesRow.holds Tryz.pinned (OpenSpec.ofChange wellSeesWrong)

/-- 'hallmarklaw09.WellUp': WHATEVER THE INPUT: true; the input reads as it did. -/
def wellUpSpec : ChangeSpec := { name := "wellUp", fn := fun _ => fun
  | [d1, d2, d3] => { results := [.lit (.bool true)], args := [d1, d2, d3] }
  | _ => none }
def wellUpRow : OpenClaim := { program := "ythjdeoppajlcoaagreatdoor", sum := "6f63e6103b436cccf86852fb672bac97fb4ad50a75eae2c9881b5b0e0e408299", func := "hallmark/hallmarklaw09.WellUp", spec := "wellUp", unfollowed := true, recurses := true, named := ["hallmark/kind.fields"], apart := false, laid := [("hallmark/kind.fields", laid_hallmark_kind_fields)] }
def WellUpSaid : Prop := wellUpRow.holds Tryz.pinned (OpenSpec.ofChange wellUpSpec)

/-- ITS FALSE NEIGHBOUR: 'it returns false'. Refute it at one input. -/
def wellUpWrong : ChangeSpec := { name := "wellUp", fn := fun _ => fun
  | [d1, d2, d3] => { results := [.lit (.bool false)], args := [d1, d2, d3] }
  | _ => none }
def WellUpWrongFalsely : Prop := wellUpRow.holds Tryz.pinned (OpenSpec.ofChange wellUpWrong)

/-- 'hallmarklaw09.WellBytes': WHATEVER THE INPUT: true; the input reads as it did. -/
def wellBytesSpec : ChangeSpec := { name := "wellBytes", fn := fun _ => fun
  | [d] => { results := [.lit (.bool true)], args := [d] }
  | _ => none }
def wellBytesRow : OpenClaim := { program := "ythjdeoppajlcoaagreatdoor", sum := "6f63e6103b436cccf86852fb672bac97fb4ad50a75eae2c9881b5b0e0e408299", func := "hallmark/hallmarklaw09.WellBytes", spec := "wellBytes", unfollowed := true, recurses := true, named := ["hallmark/kind.fields"], apart := false, laid := [("hallmark/kind.fields", laid_hallmark_kind_fields)] }
def WellBytesSaid : Prop := wellBytesRow.holds Tryz.pinned (OpenSpec.ofChange wellBytesSpec)

/-- ITS FALSE NEIGHBOUR: 'it returns false'. Refute it at one input. -/
def wellBytesWrong : ChangeSpec := { name := "wellBytes", fn := fun _ => fun
  | [d] => { results := [.lit (.bool false)], args := [d] }
  | _ => none }
def WellBytesWrongFalsely : Prop := wellBytesRow.holds Tryz.pinned (OpenSpec.ofChange wellBytesWrong)

/- THE SECOND FORM. 'bulk': how many values and letters a reading holds, each counted each time it is reached (what is shared counts as often as it is met; a slice's spare places count too). A statement '..UptoSaid' is the law's where the arguments, and the package variables that the reading takes, are together of bulk at most 1048576: NARROWER than '..Said'. Prove '..Said' where nothing that the law and all that it calls make is longer than what came in: it says more and counts as full. Else prove '..UptoSaid'. A law counts once. -/
mutual
def uptoBulk {H : Type} : DataW H → Nat
  | .lit (.string bytes) => bytes.length + 1
  | .lit _ => 1
  | .nil => 1
  | .ptr d => uptoBulk d + 1
  | .slice elems spare => uptoBulkAll elems + uptoBulkAll spare + 1
  | .agg parts => uptoBulkAll parts + 1
  | .iface _ d => uptoBulk d + 1
  | .map entries => uptoBulkEntries entries + 1
  | .held _ => 1
def uptoBulkAll {H : Type} : List (DataW H) → Nat
  | [] => 0
  | d :: r => uptoBulk d + uptoBulkAll r
def uptoBulkEntries {H : Type} : List (Lit × DataW H) → Nat
  | [] => 0
  | x :: r => uptoBulkEntry x + uptoBulkEntries r
def uptoBulkEntry {H : Type} : Lit × DataW H → Nat
  | (.string bytes, d) => bytes.length + uptoBulk d + 1
  | (_, d) => uptoBulk d + 1
 end
def uptoSmall : (H : Type) → List (DataW H) → Bool := fun _ ds => decide (uptoBulkAll ds ≤ 1048576)
def OpenSpec.upto (s : _root_.Go.ChangeSpec) : _root_.Go.OpenSpec := { _root_.Go.OpenSpec.ofChange s with cond := some uptoSmall }

/-- 'hallmarklaw09.WellChecks', WHERE WHAT IT READS IS OF BULK AT MOST 1048576: true; the input reads as it did. -/
def wellChecksUptoRow : OpenClaim := { program := "ythjdeoppajlcoaagreatdoor", sum := "6f63e6103b436cccf86852fb672bac97fb4ad50a75eae2c9881b5b0e0e408299", func := "hallmark/hallmarklaw09.WellChecks", spec := "wellChecks", unfollowed := true, recurses := true, named := ["hallmark/kind.fields"], apart := false, laid := [("hallmark/kind.fields", laid_hallmark_kind_fields)], narrowed := true }
def WellChecksUptoSaid : Prop := wellChecksUptoRow.holds Tryz.pinned (OpenSpec.upto wellChecksSpec)

/-- 'hallmarklaw09.WellTypes', WHERE WHAT IT READS IS OF BULK AT MOST 1048576: true; the input reads as it did. -/
def wellTypesUptoRow : OpenClaim := { program := "ythjdeoppajlcoaagreatdoor", sum := "6f63e6103b436cccf86852fb672bac97fb4ad50a75eae2c9881b5b0e0e408299", func := "hallmark/hallmarklaw09.WellTypes", spec := "wellTypes", unfollowed := true, recurses := true, named := ["hallmark/kind.fields"], apart := false, laid := [("hallmark/kind.fields", laid_hallmark_kind_fields)], narrowed := true }
def WellTypesUptoSaid : Prop := wellTypesUptoRow.holds Tryz.pinned (OpenSpec.upto wellTypesSpec)

/-- 'hallmarklaw09.WellSees', WHERE WHAT IT READS IS OF BULK AT MOST 1048576: true; the input reads as it did. -/
def wellSeesUptoRow : OpenClaim := { program := "ythjdeoppajlcoaagreatdoor", sum := "6f63e6103b436cccf86852fb672bac97fb4ad50a75eae2c9881b5b0e0e408299", func := "hallmark/hallmarklaw09.WellSees", spec := "wellSees", unfollowed := true, recurses := true, named := ["hallmark/kind.fields"], apart := false, laid := [("hallmark/kind.fields", laid_hallmark_kind_fields)], narrowed := true }
def WellSeesUptoSaid : Prop := wellSeesUptoRow.holds Tryz.pinned (OpenSpec.upto wellSeesSpec)

/-- 'hallmarklaw09.WellUp', WHERE WHAT IT READS IS OF BULK AT MOST 1048576: true; the input reads as it did. -/
def wellUpUptoRow : OpenClaim := { program := "ythjdeoppajlcoaagreatdoor", sum := "6f63e6103b436cccf86852fb672bac97fb4ad50a75eae2c9881b5b0e0e408299", func := "hallmark/hallmarklaw09.WellUp", spec := "wellUp", unfollowed := true, recurses := true, named := ["hallmark/kind.fields"], apart := false, laid := [("hallmark/kind.fields", laid_hallmark_kind_fields)], narrowed := true }
def WellUpUptoSaid : Prop := wellUpUptoRow.holds Tryz.pinned (OpenSpec.upto wellUpSpec)

/-- 'hallmarklaw09.WellBytes', WHERE WHAT IT READS IS OF BULK AT MOST 1048576: true; the input reads as it did. -/
def wellBytesUptoRow : OpenClaim := { program := "ythjdeoppajlcoaagreatdoor", sum := "6f63e6103b436cccf86852fb672bac97fb4ad50a75eae2c9881b5b0e0e408299", func := "hallmark/hallmarklaw09.WellBytes", spec := "wellBytes", unfollowed := true, recurses := true, named := ["hallmark/kind.fields"], apart := false, laid := [("hallmark/kind.fields", laid_hallmark_kind_fields)], narrowed := true }
def WellBytesUptoSaid : Prop := wellBytesUptoRow.holds Tryz.pinned (OpenSpec.upto wellBytesSpec)

end Rows
end Go.Proofs.YthjdeoppajlcoaaGreatDoor
