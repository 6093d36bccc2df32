/-
  NARROWER THAN 'FOR EVERY INPUT', by the rows' own cells (each row's printed sentence says how): UsesOf: laid · UsesNeeded: laid · UsesAlong: laid · UsesFirst: laid.
  DERIVED. THE GIVEN ROWS OF THIS SEAT. 4 by the template 'for every input the law returns true; each argument reads behind the call as it read before'; 0 by the template 'total and deterministic' (their statements: YtdchhfdmingnaaaDoorTotals.lean).
  GIVEN WITH THE SEED: the statements are not yours to turn. If you find one false, say at which input.
  Laid BY PROGRAM, IN A SANDBOX (cutbox-rows.mjs): the forced cells as the released guide's own fill.sh prints them over the translation 5a265309f12b3737… (all of the seat's roots in one cut). By AI agents, Wed Nov 11 2026. No macro, syntax, notation, axiom, sorry.
-/
import Derived.Test.YtdchhfdmingnaaaDoorChecked
import GoSem.Claim
import GoSem.ClaimJoined
import GoSem.ClaimMapViews
import Derived.JoinedTies
import Derived.KernelRfl
namespace Go.Proofs.YtdchhfdmingnaaaDoor
/- THE CELL 'sum', in the pinned program and in every row, IS THE sha256 OF THE DUMP (.gsa) THAT YtdchhfdmingnaaaDoorProg.lean LOADS. Nothing in Lean hashes anything: it is a label: what it is worth is what the hold of that sum in a sandbox is worth. -/
noncomputable def Tryd.pinned : Pinned := { name := "ytdchhfdmingnaaadoor", sum := "5a265309f12b37377bd8b67edcc939c6ec1c08cbbb0c5d72f2e50e09c11c1623", checked := Tryd.checked }
namespace Rows
def none {H : Type} : Left H := { results := [], args := [] }

/- WHAT THE LISTED PACKAGE-LEVEL VARIABLES READ AS WHEN THE CALL BEGINS. Each datum BY PROGRAM (the guide's laid-datum.mjs) off the statement by which the dump's own 'gosem.cut.vars' lays the variable. In a bare row this is a premise. The card (YtdchhfdmingnaaaDoorCards.lean) ties it to the program's text. -/
def laid_hallmark_kind_fields {H : Type} : DataW H := .agg [.lit (.string [78]), .lit (.string [78]), .lit (.string [83]), .lit (.string [78, 65, 66]), .lit (.string [65]), .lit (.string [65, 66]), .lit (.string [65]), .lit (.string [65, 66]), .lit (.string [65, 66]), .lit (.string [78, 76, 75]), .lit (.string [78, 65]), .lit (.string [78, 65, 66]), .lit (.string [78, 75]), .lit (.string [65]), .lit (.string [65]), .lit (.string [65, 66]), .lit (.string [65, 66, 67]), .lit (.string [75]), .lit (.string [65, 66, 67]), .lit (.string [65, 66]), .lit (.string [65]), .lit (.string [65, 66]), .lit (.string [65]), .lit (.string [78, 76]), .lit (.string [78, 65, 76]), .lit (.string [65])]

/-- 'hallmarklaw13.UsesOf': WHATEVER THE INPUT: true; the input reads as it did. -/
def usesOfSpec : ChangeSpec := { name := "usesOf", fn := fun _ => fun
  | [d1, d2] => { results := [.lit (.bool true)], args := [d1, d2] }
  | _ => none }
def usesOfRow : OpenClaim := { program := "ytdchhfdmingnaaadoor", sum := "5a265309f12b37377bd8b67edcc939c6ec1c08cbbb0c5d72f2e50e09c11c1623", func := "hallmark/hallmarklaw13.UsesOf", spec := "usesOf", unfollowed := true, recurses := true, named := ["hallmark/kind.fields"], apart := false, laid := [("hallmark/kind.fields", laid_hallmark_kind_fields)] }
def UsesOfSaid : Prop := usesOfRow.holds Tryd.pinned (OpenSpec.ofChange usesOfSpec)

/-- ITS FALSE NEIGHBOUR: 'it returns false'. Refute it at one input. -/
def usesOfWrong : ChangeSpec := { name := "usesOf", fn := fun _ => fun
  | [d1, d2] => { results := [.lit (.bool false)], args := [d1, d2] }
  | _ => none }
def UsesOfWrongFalsely : Prop := usesOfRow.holds Tryd.pinned (OpenSpec.ofChange usesOfWrong)

/-- 'hallmarklaw13.UsesNeeded': WHATEVER THE INPUT: true; the input reads as it did. -/
def usesNeededSpec : ChangeSpec := { name := "usesNeeded", fn := fun _ => fun
  | [d1, d2] => { results := [.lit (.bool true)], args := [d1, d2] }
  | _ => none }
def usesNeededRow : OpenClaim := { program := "ytdchhfdmingnaaadoor", sum := "5a265309f12b37377bd8b67edcc939c6ec1c08cbbb0c5d72f2e50e09c11c1623", func := "hallmark/hallmarklaw13.UsesNeeded", spec := "usesNeeded", unfollowed := true, recurses := true, named := ["hallmark/kind.fields"], apart := false, laid := [("hallmark/kind.fields", laid_hallmark_kind_fields)] }
def UsesNeededSaid : Prop := usesNeededRow.holds Tryd.pinned (OpenSpec.ofChange usesNeededSpec)

/-- ITS FALSE NEIGHBOUR: 'it returns false'. Refute it at one input. -/
def usesNeededWrong : ChangeSpec := { name := "usesNeeded", fn := fun _ => fun
  | [d1, d2] => { results := [.lit (.bool false)], args := [d1, d2] }
  | _ => none }
def UsesNeededWrongFalsely : Prop := usesNeededRow.holds Tryd.pinned (OpenSpec.ofChange usesNeededWrong)

/-- 'hallmarklaw13.UsesAlong': WHATEVER THE INPUT: true; the input reads as it did. -/
def usesAlongSpec : ChangeSpec := { name := "usesAlong", fn := fun _ => fun
  | [d1, d2] => { results := [.lit (.bool true)], args := [d1, d2] }
  | _ => none }
def usesAlongRow : OpenClaim := { program := "ytdchhfdmingnaaadoor", sum := "5a265309f12b37377bd8b67edcc939c6ec1c08cbbb0c5d72f2e50e09c11c1623", func := "hallmark/hallmarklaw13.UsesAlong", spec := "usesAlong", unfollowed := true, recurses := true, named := ["hallmark/kind.fields"], apart := false, laid := [("hallmark/kind.fields", laid_hallmark_kind_fields)] }
def UsesAlongSaid : Prop := usesAlongRow.holds Tryd.pinned (OpenSpec.ofChange usesAlongSpec)

/-- ITS FALSE NEIGHBOUR: 'it returns false'. Refute it at one input. -/
def usesAlongWrong : ChangeSpec := { name := "usesAlong", fn := fun _ => fun
  | [d1, d2] => { results := [.lit (.bool false)], args := [d1, d2] }
  | _ => none }
def UsesAlongWrongFalsely : Prop := usesAlongRow.holds Tryd.pinned (OpenSpec.ofChange usesAlongWrong)

/-- 'hallmarklaw13.UsesFirst': WHATEVER THE INPUT: true; the input reads as it did. -/
def usesFirstSpec : ChangeSpec := { name := "usesFirst", fn := fun _ => fun
  | [d1, d2] => { results := [.lit (.bool true)], args := [d1, d2] }
  | _ => none }
def usesFirstRow : OpenClaim := { program := "ytdchhfdmingnaaadoor", sum := "5a265309f12b37377bd8b67edcc939c6ec1c08cbbb0c5d72f2e50e09c11c1623", func := "hallmark/hallmarklaw13.UsesFirst", spec := "usesFirst", unfollowed := true, recurses := true, named := ["hallmark/kind.fields"], apart := false, laid := [("hallmark/kind.fields", laid_hallmark_kind_fields)] }
def UsesFirstSaid : Prop := usesFirstRow.holds Tryd.pinned (OpenSpec.ofChange usesFirstSpec)

/-- ITS FALSE NEIGHBOUR: 'it returns false'. Refute it at one input. -/
def usesFirstWrong : ChangeSpec := { name := "usesFirst", fn := fun _ => fun
  | [d1, d2] => { results := [.lit (.bool false)], args := [d1, d2] }
  | _ => none }
def UsesFirstWrongFalsely : Prop := usesFirstRow.holds Tryd.pinned (OpenSpec.ofChange usesFirstWrong)

/- THE SECOND FORM. 'bulk': how many values and letters a reading holds, each counted each time it is reached (what is shared counts as often as it is met; a slice's spare places count too). A statement '..UptoSaid' is the law's where the arguments, and the package variables that the reading takes, are together of bulk at most 1048576: NARROWER than '..Said'. Prove '..Said' where nothing that the law and all that it calls make is longer than what came in: it says more and counts as full. Else prove '..UptoSaid'. A law counts once. -/
mutual
def uptoBulk {H : Type} : DataW H → Nat
  | .lit (.string bytes) => bytes.length + 1
  | .lit _ => 1
  | .nil => 1
  | .ptr d => uptoBulk d + 1
  | .slice elems spare => uptoBulkAll elems + uptoBulkAll spare + 1
  | .agg parts => uptoBulkAll parts + 1
  | .iface _ d => uptoBulk d + 1
  | .map entries => uptoBulkEntries entries + 1
  | .held _ => 1
def uptoBulkAll {H : Type} : List (DataW H) → Nat
  | [] => 0
  | d :: r => uptoBulk d + uptoBulkAll r
def uptoBulkEntries {H : Type} : List (Lit × DataW H) → Nat
  | [] => 0
  | x :: r => uptoBulkEntry x + uptoBulkEntries r
def uptoBulkEntry {H : Type} : Lit × DataW H → Nat
  | (.string bytes, d) => bytes.length + uptoBulk d + 1
  | (_, d) => uptoBulk d + 1
 end
def uptoSmall : (H : Type) → List (DataW H) → Bool := fun _ ds => decide (uptoBulkAll ds ≤ 1048576)
def OpenSpec.upto (s : _root_.Go.ChangeSpec) : _root_.Go.OpenSpec := { _root_.Go.OpenSpec.ofChange s with cond := some uptoSmall }

/-- 'hallmarklaw13.UsesOf', WHERE WHAT IT READS IS OF BULK AT MOST 1048576: true; the input reads as it did. -/
def usesOfUptoRow : OpenClaim := { program := "ytdchhfdmingnaaadoor", sum := "5a265309f12b37377bd8b67edcc939c6ec1c08cbbb0c5d72f2e50e09c11c1623", func := "hallmark/hallmarklaw13.UsesOf", spec := "usesOf", unfollowed := true, recurses := true, named := ["hallmark/kind.fields"], apart := false, laid := [("hallmark/kind.fields", laid_hallmark_kind_fields)], narrowed := true }
def UsesOfUptoSaid : Prop := usesOfUptoRow.holds Tryd.pinned (OpenSpec.upto usesOfSpec)

/-- 'hallmarklaw13.UsesNeeded', WHERE WHAT IT READS IS OF BULK AT MOST 1048576: true; the input reads as it did. -/
def usesNeededUptoRow : OpenClaim := { program := "ytdchhfdmingnaaadoor", sum := "5a265309f12b37377bd8b67edcc939c6ec1c08cbbb0c5d72f2e50e09c11c1623", func := "hallmark/hallmarklaw13.UsesNeeded", spec := "usesNeeded", unfollowed := true, recurses := true, named := ["hallmark/kind.fields"], apart := false, laid := [("hallmark/kind.fields", laid_hallmark_kind_fields)], narrowed := true }
def UsesNeededUptoSaid : Prop := usesNeededUptoRow.holds Tryd.pinned (OpenSpec.upto usesNeededSpec)

/-- 'hallmarklaw13.UsesAlong', WHERE WHAT IT READS IS OF BULK AT MOST 1048576: true; the input reads as it did. -/
def usesAlongUptoRow : OpenClaim := { program := "ytdchhfdmingnaaadoor", sum := "5a265309f12b37377bd8b67edcc939c6ec1c08cbbb0c5d72f2e50e09c11c1623", func := "hallmark/hallmarklaw13.UsesAlong", spec := "usesAlong", unfollowed := true, recurses := true, named := ["hallmark/kind.fields"], apart := false, laid := [("hallmark/kind.fields", laid_hallmark_kind_fields)], narrowed := true }
def UsesAlongUptoSaid : Prop := usesAlongUptoRow.holds Tryd.pinned (OpenSpec.upto usesAlongSpec)

/-- 'hallmarklaw13.UsesFirst', WHERE WHAT IT READS IS OF BULK AT MOST 1048576: true; the input reads as it did. -/
def usesFirstUptoRow : OpenClaim := { program := "ytdchhfdmingnaaadoor", sum := "5a265309f12b37377bd8b67edcc939c6ec1c08cbbb0c5d72f2e50e09c11c1623", func := "hallmark/hallmarklaw13.UsesFirst", spec := "usesFirst", unfollowed := true, recurses := true, named := ["hallmark/kind.fields"], apart := false, laid := [("hallmark/kind.fields", laid_hallmark_kind_fields)], narrowed := true }
def UsesFirstUptoSaid : Prop := usesFirstUptoRow.holds Tryd.pinned (OpenSpec.upto usesFirstSpec)

end Rows
end Go.Proofs.YtdchhfdmingnaaaDoor
