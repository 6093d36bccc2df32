/- Layer 4, P4.2: the document's Flags, walked: what a step may do. -/
import Derived.Test.YtfnkmigcklmghaaDoorKindRef
namespace Go.Proofs.YtfnkmigcklmghaaDoor
open Go.RowKit (wrap64 intOf Below)
set_option linter.unusedVariables false

def FlagsPost (f : Int) (w : World) (e : Ending) (w' : World) : Prop := e = .returned (.int .i64 f) ∧ Below w.heap.size w w'
end Go.Proofs.YtfnkmigcklmghaaDoor
