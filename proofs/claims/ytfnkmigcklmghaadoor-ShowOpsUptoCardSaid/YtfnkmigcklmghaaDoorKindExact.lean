/- Layer 4, P4.1: whether two steps are one (hallmarklaw04.exact), and the document's Plain, walked. -/
import Derived.Test.YtfnkmigcklmghaaDoorKindRef
namespace Go.Proofs.YtfnkmigcklmghaaDoor
open Go.RowKit (wrap64 intOf Below)
set_option linter.unusedVariables false

theorem sameB_self (Z : List Int) : sameB Z Z = true := by unfold sameB; simp
end Go.Proofs.YtfnkmigcklmghaaDoor
