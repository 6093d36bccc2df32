/- Layer 5: the walk's small calls, with a reader. -/
import Derived.Test.YtikoklagffbgiaaGreatDoorST2

namespace Go.Proofs.YtikoklagffbgiaaGreatDoor
set_option linter.unusedSimpArgs false
set_option linter.unusedVariables false
open Go.RowKit (wrap64 intOf Below Hid)
attribute [local go_sem ↓] Go.wp_at_zero Go.wp_at_succ
open Go.Lib (hid)
def rdTruth(L:List UInt8):PR Bool:=(rdBelow 2 L).bind fun n r=>.ok (n==1) r
end Go.Proofs.YtikoklagffbgiaaGreatDoor
