/- Layer 5: the walk's small calls, with a reader. -/
import Derived.Test.YtdchhfdmingnaaaDoorFT0
import Derived.Test.YtdchhfdmingnaaaDoorFT2

namespace Go.Proofs.YtdchhfdmingnaaaDoor
open Go.RowKit (wrap64 intOf Below)
set_option linter.unusedVariables false
set_option linter.unusedSimpArgs false
attribute [local go_sem ↓] Go.wp_at_zero Go.wp_at_succ
def rdTruth (L : List UInt8) : PR Bool := (rdBelow 2 L).bind fun n r => .ok (n == 1) r
end Go.Proofs.YtdchhfdmingnaaaDoor
