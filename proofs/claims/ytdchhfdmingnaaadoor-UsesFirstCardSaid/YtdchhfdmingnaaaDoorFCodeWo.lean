/- Layer 5: the walk's op, with a writer (gen/wkop.py). -/
import Derived.Test.YtdchhfdmingnaaaDoorFKindPlainW
import Derived.Test.YtdchhfdmingnaaaDoorFT2

namespace Go.Proofs.YtdchhfdmingnaaaDoor
open Go.RowKit (wrap64 intOf Below)
set_option linter.unusedVariables false
set_option linter.unusedSimpArgs false
attribute [local go_sem ↓] Go.wp_at_zero Go.wp_at_succ
theorem FT.off {X : Nat → Prop} {w w' : World} (h : FT w) (ho : Off X w w') (hx : ¬ X 0) : FT w' := fun k hk => by
  rw [ho.cell (p := ⟨0, k, none⟩) h.lt hx]; exact h k hk
end Go.Proofs.YtdchhfdmingnaaaDoor
