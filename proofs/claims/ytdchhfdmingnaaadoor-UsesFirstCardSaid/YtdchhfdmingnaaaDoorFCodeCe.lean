/- Layer 5: Copy's plain, of an end (written by a program). -/
import Derived.Test.YtdchhfdmingnaaaDoorFT2

namespace Go.Proofs.YtdchhfdmingnaaaDoor
open Go.RowKit (wrap64 intOf Below)
set_option linter.unusedVariables false
set_option linter.unusedSimpArgs false
attribute [local go_sem ↓] Go.wp_at_zero Go.wp_at_succ
theorem NumsO.none (w : World) (S : Nat → Prop) : NumsO w S (.slice none 0 0) [] := ⟨World.ownsRow_nil _ _ _ 1, (fun b h => by cases h), by decide, (fun z h => by cases h)⟩
theorem InR.zero : InR 0 := ⟨by decide, by decide⟩
end Go.Proofs.YtdchhfdmingnaaaDoor
