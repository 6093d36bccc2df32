/- Layer 5: Copy's lists (gen/cpeach.py). -/
import Derived.Test.YtnapechlgjcpbaaDoorQT5

namespace Go.Proofs.YtnapechlgjcpbaaDoor
open Go.RowKit (wrap64 intOf Below)
set_option linter.unusedVariables false
set_option linter.unusedSimpArgs false
attribute [local go_sem ↓] Go.wp_at_zero Go.wp_at_succ

theorem info_sig : (Tryd.prog.info? 41).map (fun i => (i.zero, i.size, i.bytes)) = some (some (.agg #[.slice none 0 0, .int .i64 0]), 2, 32) := by kernel_rfl
/-- A list of the call's own comes back. -/
def EachsigPost (xs : List SigD) (w : World) (e : Ending) (w' : World) : Prop := ∃ va vn vc, e = .returned (.slice va vn vc) ∧ RowO 41 2 SigO w' (From w.heap.size) (.slice va vn vc) (xs) ∧ Below w.heap.size w w'
theorem info_cls : (Tryd.prog.info? 43).map (fun i => (i.zero, i.size, i.bytes)) = some (some (.agg #[.slice none 0 0, .slice none 0 0]), 2, 48) := by kernel_rfl
/-- A list of the call's own comes back. -/
def EachclsPost (xs : List ClassD) (w : World) (e : Ending) (w' : World) : Prop := ∃ va vn vc, e = .returned (.slice va vn vc) ∧ RowO 43 2 ClassO w' (From w.heap.size) (.slice va vn vc) (xs) ∧ Below w.heap.size w w'
end Go.Proofs.YtnapechlgjcpbaaDoor
