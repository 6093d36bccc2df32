/- Layer 5: the walk's small calls, with a writer. -/
import Derived.Test.YtnapechlgjcpbaaDoorQCodeWr

namespace Go.Proofs.YtnapechlgjcpbaaDoor
open Go.RowKit (wrap64 intOf Below)
set_option linter.unusedVariables false
attribute [local go_sem ↓] Go.wp_at_zero Go.wp_at_succ

/-- Behind a new block of the call's own. -/
theorem Off.behind {w w1 : World} {x : Nat} {v : Value} {o : Obj} (h : Off (WX x v) (w.alloc o) w1) : Off (WX x v) w w1 :=
  (Off.alloc (Off.refl _ _) o).trans h
theorem NewAt.behind {w : World} {v v' : Value} {o : Obj} (h : NewAt (w.alloc o) v v') : NewAt w v v' := fun k hk => (h k hk).imp id (fun h' => by simp at h'; omega)

end Go.Proofs.YtnapechlgjcpbaaDoor
