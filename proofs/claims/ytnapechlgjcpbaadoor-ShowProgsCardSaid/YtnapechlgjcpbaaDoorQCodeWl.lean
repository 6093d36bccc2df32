/- Layer 5: the walk's list, with a writer, at each type of what is listed (gen/wklist.py). -/
import Derived.Test.YtnapechlgjcpbaaDoorQCodeWk

namespace Go.Proofs.YtnapechlgjcpbaaDoor
open Go.RowKit (wrap64 intOf Below)
set_option linter.unusedVariables false

theorem all_len {α : Type} {f : α → Out} {ub : Nat} (hu : ∀ y, Upto (f y) ub) {xs : List α} {k : Nat} {l : List UInt8} (h : encAll f (xs.take k) = .ok l) : l.length ≤ k * ub := by
  refine Nat.le_trans (Upto.all _ (fun y _ => hu y) l h) ?_
  exact Nat.mul_le_mul_right _ (List.length_take_le _ _)

end Go.Proofs.YtnapechlgjcpbaaDoor
