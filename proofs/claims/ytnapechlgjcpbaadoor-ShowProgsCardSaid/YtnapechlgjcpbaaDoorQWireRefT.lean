/- Layer 3, P3.1: the document's Take, walked: which number bytes begin with, or why none. -/
import Derived.Test.YtnapechlgjcpbaaDoorQWireTake

namespace Go.Proofs.YtnapechlgjcpbaaDoor
open Go.RowKit (wrap64 intOf Below)
set_option linter.unusedVariables false

theorem wrap_mul7 {c k p : Nat} (hp : p = 128 ^ k) (hk : k ≤ 9) (hb : k = 9 → c ≤ 1) : IntKind.u64.wrap ((c : Int) % 128 * (p : Int)) = (c : Int) % 128 * (p : Int) := by
  have e : ((c : Int) % 128 * (p : Int)) = ((c % 128 * 128 ^ k : Nat) : Int) := by rw [Int.natCast_mul, hp]; rfl
  have hj := joined_lt (z := 0) (c := c) (k := k) (pow_pos' k) hk hb
  unfold joined7 at hj
  rw [e, IntWalk.u64_in _ ⟨by omega, by omega⟩]
theorem wrap_add7 {z c k p : Nat} (hp : p = 128 ^ k) (hz : z < 128 ^ k) (hk : k ≤ 9) (hb : k = 9 → c ≤ 1) : IntKind.u64.wrap ((z : Int) + (c : Int) % 128 * (p : Int)) = (joined7 z c k : Int) := by
  have e : ((c : Int) % 128 * (p : Int)) = ((c % 128 * 128 ^ k : Nat) : Int) := by rw [Int.natCast_mul, hp]; rfl
  have hj := joined_lt (z := z) (c := c) (k := k) hz hk hb
  unfold joined7 at hj ⊢
  rw [e, IntWalk.u64_in _ ⟨by omega, by omega⟩]
  omega

end Go.Proofs.YtnapechlgjcpbaaDoor
