/- Layer 5: Copy's lists (gen/cpeach.py). -/
import Derived.Test.YtnapechlgjcpbaaDoorQCodeCa
import Derived.Test.YtnapechlgjcpbaaDoorQT6

namespace Go.Proofs.YtnapechlgjcpbaaDoor
open Go.RowKit (wrap64 intOf Below)
set_option linter.unusedVariables false
set_option linter.unusedSimpArgs false
attribute [local go_sem ↓] Go.wp_at_zero Go.wp_at_succ

theorem info_block : (Tryd.prog.info? 48).map (fun i => (i.zero, i.size, i.bytes)) = some (some (.agg #[.slice none 0 0, .slice none 0 0, .int .i64 0, .int .i64 0, .int .i64 0, .int .i64 0, .slice none 0 0, .slice none 0 0]), 8, 128) := by kernel_rfl
/-- A list of the call's own comes back. -/
def EachblockPost (xs : List BlockD) (w : World) (e : Ending) (w' : World) : Prop := ∃ va vn vc, e = .returned (.slice va vn vc) ∧ RowO 48 8 BlockO w' (From w.heap.size) (.slice va vn vc) (xs.map plainBlock) ∧ Below w.heap.size w w'
def FuncPost (y : FuncD) (w : World) (e : Ending) (w' : World) : Prop := ∃ va vn vc, e = .returned (.agg #[.int .i64 y.ret, .slice va vn vc]) ∧ FuncO w' (From w.heap.size) [.int .i64 y.ret, .slice va vn vc] (plainFunc y) ∧ Below w.heap.size w w'
theorem info_func : (Tryd.prog.info? 34).map (fun i => (i.zero, i.size, i.bytes)) = some (some (.agg #[.int .i64 0, .slice none 0 0]), 2, 32) := by kernel_rfl
/-- A list of the call's own comes back. -/
def EachfuncPost (xs : List FuncD) (w : World) (e : Ending) (w' : World) : Prop := ∃ va vn vc, e = .returned (.slice va vn vc) ∧ RowO 34 2 FuncO w' (From w.heap.size) (.slice va vn vc) (xs.map plainFunc) ∧ Below w.heap.size w w'
/-- A program in memory of the call's own comes back. -/
def CopyPost (P : ProgD) (w : World) (e : Ending) (w' : World) : Prop :=
  ∃ b s c f, e = .returned (.pointer (some ⟨b, 0, none⟩)) ∧ w.heap.size ≤ b ∧ WinAt w' b 0 [s, c, f] ∧ ProgO w' (fun k => w.heap.size ≤ k ∧ k ≠ b) [s, c, f] P ∧ Below w.heap.size w w'
end Go.Proofs.YtnapechlgjcpbaaDoor
