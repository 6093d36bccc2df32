/- Layer 5: the document's Same: whether two programs are one, in what plays a part. -/
import Derived.Test.YtdchhfdmingnaaaDoorFCodeSq
import Derived.BigQuiet
namespace Go.Proofs.YtdchhfdmingnaaaDoor
open Go.RowKit (wrap64 intOf Below)
set_option linter.unusedVariables false
set_option linter.unusedSimpArgs false
attribute [local go_sem ↓] Go.wp_at_zero Go.wp_at_succ
theorem SigQ.form {W : World} {cs : List Value} {y : SigD} (h : SigQ W cs y) : ∃ a n c, cs = [.slice a n c, .int .i64 y.ret] ∧ NumsAt W a n y.params ∧ n ≤ 140737488355328 := by
  obtain ⟨p, rfl, ⟨a, n, c, rfl, h1, _, h3, _⟩, _⟩ := h
  exact ⟨a, n, c, rfl, h1, by omega⟩
theorem ClassQ.form {W : World} {cs : List Value} {y : ClassD} (h : ClassQ W cs y) : ∃ a n c b m d, cs = [.slice a n c, .slice b m d] ∧ NumsAt W a n y.fields ∧ n ≤ 140737488355328 ∧ NumsAt W b m y.methods ∧ m ≤ 140737488355328 := by
  obtain ⟨p, q, rfl, ⟨a, n, c, rfl, h1, _, h3, _⟩, ⟨b, m, d, rfl, k1, _, k3, _⟩⟩ := h
  exact ⟨a, n, c, b, m, d, rfl, h1, by omega, k1, by omega⟩
theorem FuncQ.form {W : World} {cs : List Value} {y : FuncD} (h : FuncQ W cs y) : ∃ a n c, cs = [.int .i64 y.ret, .slice a n c] := by
  obtain ⟨b, rfl, _, a, n, c, rfl, _⟩ := h
  exact ⟨a, n, c, rfl⟩
end Go.Proofs.YtdchhfdmingnaaaDoor
