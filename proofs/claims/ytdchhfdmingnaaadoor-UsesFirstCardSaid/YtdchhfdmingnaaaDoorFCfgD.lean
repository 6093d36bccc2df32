/- Layer 7: the blocks as a walk leaves them, one by one: the contract of the iterator. -/
import Derived.Test.YtdchhfdmingnaaaDoorFT1
import Derived.Scope
import Derived.ControlIn
import Derived.RangeFuncIn
import Derived.LoopNIn
namespace Go.Proofs.YtdchhfdmingnaaaDoor
open Go.RowKit
set_option linter.unusedVariables false
set_option linter.unusedSimpArgs false
attribute [local go_sem] Oper.semAt_some
def EndsAt (W : World) (g off n : Nat) (f : FuncD) : Prop := n = f.blocks.length ∧ g < W.heap.size ∧ ∀ k, k < n → ∃ la ln lc ma mn mc,
  W.cell? ⟨g, off + k * 8 + 2, none⟩ = some (.int .i64 (theEnd f k).K) ∧ W.cell? ⟨g, off + k * 8 + 3, none⟩ = some (.int .i64 (theEnd f k).A) ∧ W.cell? ⟨g, off + k * 8 + 4, none⟩ = some (.int .i64 (theEnd f k).To) ∧ W.cell? ⟨g, off + k * 8 + 5, none⟩ = some (.int .i64 (theEnd f k).Else) ∧
  W.cell? ⟨g, off + k * 8 + 6, none⟩ = some (.slice la ln lc) ∧ W.cell? ⟨g, off + k * 8 + 7, none⟩ = some (.slice ma mn mc)
theorem theEnd_at {f : FuncD} {k : Nat} (hk : k < f.blocks.length) : theEnd f k = f.blocks[k].fin := by
  unfold theEnd
  rw [List.getElem?_eq_getElem hk]
theorem EndsAt.block {W W' : World} {g off n : Nat} {f : FuncD} (h : EndsAt W g off n f) (hb : W'.heap[g]? = W.heap[g]?) (hg : g < W'.heap.size) : EndsAt W' g off n f := by
  obtain ⟨h1, h2, h3⟩ := h
  refine ⟨h1, hg, fun k hk => ?_⟩
  obtain ⟨la, ln, lc, ma, mn, mc, c2, c3, c4, c5, c6, c7⟩ := h3 k hk
  have e : ∀ j, W'.cell? ⟨g, j, none⟩ = W.cell? ⟨g, j, none⟩ := fun j => World.cell?_of_block hb
  exact ⟨la, ln, lc, ma, mn, mc, (e _).trans c2, (e _).trans c3, (e _).trans c4, (e _).trans c5, (e _).trans c6, (e _).trans c7⟩
theorem Lies.alloc {B : Nat} {t : TypeId} {W : World} (h : Lies B t W) (o : Obj) : Lies B t (W.alloc o) := (Owns.step (World.grownBy_alloc W o none) h (fun r e => by cases e)).2
end Go.Proofs.YtdchhfdmingnaaaDoor
