/- Steps (api.Op) by value: what a walk needs of them; the statements' own copy of one (hallmarklaw04.own). -/
import Derived.Test.YtgncpiamokeohaaNumsMore
import Derived.Test.YtgncpiamokeohaaRows
import Derived.Lib.Hide
import Derived.Outline
import Derived.Deep.QuietTactic
import Derived.BigQuiet
import Derived.Handy
namespace Go.Proofs.Ytgncpiamokeohaa
open Go.RowKit (wrap64 intOf Below)
set_option linter.unusedVariables false

theorem bcell {W w1 : World} (hb : Below W.heap.size W w1) : (∀ b o, b < W.heap.size → w1.cell? ⟨b, o, none⟩ = W.cell? ⟨b, o, none⟩) ∧ (∀ b o, b < W.heap.size → w1.frozen? ⟨b, o, none⟩ = W.frozen? ⟨b, o, none⟩) :=
  ⟨fun b o h => hb.cell (p := ⟨b, o, none⟩) h, fun b o h => hb.frozen (p := ⟨b, o, none⟩) h⟩
theorem info_int : (Try.prog.info? 3).map (fun i => (i.zero, i.size, i.bytes)) = some (some (.int .i64 0), 1, 8) := by kernel_rfl

/-- Two blocks that were just laid, a third behind them, and what has grown since. -/
theorem cell_laid {w w2 : World} {C0 C1 C2 : Array Value} {t0 t1 t2 : TypeId} (hb : Below (w.heap.size + 2) (((w.alloc (.cells C0 t0)).alloc (.cells C1 t1)).alloc (.cells C2 t2)) w2) :
    (∀ j, w2.cell? ⟨w.heap.size, j, none⟩ = C0[j]?) ∧ (∀ j, w2.cell? ⟨w.heap.size + 1, j, none⟩ = C1[j]?) ∧ (∀ j, w2.frozen? ⟨w.heap.size, j, none⟩ = false) ∧ (∀ j, w2.frozen? ⟨w.heap.size + 1, j, none⟩ = false) := by
  refine ⟨fun j => ?_, fun j => ?_, fun j => ?_, fun j => ?_⟩
  · rw [hb.cell (p := ⟨w.heap.size, j, none⟩) (by simp), World.cell?_alloc_lt _ _ _ (by simp <;> omega), World.cell?_alloc_lt _ _ _ (by simp), World.cell?_alloc_mark]
  · have h1 : w.heap.size + 1 = (w.alloc (.cells C0 t0)).heap.size := by simp
    rw [hb.cell (p := ⟨w.heap.size + 1, j, none⟩) (by simp), World.cell?_alloc_lt _ _ _ (by simp), h1, World.cell?_alloc_mark]
  · rw [hb.frozen (p := ⟨w.heap.size, j, none⟩) (by simp), RowKit.frozen?_alloc_cells, RowKit.frozen?_alloc_cells, World.frozen?_alloc_at _ _ _ _ rfl]
  · rw [hb.frozen (p := ⟨w.heap.size + 1, j, none⟩) (by simp), RowKit.frozen?_alloc_cells, World.frozen?_alloc_at _ _ _ _ (by simp)]

end Go.Proofs.Ytgncpiamokeohaa
