/- Steps (api.Op) by value: what a walk needs of them; the statements' own copy of one (hallmarklaw04.own). -/
import Derived.Test.YtgkcbaakdphigaaDoorNumsMore
import Derived.Test.YtgkcbaakdphigaaDoorRows
import Derived.Lib.Hide
import Derived.Outline
import Derived.Deep.QuietTactic
import Derived.BigQuiet
import Derived.Handy
namespace Go.Proofs.YtgkcbaakdphigaaDoor
open Go.RowKit (wrap64 intOf Below)
set_option linter.unusedVariables false

theorem bcell {W w1 : World} (hb : Below W.heap.size W w1) : (∀ b o, b < W.heap.size → w1.cell? ⟨b, o, none⟩ = W.cell? ⟨b, o, none⟩) ∧ (∀ b o, b < W.heap.size → w1.frozen? ⟨b, o, none⟩ = W.frozen? ⟨b, o, none⟩) :=
  ⟨fun b o h => hb.cell (p := ⟨b, o, none⟩) h, fun b o h => hb.frozen (p := ⟨b, o, none⟩) h⟩
theorem info_int : (Tryd.prog.info? 3).map (fun i => (i.zero, i.size, i.bytes)) = some (some (.int .i64 0), 1, 8) := by kernel_rfl

/-- Two blocks that were just laid, a third behind them, and what has grown since. -/
theorem cell_laid {w w2 : World} {C0 C1 C2 : Array Value} {t0 t1 t2 : TypeId} (hb : Below (w.heap.size + 2) (((w.alloc (.cells C0 t0)).alloc (.cells C1 t1)).alloc (.cells C2 t2)) w2) :
    (∀ j, w2.cell? ⟨w.heap.size, j, none⟩ = C0[j]?) ∧ (∀ j, w2.cell? ⟨w.heap.size + 1, j, none⟩ = C1[j]?) ∧ (∀ j, w2.frozen? ⟨w.heap.size, j, none⟩ = false) ∧ (∀ j, w2.frozen? ⟨w.heap.size + 1, j, none⟩ = false) := by
  refine ⟨fun j => ?_, fun j => ?_, fun j => ?_, fun j => ?_⟩
  · rw [hb.cell (p := ⟨w.heap.size, j, none⟩) (by simp), World.cell?_alloc_lt _ _ _ (by simp <;> omega), World.cell?_alloc_lt _ _ _ (by simp), World.cell?_alloc_mark]
  · have h1 : w.heap.size + 1 = (w.alloc (.cells C0 t0)).heap.size := by simp
    rw [hb.cell (p := ⟨w.heap.size + 1, j, none⟩) (by simp), World.cell?_alloc_lt _ _ _ (by simp), h1, World.cell?_alloc_mark]
  · rw [hb.frozen (p := ⟨w.heap.size, j, none⟩) (by simp), RowKit.frozen?_alloc_cells, RowKit.frozen?_alloc_cells, World.frozen?_alloc_at _ _ _ _ rfl]
  · rw [hb.frozen (p := ⟨w.heap.size + 1, j, none⟩) (by simp), RowKit.frozen?_alloc_cells, World.frozen?_alloc_at _ _ _ _ (by simp)]

set_option maxRecDepth 100000 in
theorem own_op (K A B C N : Int) (S : ByteArray) (la : Option Addr) (ln lc : Nat) (T : Bool) (L : List Int) (w : World) (hat : NumsAt w la ln L) (hnil : la = none → lc = 0) (hn : ln * 8 ≤ 140737488355328) :
    Calls Tryd.prog 9 #[.agg #[.int .i64 K, .int .i64 A, .int .i64 B, .int .i64 C, .int .i64 N, .string S, .slice la ln lc, .bool T]] w
      fun e w' => ∃ va vn vc, e = .returned (.agg #[.int .i64 K, .int .i64 A, .int .i64 B, .int .i64 C, .int .i64 N, .string S, .slice va vn vc, .bool T]) ∧ OwnsI w' w.heap.size 3 (.slice va vn vc) L ∧ Below w.heap.size w w' := by
  have HA := Lib.hid hat
  have HNIL := Lib.hid hnil
  clear hat hnil
  go_enter Tryd.func9, Tryd.ntmps9
  go_wp2_with (at_builtin; refine wpList_append_nums _ rfl _ _ 22 rfl 3 Tryd.underlying22 info_int (w.heap.size + 2) _ [] rfl (OwnsI.laid (by simp) (by omega)) (by simp <;> omega) la ln lc L rfl HNIL.out (HA.out.below ((((Below.refl w.heap.size w).alloc (Nat.le_refl _) _).alloc (by simp) _).alloc (by simp <;> omega) _) (Nat.le_refl _)) (by simpa using hn) ?_; intro va vn vc w2 hown hb; obtain ⟨hc0, hc1, hf0, hf1⟩ := cell_laid hb; have HO := Lib.hid hown; have HB := Lib.hid hb; have hz := hb.size; simp at hz; clear hown hb)
  refine bodyPost_ret (v := .agg #[.int .i64 K, .int .i64 A, .int .i64 B, .int .i64 C, .int .i64 N, .string S, .slice va vn vc, .bool T]) (by simp [results, Tryd.results9, go_sem, hc1]) rfl ⟨va, vn, vc, rfl, ?_, ?_⟩
  · have h := HO.out
    exact (((((((((h.setCell _ _ (by simp)).setCell _ _ (by simp)).setCell _ _ (by simp)).setCell _ _ (by simp)).setCell _ _ (by simp)).setCell _ _ (by simp)).setCell _ _ (by simp)).setCell _ _ (by simp)).setCell _ _ (by simp)).mono (by omega)
  · have h : Below w.heap.size w w2 := ((((Below.refl w.heap.size w).alloc (Nat.le_refl _) _).alloc (by simp) _).alloc (by simp <;> omega) _).trans (HB.out.mono (by omega))
    exact ((((((((h.setCell (by simp) _).setCell (by simp) _).setCell (by simp) _).setCell (by simp) _).setCell (by simp) _).setCell (by simp) _).setCell (by simp) _).setCell (by simp) _).setCell (by simp) _
end Go.Proofs.YtgkcbaakdphigaaDoor
