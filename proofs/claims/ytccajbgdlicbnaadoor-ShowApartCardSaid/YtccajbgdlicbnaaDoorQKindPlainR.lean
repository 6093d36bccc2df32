/- Layer 4, P4.1: the document's Plain, walked: a step without the fields that play no part. -/
import Derived.Test.YtccajbgdlicbnaaDoorQT1

namespace Go.Proofs.YtccajbgdlicbnaaDoor
open Go.RowKit (wrap64 intOf Below)
set_option linter.unusedVariables false

def PlainPost (K A B C N : Int) (S : ByteArray) (T : Bool) (L : List Int) (w : World) (e : Ending) (w' : World) : Prop :=
  ∃ va vn vc, e = .returned (.agg #[.int .i64 K, .int .i64 (pickI (hasB K 65) A), .int .i64 (pickI (hasB K 66) B), .int .i64 (pickI (hasB K 67) C), .int .i64 (pickI (hasB K 78) N), .string (pickS (hasB K 83) S), .slice va vn vc, .bool (hasB K 75 && T)]) ∧
    OwnsI w' w.heap.size 3 (.slice va vn vc) (pickL (hasB K 76) L) ∧ Below w.heap.size w w'

set_option maxRecDepth 100000 in
set_option maxHeartbeats 4000000 in
theorem plain_short (K A B C N : Int) (S : ByteArray) (la : Option Addr) (ln lc : Nat) (T : Bool) (L : List Int) (w : World) (h : hasB K 76 = false) :
    Calls Tryd.prog 67 #[.agg #[.int .i64 K, .int .i64 A, .int .i64 B, .int .i64 C, .int .i64 N, .string S, .slice la ln lc, .bool T]] w (PlainPost K A B C N S T L w) := by
  have hg := groups K
  rw [h] at hg
  simp only [List.mem_cons, List.not_mem_nil, or_false, Prod.mk.injEq, Bool.false_eq_true, false_and, and_false, false_or, true_and] at hg
  have HP : RowKit.Hid (pickL (hasB K 76) L = []) := Lib.hid (by rw [h]; rfl)
  rcases hg with h | h | h | h | h | h | h | h | h | h
  all_goals
    obtain ⟨hN, hS, hA, hB, hC, hK⟩ := h
    go_enter Tryd.func67, Tryd.ntmps67
    go_wp2_with (go_at_call 43; (with_reducible (first | refine (has_N K _).mono ?_ | refine (has_S K _).mono ?_ | refine (has_A K _).mono ?_ | refine (has_B K _).mono ?_ | refine (has_C K _).mono ?_ | refine (has_L K _).mono ?_ | refine (has_K K _).mono ?_)); rintro e w' ⟨rfl, rfl⟩)
    refine bodyPost_ret (v := .agg #[.int .i64 K, .int .i64 (pickI (hasB K 65) A), .int .i64 (pickI (hasB K 66) B), .int .i64 (pickI (hasB K 67) C), .int .i64 (pickI (hasB K 78) N), .string (pickS (hasB K 83) S), .slice none 0 0, .bool (hasB K 75 && T)]) (by simp [results, Tryd.results67, go_sem, hN, hS, hA, hB, hC, hK, pickI, pickS]) rfl ⟨none, 0, 0, rfl, ?_, ?_⟩
    · rw [HP.out]
      exact World.ownsRow_nil _ _ _ 1
    · exact (((Below.refl _ _).alloc (Nat.le_refl _) _).alloc (by simp) _).alloc (by simp <;> omega) _

/-- Three blocks that were just laid, a fourth behind them, and what has grown since. -/
theorem cell_laid3 {w w2 : World} {C0 C1 C2 C3 : Array Value} {t0 t1 t2 t3 : TypeId} (hb : Below (w.heap.size + 3) ((((w.alloc (.cells C0 t0)).alloc (.cells C1 t1)).alloc (.cells C2 t2)).alloc (.cells C3 t3)) w2) :
    (∀ j, w2.cell? ⟨w.heap.size, j, none⟩ = C0[j]?) ∧ (∀ j, w2.cell? ⟨w.heap.size + 1, j, none⟩ = C1[j]?) ∧ (∀ j, w2.cell? ⟨w.heap.size + 1 + 1, j, none⟩ = C2[j]?) ∧
    (∀ j, w2.frozen? ⟨w.heap.size, j, none⟩ = false) ∧ (∀ j, w2.frozen? ⟨w.heap.size + 1, j, none⟩ = false) ∧ (∀ j, w2.frozen? ⟨w.heap.size + 1 + 1, j, none⟩ = false) := by
  refine ⟨fun j => ?_, fun j => ?_, fun j => ?_, fun j => ?_, fun j => ?_, fun j => ?_⟩
  · rw [hb.cell (p := ⟨w.heap.size, j, none⟩) (by simp), World.cell?_alloc_lt _ _ _ (by simp <;> omega), World.cell?_alloc_lt _ _ _ (by simp <;> omega), World.cell?_alloc_lt _ _ _ (by simp), World.cell?_alloc_mark]
  · have h1 : w.heap.size + 1 = (w.alloc (.cells C0 t0)).heap.size := by simp
    rw [hb.cell (p := ⟨w.heap.size + 1, j, none⟩) (by simp), World.cell?_alloc_lt _ _ _ (by simp), World.cell?_alloc_lt _ _ _ (by simp), h1, World.cell?_alloc_mark]
  · have h1 : w.heap.size + 1 + 1 = ((w.alloc (.cells C0 t0)).alloc (.cells C1 t1)).heap.size := by simp
    rw [hb.cell (p := ⟨w.heap.size + 1 + 1, j, none⟩) (by simp), World.cell?_alloc_lt _ _ _ (by simp), h1, World.cell?_alloc_mark]
  · rw [hb.frozen (p := ⟨w.heap.size, j, none⟩) (by simp), RowKit.frozen?_alloc_cells, RowKit.frozen?_alloc_cells, RowKit.frozen?_alloc_cells, World.frozen?_alloc_at _ _ _ _ rfl]
  · rw [hb.frozen (p := ⟨w.heap.size + 1, j, none⟩) (by simp), RowKit.frozen?_alloc_cells, RowKit.frozen?_alloc_cells, World.frozen?_alloc_at _ _ _ _ (by simp)]
  · rw [hb.frozen (p := ⟨w.heap.size + 1 + 1, j, none⟩) (by simp), RowKit.frozen?_alloc_cells, World.frozen?_alloc_at _ _ _ _ (by simp)]
end Go.Proofs.YtccajbgdlicbnaaDoor
