/- Layer 4, P4.1: package kind's Plain, walked. -/
import Derived.Test.YtdchhfdmingnaaaDoorFT1

namespace Go.Proofs.YtdchhfdmingnaaaDoor
open Go.RowKit (wrap64 intOf Below)
set_option linter.unusedVariables false
theorem PlSt.start (w : World) (K A B C N : Int) (S : ByteArray) (la : Option Addr) (ln lc : Nat) (T : Bool) (L : List Int) (t0 t1 t2 : TypeId) :
    PlSt w ((((w.alloc (.cells #[.int .i64 K, .int .i64 A, .int .i64 B, .int .i64 C, .int .i64 N, .string S, .slice la ln lc, .bool T] t0)).alloc (.cells #[.int .i64 0, .int .i64 0, .int .i64 0, .int .i64 0, .int .i64 0, .string ⟨#[]⟩, .slice none 0 0, .bool false] t1)).alloc (.cells #[.int .i64 K, .int .i64 0, .int .i64 0, .int .i64 0, .int .i64 0, .string ⟨#[]⟩, .slice none 0 0, .bool false] t2)).iter (fstr K) 0) K A B C N S la ln lc T L 0 none 0 0 := by
  unfold World.iter
  refine ⟨(((Box.new w _ t0 rfl).alloc (by simp) _).alloc (by simp <;> omega) _).alloc (by simp <;> omega) _, ((Box.new _ _ t1 (by simp)).alloc (by simp) _).alloc (by simp <;> omega) _, ?_, ?_, ?_, (((Below.refl w.heap.size w).alloc (Nat.le_refl _) _).alloc (by simp) _ |>.alloc (by simp <;> omega) _).alloc (by simp <;> omega) _, by simp⟩
  · rw [plainT_zero]
    exact (Box.new _ _ t2 (by simp)).alloc (by simp) _
  · have h := World.iter_heap (((w.alloc (.cells #[.int .i64 K, .int .i64 A, .int .i64 B, .int .i64 C, .int .i64 N, .string S, .slice la ln lc, .bool T] t0)).alloc (.cells #[.int .i64 0, .int .i64 0, .int .i64 0, .int .i64 0, .int .i64 0, .string ⟨#[]⟩, .slice none 0 0, .bool false] t1)).alloc (.cells #[.int .i64 K, .int .i64 0, .int .i64 0, .int .i64 0, .int .i64 0, .string ⟨#[]⟩, .slice none 0 0, .bool false] t2)) (fstr K) 0
    simpa [World.iter] using h
  · rw [hasT_zero]
    exact World.ownsRow_nil _ _ _ 1
end Go.Proofs.YtdchhfdmingnaaaDoor
