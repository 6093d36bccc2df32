/- Layer 7: the document's Ahead; a block of a function that came in, with the lists of its end. -/
import Derived.Test.YtdchhfdmingnaaaDoorWCfgI
import Derived.Test.YtdchhfdmingnaaaDoorWCfgJ
import Derived.Test.YtdchhfdmingnaaaDoorWCodeCe
import Derived.Test.YtdchhfdmingnaaaDoorWKindPlainW
import Derived.Test.YtdchhfdmingnaaaDoorWKindRef

namespace Go.Proofs.YtdchhfdmingnaaaDoor
open Go.RowKit (wrap64 intOf Below)
set_option linter.unusedVariables false
set_option linter.unusedSimpArgs false
def ListAt (W : World) (a : Option Addr) (n c : Nat) (Z : List Int) : Prop := NumsAt W a n Z ∧ (a = none → c = 0) ∧ n * 8 ≤ 140737488351232
theorem ListAt.since {W W' : World} {a : Option Addr} {n c : Nat} {Z : List Int} (h : ListAt W a n c Z) (hb : Below W.heap.size W W') : ListAt W' a n c Z := ⟨h.1.since hb, h.2⟩
end Go.Proofs.YtdchhfdmingnaaaDoor

/- Layer 5: two boxes that a call lays, and what is stored over them; whether two ends, two steps are one, in what plays a part. -/
namespace Go.Proofs.YtdchhfdmingnaaaDoor
open Go.RowKit (wrap64 intOf Below)
set_option linter.unusedVariables false
set_option linter.unusedSimpArgs false
structure Laid2B (w : World) (t : TypeId) (C0 C1 : Array Value) (u : World) : Prop where
  bel : Below w.heap.size w u
  b0 : u.heap[w.heap.size]? = some (.cells C0 t (0, 0))
  b1 : u.heap[w.heap.size + 1]? = some (.cells C1 t (0, 0))
  size : w.heap.size + 2 ≤ u.heap.size
section
variable {w : World} {t : TypeId} {C0 C1 : Array Value} {u u' : World}
theorem Laid2B.start (w : World) (t : TypeId) (C0 C1 : Array Value) : Laid2B w t C0 C1 ((w.alloc (.cells C0 t)).alloc (.cells C1 t)) := by
  have h1 : (w.alloc (.cells C0 t)).heap.size = w.heap.size + 1 := by simp
  refine ⟨((Below.refl _ _).alloc (Nat.le_refl _) _).alloc (by omega) _, ?_, ?_, by simp⟩
  · exact (heap_alloc_old _ _ (by omega)).trans (heap_alloc_new w _)
  · rw [← h1]; exact heap_alloc_new _ _
theorem Laid2B.step {B : Nat} (h : Laid2B w t C0 C1 u) (hb : Below B u u') (hB : w.heap.size + 2 ≤ B) : Laid2B w t C0 C1 u' :=
  ⟨h.bel.trans (hb.mono (by omega)), (hb.block _ (by omega)).trans h.b0, (hb.block _ (by omega)).trans h.b1, Nat.le_trans h.size hb.size⟩
theorem Laid2B.drew (h : Laid2B w t C0 C1 u) : Laid2B w t C0 C1 u.drew := ⟨h.bel.drew, h.b0, h.b1, h.size⟩
theorem Laid2B.c0 (h : Laid2B w t C0 C1 u) (j : Nat) : u.cell? ⟨w.heap.size, j, Option.none⟩ = C0[j]? := by simp [World.cell?, h.b0]
theorem Laid2B.c1 (h : Laid2B w t C0 C1 u) (j : Nat) : u.cell? ⟨w.heap.size + 1, j, Option.none⟩ = C1[j]? := by simp [World.cell?, h.b1]
theorem Laid2B.f0 (h : Laid2B w t C0 C1 u) (j : Nat) : u.frozen? ⟨w.heap.size, j, Option.none⟩ = false := by simp [World.frozen?, h.b0]
theorem Laid2B.f1 (h : Laid2B w t C0 C1 u) (j : Nat) : u.frozen? ⟨w.heap.size + 1, j, Option.none⟩ = false := by simp [World.frozen?, h.b1]
end
theorem EndQ.parts {w w' : World} {k1 x1 t1 l1 k2 x2 t2 l2 : Int} {p1 q1 p2 q2 : Value} {X Y : EndD} (hx : EndQ w [.int .i64 k1, .int .i64 x1, .int .i64 t1, .int .i64 l1, p1, q1] X) (hy : EndQ w' [.int .i64 k2, .int .i64 x2, .int .i64 t2, .int .i64 l2, p2, q2] Y) :
    X = Y ↔ k1 = k2 ∧ x1 = x2 ∧ t1 = t2 ∧ l1 = l2 ∧ X.L = Y.L ∧ X.M = Y.M := by
  obtain ⟨_, _, e, _⟩ := hx
  obtain ⟨_, _, f, _⟩ := hy
  obtain ⟨K, A, To, El, L, M⟩ := X
  obtain ⟨K', A', To', El', L', M'⟩ := Y
  simp only [List.cons.injEq, Value.int.injEq, true_and, and_true] at e f
  obtain ⟨rfl, rfl, rfl, rfl, _⟩ := e
  obtain ⟨rfl, rfl, rfl, rfl, _⟩ := f
  simp
theorem OpQ.parts {w w' : World} {k1 a1 b1 c1 n1 k2 a2 b2 c2 n2 : Int} {s1 s2 : ByteArray} {p1 p2 : Value} {t1 t2 : Bool} {X Y : OpD} (hx : OpQ w [.int .i64 k1, .int .i64 a1, .int .i64 b1, .int .i64 c1, .int .i64 n1, .string s1, p1, .bool t1] X) (hy : OpQ w' [.int .i64 k2, .int .i64 a2, .int .i64 b2, .int .i64 c2, .int .i64 n2, .string s2, p2, .bool t2] Y) :
    X = Y ↔ k1 = k2 ∧ a1 = a2 ∧ b1 = b2 ∧ c1 = c2 ∧ n1 = n2 ∧ s1 = s2 ∧ X.L = Y.L ∧ t1 = t2 := by
  obtain ⟨_, e, _⟩ := hx
  obtain ⟨_, f, _⟩ := hy
  obtain ⟨K, A, B, C, N, S, L, T⟩ := X
  obtain ⟨K', A', B', C', N', S', L', T'⟩ := Y
  simp only [List.cons.injEq, Value.int.injEq, Value.string.injEq, Value.bool.injEq, true_and, and_true] at e f
  obtain ⟨rfl, rfl, rfl, rfl, rfl, rfl, _, rfl⟩ := e
  obtain ⟨rfl, rfl, rfl, rfl, rfl, rfl, _, rfl⟩ := f
  simp
end Go.Proofs.YtdchhfdmingnaaaDoor

/- Layer 5: Copy's lists (gen/cpeach.py): of steps. -/
namespace Go.Proofs.YtdchhfdmingnaaaDoor
open Go.RowKit (wrap64 intOf Below)
set_option linter.unusedVariables false
set_option linter.unusedSimpArgs false
attribute [local go_sem ↓] Go.wp_at_zero Go.wp_at_succ
theorem InR.pick {b : Bool} {z : Int} (h : InR z) : InR (pickI b z) := by
  cases b
  · exact InR.zero
  · exact h
end Go.Proofs.YtdchhfdmingnaaaDoor
