/- Layer 4, P4.3, plain: what the chapter's table says of a step whose values are of the types l. -/
import Derived.Test.YtgkcbaakdphigaaDoorKindFieldK
import Derived.Test.YtgkcbaakdphigaaDoorKindUses
namespace Go.Proofs.YtgkcbaakdphigaaDoor
open Go.RowKit (wrap64 intOf Below)
set_option linter.unusedVariables false

def sigOf (P : ProgD) (k : Nat) : SigD := match P.sigs[k]? with | some s => s | none => ⟨[], 0⟩
def funcOf (P : ProgD) (k : Nat) : FuncD := match P.funcs[k]? with | some f => f | none => ⟨0, []⟩
def rowS (P : ProgD) (K N : Int) (S : ByteArray) (l : List Int) : Int × Bool :=
  if K = 0 then (0, true) else if K = 1 then (1, N == 0 || N == 1) else if K = 2 then (2, decide (S.size ≤ 64)) else
  if K = 3 then (tlV N, decide (0 ≤ N ∧ N ≤ 13) && sameB l [0, 0]) else if K = 4 then (1, sameB l [1]) else if K = 5 then (2, sameB l [2, 2]) else
  if K = 6 then (0, sameB l [2]) else if K = 7 then (0, sameB l [2, 0]) else if K = 8 then (1, sameB l [2, 2]) else
  if K = 9 then (if 0 ≤ N ∧ N < P.classes.length then (6 + N, sameB l (fieldsOf P N.toNat)) else (-1, false)) else
  if K = 10 then fieldS P (nth l 0) N else
  if K = 11 then (-1, (fieldS P (nth l 0) N).2 && (nth l 1 == (fieldS P (nth l 0) N).1)) else
  if K = 12 then (3, decide (0 ≤ N ∧ N ≤ 128)) else if K = 13 then (3, sameB l [0]) else if K = 14 then (0, sameB l [3]) else if K = 15 then (0, sameB l [3, 0]) else
  if K = 16 then (-1, sameB l [3, 0, 0]) else if K = 17 then (4, true) else if K = 18 then (-1, sameB l [4, 0, 0]) else if K = 19 then (0, sameB l [4, 0]) else
  if K = 20 then (0, sameB l [4]) else if K = 21 then (0, sameB l [4, 0]) else if K = 22 then (5, ptrB P.classes.length (nth l 0)) else
  if K = 23 then (if 0 ≤ N ∧ N < P.funcs.length ∧ (funcOf P N.toNat).blocks.length ≠ 0 then ((funcOf P N.toNat).ret, sameB l (paramsOf (funcOf P N.toNat))) else (-1, false)) else
  if K = 24 then (if 0 ≤ N ∧ N < P.sigs.length then ((sigOf P N.toNat).ret, nth l 0 == 5 && sameB (l.drop 1) (sigOf P N.toNat).params) else (-1, false)) else
  if K = 25 then (-1, sameB l [0] || sameB l [2]) else (-1, false)
/-- A type and whether; where not, the type says nothing. -/
def RowPost (r : Int × Bool) (w : World) (e : Ending) (w' : World) : Prop := ∃ t, e = .returned (.tuple #[.int .i64 t, .bool r.2]) ∧ (r.2 = true → t = r.1) ∧ Below w.heap.size w w'
theorem areB_one (ts : List Int) (t v : Int) : areB ts t [v] = (tyAt ts v == t) := by simp [areB]
theorem areB_two (ts : List Int) (t v u : Int) : areB ts t [v, u] = ((tyAt ts v == t) && (tyAt ts u == t)) := by simp [areB]
theorem sameB_one (x y : Int) : sameB [x] [y] = (x == y) := by
  rw [Bool.eq_iff_iff]; simp [sameB]
theorem sameB_two (x y x' y' : Int) : sameB [x, y] [x', y'] = ((x == x') && (y == y')) := by
  rw [Bool.eq_iff_iff]; simp [sameB]
theorem sameB_three (x y z x' y' z' : Int) : sameB [x, y, z] [x', y', z'] = ((x == x') && ((y == y') && (z == z'))) := by
  rw [Bool.eq_iff_iff]; simp [sameB]
theorem below2 (w : World) (C0 C1 : Array Value) (t0 t1 : TypeId) : Below w.heap.size w ((w.alloc (.cells C0 t0)).alloc (.cells C1 t1)) := ((Below.refl w.heap.size w).alloc (Nat.le_refl _) _).alloc (by simp) _
theorem below3 (w : World) (C0 C1 C2 : Array Value) (t0 t1 t2 : TypeId) : Below w.heap.size w (((w.alloc (.cells C0 t0)).alloc (.cells C1 t1)).alloc (.cells C2 t2)) := (((Below.refl w.heap.size w).alloc (Nat.le_refl _) _).alloc (by simp) _).alloc (by simp <;> omega) _
theorem below1 (w : World) (C0 : Array Value) (t0 : TypeId) : Below w.heap.size w (w.alloc (.cells C0 t0)) := (Below.refl w.heap.size w).alloc (Nat.le_refl _) _
/-- Numbers that were just written out. -/
theorem nums_laid {w : World} {e : TypeId} {n0 : Nat} (n : Nat) (Z : List Int) (C : Array Value) (hC : C = (Z.map numV).toArray) (hn : Z.length = n) (h0 : n0 = w.heap.size) : NumsAt (w.alloc (.cells C e)) (some ⟨n0, 0, none⟩) n Z := by
  subst hC hn h0
  refine ⟨rfl, fun _ => ⟨w.heap.size, 0, rfl, by simp, fun j hj => ?_⟩⟩
  rw [Nat.zero_add, World.cell?_alloc_mark]
  simp [hj]
theorem tyAt_mem {ts : List Int} {n : Nat} (hl : ts.length = n) {v : Int} (hv : 0 ≤ v ∧ v < (n : Int)) : tyAt ts v ∈ ts := by
  unfold tyAt
  rw [nth_is (by omega)]
  exact List.getElem_mem _
theorem _root_.Go.RowKit.Below.drewq {B : Nat} {w w' : World} (h : Below B w w') (q : Nat) : Below B w (w'.drewN q) := h.trans ⟨rfl, rfl, rfl, Nat.le_refl _, fun _ _ => rfl⟩
end Go.Proofs.YtgkcbaakdphigaaDoor
