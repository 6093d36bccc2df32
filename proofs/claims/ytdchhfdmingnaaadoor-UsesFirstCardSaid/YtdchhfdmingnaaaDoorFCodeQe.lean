/- Layer 5: the document's End, of an end: without what plays no part. -/
import Derived.Test.YtdchhfdmingnaaaDoorFCodeCe
import Derived.Test.YtdchhfdmingnaaaDoorFKindRef
import Derived.Deep.RegionLaw
import Derived.Deep.AppendLies
import Derived.Deep.DeepCutAuto
namespace Go.Proofs.YtdchhfdmingnaaaDoor
open Go.RowKit (wrap64 intOf Below)
set_option linter.unusedVariables false
set_option linter.unusedSimpArgs false
structure Laid3 (w : World) (t : TypeId) (C0 C1 C2 : Array Value) (u : World) : Prop where
  bel : Below w.heap.size w u
  b0 : u.heap[w.heap.size]? = some (.cells C0 t (0, 0))
  b1 : u.heap[w.heap.size + 1]? = some (.cells C1 t (0, 0))
  b2 : u.heap[w.heap.size + 2]? = some (.cells C2 t (0, 0))
  size : w.heap.size + 3 ≤ u.heap.size
section
variable {w : World} {t : TypeId} {C0 C1 C2 : Array Value} {u u' : World}
theorem Laid3.start (w : World) (t : TypeId) (C0 C1 C2 : Array Value) : Laid3 w t C0 C1 C2 (((w.alloc (.cells C0 t)).alloc (.cells C1 t)).alloc (.cells C2 t)) := by
  have h1 : (w.alloc (.cells C0 t)).heap.size = w.heap.size + 1 := by simp
  have h2 : ((w.alloc (.cells C0 t)).alloc (.cells C1 t)).heap.size = w.heap.size + 2 := by simp
  refine ⟨(((Below.refl _ _).alloc (Nat.le_refl _) _).alloc (by omega) _).alloc (by omega) _, ?_, ?_, ?_, by simp⟩
  · exact (heap_alloc_old _ _ (by omega)).trans ((heap_alloc_old _ _ (by omega)).trans (heap_alloc_new w _))
  · exact (heap_alloc_old _ _ (by omega)).trans (by rw [← h1]; exact heap_alloc_new _ _)
  · rw [← h2]; exact heap_alloc_new _ _
theorem Laid3.step {B : Nat} (h : Laid3 w t C0 C1 C2 u) (hb : Below B u u') (hB : w.heap.size + 3 ≤ B) : Laid3 w t C0 C1 C2 u' :=
  ⟨h.bel.trans (hb.mono (by omega)), (hb.block _ (by omega)).trans h.b0, (hb.block _ (by omega)).trans h.b1, (hb.block _ (by omega)).trans h.b2, Nat.le_trans h.size hb.size⟩
theorem Laid3.drew (h : Laid3 w t C0 C1 C2 u) : Laid3 w t C0 C1 C2 u.drew := ⟨h.bel.drew, h.b0, h.b1, h.b2, h.size⟩
theorem Laid3.set (h : Laid3 w t C0 C1 C2 u) (j : Nat) (v : Value) : Laid3 w t C0 C1 (C2.setIfInBounds j v) (u.setCell ⟨w.heap.size + 2, j, none⟩ v) := by
  refine ⟨h.bel.setCell (by simp) _, ?_, ?_, ?_, by simp [World.setCell]; exact h.size⟩
  · rw [Below.heap_setCell _ _ _ _ (by simp)]; exact h.b0
  · rw [Below.heap_setCell _ _ _ _ (by simp)]; exact h.b1
  · simp only [World.setCell, Array.getElem?_modify, if_pos, h.b2]
    simp
theorem Laid3.c0 (h : Laid3 w t C0 C1 C2 u) (j : Nat) : u.cell? ⟨w.heap.size, j, none⟩ = C0[j]? := by simp [World.cell?, h.b0]
theorem Laid3.c1 (h : Laid3 w t C0 C1 C2 u) (j : Nat) : u.cell? ⟨w.heap.size + 1, j, none⟩ = C1[j]? := by simp [World.cell?, h.b1]
theorem Laid3.c2 (h : Laid3 w t C0 C1 C2 u) (j : Nat) : u.cell? ⟨w.heap.size + 2, j, none⟩ = C2[j]? := by simp [World.cell?, h.b2]
theorem Laid3.f1 (h : Laid3 w t C0 C1 C2 u) (j : Nat) : u.frozen? ⟨w.heap.size + 1, j, none⟩ = false := by simp [World.frozen?, h.b1]
theorem Laid3.f2 (h : Laid3 w t C0 C1 C2 u) (j : Nat) : u.frozen? ⟨w.heap.size + 2, j, none⟩ = false := by simp [World.frozen?, h.b2]
end
theorem NumsO.own {w' : World} {B : Nat} {va : Option Addr} {vn vc : Nat} {Z : List Int} (h : OwnsI w' B 3 (.slice va vn vc) Z) (hn : Z.length * 8 ≤ 140737488351232) (hr : ∀ z ∈ Z, InR z) : NumsO w' (From B) (.slice va vn vc) Z := h.numsO hn hr
end Go.Proofs.YtdchhfdmingnaaaDoor
