/- Layer 4, P4.1: whether two steps are one (hallmarklaw04.exact), and the document's Plain, walked. -/
import Derived.Test.YtnapechlgjcpbaaDoorQKindRef
import Derived.Deep.DeepCutAuto
namespace Go.Proofs.YtnapechlgjcpbaaDoor
open Go.RowKit (wrap64 intOf Below)
set_option linter.unusedVariables false

theorem sameB_self (Z : List Int) : sameB Z Z = true := by unfold sameB; simp
end Go.Proofs.YtnapechlgjcpbaaDoor

/- Layer 4, P4.1: the document's Uses, walked: the values that a step is of. -/
namespace Go.Proofs.YtnapechlgjcpbaaDoor
open Go.RowKit (wrap64 intOf Below)
set_option linter.unusedVariables false

def oneL (b : Bool) (x : Int) : List Int := if b then [x] else []
def usesL (K A B C : Int) (L : List Int) : List Int := oneL (hasB K 65) A ++ oneL (hasB K 66) B ++ oneL (hasB K 67) C ++ pickL (hasB K 76) L
theorem oneL_len (b : Bool) (x : Int) : (oneL b x).length ≤ 1 := by unfold oneL; split <;> simp
theorem cell_first {w w2 : World} {C0 : Array Value} {t0 : TypeId} (hb : Below (w.heap.size + 1) (w.alloc (.cells C0 t0)) w2) : ∀ j, w2.cell? ⟨w.heap.size, j, none⟩ = C0[j]? := fun j => by
  rw [hb.cell (p := ⟨w.heap.size, j, none⟩) (by simp), World.cell?_alloc_mark]

theorem first_size {w w2 : World} {C0 : Array Value} {t0 : TypeId} (hb : Below (w.heap.size + 1) (w.alloc (.cells C0 t0)) w2) : w.heap.size + 1 ≤ w2.heap.size := by
  have := hb.size
  simpa using this
theorem first_below {w w2 : World} {C0 : Array Value} {t0 : TypeId} (hb : Below (w.heap.size + 1) (w.alloc (.cells C0 t0)) w2) : Below w.heap.size w w2 :=
  ((Below.refl w.heap.size w).alloc (Nat.le_refl _) _).trans (hb.mono (by omega))

end Go.Proofs.YtnapechlgjcpbaaDoor

/- Layer 4, P4.2: the document's Flags, walked: what a step may do. -/
namespace Go.Proofs.YtnapechlgjcpbaaDoor
open Go.RowKit (wrap64 intOf Below)
set_option linter.unusedVariables false

def FlagsPost (f : Int) (w : World) (e : Ending) (w' : World) : Prop := e = .returned (.int .i64 f) ∧ Below w.heap.size w w'
end Go.Proofs.YtnapechlgjcpbaaDoor
