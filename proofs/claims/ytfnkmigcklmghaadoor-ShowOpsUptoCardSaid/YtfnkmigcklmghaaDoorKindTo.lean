/- Layer 4, P4.1: the document's To and All, walked: numbers by other names. -/
import Derived.Test.YtfnkmigcklmghaaDoorKindGen
namespace Go.Proofs.YtfnkmigcklmghaaDoor
open Go.RowKit (wrap64 intOf Below)
set_option linter.unusedVariables false

/-- A number's name. -/
def toV (M : List Int) (n : Int) : Int := if 0 ≤ n ∧ n < M.length then M.getD n.toNat 0 else n
theorem toV_in {M : List Int} {k : Nat} (h : k < M.length) : toV M (k : Int) = M[k] := by
  unfold toV
  rw [if_pos ⟨by omega, by omega⟩, List.getD_eq_getElem?_getD, Int.toNat_natCast, List.getElem?_eq_getElem h]; rfl
theorem toV_out {M : List Int} {n : Int} (h : n < 0 ∨ (M.length : Int) ≤ n) : toV M n = n := by
  unfold toV
  rw [if_neg (by omega)]
def AllPost (Z : List Int) (w : World) (e : Ending) (w' : World) : Prop := ∃ va vn vc, e = .returned (.slice va vn vc) ∧ OwnsI w' w.heap.size 3 (.slice va vn vc) Z ∧ Below w.heap.size w w'
end Go.Proofs.YtfnkmigcklmghaaDoor
