/- Layer 4, P4.1: the document's Fields, Has and Ints, walked. -/
import Derived.Test.YtgnfinojnmkkkaaQT0

namespace Go.Proofs.Ytgnfinojnmkkkaa
open Go.RowKit (wrap64 intOf Below)
set_option linter.unusedVariables false

def hasC (s : ByteArray) (f : UInt8) : Bool := s.data.toList.contains f
theorem fields_len (K : Int) : (fieldsL K).length ≤ 10 := by
  unfold fieldsL
  repeat (first | (split; · decide) | decide)
/-- Whether two lists are one. -/
def sameB (Z1 Z2 : List Int) : Bool := decide (Z1 = Z2)
def BoolPost (b : Bool) (w : World) (e : Ending) (w' : World) : Prop := e = .returned (.bool b) ∧ ∃ q, w' = w.drewN q
end Go.Proofs.Ytgnfinojnmkkkaa
