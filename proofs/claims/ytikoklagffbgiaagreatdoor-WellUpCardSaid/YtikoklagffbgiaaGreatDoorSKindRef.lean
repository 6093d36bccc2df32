/- Layer 4, P4.1: the document's Fields, Has and Ints, walked. -/
import Derived.Test.YtikoklagffbgiaaGreatDoorST0

namespace Go.Proofs.YtikoklagffbgiaaGreatDoor
set_option linter.unusedVariables false
open Go.RowKit (wrap64 intOf Below Hid)
open Go.Lib (hid)
def sameB(Z1 Z2:List Int):Bool:=decide (Z1=Z2)
def BoolPost(b:Bool)(w:World)(e:Ending)(w':World):Prop:=e=.returned (.bool b)∧∃ q,w'=w.drewN q
end Go.Proofs.YtikoklagffbgiaaGreatDoor
