/- Layer 4, P4.1: the document's Plain, walked: a step without the fields that play no part. -/
import Derived.Test.YtikoklagffbgiaaGreatDoorSKindRef

namespace Go.Proofs.YtikoklagffbgiaaGreatDoor
set_option linter.unusedVariables false
open Go.RowKit (wrap64 intOf Below Hid)
open Go.Lib (hid)
def PlainPost(K A B C N:Int)(S:ByteArray)(T:Bool)(L:List Int)(w:World)(e:Ending)(w':World):Prop:=
 ∃va vn vc,e=.returned (.agg #[.int .i64 K,.int .i64 (pickI (hasB K 65) A),.int .i64 (pickI (hasB K 66) B),.int .i64 (pickI (hasB K 67) C),.int .i64 (pickI (hasB K 78) N),.string (pickS (hasB K 83) S),.slice va vn vc,.bool (hasB K 75&&T)])∧
  OwnsI w' w.heap.size 3 (.slice va vn vc) (pickL (hasB K 76) L)∧Below w.heap.size w w'
end Go.Proofs.YtikoklagffbgiaaGreatDoor
