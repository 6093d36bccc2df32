/- Layer 4, P4.1: the document's Plain, walked: a step without the fields that play no part. -/
import Derived.Test.YthjdeoppajlcoaaGreatDoorYKindRef

namespace Go.Proofs.YthjdeoppajlcoaaGreatDoor
set_option linter.unusedVariables false
open Go.RowKit (wrap64 intOf Below)
def E9(K A B C N:Int)(S:ByteArray)(T:Bool)(L:List Int)(w:World)(e:Ending)(w':World):Prop:=
 ∃va vn vc,e=.returned (.agg #[.int .i64 K,.int .i64 (jk (hasB K 65) A),.int .i64 (jk (hasB K 66) B),.int .i64 (jk (hasB K 67) C),.int .i64 (jk (hasB K 78) N),.string (uS (hasB K 83) S),.slice va vn vc,.bool (hasB K 75&&T)])∧
  aj w' w.heap.size 3 (.slice va vn vc) (dA (hasB K 76) L)∧Below w.heap.size w w'
end Go.Proofs.YthjdeoppajlcoaaGreatDoor
