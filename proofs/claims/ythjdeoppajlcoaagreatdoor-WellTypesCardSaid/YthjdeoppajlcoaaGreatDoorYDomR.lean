/- Layer 8: the document's met: what is met from a block on, without another one (mk_rm.py). -/
import Derived.Test.YthjdeoppajlcoaaGreatDoorYT3

namespace Go.Proofs.YthjdeoppajlcoaaGreatDoor
set_option linter.unusedSimpArgs false
set_option linter.unusedVariables false
open Go.RowKit (wrap64 intOf Below)
def RM(f:ak)(fr wo:Int)(v:Nat):Prop:=∃ k:Nat,fr=(k:Int)∧k<f.blocks.length∧Way (kJ f) (fun u=>(u:Int)≠wo) k v
end Go.Proofs.YthjdeoppajlcoaaGreatDoor
