/- Layer 5: the walk's methods, with a reader: sig, class. -/
import Derived.Test.YtikoklagffbgiaaGreatDoorST5

namespace Go.Proofs.YtikoklagffbgiaaGreatDoor
set_option linter.unusedSimpArgs false
set_option linter.unusedVariables false
open Go.RowKit (wrap64 intOf Below Hid)
attribute [local go_sem ↓] Go.wp_at_zero Go.wp_at_succ
open Go.Lib (hid)
theorem RSt.gives'{r B g off K:Nat}{w:World}{bx:Nat}{L:List UInt8}{u u':World}{cs:List Value}(h:RSt r B g off K w bx L u cs)(ho:Off (fun i=>i=r∨i=g) u u'):Off (fun i=>i=r∨i=g) w u':=h.win.offs.trans ho
end Go.Proofs.YtikoklagffbgiaaGreatDoor
