/- Layer 8: whether a block is met; whether one is over another, by numbers; slices.DeleteFunc of those that are not met. -/
import Derived.Test.YthjdeoppajlcoaaGreatDoorYT3
import Derived.Lib.SliceRun
import Derived.Laws.IdiomCopy
namespace Go.Proofs.YthjdeoppajlcoaaGreatDoor
set_option linter.unusedSimpArgs false
set_option linter.unusedVariables false
open Go.RowKit (wrap64 intOf Below Hid)
open Go.Lib (hid)
def dF(n:Nat)(PL:List Int)(z:Int):Bool:=decide (0≤z∧z<(n:Int)∧0≤nth PL z.toNat)
theorem GD{W:World}{p gp n c:Nat}{PL:List Int}(h1:W.cell? ⟨p,1,none⟩=some (.slice (some ⟨gp,0,none⟩) n c))(h2:∀ j,j<n→W.cell? ⟨gp,j,none⟩=some (.int .i64 (nth PL j)))(z:Int):
 Calls Tryz.prog 140 #[.pointer (some ⟨p,0,none⟩),.int .i64 z] W fun e w'=>e=.returned (.bool (dF n PL z))∧w'=W:=by
 by_cases h0:0≤z
 ·by_cases hz:z<(n:Int)
  ·obtain⟨v,rfl⟩:=Int.eq_ofNat_of_zero_le h0
   have hc:=h2 v (by omega)
   clear h2
   by_cases hp:0≤nth PL v
   ·have HR:Hid (dF n PL (v:Int)=true):=hid (by unfold dF;exact decide_eq_true ⟨h0,hz,by simpa using hp⟩)
    go_enter Tryz.func140,Tryz.ntmps140
    go_wp2_with fail
    go_ret
    exact⟨by rw[HR.out];rfl,rfl⟩
   ·have HR:Hid (dF n PL (v:Int)=false):=hid (by unfold dF;exact decide_eq_false (fun h=>hp (by simpa using h.2.2)))
    have hdec:decide ((0:Int)≤nth PL v)=false:=decide_eq_false hp
    go_enter Tryz.func140,Tryz.ntmps140
    go_wp2_with fail
    go_ret
    exact⟨by rw[HR.out];rfl,rfl⟩
  ·have HR:Hid (dF n PL z=false):=hid (by unfold dF;exact decide_eq_false (fun h=>hz h.2.1))
   clear h2
   go_enter Tryz.func140,Tryz.ntmps140
   go_wp2_with fail
   go_ret
   exact⟨by rw[HR.out];rfl,rfl⟩
 ·have HR:Hid (dF n PL z=false):=hid (by unfold dF;exact decide_eq_false (fun h=>h0 h.1))
  clear h2
  go_enter Tryz.func140,Tryz.ntmps140
  go_wp2_with fail
  go_ret
  exact⟨by rw[HR.out];rfl,rfl⟩
def numB(NU EN:List Int)(a b:Nat):Bool:=decide (nth NU a≤nth NU b∧nth NU b<nth EN a)
theorem Gl{W:World}{p bt gp n c:Nat}{PL:List Int}(h0:W.cell? ⟨bt,0,none⟩=some (.pointer (some ⟨p,0,none⟩)))(h1:W.cell? ⟨p,1,none⟩=some (.slice (some ⟨gp,0,none⟩) n c))(h2:∀ j,j<n→W.cell? ⟨gp,j,none⟩=some (.int .i64 (nth PL j)))(z:Int):
 Calls Tryz.prog 139 #[.int .i64 z,.pointer (some ⟨bt,0,none⟩)] W fun e w'=>e=.returned (.bool (!dF n PL z))∧w'=W:=by
 have CM:=hid (GD h1 h2 z)
 clear h1 h2
 go_enter Tryz.func139,Tryz.ntmps139
 go_wp2_with(go_at_call 140;refine CM.out.mono ?_;rintro e u ⟨rfl,hu⟩;rw[hu];clear hu u)
 go_ret
 exact⟨rfl,rfl⟩
end Go.Proofs.YthjdeoppajlcoaaGreatDoor
