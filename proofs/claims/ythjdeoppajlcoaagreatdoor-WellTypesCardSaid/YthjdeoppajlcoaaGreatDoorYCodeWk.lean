/- Layer 5: the walk's small calls, with a writer. -/
import Derived.Test.YthjdeoppajlcoaaGreatDoorYCodeWr

namespace Go.Proofs.YthjdeoppajlcoaaGreatDoor
set_option linter.unusedVariables false
set_option maxRecDepth 100000
open Go.RowKit (wrap64 intOf Below Hid)
attribute [local go_sem ↓] Go.wp_at_zero Go.wp_at_succ
open Go.Lib (hid)
def WrYes(x B:Nat)(v:Value)(L:List UInt8)(val:Value)(w:World)(e:Ending)(w':World):Prop:=
 ∃v',e=.returned val∧cu w' x B v' L∧Off (WX x v) w w'∧NewAt w v v'
theorem pG(x B:Nat)(v:Value)(L:List UInt8)(n:Int)(w:World)(h:cu w x B v L)(h0: -9223372036854775808≤n)(h1:n≤9223372036854775807)(hl:L.length+10≤140737488355328):
 Calls Tryz.prog 188 #[.pointer (some ⟨x,0,none⟩),.int .i64 n] w (WrYes x B v (L++dU n) (.int .i64 n) w):=by
 refine(Co x B v L n w h ⟨h0,h1⟩ hl).mono ?_
 rintro e w' (⟨l,v',ho,he,r⟩|⟨er,ho,_⟩)
 ·cases ho
  exact⟨v',he,r⟩
 ·cases ho
theorem Off.behind{w w1:World}{x:Nat}{v:Value}{o:Obj}(h:Off (WX x v) (w.alloc o) w1):Off (WX x v) w w1:=
 (Off.alloc (Off.refl _ _) o).trans h
theorem NewAt.behind{w:World}{v v':Value}{o:Obj}(h:NewAt (w.alloc o) v v'):NewAt w v v':=fun k hk=>(h k hk).imp id (fun h'=>by simp at h';omega)
theorem lD(x B:Nat)(v:Value)(L:List UInt8)(n bound:Int)(w:World)(h:cu w x B v L)(h0: -9223372036854775808≤n)(h1:n≤9223372036854775807)(hl:L.length+10≤140737488355328)(hb0:0≤bound)(hb1:bound≤1000):
 Calls Tryz.prog 168 #[.agg #[.iface 84 (.pointer (some ⟨x,0,none⟩))],.int .i64 n,.int .i64 bound] w (di x B v L (eX n bound) (.int .i64 n) w):=by
 have HW:Hid (∀o,cu (w.alloc o) x B v L):=hid fun o=>h.since ((Below.refl _ _).alloc (Nat.le_refl _) o)
 clear h
 by_cases hn:n<0
 ·have HO:=hid (j3 (n:=n) (bound:=bound) (by omega))
  go_enter Tryz.func168,Tryz.ntmps168
  go_wp2_with fail
  refine(pG x B v L n _ (HW.out _) h0 h1 hl).mono ?_
  rintro e w1 ⟨v1,rfl,hW1,hO1,hN1⟩
  have HE:Hid (Off (WX x v) w w1):=hid hO1.behind
  clear hW1 hO1 hN1
  go_wp2_with fail
  exact⟨rfl,.inr ⟨4,HO.out,rfl,HE.out⟩⟩
 ·by_cases hm:bound≤n
  ·have HO:=hid (j3 (n:=n) (bound:=bound) (by omega))
   go_enter Tryz.func168,Tryz.ntmps168
   go_wp2_with fail
   refine(pG x B v L n _ (HW.out _) h0 h1 hl).mono ?_
   rintro e w1 ⟨v1,rfl,hW1,hO1,hN1⟩
   have HE:Hid (Off (WX x v) w w1):=hid hO1.behind
   clear hW1 hO1 hN1
   go_wp2_with fail
   exact⟨rfl,.inr ⟨4,HO.out,rfl,HE.out⟩⟩
  ·have HO:=hid (iA (n:=n) (bound:=bound) (by omega) (by omega))
   have hm':n<bound:=by omega
   go_enter Tryz.func168,Tryz.ntmps168
   go_wp2_with fail
   refine(pG x B v L n _ (HW.out _) h0 h1 hl).mono ?_
   rintro e w1 ⟨v1,rfl,hW1,hO1,hN1⟩
   have HE:Hid (cu w1 x B v1 (L++dU n)∧Off (WX x v) w w1∧NewAt w v v1):=hid ⟨hW1,hO1.behind,hN1.behind⟩
   clear hW1 hO1 hN1
   go_wp2_with fail
   go_ret
   exact .inl ⟨_,v1,HO.out,rfl,HE.out⟩
theorem fE(x B:Nat)(v:Value)(L:List UInt8)(n most:Nat)(w:World)(h:cu w x B v L)(h1:n≤140737488355328)(hl:L.length+10≤140737488355328)(hb1:most≤1000):
 Calls Tryz.prog 143 #[.agg #[.iface 84 (.pointer (some ⟨x,0,none⟩))],.int .i64 (n:Int),.int .i64 (most:Int)] w (di x B v L (jZ n most) (.int .i64 (n:Int)) w):=by
 have HW:Hid (∀o,cu (w.alloc o) x B v L):=hid fun o=>h.since ((Below.refl _ _).alloc (Nat.le_refl _) o)
 clear h
 by_cases hm:most<n
 ·have HO:=hid (fH (n:=n) (most:=most) (by omega))
  go_enter Tryz.func143,Tryz.ntmps143
  go_wp2_with fail
  refine(pG x B v L n _ (HW.out _) (by omega) (by omega) hl).mono ?_
  rintro e w1 ⟨v1,rfl,hW1,hO1,hN1⟩
  have HE:Hid (Off (WX x v) w w1):=hid hO1.behind
  clear hW1 hO1 hN1
  go_wp2_with fail
  exact⟨rfl,.inr ⟨2,HO.out,rfl,HE.out⟩⟩
 ·have HO:=hid (dY (n:=n) (most:=most) (by omega))
  have hm':n≤most:=by omega
  go_enter Tryz.func143,Tryz.ntmps143
  go_wp2_with fail
  refine(pG x B v L n _ (HW.out _) (by omega) (by omega) hl).mono ?_
  rintro e w1 ⟨v1,rfl,hW1,hO1,hN1⟩
  have HE:Hid (cu w1 x B v1 (L++dU n)∧Off (WX x v) w w1∧NewAt w v v1):=hid ⟨hW1,hO1.behind,hN1.behind⟩
  clear hW1 hO1 hN1
  go_wp2_with fail
  go_ret
  exact .inl ⟨_,v1,HO.out,rfl,HE.out⟩
theorem DC(a:Option Addr)(u:World):(method 352 84 (.pointer a) "hallmark/code.number").run Tryz.prog u=.ok (188,.pointer a) u:=by kernel_rfl
theorem gX(x B g off:Nat)(v:Value)(L:List UInt8)(n:Int)(w:World)(h:cu w x B v L)(h0: -9223372036854775808≤n)(h1:n≤9223372036854775807)(hl:L.length+10≤140737488355328)(hg:dm w g off [.int .i64 n])(hx:¬ WX x v g):
 Calls Tryz.prog 145 #[.agg #[.iface 84 (.pointer (some ⟨x,0,none⟩))],.pointer (some ⟨g,off,none⟩)] w (WrYes x B v (L++dU n) (.tuple #[]) w):=by
 have HW:Hid (∀o,cu (w.alloc o) x B v L):=hid fun o=>h.since ((Below.refl _ _).alloc (Nat.le_refl _) o)
 have hc:w.cell? ⟨g,off,none⟩=some (.int .i64 n):=by simpa using hg.cell (j:=0) (by simp)
 have hf:w.frozen? ⟨g,off,none⟩=false:=hg.free off
 have hlt:=hg.lt
 have hme:=DC
 have HG:=hid hg
 have HX:=hid hx
 clear h hg hx
 go_enter Tryz.func145,Tryz.ntmps145
 go_wp2_with fail
 go_region_law (first|(rw[if_pos (by rfl)];go_simp;go_at_call 188;(with_reducible refine(pG x B v L n _ ((HW.out _).since ((Below.refl _ _).drew)) h0 h1 hl).mono ?_);rintro e w1 ⟨v1,rfl,hW1,hO1,hN1⟩;have hg1:=(HG.out.stays (Off.alloc (Off.refl (WX x v) w) _).drew HX.out).stays hO1 HX.out;have hc1:w1.cell? ⟨g,off,none⟩=some (.int .i64 n):=by simpa using hg1.cell (j:=0) (by simp));have hf1:w1.frozen? ⟨g,off,none⟩=false:=hg1.free off)
 all_goals
  go_wp2_with fail
  rw[aP hc1]
  go_end0
  exact⟨v1,rfl,hW1,(Off.alloc (Off.refl _ _) _).drew.trans hO1,fun k hk=>(hN1 k hk).imp id (fun h'=>by simp at h';omega)⟩
end Go.Proofs.YthjdeoppajlcoaaGreatDoor
