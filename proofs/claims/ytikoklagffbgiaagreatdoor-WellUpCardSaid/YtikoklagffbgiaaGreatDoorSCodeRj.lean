/- Layer 5: the walk's op, with a reader (gen/rkop.py). -/
import Derived.Test.YtikoklagffbgiaaGreatDoorST6

namespace Go.Proofs.YtikoklagffbgiaaGreatDoor
set_option linter.unusedSimpArgs false
set_option linter.unusedVariables false
open Go.RowKit (wrap64 intOf Below Hid)
attribute [local go_sem ↓] Go.wp_at_zero Go.wp_at_succ
open Go.Lib (hid)
theorem OpR.after{r B g off:Nat}{w:World}{bx ib:Nat}{K:Int}{L1:List UInt8}{j p:Nat}{u u':World}{o o':OpD}{l l':Value}{rest rest':List UInt8}{f:UInt8}(h:OpR r B g off w bx ib K L1 j p u o l rest)(hr:r<w.heap.size)(hg:g<w.heap.size)(hj:j<(fieldsL K).length)(hf:(fieldsL K)[j]=f)(hfield:rdField o f rest=.ok o' rest')(st':RSt r B g off 8 w bx rest' u' (opCells o' l'))(ho:Off (fun i=>i=r∨i=g) u u')
 (hl:(l'=l∧o'.L=o.L)∨(f=76∧NumsO u' (From (w.heap.size+1)) l' o'.L∧∀ b,l'.ownBlock=some b→u.heap.size≤b))(hrng:InR o'.K∧InR o'.A∧InR o'.B∧InR o'.C∧InR o'.N∧o'.S.size≤140737488351232):OpR r B g off w bx ib K L1 (j+1) p u' o' l' rest':=by
 have hib:ib<u.heap.size:=(Array.getElem?_eq_some_iff.1 h.it).1
 refine⟨st',rdFields_more hj h.rd (by rw[hf];exact hfield), ?_,fun hn=> ?_,hrng,(ho.block ib hib (fun e=>by rcases e with e|e;exact h.ir e;exact h.ig e)).trans h.it,h.ir,h.ig,h.ix,h.ge,fun b hb=> ?_⟩
 ·rcases hl with⟨rfl,e⟩|⟨_,hn,_⟩
  ·rw[e];exact h.nums.keep ho (by omega) (by omega) (Nat.le_refl _)
  ·exact hn
 ·rw[List.take_succ_eq_append_getElem hj,List.mem_append,not_or]at hn
  rcases hl with⟨rfl,_⟩|⟨rfl,_⟩
  ·exact h.nil hn.1
  ·exact absurd (by rw[hf];simp) hn.2
 ·rcases hl with⟨rfl,_⟩|⟨_,_,hn⟩
  ·exact h.il b hb
  ·have:=hn b hb;omega
theorem OpR.fails{r B g off:Nat}{w:World}{bx ib:Nat}{K:Int}{L L1:List UInt8}{j p:Nat}{u u':World}{o:OpD}{l:Value}{rest:List UInt8}{f:UInt8}{er:Int}(h:OpR r B g off w bx ib K L1 j p u o l rest)(hb:rdBelow 26 L=.ok K L1)(hj:j<(fieldsL K).length)(hf:(fieldsL K)[j]=f)(hfield:rdField o f rest=.no er)(ho:Off (fun i=>i=r∨i=g) u u'):rdOp L=.no er∧Off (fun i=>i=r∨i=g) w u':=
 ⟨by unfold rdOp;rw[hb];simp only[PR.bind];exact rdFields_no hj h.rd (by rw[hf];exact hfield),h.st.gives' ho⟩
end Go.Proofs.YtikoklagffbgiaaGreatDoor
