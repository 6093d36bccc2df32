/- Layer 5 plain: a program's bytes are read as it without what plays no part (P5.4) -/
import Derived.Test.YtikoklagffbgiaaGreatDoorSCodeRj
import Derived.Test.YtikoklagffbgiaaGreatDoorSCodeSq

namespace Go.Proofs.YtikoklagffbgiaaGreatDoor
set_option linter.unusedVariables false
def Takes{α:Type}(p:List UInt8→PR α)(l:List UInt8)(x:α):Prop:=
 (∀X,p (l++X)=.ok x X)∧∀ j,j<l.length→p (l.take j)=.no 3
section
variable {α β : Type}
theorem Takes.bind{p:List UInt8→PR α}{f:α→List UInt8→PR β}{l m:List UInt8}{x:α}{y:β}(h:Takes p l x)(h':Takes (f x) m y):Takes (fun L=>(p L).bind f) (l++m) y:=by
 constructor
 ·intro X
  simp only[List.append_assoc]
  rw[h.1]
  exact h'.1 X
 ·intro j hj
  by_cases hl:j<l.length
  ·have e:(l++m).take j=l.take j:=List.take_append_of_le_length (by omega)
   simp only[e,h.2 j hl,PR.bind]
  ·have e:(l++m).take j=l++m.take (j-l.length):=by rw[List.take_append,List.take_of_length_le (by omega)]
   simp only[e]
   rw[h.1]
   exact h'.2 _ (by simp at hj;omega)
theorem Takes.pure(x:α):Takes (fun L=>.ok x L) [] x:=⟨fun X=>rfl,fun j hj=>absurd hj (by simp)⟩
theorem Takes.map{p:List UInt8→PR α}{l:List UInt8}{x:α}(g:α→β)(h:Takes p l x):Takes (fun L=>(p L).bind fun x r=>.ok (g x) r) l (g x):=by
 have:=h.bind (f:=fun x r=>.ok (g x) r) (m:=[]) (y:=g x) (Takes.pure _)
 simpa using this
theorem Takes.guard{p:List UInt8→PR α}{f:α→List UInt8→PR β}{l:List UInt8}{x:α}{y:β}(h:Takes p l x)(h':∀ r,f x r=.ok y r):Takes (fun L=>(p L).bind f) l y:=by
 have:=h.bind (f:=f) (m:=[]) (y:=y) ⟨fun X=>h' X,fun j hj=>absurd hj (by simp)⟩
 simpa using this
end
def RngOp(o:OpD):Prop:=InR o.K∧InR o.A∧InR o.B∧InR o.C∧InR o.N∧∀ z∈o.L,InR z
def RngEnd(e:EndD):Prop:=InR e.K∧InR e.A∧InR e.To∧InR e.Else∧(∀z∈e.L,InR z)∧∀ z∈e.M,InR z
def RngBlock(b:BlockD):Prop:=(∀z∈b.params,InR z)∧(∀o∈b.ops,RngOp o)∧RngEnd b.fin
def RngFunc(f:FuncD):Prop:=InR f.ret∧∀ b∈f.blocks,RngBlock b
def RngSig(s:SigD):Prop:=(∀z∈s.params,InR z)∧InR s.ret
def RngClass(c:ClassD):Prop:=(∀z∈c.fields,InR z)∧∀ z∈c.methods,InR z
def RngProg(p:ProgD):Prop:=(∀s∈p.sigs,RngSig s)∧(∀c∈p.classes,RngClass c)∧∀ f∈p.funcs,RngFunc f
theorem inR_zero:InR 0:=⟨by decide,by decide⟩
theorem rng_pick{b:Bool}{z:Int}(h:InR z):InR (pickI b z):=by unfold pickI;split;exact h;exact inR_zero
theorem RngOp.plain{o:OpD}(h:RngOp o):RngOp (plainOp o):=
 ⟨h.1,rng_pick h.2.1,rng_pick h.2.2.1,rng_pick h.2.2.2.1,rng_pick h.2.2.2.2.1,fun z hz=>by
  simp only[plainOp,pickL]at hz
  split at hz
  ·exact h.2.2.2.2.2 z hz
  ·cases hz⟩
theorem RngEnd.plain{e:EndD}(h:RngEnd e):RngEnd (plainEnd e):=by
 obtain⟨r1,r2,r3,r4,r5,r6⟩:=h
 unfold plainEnd
 split
 ·exact⟨r1,inR_zero,r3,inR_zero,r5,fun z hz=>by cases hz⟩
 ·split
  ·exact⟨r1,r2,r3,r4,r5,r6⟩
  ·split
   ·exact⟨r1,r2,inR_zero,inR_zero,fun z hz=>(by cases hz),fun z hz=>(by cases hz)⟩
   ·exact⟨r1,inR_zero,inR_zero,inR_zero,fun z hz=>(by cases hz),fun z hz=>(by cases hz)⟩
theorem RngProg.plain{p:ProgD}(h:RngProg p):RngProg (plainProg p):=by
 refine⟨h.1,h.2.1,fun f hf=> ?_⟩
 obtain⟨f',hf',rfl⟩:=List.mem_map.1 hf
 have h1:=h.2.2 f' hf'
 refine⟨h1.1,fun b hb=> ?_⟩
 obtain⟨b',hb',rfl⟩:=List.mem_map.1 hb
 have h2:=h1.2 b' hb'
 refine⟨h2.1,fun o ho=> ?_,h2.2.2.plain⟩
 obtain⟨o',ho',rfl⟩:=List.mem_map.1 ho
 exact(h2.2.1 o' ho').plain
end Go.Proofs.YtikoklagffbgiaaGreatDoor

namespace Go.Proofs.YtikoklagffbgiaaGreatDoor
set_option linter.unusedSimpArgs false
set_option linter.unusedVariables false
open Go.RowKit (wrap64 intOf Below Hid)
open Go.Lib (hid)
def SmallPostM(m:Nat)(P:ProgD)(w:World)(e:Ending)(w':World):Prop:=∃ b:Bool,e=.returned (.bool b)∧(b=true→partsP P≤m)∧Below w.heap.size w w'
set_option maxRecDepth 100000 in
set_option maxHeartbeats 16000000 in
theorem ref_smallM(
 m:Nat) (hm:m≤100000) (g off:Nat) (sa:Option Addr) (sn sc:Nat) (ca:Option Addr) (cn cc:Nat) (fa:Option Addr) (fn fc:Nat) (P:ProgD) (w:World) (hg:g<w.heap.size)
 (hc0:w.cell? ⟨g,off,none⟩=some (.slice sa sn sc)) (hc1:w.cell? ⟨g,off+1,none⟩=some (.slice ca cn cc)) (hc2:w.cell? ⟨g,off+2,none⟩=some (.slice fa fn fc))
 (hP:ProgQ w [.slice sa sn sc,.slice ca cn cc,.slice fa fn fc] P):
 Calls Tryz.prog 8 #[.pointer (some ⟨g,off,none⟩),.int .i64 (m:Int)] w (SmallPostM m P w):=by
 obtain⟨_,_,_,he,hS,hC,hF⟩:=hP
 simp only[List.cons.injEq,and_true]at he
 obtain⟨rfl,rfl,rfl⟩:=he
 obtain⟨hsl,hsm⟩:=rowV_len' hS
 obtain⟨hcl,hcm⟩:=rowV_len' hC
 obtain⟨hfl,hfm⟩:=rowV_len' hF
 have HS:=hid hS
 have HC:=hid hC
 have HF:=hid hF
 have HSL:=hid hsl
 have HCL:=hid hcl
 have HFL:=hid hfl
 clear hS hC hF hsl hcl hfl
 go_enter Tryz.func8,Tryz.ntmps8
 go_wp2_with fail
 go_quiet (fail)
 go_wp2_with fail
 go_loopw[5,6] (fun nv iv wr=>∃ n i:Nat,i≤sn∧Hid (sn+cn+fn+sumN pSig (P.sigs.take i)≤n)∧n≤1000000000000000∧nv=.int .i64 (n:Int)∧iv=.int .i64 (i:Int)∧∃ q,wr=w.drewN q) (fun _ iv _=>sn-(intOf iv).toNat)
 case atStart=>exact⟨sn+cn+fn,0,Nat.zero_le _,hid (by simp[sumN]),by omega,by go_num,rfl,_,rfl⟩
 case round=>
  obtain⟨n,i,hi,hn0,hn1,rfl,rfl,q,rfl⟩:=hrel
  by_cases hlt:i<sn
  ·by_cases hn4:n≤m
   ·have hn4':(n:Int)≤(m:Int):=by omega
    obtain⟨g1,o1,rfl,hg1,hcs1⟩:=rowV_at HS.out (by omega)
    have hi1:i<P.sigs.length:=by rw[HSL.out];exact hlt
    obtain⟨cs1,hc21,hcell1,hq1⟩:=hcs1 i hi1
    obtain⟨v1,rfl,⟨pa,pn,pc,rfl,hpat,_,hpm,_⟩,_⟩:=hq1
    have hd0:=hcell1 0 (by simp)
    simp only[Nat.add_zero,List.getElem_cons_zero]at hd0
    have HPA:Hid (pSig P.sigs[i]=pn):=hid hpat.1
    clear hcell1 hcs1 hpat
    go_wp2_with fail
    go_roundw
    case rel=>exact⟨n+pn,i+1,by omega,hid (by rw[sumN_take _ hi1];have h1:=hn0.out;have h2:=HPA.out;omega),by omega,by go_num,by go_num,_,rfl⟩
    case measure=>simp[intOf];omega
   ·have hn4':¬ (n:Int)≤(m:Int):=by omega
    go_wp2_with fail
    go_loopw[5,7] (fun nv iv wr=>nv=.int .i64 (n:Int)∧iv=.int .i64 0∧∃ q,wr=w.drewN q) (fun _ _ _=>0)
    case atStart=>exact⟨rfl,rfl,_,rfl⟩
    case round=>
     obtain⟨rfl,rfl,q,rfl⟩:=hrel
     by_cases hlt2:0<cn
     ·go_wp2_with fail
      go_loopw[5,8] (fun nv iv wr=>nv=.int .i64 (n:Int)∧iv=.int .i64 0∧∃ q,wr=w.drewN q) (fun _ _ _=>0)
      case atStart=>exact⟨rfl,rfl,_,rfl⟩
      case round=>
       obtain⟨rfl,rfl,q,rfl⟩:=hrel
       by_cases hlt3:0<fn
       ·go_wp2_with fail
        go_ret
        exact⟨_,rfl,fun h=>absurd h (by first|(simp;done)|(simp;omega)),below_drewN _ (Below.refl _ _)⟩
       ·obtain rfl:fn=0:=by omega
        go_wp2_with fail
        go_ret
        exact⟨_,rfl,fun h=>absurd h (by first|(simp;done)|(simp;omega)),below_drewN _ (Below.refl _ _)⟩
     ·obtain rfl:cn=0:=by omega
      go_wp2_with fail
      go_loopw[5,8] (fun nv iv wr=>nv=.int .i64 (n:Int)∧iv=.int .i64 0∧∃ q,wr=w.drewN q) (fun _ _ _=>0)
      case atStart=>exact⟨rfl,rfl,_,rfl⟩
      case round=>
       obtain⟨rfl,rfl,q,rfl⟩:=hrel
       by_cases hlt3:0<fn
       ·go_wp2_with fail
        go_ret
        exact⟨_,rfl,fun h=>absurd h (by first|(simp;done)|(simp;omega)),below_drewN _ (Below.refl _ _)⟩
       ·obtain rfl:fn=0:=by omega
        go_wp2_with fail
        go_ret
        exact⟨_,rfl,fun h=>absurd h (by first|(simp;done)|(simp;omega)),below_drewN _ (Below.refl _ _)⟩
  ·have HN1:Hid (sn+cn+fn+sumN pSig P.sigs≤n):=hid (by have h1:=hn0.out;rwa [List.take_of_length_le (by rw[HSL.out];omega)]at h1)
   go_wp2_with fail
   go_loopw[5,7] (fun nv iv wr=>∃ n i:Nat,i≤cn∧Hid (sn+cn+fn+sumN pSig P.sigs+sumN pCls (P.classes.take i)≤n)∧n≤1000000000000000∧nv=.int .i64 (n:Int)∧iv=.int .i64 (i:Int)∧∃ q,wr=w.drewN q) (fun _ iv _=>cn-(intOf iv).toNat)
   case atStart=>exact⟨n,0,Nat.zero_le _,hid (by have:=HN1.out;simpa [sumN]using this),by omega,rfl,rfl,_,rfl⟩
   case round=>
    clear hi hn0 hn1
    obtain⟨n,i,hi,hn0,hn1,rfl,rfl,q,rfl⟩:=hrel
    by_cases hlt:i<cn
    ·by_cases hn4:n≤m
     ·have hn4':(n:Int)≤(m:Int):=by omega
      obtain⟨g1,o1,rfl,hg1,hcs1⟩:=rowV_at HC.out (by omega)
      have hi1:i<P.classes.length:=by rw[HCL.out];exact hlt
      obtain⟨cs1,hc21,hcell1,hq1⟩:=hcs1 i hi1
      obtain⟨v1,v2,rfl,⟨pa,pn,pc,rfl,hpat,_,hpm,_⟩,⟨ma,mn,mc,rfl,hmat,_,hmm,_⟩⟩:=hq1
      have hd0:=hcell1 0 (by simp)
      have hd1:=hcell1 1 (by simp)
      simp only[Nat.add_zero,List.getElem_cons_zero,List.getElem_cons_succ]at hd0 hd1
      have HPA:Hid (pCls P.classes[i]=pn+mn):=hid (by unfold pCls;rw[hpat.1,hmat.1])
      clear hcell1 hcs1 hpat hmat
      go_wp2_with fail
      go_quiet (fail)
      go_wp2_with fail
      go_roundw
      case rel=>exact⟨n+pn+mn,i+1,by omega,hid (by rw[sumN_take _ hi1];have h1:=hn0.out;have h2:=HPA.out;omega),by omega,by go_num,by go_num,_,rfl⟩
      case measure=>simp[intOf];omega
     ·have hn4':¬ (n:Int)≤(m:Int):=by omega
      go_wp2_with fail
      go_loopw[5,8] (fun nv iv wr=>nv=.int .i64 (n:Int)∧iv=.int .i64 0∧∃ q,wr=w.drewN q) (fun _ _ _=>0)
      case atStart=>exact⟨rfl,rfl,_,rfl⟩
      case round=>
       obtain⟨rfl,rfl,q,rfl⟩:=hrel
       by_cases hlt3:0<fn
       ·go_wp2_with fail
        go_ret
        exact⟨_,rfl,fun h=>absurd h (by first|(simp;done)|(simp;omega)),below_drewN _ (Below.refl _ _)⟩
       ·obtain rfl:fn=0:=by omega
        go_wp2_with fail
        go_ret
        exact⟨_,rfl,fun h=>absurd h (by first|(simp;done)|(simp;omega)),below_drewN _ (Below.refl _ _)⟩
    ·have HN2:Hid (sn+cn+fn+sumN pSig P.sigs+sumN pCls P.classes≤n):=hid (by have h1:=hn0.out;rwa [List.take_of_length_le (by rw[HCL.out];omega)]at h1)
     go_wp2_with fail
     go_loopw[5,8] (fun nv iv wr=>∃ n i:Nat,i≤fn∧0≤n∧n≤1000000000000000∧nv=.int .i64 (n:Int)∧iv=.int .i64 (i:Int)∧Hid ((n≤m→sn+cn+fn+sumN pSig P.sigs+sumN pCls P.classes+sumN pFunc (P.funcs.take i)≤n)∧Below w.heap.size w wr)) (fun _ iv _=>fn-(intOf iv).toNat)
     case atStart=>exact⟨n,0,Nat.zero_le _,by omega,by omega,rfl,rfl,hid ⟨fun _=>by have:=HN2.out;simpa [sumN]using this,below_drewN _ (Below.refl _ _)⟩⟩
     case round=>
      clear hi hn0 hn1
      obtain⟨n,i,hi,hn0,hn1,rfl,rfl,HI⟩:=hrel
      have hb0:=(HI.out.2.cell (p:=⟨g,off,none⟩) hg).trans hc0
      have hb1:=(HI.out.2.cell (p:=⟨g,off+1,none⟩) hg).trans hc1
      have hb2:=(HI.out.2.cell (p:=⟨g,off+2,none⟩) hg).trans hc2
      by_cases hlt:i<fn
      ·by_cases hn4:n≤m
       ·have hn4':(n:Int)≤(m:Int):=by omega
        obtain⟨g1,o1,rfl,hg1,hcs1⟩:=rowV_at (HF.out.since FuncQ.lasts HI.out.2) (by omega)
        have hi1:i<P.funcs.length:=by rw[HFL.out];exact hlt
        obtain⟨cs1,hc21,hcell1,hq1⟩:=hcs1 i hi1
        obtain⟨X,hX⟩:∃ X,X=P.funcs[i]:=⟨_,rfl⟩
        rw[←hX]at hq1
        obtain⟨v1,rfl,_,hrow⟩:=hq1
        obtain⟨ba,bn,bc,rfl,hbl,_⟩:=id hrow
        have hbm:=(rowV_len' hrow).2
        have hd1:=hcell1 1 (by simp)
        simp only[List.getElem_cons_zero,List.getElem_cons_succ]at hd1
        have HR:=hid hrow
        have HX:=hid hX
        have HBL:=hid hbl
        clear hcell1 hcs1 hrow hX hbl hc21
        go_wp2_with fail
        obtain⟨w3,rfl⟩:∃ u,u=wr:=⟨wr,rfl⟩
        go_loopw[5,9] (fun nv kv wk=>∃ n2 k:Nat,k≤bn∧n+bn≤n2∧n2≤1000000000000000∧nv=.int .i64 (n2:Int)∧kv=.int .i64 (k:Int)∧Hid ((n2≤m→n+bn+sumN pBlock (X.blocks.take k)≤n2)∧Below w3.heap.size w3 wk)) (fun _ kv _=>bn-(intOf kv).toNat)
        case atStart=>exact⟨n+bn,0,Nat.zero_le _,Nat.le_refl _,by omega,by go_num,rfl,hid ⟨fun _=>by simp[sumN],Below.refl _ _⟩⟩
        case round=>
         obtain⟨n2,k,hk,hk0,hk9,rfl,rfl,HK⟩:=hrel
         have hw0:g<w3.heap.size:=Nat.lt_of_lt_of_le hg HI.out.2.size
         have hf2:=(HK.out.2.cell (p:=⟨g,off+2,none⟩) hw0).trans hb2
         have hfd:=(HK.out.2.cell (p:=⟨g1,o1+i*2+1,none⟩) hg1).trans hd1
         by_cases hlk:k<bn
         ·by_cases hn5:n2≤m
          ·have hn5':(n2:Int)≤(m:Int):=by omega
           obtain⟨g2,o2,rfl,hg2,hcs2⟩:=rowV_at (HR.out.since BlockQ.lasts HK.out.2) (by omega)
           have hk1:k<X.blocks.length:=by rw[HBL.out];exact hlk
           obtain⟨cs2,hc82,hcell2,hbq2⟩:=hcs2 k hk1
           obtain⟨Y,hY⟩:∃ Y,Y=X.blocks[k]:=⟨_,rfl⟩
           rw[←hY]at hbq2
           obtain⟨pa,pn,pc,oa,on,oc,la,ln,lc,ma,mn,mc,rfl,hon⟩:=hbq2.form
           have hpm:=hbq2.params.2
           have hom:=(rowV_len' hbq2.ops).2
           have hlm:ln≤140737488351232:=by obtain⟨_,_,e,_,_,_,_,⟨_,_,_,rfl,_,_,h,_⟩,_⟩:=hbq2.fin;simp only[List.cons.injEq,Value.slice.injEq]at e;omega
           have hmm:mn≤140737488351232:=by obtain⟨_,_,e,_,_,_,_,_,⟨_,_,_,rfl,_,_,h,_⟩⟩:=hbq2.fin;simp only[List.cons.injEq,Value.slice.injEq]at e;omega
           have hd10:=hcell2 0 (by simp)
           have hd11:=hcell2 1 (by simp)
           have hd12:=hcell2 2 (by simp)
           have hd13:=hcell2 3 (by simp)
           have hd14:=hcell2 4 (by simp)
           have hd15:=hcell2 5 (by simp)
           have hd16:=hcell2 6 (by simp)
           have hd17:=hcell2 7 (by simp)
           simp only[Nat.add_zero,List.getElem_cons_zero,List.getElem_cons_succ]at hd10 hd11 hd12 hd13 hd14 hd15 hd16 hd17
           have hll:Y.fin.L.length=ln:=by obtain⟨_,_,e,_,_,_,_,⟨_,_,_,rfl,hat,_⟩,_⟩:=hbq2.fin;simp only[List.cons.injEq,Value.slice.injEq]at e;have:=hat.1;omega
           have hml:Y.fin.M.length=mn:=by obtain⟨_,_,e,_,_,_,_,_,⟨_,_,_,rfl,hat,_⟩⟩:=hbq2.fin;simp only[List.cons.injEq,Value.slice.injEq]at e;have:=hat.1;omega
           have HPB:Hid (pBlock X.blocks[k]=pn+on+ln+mn+sumN pOp Y.ops):=hid (by rw[←hY];unfold pBlock;rw[hbq2.params.1.1,hon,hll,hml])
           clear hll hml
           have HOY:=hid hbq2.ops
           have HYL:=hid hon
           have HY:=hid hY
           clear hcell2 hcs2 hbq2 hY hon hc82
           go_wp2_with fail
           have hal:Below wr.heap.size wr (wr.alloc (.cells #[.slice pa pn pc,.slice oa on oc,.int .i64 Y.fin.K,.int .i64 Y.fin.A,.int .i64 Y.fin.To,.int .i64 Y.fin.Else,.slice la ln lc,.slice ma mn mc] 51)):=(Below.refl _ _).alloc (Nat.le_refl _) _
           have hblk:=heap_alloc_new wr (.cells #[.slice pa pn pc,.slice oa on oc,.int .i64 Y.fin.K,.int .i64 Y.fin.A,.int .i64 Y.fin.To,.int .i64 Y.fin.Else,.slice la ln lc,.slice ma mn mc] 51)
           obtain⟨w4,rfl⟩:∃ u,u=wr:=⟨wr,rfl⟩
           generalize (w4.alloc (.cells #[.slice pa pn pc,.slice oa on oc,.int .i64 Y.fin.K,.int .i64 Y.fin.A,.int .i64 Y.fin.To,.int .i64 Y.fin.Else,.slice la ln lc,.slice ma mn mc] 51))=wy at hal hblk⊢
           have hby1:wy.cell? ⟨w4.heap.size,1,none⟩=some (.slice oa on oc):=by simp[World.cell?,hblk]
           have hby:w4.heap.size<wy.heap.size:=(Array.getElem?_eq_some_iff.1 hblk).1
           have HBY:=hid hal
           clear hal hblk hd10 hd11 hd12 hd13 hd14 hd15 hd16 hd17
           go_loopw[5,11] (fun nv jv wj=>∃ n3 j:Nat,j≤on∧Hid (n2+pn+on+ln+mn+sumN pOp (Y.ops.take j)≤n3)∧n2≤n3∧n3≤1000000000000000∧nv=.int .i64 (n3:Int)∧jv=.int .i64 (j:Int)∧Hid (Below wy.heap.size wy wj)) (fun _ jv _=>on-(intOf jv).toNat)
           case atStart=>exact⟨n2+pn+on+ln+mn,0,Nat.zero_le _,hid (by simp[sumN]),by omega,by omega,by go_num,rfl,hid (Below.refl _ _)⟩
           case round=>
            obtain⟨n3,j,hj,hj0,hj2,hj1,rfl,rfl,HJ⟩:=hrel
            have hy1:=(HJ.out.cell (p:=⟨w4.heap.size,1,none⟩) hby).trans hby1
            by_cases hlj:j<on
            ·by_cases hn6:n3≤m
             ·have hn6':(n3:Int)≤(m:Int):=by omega
              obtain⟨g3,o3,rfl,hg3,hcs3⟩:=rowV_at ((HOY.out.since OpQ.lasts HBY.out).since OpQ.lasts HJ.out) (by omega)
              have hj9:j<Y.ops.length:=by rw[HYL.out];exact hlj
              obtain⟨cs3,hc83,hcell3,hoq3⟩:=hcs3 j hj9
              obtain⟨O,hO⟩:∃ O,O=Y.ops[j]:=⟨_,rfl⟩
              rw[←hO]at hoq3
              obtain⟨l3,rfl,_,_,_,_,_,hos,⟨la3,ln3,lc3,rfl,hlat,_,hlm,_⟩⟩:=hoq3
              have hm5:=hcell3 5 (by simp)
              have hm6:=hcell3 6 (by simp)
              simp only[List.getElem_cons_zero,List.getElem_cons_succ]at hm5 hm6
              have hq8:((O.S.size:Nat):Int).tdiv 8=((O.S.size/8:Nat):Int):=rfl
              have hs8:O.S.size/8≤140737488351232:=by omega
              have HPO:Hid (pOp Y.ops[j]=ln3+O.S.size/8):=hid (by rw[←hO];unfold pOp;rw[hlat.1])
              clear hcell3 hcs3 hlat hO hc83
              go_wp2_with fail
              go_quiet (fail)
              go_wp2_with fail
              go_roundw
              case rel=>exact⟨n3+ln3+O.S.size/8,j+1,by omega,hid (by rw[sumN_take _ hj9];have h1:=hj0.out;have h2:=HPO.out;omega),by omega,by omega,by go_num,by go_num,hid (below_drewN _ HJ.out)⟩
              case measure=>simp[intOf];omega
             ·have hn6':¬ (n3:Int)≤(m:Int):=by omega
              go_wp2_with fail
              go_roundw
              case rel=>exact⟨n3,k+1,by omega,by omega,by omega,rfl,by go_num,hid ⟨fun h4=>absurd h4 hn6,keepB HK.out.2 (keepB HBY.out HJ.out)⟩⟩
              case measure=>simp[intOf];omega
            ·obtain rfl:j=on:=by omega
             go_wp2_with fail
             go_roundw
             case rel=>exact⟨n3,k+1,by omega,by omega,by omega,rfl,by go_num,hid ⟨fun h4=>by have h1:=hj0.out;rw[List.take_of_length_le (by rw[HYL.out];exact Nat.le_refl _)]at h1;have h2:=HK.out.1 (by omega);have h3:=HPB.out;rw[sumN_take _ hk1];omega,keepB HK.out.2 (keepB HBY.out HJ.out)⟩⟩
             case measure=>simp[intOf];omega
          ·have hn5':¬ (n2:Int)≤(m:Int):=by omega
           go_wp2_with fail
           go_roundw
           case rel=>exact⟨n2,i+1,by omega,by omega,by omega,rfl,by go_num,hid ⟨fun h4=>absurd h4 hn5,keepB HI.out.2 HK.out.2⟩⟩
           case measure=>simp[intOf];omega
         ·obtain rfl:k=bn:=by omega
          go_wp2_with fail
          go_roundw
          case rel=>exact⟨n2,i+1,by omega,by omega,by omega,rfl,by go_num,hid ⟨fun h4=>by have h1:=HI.out.1 hn4;have h2:=HK.out.1 h4;rw[List.take_of_length_le (by rw[HBL.out];exact Nat.le_refl _)]at h2;have h3:pFunc P.funcs[i]=k+sumN pBlock X.blocks:=(by rw[←HX.out];unfold pFunc;rw[HBL.out]);rw[sumN_take _ hi1];omega,keepB HI.out.2 HK.out.2⟩⟩
          case measure=>simp[intOf];omega
       ·have hn4':¬ (n:Int)≤(m:Int):=by omega
        go_wp2_with fail
        go_ret
        exact⟨_,rfl,fun h=>absurd h (by first|(simp;done)|(simp;omega)),HI.out.2⟩
      ·obtain rfl:i=fn:=by omega
       go_wp2_with fail
       go_ret
       refine⟨_,rfl,fun h=> ?_,HI.out.2⟩
       have h4:n≤m:=by simp at h;omega
       have h1:=HI.out.1 h4
       rw[List.take_of_length_le (by rw[HFL.out];exact Nat.le_refl _)]at h1
       unfold partsP
       have h2:=HSL.out
       have h3:=HCL.out
       have h5:=HFL.out
       omega
end Go.Proofs.YtikoklagffbgiaaGreatDoor
