/- Layer 7: the document's Targets and Next. -/
import Derived.Test.YthjdeoppajlcoaaGreatDoorYT0

namespace Go.Proofs.YthjdeoppajlcoaaGreatDoor
set_option linter.unusedSimpArgs false
set_option linter.unusedVariables false
set_option maxHeartbeats 4000000
set_option maxRecDepth 100000
open Go.RowKit (wrap64 intOf Below Hid)
open Go.Lib (hid)
def nI(l:List TgV):List Value:=l.flatMap fun x=>[.int .i64 x.1,.slice x.2.1 x.2.2.1 x.2.2.2]
theorem zG:∀ (l:List TgV) (i:Nat) (h:i<l.length),(nI l)[i*2]? =some (.int .i64 l[i].1)∧(nI l)[i*2+1]? =some (.slice l[i].2.1 l[i].2.2.1 l[i].2.2.2)
 |x::l,0,_=>⟨rfl,rfl⟩
 |x::l,i+1,h=>by
  have ih:=zG l i (by simpa using h)
  have e1:(i+1)*2=i*2+2:=by omega
  refine⟨?_, ?_⟩
  ·rw[e1];exact ih.1
  ·rw[e1];exact ih.2
def gK(w:World)(B:Nat)(v:Value)(l:List TgV):Prop:=w.ownsRow B 142 2 v l.length (nI l)
theorem Ea:(Tryz.prog.info? 142).map (fun i=>(i.zero,i.size,i.bytes))=some (some (.agg #[.int .i64 0,.slice none 0 0]),2,32):=by kernel_rfl
theorem iG(w:World){ops:Array Oper}{rest:List Oper}{o:Oper}{a:Act}{Q:Exit→Act→World→Prop}(hgd:o.guard=none)(s x:Operand)
 (ho:o.op=.call {callee:=.builtin .append,args:=#[s,x],argTypes:=#[139,139]})
 (B:Nat)(v:Value)(l:List TgV)(hs:a.eval s=v)(hown:gK w B v l)(hB:B≤w.heap.size)
 (C:Array Value)(c g:Nat)(z:TgV)(hx:a.eval x=.slice (some ⟨g,0,none⟩) 1 c)(hg:g=w.heap.size)(hC:C=#[.int .i64 z.1,.slice z.2.1 z.2.2.1 z.2.2.2])
 (hlen:l.length≤100000)
 (h:∀ va vn vc w',gK w' B (.slice va vn vc) (l++ [z])→Below B w w'→wpList Tryz.prog ops Q rest (a.put o.dst (.slice va vn vc)) w'):wpList Tryz.prog ops Q (o::rest) a (w.alloc (.cells C 142)):=by
 obtain⟨i0,hi,hz0,hz1,hz2⟩:=info_parts Ea
 subst hC hg
 refine wpList_append_own _ hgd s x 139 ho B 142 i0 (.agg #[.int .i64 0,.slice none 0 0]) 2 32 Tryz.underlying139 hi hz0 hz1 hz2 rfl (by decide) v l.length (nI l) hs (World.ownsRow.alloc hown _) ⟨w.heap.size,0,none⟩ 1 c [.int .i64 z.1,.slice z.2.1 z.2.2.1 z.2.2.2] hx rfl (fun j u hu=> ?_) (by intro u hu;simp at hu;rcases hu with rfl|rfl<;>rfl) (by unfold maxLen;omega) (by omega) (by simp;omega) ?_
 ·rw[aU,Nat.zero_add,World.cell?_alloc_mark]
  simpa using hu
 ·intro v' w' hown' hgrow _
  have h2:gK w' B v' (l++ [z]):=by
   show w'.ownsRow B _ 2 v' (l++ [z]).length (nI (l++ [z]))
   rw[show nI (l++ [z])=nI l++ [.int .i64 z.1,.slice z.2.1 z.2.2.1 z.2.2.2] by simp[nI],List.length_append]
   exact hown'
  obtain⟨va,vn,vc,rfl⟩:∃ va vn vc,v'=.slice va vn vc:=by
   rcases h2.2 with⟨e,_⟩|⟨_,_,_,e,_⟩
   ·exact⟨_,_,_,e⟩
   ·exact⟨_,_,_,e⟩
  exact h va vn vc w' h2 (Below.grown ((Below.refl B w).alloc hB _) hgrow (by simp;omega) (fun k hk=>(hown.lt k hk).1))
theorem jo{P:Program}(w:World){ops:Array Oper}{rest:List Oper}{o:Oper}{a:Act}{Q:Exit→Act→World→Prop}(hgd:o.guard=none)(s x:Operand)(t:TypeId)
 (ho:o.op=.call {callee:=.builtin .append,args:=#[s,x],argTypes:=#[t,t]})(e:TypeId)(ht:P.underlying t=some (.slice e))
 (hinfo:(P.info? e).map (fun i=>(i.zero,i.size,i.bytes))=some (some (.int .i64 0),1,8))
 (B:Nat)(v:Value)(Z:List Int)(hs:a.eval s=v)(hown:aj w B e v Z)(hB:B≤w.heap.size)
 (C:Array Value)(c g:Nat)(z:Int)(hx:a.eval x=.slice (some ⟨g,0,none⟩) 1 c)(hg:g=w.heap.size)(hC:C=#[.int .i64 z])
 (hlen:(Z.length+1)*8≤140737488355328)
 (h:∀ va vn vc w',aj w' B e (.slice va vn vc) (Z++ [z])→(w.alloc (.cells C e)).grownBy w' v.ownBlock→wpList P ops Q rest (a.put o.dst (.slice va vn vc)) w'):wpList P ops Q (o::rest) a (w.alloc (.cells C e)):=by
 obtain⟨i0,hi,hz0,hz1,hz2⟩:=info_parts hinfo
 subst hC hg
 refine wpList_append_own _ hgd s x t ho B e i0 (.int .i64 0) 1 8 ht hi hz0 hz1 hz2 rfl (by decide) v Z.length (Z.map dN) hs (World.ownsRow.alloc hown _) ⟨w.heap.size,0,none⟩ 1 c [.int .i64 z] hx rfl (fun j u hu=> ?_) (by intro u hu;simp at hu;subst hu;rfl) (by unfold maxLen;omega) hlen (by simp;omega) ?_
 ·rw[aU,Nat.zero_add,World.cell?_alloc_mark]
  simpa using hu
 ·intro v' w' hown' hgrow _
  have hown2:aj w' B e v' (Z++ [z]):=by
   show w'.ownsRow B e 1 v' (Z++ [z]).length ((Z++ [z]).map dN)
   rw[List.map_append,List.length_append]
   exact hown'
  obtain⟨va,vn,vc,rfl,_⟩:=hown2.nums
  exact h va vn vc w' hown2 hgrow
theorem gK.mono{w:World}{B B':Nat}{v:Value}{l:List TgV}(h:gK w B v l)(hB:B'≤B):gK w B' v l:=by
 refine⟨h.1, ?_⟩
 rcases h.2 with hn|⟨g,cap,cur,rfl,hg,rest⟩
 ·exact .inl hn
 ·exact .inr ⟨g,cap,cur,rfl,Nat.le_trans hB hg,rest⟩
theorem gK.laid{w:World}{n B:Nat}(hn:n=w.heap.size)(hB:B≤n):gK (w.alloc (.cells #[] 142)) B (.slice (some ⟨n,0,none⟩) 0 0) []:=by
 subst hn
 exact World.ownsRow_made w #[] 0 hB (by decide) rfl
theorem zK(w:World)(C:Array Value){T1 T2:TypeId}(W1:World)(hb:Below (w.heap.size+1) ((w.alloc (.cells C T1)).alloc (.cells #[] T2)) W1)(j:Nat):W1.cell? ⟨w.heap.size,j,none⟩=C[j]? :=by
 rw[hb.cell (p:=⟨w.heap.size,j,none⟩) (by show w.heap.size<w.heap.size+1;omega)]
 rw[World.cell?_of_block (a:=⟨w.heap.size,j,none⟩) ((World.grownBy_alloc (w.alloc (.cells C T1)) _ none).block w.heap.size (by simp) (fun e=>by cases e))]
 exact World.cell?_alloc_mark _ _ _ _ _
theorem qO(K A T E:Int)(la:Option Addr)(ln lc:Nat)(ma:Option Addr)(mn mc:Nat)(w:World):
 Calls Tryz.prog 94 #[.agg #[.int .i64 K,.int .i64 A,.int .i64 T,.int .i64 E,.slice la ln lc,.slice ma mn mc]] w fun e w'=>∃ va vn vc,e=.returned (.slice va vn vc)∧gK w' w.heap.size (.slice va vn vc) (tgV K T E la ln lc ma mn mc)∧Below w.heap.size w w':=by
 have hbel:Below w.heap.size w ((w.alloc (.cells #[.int .i64 K,.int .i64 A,.int .i64 T,.int .i64 E,.slice la ln lc,.slice ma mn mc] 49)).alloc (.cells #[] 142)):=((Below.refl w.heap.size w).alloc (Nat.le_refl _) _).alloc (by simp) _
 have HBE:=hid hbel
 clear hbel
 by_cases hK0:K=0
 ·subst hK0
  have HT:Hid (tgV 0 T E la ln lc ma mn mc=[(T,la,ln,lc)]):=hid rfl
  go_enter Tryz.func94,Tryz.ntmps94
  go_wp2_with((with_reducible refine iG _ rfl _ _ rfl (w.heap.size+1) (.slice (some ⟨w.heap.size+1,0,none⟩) 0 0) [] ?_ ?_ ?_ _ 1 (w.heap.size+1+1) (T,la,ln,lc) ?_ ?_ ?_ ?_ ?_);(next=>rfl);(next=>exact gK.laid (by simp) (by omega));(next=>simp<;>omega);(next=>rfl);(next=>simp);(next=>rfl);(next=>simp);intro va vn vc w1 ho hb;have HO:=hid ho;have HB:=hid hb;have hc0:w1.cell? ⟨w.heap.size,0,none⟩=some (.int .i64 0):=zK w _ w1 hb 0;clear ho hb)
  go_ret
  exact⟨_,_,_,rfl,by rw[HT.out];exact HO.out.mono (by omega),HBE.out.trans (HB.out.mono (by omega))⟩
 ·have hk:(K==0)=false:=by simpa using hK0
  by_cases hK1:K=1
  ·subst hK1
   have HT:Hid (tgV 1 T E la ln lc ma mn mc=[(T,la,ln,lc),(E,ma,mn,mc)]):=hid rfl
   clear hK0 hk
   go_enter Tryz.func94,Tryz.ntmps94
   go_wp2_with(first|((with_reducible refine iG w1 rfl _ _ rfl (w.heap.size+1) (.slice va vn vc) [(T,la,ln,lc)] ?_ ?_ ?_ _ 1 w1.heap.size (E,ma,mn,mc) ?_ ?_ ?_ ?_ ?_);(next=>rfl);(next=>exact HO.out);(next=>exact HZ.out);(next=>rfl);(next=>rfl);(next=>rfl);(next=>simp);intro va2 vn2 vc2 w2 ho2 hb2;have HO2:=hid ho2;have HB2:=hid hb2;clear ho2 hb2)|((with_reducible refine iG _ rfl _ _ rfl (w.heap.size+1) (.slice (some ⟨w.heap.size+1,0,none⟩) 0 0) [] ?_ ?_ ?_ _ 1 (w.heap.size+1+1) (T,la,ln,lc) ?_ ?_ ?_ ?_ ?_);(next=>rfl);(next=>exact gK.laid (by simp) (by omega));(next=>simp<;>omega);(next=>rfl);(next=>simp);(next=>rfl);(next=>simp);intro va vn vc w1 ho hb;have HO:=hid ho;have HB:=hid hb;have hc0:w1.cell? ⟨w.heap.size,0,none⟩=some (.int .i64 1):=zK w _ w1 hb 0;have hc3:w1.cell? ⟨w.heap.size,3,none⟩=some (.int .i64 E):=zK w _ w1 hb 3;have hc5:w1.cell? ⟨w.heap.size,5,none⟩=some (.slice ma mn mc):=zK w _ w1 hb 5;have HZ:Hid (w.heap.size+1≤w1.heap.size):=hid (by have:=hb.size;simp at this;omega);clear ho hb))
   go_ret
   exact⟨_,_,_,rfl,by rw[HT.out];exact HO2.out.mono (by omega),(HBE.out.trans (HB.out.mono (by omega))).trans (HB2.out.mono (by omega))⟩
  ·have hk1:(K==1)=false:=by simpa using hK1
   have HT:Hid (tgV K T E la ln lc ma mn mc=[]):=hid (by unfold tgV;rw[if_neg hK0,if_neg hK1])
   clear hK0 hK1
   go_enter Tryz.func94,Tryz.ntmps94
   go_wp2_with fail
   go_ret
   exact⟨_,_,_,rfl,by rw[HT.out];exact gK.laid (by simp) (by omega),HBE.out⟩
theorem gK.read{w:World}{B:Nat}{va:Option Addr}{vn vc:Nat}{l:List TgV}(h:gK w B (.slice va vn vc) l):vn=l.length∧(0<vn→∃ g,va=some ⟨g,0,none⟩∧B≤g∧g<w.heap.size∧∀ i (hi:i<l.length),w.cell? ⟨g,i*2,none⟩=some (.int .i64 l[i].1)∧w.cell? ⟨g,i*2+1,none⟩=some (.slice l[i].2.1 l[i].2.2.1 l[i].2.2.2)):=by
 have hown:w.ownsRow B 142 2 (.slice va vn vc) l.length (nI l):=h
 rcases h.2 with⟨e,h0⟩|⟨g,cap,cur,e,hB,hh,_⟩
 ·cases e
  exact⟨h0.symm,fun hp=>by omega⟩
 ·cases e
  refine⟨rfl,fun _=>⟨g,rfl,hB,(Array.getElem?_eq_some_iff.1 hh).1,fun i hi=> ?_⟩⟩
  obtain⟨h1,h2⟩:=zG l i hi
  have c1:=World.ownsRow.cells hown rfl _ _ h1
  have c2:=World.ownsRow.cells hown rfl _ _ h2
  rw[aU,Nat.zero_add]at c1 c2
  exact⟨c1,c2⟩
theorem gK.below{w w':World}{B:Nat}{v:Value}{l:List TgV}(h:gK w B v l)(hb:Below w.heap.size w w'):gK w' B v l:=by
 refine⟨h.1, ?_⟩
 rcases h.2 with hn|⟨g,cap,cur,rfl,hB,hg,rest⟩
 ·exact .inl hn
 ·refine .inr ⟨g,cap,cur,rfl,hB, ?_,rest⟩
  rw[hb.block g (Array.getElem?_eq_some_iff.1 hg).1]
  exact hg
theorem FQ{W:World}{n0:Nat}{e:TypeId}{v:Value}{way:List Int}(h:aj W n0 e v way){i:Nat}(hi:v.ownBlock=some i):∃ cur,W.heap[i]? =some (.cells cur e (0,0))∧n0≤i:=by
 rcases h.2 with⟨e,_⟩|⟨g,cap,cur,e,hb,hh,_⟩
 ·subst e;cases hi
 ·subst e;cases hi;exact⟨cur,hh,hb⟩
theorem xB(
 pa:Option Addr) (pn pc:Nat) (oa:Option Addr) (on oc:Nat) (A:Int) (la:Option Addr) (ln lc:Nat) (ma:Option Addr) (mn mc:Nat) (e:mV) (w:World):
 Calls Tryz.prog 75 #[.agg #[.slice pa pn pc,.slice oa on oc,.int .i64 e.K,.int .i64 A,.int .i64 e.To,.int .i64 e.Else,.slice la ln lc,.slice ma mn mc]] w
  fun e' w'=>∃ va vn vc,e'=.returned (.slice va vn vc)∧aj w' w.heap.size 3 (.slice va vn vc) (iQ e)∧Below w.heap.size w w':=by
 have HFST:Hid ((tgV e.K e.To e.Else la ln lc ma mn mc).map (·.1)=tos e):=hid (wZ e la ln lc ma mn mc)
 have HTL:=hid (xg e.K e.To e.Else la ln lc ma mn mc)
 have HNX:=hid (rY e)
 generalize e.K=K at*
 generalize e.To=T at*
 generalize e.Else=E at*
 go_enter Tryz.func75,Tryz.ntmps75
 go_wp2_with(go_at_call 94;refine(qO K A T E la ln lc ma mn mc _).mono ?_;rintro e w1 ⟨va,vn,vc,rfl,ho,hb⟩;have HO:=hid ho;have HB:=hid hb;clear ho hb)
 generalize tgV K T E la ln lc ma mn mc=l at*
 obtain⟨hvn,hrd⟩:=HO.out.read
 subst hvn
 have HRD:=hid hrd
 clear hrd
 go_loopw[5,3] (fun v5 v3 wr=>∃ i:Nat,i≤l.length∧v5=.int .i64 (i:Int)∧∃ xa xn xc,v3=.slice xa xn xc∧Hid (aj wr (w.heap.size+1) 3 (.slice xa xn xc) (bY ((l.take i).map (·.1)))∧Below w.heap.size w wr∧gK wr (w.heap.size+2) (.slice va l.length vc) l∧w.heap.size+2≤wr.heap.size)) (fun v5 _ _=>l.length-(intOf v5).toNat)
 case atStart=>
  refine⟨0,Nat.zero_le _,rfl,_,_,_,rfl,hid ⟨?_, ?_, ?_, ?_⟩⟩
  ·exact(aj.laid (by simp) (by omega)).below HB.out
  ·exact(((Below.refl w.heap.size w).alloc (Nat.le_refl _) _).alloc (by simp) _).trans (HB.out.mono (by simp<;>omega))
  ·exact HO.out.mono (by simp)
  ·have:=HB.out.size
   simp at this
   omega
 case round=>
  obtain⟨i,hi,rfl,xa,xn,xc,rfl,HST⟩:=hrel
  by_cases hlt:i<l.length
  ·have hln:l.length≤2:=HTL.out
   obtain⟨hvn2,hrd⟩:=HST.out.2.2.1.read
   obtain⟨g,rfl,hg1,hg2,hcs⟩:=hrd (by omega)
   have hcell:=(hcs i hlt).1
   obtain⟨z,hz⟩:∃ z,z=l[i].1:=⟨_,rfl⟩
   rw[←hz]at hcell
   have HSTEP:Hid (bY ((l.take (i+1)).map (·.1))=addN (bY ((l.take i).map (·.1))) z):=hid (by
    rw[List.take_succ_eq_append_getElem hlt,List.map_append,List.map_cons,List.map_nil,qH,hz])
   have HLZ:Hid ((bY ((l.take i).map (·.1))).length≤2):=hid (by
    have h1:=rZ ((l.take i).map (·.1))
    have h2:=HTL.out
    rw[List.length_map,List.length_take]at h1
    omega)
   have hn:=HST.out.1.read
   have hxn:xn≤2:=by have:=hn.1;have:=HLZ.out;omega
   have CH:=hid (tN xa xn xc _ z wr hn (by omega))
   have HRW:=hid hg1
   clear hvn2 hrd hcs hn hg2 hz hg1
   cases hin:inL (bY ((l.take i).map (·.1))) z with
   |true=>
    have HSN:Hid (addN (bY ((l.take i).map (·.1))) z=bY ((l.take i).map (·.1))):=hid (by unfold addN;rw[if_pos hin])
    rw[hin]at CH
    clear hin
    go_wp2_with(go_at_call 39;refine CH.out.mono ?_;rintro e u ⟨rfl,rfl⟩)
    go_roundw
    case rel=>exact⟨i+1,by omega,by go_num,xa,xn,xc,rfl,hid ⟨by rw[HSTEP.out,HSN.out];exact HST.out.1,HST.out.2⟩⟩
    case measure=>have hw:wrap64 ((i:Int)+1)=(i:Int)+1:=(by unfold wrap64;omega);simp[intOf,hw];omega
   |false=>
    have HSN:Hid (addN (bY ((l.take i).map (·.1))) z=bY ((l.take i).map (·.1))++ [z]):=hid (by unfold addN;rw[if_neg (by rw[hin];decide)])
    rw[hin]at CH
    clear hin
    have HOW:=hid HST.out.1
    have HSZ:Hid (w.heap.size+1≤wr.heap.size):=hid (by have:=HST.out.2.2.2;omega)
    have HLN:Hid (((bY ((l.take i).map (·.1))).length+1)*8≤140737488355328):=hid (by have:=HLZ.out;omega)
    go_wp2_with(first|(go_at_call 39;refine CH.out.mono ?_;rintro e u ⟨rfl,rfl⟩)|(refine jo wr rfl _ _ 40 rfl 3 Tryz.underlying40 aT (w.heap.size+1) (.slice xa xn xc) _ rfl HOW.out HSZ.out _ 1 _ z rfl rfl rfl HLN.out ?_;intro ya yn yc w2 ho2 hg2;have HO2:=hid ho2;have HG2:=hid hg2;clear ho2 hg2))
    go_roundw
    case rel=>
     have hUb:∀ k,(Value.slice xa xn xc).ownBlock=some k→w.heap.size+1≤k:=fun k hk=>(HOW.out.lt k hk).1
     refine⟨i+1,by omega,by go_num,ya,yn,yc,rfl,hid ⟨by rw[HSTEP.out,HSN.out];exact HO2.out,HST.out.2.1.trans (Below.grown ((Below.refl w.heap.size wr).alloc (by have:=HSZ.out;omega) _) HG2.out (by simp;have:=HSZ.out;omega) (fun k hk=>by have:=hUb k hk;omega)),World.ownsRow.kept (World.ownsRow.alloc HST.out.2.2.1 _) HG2.out (.inr fun e=> ?_),by have h1:=HG2.out.size;have h2:=HST.out.2.2.2;simp at h1;omega⟩⟩
     obtain⟨cur,hc,_⟩:=FQ HOW.out e.symm
     rcases HST.out.2.2.1.2 with⟨e2,_⟩|⟨g2,cap2,cur2,e2,_,hh,_⟩
     ·cases e2
     ·cases e2
      rw[hc]at hh
      simp at hh
    case measure=>have hw:wrap64 ((i:Int)+1)=(i:Int)+1:=(by unfold wrap64;omega);simp[intOf,hw];omega
  ·obtain rfl:i=l.length:=by omega
   have HSTEP:Hid (bY ((l.take l.length).map (·.1))=iQ _):=hid (by rw[List.take_length,HFST.out,HNX.out])
   go_wp2_with fail
   go_ret
   exact⟨_,_,_,rfl,by rw[←HSTEP.out];exact HST.out.1.mono (by omega),HST.out.2.1⟩
end Go.Proofs.YthjdeoppajlcoaaGreatDoor
