/- Layer 7: package cfg's Targets: a range over its targets each target's list copied -/
import Derived.Test.YthjdeoppajlcoaaGreatDoorYCfgF
import Derived.Test.YthjdeoppajlcoaaGreatDoorYDomPl
import Derived.Test.YthjdeoppajlcoaaGreatDoorYKindRef
import Derived.Maps.OwnIn
import Derived.Deep.DeepCutAuto
namespace Go.Proofs.YthjdeoppajlcoaaGreatDoor
set_option linter.unusedSimpArgs false
set_option linter.unusedVariables false
open Go.RowKit
attribute [local go_sem] Oper.semAt_some
open Go.Lib (hid)
def encB(T E:Int)(la:Option Addr)(ln lc:Nat)(ma:Option Addr)(mn mc:Nat):Bool→Array Value
 |false=>#[.agg #[.int .i64 T,.slice la ln lc]]
 |true=>#[.agg #[.int .i64 E,.slice ma mn mc]]
def ixs(K:Int):List Bool:=if K=0 then [false]else if K=1 then [false,true]else []
theorem ixs_len(K:Int):(ixs K).length≤2:=by
 unfold ixs
 repeat' split
 all_goals simp
set_option maxRecDepth 100000 in
set_option maxHeartbeats 2000000 in
theorem Db(K A T E:Int)(la:Option Addr)(ln lc:Nat)(ma:Option Addr)(mn mc:Nat)(b n:Nat)(w:World)(hb:∀ j,w.cell? ⟨b,j,none⟩=(#[.int .i64 K,.int .i64 A,.int .i64 T,.int .i64 E,.slice la ln lc,.slice ma mn mc]:Array Value)[j]?):
 SeqStopsK Fence.wide n Tryz.prog 152 #[.pointer (some ⟨b,0,none⟩)] (encB T E la ln lc ma mn mc) (fC b) (fun xs=>xs=ixs K) (fun pre=>∃ q,pre=(ixs K).take q) (ixs K).length w:=by
 intro l J Jx W hW hJ hJx hY h0
 have hlt:b<w.heap.size:=World.block_lt_of_cell? (a:=⟨b,0,none⟩) _ (hb 0)
 have HB:Hid (∀u,fC b W u→∀ j,u.cell? ⟨b,j,none⟩=(#[.int .i64 K,.int .i64 A,.int .i64 T,.int .i64 E,.slice la ln lc,.slice ma mn mc]:Array Value)[j]?):=hid fun u hu j=>(hu.cells j).trans ((hW.cell (p:=⟨b,j,none⟩) hlt).trans (hb j))
 have c0:=HB.out W (fC.refl b W) 0
 have c2:=HB.out W (fC.refl b W) 2
 have c4:=HB.out W (fC.refl b W) 4
 clear hb hlt hW
 refine callsIn_of_wp Tryz.func152 rfl trivial ?_ rfl
 simp only[Tryz.ntmps152,List.size_toArray,List.length_cons,List.length_nil,Nat.reduceAdd,Nat.reduceSub,Array.replicate_succ,Array.replicate_zero,List.push_toArray,List.append_toArray,List.nil_append,List.cons_append]
 by_cases hK0:K=0
 ·have hk:(K==0)=true:=by rw[hK0];rfl
  have HT:Hid (ixs K=[false]):=hid (by unfold ixs;rw[if_pos hK0])
  clear hK0
  have hy0:=hY [] false W h0 (by rw[HT.out];simp)
  simp only[encB]at hy0
  obtain⟨fn,tmps,assign,body,hy,hR⟩:=hy0
  clear hY
  gi_wp2
  refine⟨(fun h=>(nomatch h)),hR.mono ?_⟩
  rintro e W3 (⟨rfl,hJ3,hk3⟩|⟨rfl,hJx3⟩)
  ·gi_wp2
   go_end0
   exact⟨⟨_,rfl⟩,.inl ⟨_,HT.out.symm,hJ3⟩⟩
  ·gi_wp2
   go_end0
   exact⟨⟨_,rfl⟩,.inr ⟨_,⟨1,by rw[HT.out];rfl⟩,hJx3⟩⟩
 ·have hk:(K==0)=false:=by simpa using hK0
  by_cases hK1:K=1
  ·have hk1:(K==1)=true:=by rw[hK1];rfl
   have HT:Hid (ixs K=[false,true]):=hid (by unfold ixs;rw[if_neg hK0,if_pos hK1])
   clear hK0 hK1
   have hy0:=hY [] false W h0 (by rw[HT.out];simp)
   have HY1:=hid fun W1 h=>hY [false] true W1 h (by rw[HT.out];simp)
   simp only[encB]at hy0 HY1
   obtain⟨fn,tmps,assign,body,hy,hR⟩:=hy0
   clear hY
   gi_wp2
   refine⟨(fun h=>(nomatch h)),hR.mono ?_⟩
   rintro e W3 (⟨rfl,hJ3,hk3⟩|⟨rfl,hJx3⟩)
   ·have d3:=HB.out W3 hk3 3
    have d5:=HB.out W3 hk3 5
    obtain⟨fn2,tmps2,assign2,body2,hy2,hR2⟩:=HY1.out W3 hJ3
    clear hJ3 hk3 hy hR c0 c2 c4
    gi_wp2
    refine⟨(fun h=>(nomatch h)),hR2.mono ?_⟩
    rintro e W4 (⟨rfl,hJ4,hk4⟩|⟨rfl,hJx4⟩)
    ·gi_wp2
     go_end0
     exact⟨⟨_,rfl⟩,.inl ⟨_,HT.out.symm,hJ4⟩⟩
    ·gi_wp2
     go_end0
     exact⟨⟨_,rfl⟩,.inr ⟨_,⟨2,by rw[HT.out];rfl⟩,hJx4⟩⟩
   ·gi_wp2
    go_end0
    exact⟨⟨_,rfl⟩,.inr ⟨_,⟨1,by rw[HT.out];rfl⟩,hJx3⟩⟩
  ·have hk1:(K==1)=false:=by simpa using hK1
   have HT:Hid (ixs K=[]):=hid (by unfold ixs;rw[if_neg hK0,if_neg hK1])
   clear hK0 hK1 hY
   gi_wp2
   go_end0
   exact⟨⟨_,rfl⟩,.inl ⟨_,HT.out.symm,h0⟩⟩
def Ck(W:World)(B:Nat)(x:TgV)(t:Int×List Int):Prop:=x.1=t.1∧aj W B 3 (.slice x.2.1 x.2.2.1 x.2.2.2) t.2
def uj(W:World)(B:Nat):List TgV→List (Int×List Int)→Prop
 | [],[]=>True
 |x::l,t::ts=>Ck W B x t∧uj W B l ts
 |_,_=>False
theorem uj.len{W:World}{B:Nat}:∀ {l:List TgV} {ts:List (Int×List Int)},uj W B l ts→l.length=ts.length
 | [],[],_=>rfl
 |_::_,_::_,h=>by have:=uj.len h.2;simp[this]
 | [],_::_,h=>h.elim
 |_::_,[],h=>h.elim
theorem uj.snoc{W:World}{B:Nat}{x:TgV}{t:Int×List Int}(hx:Ck W B x t):∀ {l:List TgV} {ts:List (Int×List Int)},uj W B l ts→uj W B (l++ [x]) (ts++ [t])
 | [],[],_=>⟨hx,trivial⟩
 |_::_,_::_,h=>⟨h.1,uj.snoc hx h.2⟩
 | [],_::_,h=>h.elim
 |_::_,[],h=>h.elim
theorem uj.at{W:World}{B:Nat}:∀ {l:List TgV} {ts:List (Int×List Int)},uj W B l ts→∀ i (h1:i<l.length) (h2:i<ts.length),Ck W B l[i] ts[i]
 | [],[],_,i,h1,_=>absurd h1 (by simp)
 |_::_,_::_,h,0,_,_=>h.1
 |_::_,_::_,h,i+1,h1,h2=>uj.at h.2 i (by simpa using h1) (by simpa using h2)
 | [],_::_,h,_,_,_=>h.elim
 |_::_,[],h,_,_,_=>h.elim
theorem uj.all{W W':World}{B B':Nat}(hk:∀ x t,Ck W B x t→Ck W' B' x t):∀ {l:List TgV} {ts:List (Int×List Int)},uj W B l ts→uj W' B' l ts
 | [],[],_=>trivial
 |_::_,_::_,h=>⟨hk _ _ h.1,uj.all hk h.2⟩
 | [],_::_,h=>h.elim
 |_::_,[],h=>h.elim
theorem Ck.grown{W W':World}{B:Nat}{x:TgV}{t:Int×List Int}{row:Option Nat}(h:Ck W B x t)(hg:W.grownBy W' row)(hr:∀ r,row=some r→∀ (C:Array Value) (m:Nat×Nat),W.heap[r]? ≠some (.cells C 3 m)):Ck W' B x t:=by
 refine⟨h.1,World.ownsRow.kept h.2 hg ?_⟩
 rcases h.2.2 with⟨he,_⟩|⟨g,cap,cur,he,_,hgb,_⟩
 ·exact .inl (by rw[he];rfl)
 ·exact .inr fun e'=>hr g (by rw[←e',he];rfl) _ _ hgb
theorem iR{W:World}{B:Nat}{v:Value}{l:List TgV}(h:gK W B v l){r:Nat}(hr:v.ownBlock=some r):∃ C,W.heap[r]? =some (.cells C 142 (0,0))∧B≤r:=by
 rcases h.2 with⟨rfl,_⟩|⟨g,cap,cur,rfl,hB,hgb,_⟩
 ·cases hr
 ·cases hr;exact⟨_,hgb,hB⟩
structure qV(w W:World)(v:Value)(l:List TgV)(ts:List (Int×List Int)):Prop where
 box:Boxed W (w.heap.size+1) 139 v
 own:gK W (w.heap.size+3) v l
 cop:uj W (w.heap.size+3) l ts
 bel:Below w.heap.size w W
 siz:w.heap.size+3≤W.heap.size
theorem qV.grown{w W W':World}{v:Value}{l:List TgV}{ts:List (Int×List Int)}{row:Option Nat}(h:qV w W v l ts)(hg:W.grownBy W' row)(hr:∀ r,row=some r→w.heap.size+3≤r∧∃ o:Obj,W.heap[r]? =some o∧o.isCells=false):qV w W' v l ts:=by
 have hb:Below (w.heap.size+3) W W':=Below.grown (Below.refl _ W) hg h.siz (fun k e=>(hr k e).1)
 refine⟨Boxed.grownRow h.box hg (fun r e=>(hr r e).2), ?_,h.cop.all fun x t hx=>hx.grown hg fun r e C m hC=> ?_,h.bel.trans (hb.mono (by omega)),Nat.le_trans h.siz hb.size⟩
 ·refine World.ownsRow.kept h.own hg ?_
  by_cases hv:v.ownBlock=none
  ·exact .inl hv
  ·refine .inr fun e=> ?_
   obtain⟨r,hr'⟩:=Option.ne_none_iff_exists'.1 hv
   obtain⟨C,hC,_⟩:=iR h.own hr'
   obtain⟨o,ho,hc⟩:=(hr r (by rw[←e];exact hr')).2
   rw[hC]at ho;cases ho;cases hc
 ·obtain⟨o,ho,hc⟩:=(hr r e).2
  rw[hC]at ho;cases ho;cases hc
theorem qV.alloc{w W:World}{v:Value}{l:List TgV}{ts:List (Int×List Int)}(h:qV w W v l ts)(o:Obj):qV w (W.alloc o) v l ts:=h.grown (World.grownBy_alloc W o none) (fun r e=>by cases e)
end Go.Proofs.YthjdeoppajlcoaaGreatDoor

namespace Go.Proofs.YthjdeoppajlcoaaGreatDoor
set_option linter.unusedVariables false
section
variable {N : Nat} {nx : Nat → List Int}
def Fwd(nx:Nat→List Int)(u:List Int)(from_:Int→Prop):Prop:=∀ a x c,u=a++x::c→from_ x∨∃ p∈a,x∈nx p.toNat
theorem Fwd.nil(from_:Int→Prop):Fwd nx [] from_:=fun a x c h=>by simp at h
theorem Fwd.append{u v:List Int}{f1 f2:Int→Prop}(hu:Fwd nx u f1)(hv:Fwd nx v f2):Fwd nx (u++v) (fun x=>f1 x∨f2 x):=by
 intro a x c h
 rcases List.append_eq_append_iff.1 h with⟨d,h1,h2⟩|⟨d,h1,h2⟩
 ·rcases hv d x c h2 with h3|⟨p,hp,h3⟩
  ·exact .inl (.inr h3)
  ·exact .inr ⟨p,by rw[h1];exact List.mem_append_right _ hp,h3⟩
 ·cases d with
  |nil=>
   simp only[List.nil_append]at h2
   rcases hv [] x c h2.symm with h3|⟨p,hp,_⟩
   ·exact .inl (.inr h3)
   ·cases hp
  |cons y d=>
   simp only[List.cons_append,List.cons.injEq]at h2
   obtain⟨rfl,h2⟩:=h2
   rcases hu a x d h1 with h3|h3
   ·exact .inl (.inl h3)
   ·exact .inr h3
theorem Fwd.mono{u:List Int}{f1 f2:Int→Prop}(h:Fwd nx u f1)(hf:∀ x,f1 x→f2 x):Fwd nx u f2:=fun a x c e=>(h a x c e).imp (hf x) id
theorem yQ:∀ (k:Nat) (s:List Int×List Int) (b:Int),∃u,(bf N nx k s b).2=u++s.2∧Fwd nx u (fun x=>x=b)
 |0,s,b=>⟨[],by simp[bf],Fwd.nil _⟩
 |k+1,s,b=>by
  by_cases h:¬ There N b∨b∈s.1
  ·rw[bR h];exact⟨[],by simp,Fwd.nil _⟩
  ·have hT:There N b:=Classical.byContradiction fun h'=>h (.inl h')
   have hM:b∉s.1:=fun h'=>h (.inr h')
   have fold:∀ (l:List Int) (s:List Int×List Int),∃u,(l.foldl (bf N nx k) s).2=u++s.2∧Fwd nx u (fun x=>x∈l):=by
    intro l
    induction l with
    |nil=>intro s;exact⟨[],by simp,Fwd.nil _⟩
    |cons n l ih=>
     intro s
     obtain⟨u1,h1,f1⟩:=yQ k s n
     obtain⟨u2,h2,f2⟩:=ih (bf N nx k s n)
     refine⟨u2++u1,by rw[List.foldl_cons,h2,h1,List.append_assoc],(f2.append f1).mono fun x hx=> ?_⟩
     rcases hx with hx|rfl
     ·exact List.mem_cons_of_mem _ hx
     ·simp
   obtain⟨u,h1,f1⟩:=fold (nx b.toNat) (s.1++ [b],s.2)
   rw[iM hT hM]
   refine⟨b::u,by simp only;rw[h1];rfl,fun a x c e=> ?_⟩
   cases a with
   |nil=>simp only[List.nil_append,List.cons.injEq]at e;exact .inl e.1.symm
   |cons y a=>
    simp only[List.cons_append,List.cons.injEq]at e
    obtain⟨rfl,e⟩:=e
    rcases f1 a x c e with h3|⟨p,hp,h3⟩
    ·exact .inr ⟨_,by simp,h3⟩
    ·exact .inr ⟨p,by simp[hp],h3⟩
end
theorem Dn(f:ak):Fwd (nxF f) (aD f) (fun x=>x=0):=by
 obtain⟨u,h1,h2⟩:=yQ (N:=f.blocks.length) (nx:=nxF f) (f.blocks.length+1) ([],[]) 0
 have e:aD f=u:=by unfold aD kM;rw[h1];simp
 rw[e]
 exact h2
def kJ(f:ak)(u v:Nat):Prop:=(v:Int)∈nxF f u∧v<f.blocks.length
def iH(f:ak)(v:Nat):Prop:=(v:Int)∈aD f
def plF(f:ak)(v:Nat):Nat:=(aD f).idxOf (v:Int)
theorem sP{f:ak}{v:Nat}(h:iH f v):plF f v<(aD f).length:=List.idxOf_lt_length_iff.2 h
theorem xH{f:ak}{v:Nat}(h:iH f v):(aD f)[plF f v]'(sP h)=(v:Int):=List.getElem_idxOf (sP h)
theorem AQ{f:ak}{i v:Nat}(hi:i<(aD f).length)(h:(aD f)[i]=(v:Int)):iH f v∧plF f v=i:=by
 have hm:iH f v:=by unfold iH;rw[←h];exact List.getElem_mem hi
 refine⟨hm, ?_⟩
 have h1:=xH hm
 have hn:=(fI f).nodup
 rcases Nat.lt_trichotomy (plF f v) i with h2|h2|h2
 ·exact absurd (h1.trans h.symm) (List.pairwise_iff_getElem.1 hn _ _ (sP hm) hi h2)
 ·exact h2
 ·exact absurd (h.trans h1.symm) (List.pairwise_iff_getElem.1 hn _ _ hi (sP hm) h2)
theorem iJ{f:ak}{v:Nat}(h:iH f v):v<f.blocks.length:=by
 have:=((fI f).there _ h).2
 omega
theorem pY(f:ak)(h0:0<f.blocks.length):Rpo (kJ f) (iH f) (plF f):=by
 obtain⟨r,hr⟩:=rH h0
 have hz:iH f 0:=by unfold iH;rw[hr];simp
 have hp0:plF f 0=0:=(AQ (f:=f) (i:=0) (v:=0) (by rw[hr];simp) (by simp only[hr,List.getElem_cons_zero];rfl)).2
 refine⟨hz,fun v hv=>⟨fun h=> ?_,fun h=>by rw[h];exact hp0⟩,fun u v hu hv e=> ?_,fun u v hu he=> ?_,fun v hv hv0=> ?_⟩
 ·have h1:=xH hv
  simp only[h,hr,List.getElem_cons_zero]at h1
  omega
 ·have h1:=xH hu
  have h2:=xH hv
  simp only[e]at h1
  have:=h1.symm.trans h2
  omega
 ·exact(fI f).clos _ hu _ (by simpa using he.1) ⟨by omega,by have:=he.2;omega⟩
 ·have hlt:=sP hv
  have hat:=xH hv
  have hsplit:aD f=(aD f).take (plF f v)++(v:Int)::(aD f).drop (plF f v+1):=by
   rw[←hat,List.getElem_cons_drop,List.take_append_drop]
  rcases Dn f _ _ _ hsplit with h|⟨p,hp,h⟩
  ·omega
  ·obtain⟨j,hj,e⟩:=List.getElem_of_mem hp
   simp only[List.length_take]at hj
   rw[List.getElem_take]at e
   have hjl:j<(aD f).length:=by omega
   have hT:=(fI f).there p (by rw[←e];exact List.getElem_mem hjl)
   obtain⟨q,rfl,hq⟩:=nat_of hT
   have:=AQ hjl e
   refine⟨q,this.1,⟨by simpa using h,iJ hv⟩, ?_⟩
   rw[this.2]
   omega
theorem DF{f:ak}(h0:0<f.blocks.length)(v:Nat):iH f v↔Way (kJ f) (fun _=>True) 0 v:=by
 have R:=pY f h0
 constructor
 ·have key:∀ (k v:Nat),plF f v≤k→iH f v→Way (kJ f) (fun _=>True) 0 v:=by
   intro k
   induction k with
   |zero=>
    intro v hk hv
    rw[(R.pl0 v hv).1 (by omega)]
    exact .nil trivial
   |succ k ih=>
    intro v hk hv
    by_cases hv0:v=0
    ·subst hv0;exact .nil trivial
    ·obtain⟨u,hu,he,hl⟩:=R.fwd v hv hv0
     exact .snoc (ih u (by omega) hu) he trivial
  exact key _ v (Nat.le_refl _)
 ·intro h
  generalize hz:0=z at h
  induction h with
  |nil _=>subst hz;exact R.zero
  |snoc _ e _ ih=>exact R.clos _ _ ih e
def gH(n:Nat)(UP:List Int):Nat→Int:=fun v=>if v<n then nth UP v else -1
theorem pO{n:Nat}{UP:List Int}{v:Nat}(h:v<n):gH n UP v=nth UP v:=if_pos h
theorem FH{n:Nat}{UP:List Int}{b x:Nat}(hl:UP.length=n)(hb:b<n):gH n (UP.set b (x:Int))=upd (gH n UP) b x:=by
 funext v
 by_cases hv:v<n
 ·simp only[gH,upd,if_pos hv]
  exact dP (by omega) v
 ·simp only[gH,upd,if_neg hv]
  rw[if_neg (by omega)]
def sumTo(w:Nat→Nat):Nat→Nat
 |0=>0
 |k+1=>sumTo w k+w k
theorem nT{w w':Nat→Nat}:∀ {k:Nat},(∀v,v<k→w' v=w v)→sumTo w' k=sumTo w k
 |0,_=>rfl
 |k+1,h=>by
  unfold sumTo
  rw[nT (fun v hv=>h v (by omega)),h k (by omega)]
theorem uK{w w':Nat→Nat}{b:Nat}:∀ {k:Nat},b<k→(∀v,v≠b→w' v=w v)→sumTo w' k+w b=sumTo w k+w' b
 |0,hb,_=>absurd hb (by omega)
 |k+1,hb,h=>by
  unfold sumTo
  by_cases e:b=k
  ·subst e
   rw[nT (w:=w) (w':=w') (fun v hv=>h v (by omega))]
   omega
  ·have ih:=uK (w:=w) (w':=w') (b:=b) (k:=k) (by omega) h
   rw[h k (by omega)]
   omega
theorem sumTo_le{w:Nat→Nat}{c:Nat}(h:∀ v,w v≤c):∀ k,sumTo w k≤k*c
 |0=>by simp[sumTo]
 |k+1=>by
  have:=sumTo_le h k
  have:=h k
  unfold sumTo
  rw[Nat.succ_mul]
  omega
def wt(n:Nat)(pl:Nat→Nat)(up:Nat→Int)(v:Nat):Nat:=if up v<0 then n+1 else min n (pl (up v).toNat)
theorem wt_le(n:Nat)(pl:Nat→Nat)(up:Nat→Int)(v:Nat):wt n pl up v≤n+1:=by unfold wt;split<;>omega
def ji(n:Nat)(pl:Nat→Nat)(UP:List Int):Nat:=sumTo (wt n pl (gH n UP)) n
theorem Fy(n:Nat)(pl:Nat→Nat)(UP:List Int):ji n pl UP≤n*(n+1):=sumTo_le (wt_le n pl _) n
structure iL(E:Nat→Nat→Prop)(M:Nat→Prop)(pl:Nat→Nat)(n K:Nat)(UP0 UP:List Int)(m i:Nat)(ch:Bool):Prop where
 len:UP.length=n
 tree:Tree E M pl (gH n UP) m
 pass:wI E M pl (gH n UP) i m
 im:i≤m
 mK:m≤K
 m1:1≤m
 same:ch=false→UP=UP0∧∀ v c:Nat,M v→gH n UP v=(c:Int)→pl v<i→∀ p,M p→E p v→pl p<m→On (gH n UP) p c
 less:ch=true→ji n pl UP<ji n pl UP0
section
variable {E : Nat → Nat → Prop} {M : Nat → Prop} {pl : Nat → Nat} {n K : Nat} {UP0 UP : List Int} {m i : Nat} {ch : Bool}
theorem iL.begin{UP:List Int}(hl:UP.length=n)(hT:Tree E M pl (gH n UP) m)(hP:wI E M pl (gH n UP) 0 m)(hmK:m≤K)(hm1:1≤m):iL E M pl n K UP UP m 0 false:=
 ⟨hl,hT,hP,Nat.zero_le _,hmK,hm1,fun _=>⟨rfl,fun v c _ _ h=>absurd h (by omega)⟩,fun h=>by cases h⟩
theorem iL.zero(R:Rpo E M pl)(h:iL E M pl n K UP0 UP m 0 ch):iL E M pl n K UP0 UP m 1 ch:=
 ⟨h.len,h.tree,h.pass.first R h.tree,h.m1,h.mK,h.m1,fun hc=>⟨(h.same hc).1,fun v c hv e hl=>by have:=(h.tree.lt v c e).2.1;omega⟩,h.less⟩
variable {b x : Nat}
theorem iL.stay(R:Rpo E M pl)(h:iL E M pl n K UP0 UP m i ch)(hb:M b)(h0:b≠0)(hbn:b<n)(hi:pl b=i)(hK:i<K)(J:mU (gH n UP) (fun p=>M p∧E p b∧pl p<m) x)(hx:nth UP b=(x:Int)):iL E M pl n K UP0 UP m (i+1) ch:=by
 have hup:gH n UP b=(x:Int):=by rw[pO hbn];exact hx
 have him:i<m:=by
  have:=(h.tree.known b hb h0).1 (by rw[hup];omega)
  omega
 have hst:=h.tree.step R h.pass hb h0 hi h.im J
 have e:upd (gH n UP) b x=gH n UP:=funext fun v=>by
  unfold upd
  split
  ·rename_i e;rw[e,hup]
  ·rfl
 have em:max m (i+1)=m:=by omega
 rw[e,em]at hst
 refine⟨h.len,hst.1,hst.2,by omega,h.mK,h.m1,fun hc=>⟨(h.same hc).1,fun v c hv ev hl p hp he hpm=> ?_⟩,h.less⟩
 by_cases hvb:v=b
 ·subst hvb
  have:c=x:=by rw[hup]at ev;omega
  subst this
  exact J.1 p ⟨hp,he,hpm⟩
 ·exact(h.same hc).2 v c hv ev (by have:pl v≠pl b:=fun e=>hvb (R.inj v b hv hb e);omega) p hp he hpm
theorem iL.move(R:Rpo E M pl)(hKn:K≤n)(hplK:∀ v,M v→pl v<K)(h:iL E M pl n K UP0 UP m i ch)(hw:ji n pl UP≤ji n pl UP0)(hb:M b)(h0:b≠0)(hbn:b<n)(hi:pl b=i)(hK:i<K)(J:mU (gH n UP) (fun p=>M p∧E p b∧pl p<m) x)(hx:nth UP b≠(x:Int)):iL E M pl n K UP0 (UP.set b (x:Int)) (max m (i+1)) (i+1) true:=by
 have hst:=h.tree.step R h.pass hb h0 hi h.im J
 have e:=FH (x:=x) h.len hbn
 rw[←e]at hst
 obtain⟨hMx,hxb⟩:=vG R h.tree hb h0 (by have:=h.im;omega) J
 have hxK:=hplK x hMx
 refine⟨by simpa using h.len,hst.1,hst.2,by omega,by have:=h.mK;omega,by omega,(fun hc=>nomatch hc),fun _=> ?_⟩
 have hsum:=uK (w:=wt n pl (gH n UP)) (w':=wt n pl (gH n (UP.set b (x:Int)))) hbn (fun v hv=>by
  unfold wt
  rw[e,bW hv])
 have hnew:wt n pl (gH n (UP.set b (x:Int))) b=pl x:=by
  unfold wt
  rw[e,upd_same,if_neg (by omega),Int.toNat_natCast]
  omega
 have hold:pl x<wt n pl (gH n UP) b:=by
  unfold wt
  split
  ·omega
  ·rename_i hn
   obtain⟨y,hy⟩:=Int.eq_ofNat_of_zero_le (show 0≤gH n UP b by omega)
   have h1:=zD h.tree hb J hy
   have h2:=h.tree.lt b y hy
   have hyK:=hplK y h2.1
   rw[hy,Int.toNat_natCast]
   rcases xM h.tree.lt h1 with e1|⟨_,h3,_⟩
   ·exact absurd (by rw[←pO hbn,hy,e1]) hx
   ·omega
 show sumTo _ n<_
 unfold ji at hw
 unfold ji
 omega
theorem iL.fixed(h:iL E M pl n K UP0 UP m K false)(hplK:∀ v,M v→pl v<K):(∀v,M v→pl v<m)∧∀ v c:Nat,M v→gH n UP v=(c:Int)→∀ p,M p→E p v→On (gH n UP) p c:=
 ⟨fun v hv=>by have:=hplK v hv;have:=h.im;omega,fun v c hv e p hp he=>(h.same rfl).2 v c hv e (hplK v hv) p hp he (by have:=hplK p hp;have:=h.im;omega)⟩
end
theorem lG{w:Nat→Nat}:∀ {i k:Nat},i≤k→sumTo w i≤sumTo w k
 |i,0,h=>by
  have:i=0:=by omega
  subst this;exact Nat.le_refl _
 |i,k+1,h=>by
  by_cases e:i=k+1
  ·subst e;exact Nat.le_refl _
  ·have:=lG (w:=w) (i:=i) (k:=k) (by omega)
   simp only[sumTo]
   omega
def cw(up:Nat→Int)(o:Nat→Nat)(S:Nat→Nat)(v:Nat):Nat→Nat:=fun k=>if up (o k)=(v:Int)then S (o k)else 0
structure bV(M:Nat→Prop)(pl:Nat→Nat)(up:Nat→Int)(o:Nat→Nat)(K:Nat)(S N:Nat→Nat):Prop where
 at_:∀ c,M c→o (pl c)=c∧pl c<K
 size:∀ v,M v→S v=1+sumTo (cw up o S v) K
 num:∀ c v:Nat,M c→up c=(v:Int)→N c=N v+1+sumTo (cw up o S v) (pl c)
section
variable {E : Nat → Nat → Prop} {M : Nat → Prop} {pl : Nat → Nat} {up : Nat → Int} {m K : Nat} {o S N : Nat → Nat}
theorem bV.pos(h:bV M pl up o K S N){v:Nat}(hv:M v):1≤S v:=by rw[h.size v hv];omega
theorem bV.upto(h:bV M pl up o K S N){c v:Nat}(hc:M c)(e:up c=(v:Int)){k:Nat}(hk:pl c<k):sumTo (cw up o S v) (pl c)+S c≤sumTo (cw up o S v) k:=by
 have h1:sumTo (cw up o S v) (pl c+1)≤sumTo (cw up o S v) k:=lG (by omega)
 have h2:cw up o S v (pl c)=S c:=by unfold cw;rw[(h.at_ c hc).1,if_pos e]
 simp only[sumTo,h2]at h1
 exact h1
theorem bV.nest1(h:bV M pl up o K S N){c v:Nat}(hc:M c)(hv:M v)(e:up c=(v:Int)):N v<N c∧N c+S c≤N v+S v:=by
 have h1:=h.num c v hc e
 have h2:=h.size v hv
 have h3:=h.upto hc e (h.at_ c hc).2
 omega
theorem bV.sib(h:bV M pl up o K S N){c d v:Nat}(hc:M c)(hd:M d)(e1:up c=(v:Int))(e2:up d=(v:Int))(hl:pl c<pl d):N c+S c≤N d:=by
 have h1:=h.num c v hc e1
 have h2:=h.num d v hd e2
 have h3:=h.upto hc e1 hl
 omega
theorem bV.nest(h:bV M pl up o K S N)(hT:∀ v c:Nat,up v=(c:Int)→M c∧pl c<pl v∧pl c<m){b a:Nat}(hb:M b)(ho:On up b a):N a≤N b∧N b+S b≤N a+S a:=by
 induction ho with
 |refl v=>exact⟨Nat.le_refl _,Nat.le_refl _⟩
 |step e _ ih=>
  have h1:=h.nest1 hb (hT _ _ e).1 e
  have h2:=ih (hT _ _ e).1
  omega
theorem F5{up:Nat→Int}{b a:Nat}(h:On up b a):b=a∨∃ c:Nat,up c=(a:Int)∧On up b c:=by
 induction h with
 |refl v=>exact .inl rfl
 |step e _ ih=>
  rcases ih with rfl|⟨c,h1,h2⟩
  ·exact .inr ⟨_,e,.refl _⟩
  ·exact .inr ⟨c,h1,.step e h2⟩
theorem bV.tri(h:bV M pl up o K S N)(R:Rpo E M pl)(T:Tree E M pl up m)(hall:∀ v,M v→pl v<m):∀ (k a b:Nat),pl a+pl b≤k→M a→M b→On up a b∨On up b a∨N a+S a≤N b∨N b+S b≤N a
 |0,a,b,hk,ha,hb=>by
  have:a=b:=R.inj a b ha hb (by omega)
  subst this
  exact .inl (.refl _)
 |k+1,a,b,hk,ha,hb=>by
  have key:∀ a b:Nat,pl a+pl b≤k+1→M a→M b→pl b<pl a→On up a b∨On up b a∨N a+S a≤N b∨N b+S b≤N a:=by
   intro a b hk ha hb hl
   have ha0:a≠0:=fun e=>by have:=(R.pl0 a ha).2 e;omega
   obtain⟨a',ha'⟩:=Int.eq_ofNat_of_zero_le ((T.known a ha ha0).2 (hall a ha))
   have hlt:=T.lt a a' ha'
   have hn:=h.nest1 ha hlt.1 ha'
   rcases bV.tri h R T hall k a' b (by omega) hlt.1 hb with h1|h1|h1|h1
   ·exact .inl (.step ha' h1)
   ·rcases F5 h1 with rfl|⟨c,e,h2⟩
    ·exact .inl (.step ha' (.refl _))
    ·have hMc:M c:=Dt T.lt hb h2
     have hnb:=h.nest T.lt hb h2
     by_cases hca:c=a
     ·subst hca;exact .inr (.inl h2)
     ·rcases Nat.lt_trichotomy (pl c) (pl a)with h3|h3|h3
      ·have:=h.sib hMc ha e ha' h3
       exact .inr (.inr (.inr (by omega)))
      ·exact absurd (R.inj c a hMc ha h3) hca
      ·have:=h.sib ha hMc ha' e h3
       exact .inr (.inr (.inl (by omega)))
   ·exact .inr (.inr (.inl (by omega)))
   ·exact .inr (.inr (.inr (by omega)))
  rcases Nat.lt_trichotomy (pl a) (pl b)with hl|hl|hl
  ·rcases key b a (by omega) hb ha hl with h1|h1|h1|h1
   ·exact .inr (.inl h1)
   ·exact .inl h1
   ·exact .inr (.inr (.inr h1))
   ·exact .inr (.inr (.inl h1))
  ·have:a=b:=R.inj a b ha hb hl
   subst this
   exact .inl (.refl _)
  ·exact key a b hk ha hb hl
theorem bV.over(h:bV M pl up o K S N)(R:Rpo E M pl)(T:Tree E M pl up m)(hall:∀ v,M v→pl v<m){a b:Nat}(ha:M a)(hb:M b):(N a≤N b∧N b<N a+S a)↔On up b a:=by
 constructor
 ·rintro ⟨h1,h2⟩
  have hpa:=h.pos ha
  have hpb:=h.pos hb
  rcases h.tri R T hall _ a b (Nat.le_refl _) ha hb with h3|h3|h3|h3
  ·
   rcases xM T.lt h3 with e|⟨_,hl,_⟩
   ·subst e;exact .refl _
   ·cases h3 with
    |refl _=>omega
    |step e h4=>
     have h5:=h.nest1 ha (T.lt _ _ e).1 e
     have h6:=h.nest T.lt (T.lt _ _ e).1 h4
     omega
  ·exact h3
  ·omega
  ·omega
 ·intro h3
  have h4:=h.nest T.lt hb h3
  have:=h.pos hb
  omega
end
theorem jF{w:Nat→Nat}:∀ {k:Nat},(∀i,i<k→w i=0)→sumTo w k=0
 |0,_=>rfl
 |k+1,h=>by
  unfold sumTo
  rw[jF (fun i hi=>h i (by omega)),h k (by omega)]
theorem yX{w:Nat→Nat}:∀ {k i:Nat},i<k→w i≤sumTo w k
 |k+1,i,h=>by
  unfold sumTo
  by_cases e:i=k
  ·subst e;omega
  ·have:=yX (w:=w) (k:=k) (i:=i) (by omega);omega
theorem nS{w w':Nat→Nat}{b:Nat}:∀ {k:Nat},b<k→(∀v,v<k→v≠b→w' v=w v)→sumTo w' k+w b=sumTo w k+w' b
 |0,hb,_=>absurd hb (by omega)
 |k+1,hb,h=>by
  unfold sumTo
  by_cases e:b=k
  ·subst e
   rw[nT (w:=w) (w':=w') (fun v hv=>h v (by omega) (by omega))]
   omega
  ·have ih:=nS (w:=w) (w':=w') (b:=b) (k:=k) (by omega) (fun v hv=>h v (by omega))
   rw[h k (by omega) (fun e'=>e e'.symm)]
   omega
def cwi(i:Nat)(up:Nat→Int)(o:Nat→Nat)(S:Nat→Nat)(v:Nat):Nat→Nat:=fun k=>if i≤k∧up (o k)=(v:Int)then S (o k)else 0
theorem GH(up:Nat→Int)(o:Nat→Nat)(S:Nat→Nat)(v:Nat):cwi 0 up o S v=cw up o S v:=by
 funext k;simp[cwi,cw]
structure nN(M:Nat→Prop)(pl:Nat→Nat)(up:Nat→Int)(o:Nat→Nat)(K:Nat):Prop where
 at_:∀ c,M c→o (pl c)=c∧pl c<K
 met:∀ k,k<K→M (o k)∧pl (o k)=k
 lt:∀ v c:Nat,up v=(c:Int)→M c∧pl c<pl v
 up0:∀ v,M v→pl v≠0→0≤up v
 low:∀ v, -1≤up v
structure lZ(M:Nat→Prop)(pl:Nat→Nat)(up:Nat→Int)(o:Nat→Nat)(K i:Nat)(S:Nat→Nat):Prop where
 sum:∀ v,M v→S v=(if i≤pl v then 1 else 0)+sumTo (cwi i up o S v) K
 pend:1≤i→sumTo (fun k=>S (o k)) i+i=K
 small:∀ v,M v→S v≤K
section
variable {M : Nat → Prop} {pl : Nat → Nat} {up : Nat → Int} {o : Nat → Nat} {K i : Nat} {S : Nat → Nat}
theorem nN.ne(h:nN M pl up o K){j k:Nat}(hj:j<K)(hk:k<K)(hne:j≠k):o j≠o k:=fun e=>by
 have h1:=(h.met j hj).2
 have h2:=(h.met k hk).2
 rw[e]at h1
 omega
theorem lZ.start(hS:∀ v,M v→S v=0)(h:nN M pl up o K):lZ M pl up o K K S:=by
 refine⟨fun v hv=> ?_,fun _=> ?_,fun v hv=>by rw[hS v hv];omega⟩
 ·rw[hS v hv,if_neg (by have:=(h.at_ v hv).2;omega),jF fun k hk=>by unfold cwi;rw[if_neg (by omega)]]
 ·rw[jF fun k hk=>hS _ (h.met k hk).1];omega
def eY(up:Nat→Int)(S:Nat→Nat)(b:Nat):Nat→Nat:=fun v=>if v=b then S b+1 else if up b=(v:Int)then S v+(S b+1)else S v
theorem lZ.step(L:nN M pl up o K)(h:lZ M pl up o K (i+1) S)(hi:i<K):lZ M pl up o K i (eY up S (o i)):=by
 obtain⟨hMb,hpb⟩:=L.met i hi
 have hp:=h.pend (by omega)
 simp only[sumTo]at hp
 have hne:∀ k,k<K→k≠i→o k≠o i:=fun k h2 h1=>L.ne h2 hi h1
 have hbi:¬ up (o i)=((o i:Nat):Int):=fun e=>by have:=(L.lt _ _ e).2;omega
 have hS':∀ k,i<k→k<K→eY up S (o i) (o k)=S (o k):=fun k h1 h2=>by
  unfold eY
  rw[if_neg (hne k h2 (by omega)),if_neg fun e=>by
   have h3:=(L.lt _ _ e).2
   rw[(L.met k h2).2,hpb]at h3
   omega]
 have hb:eY up S (o i) (o i)=S (o i)+1:=by unfold eY;rw[if_pos rfl]
 have hsum:∀ v,sumTo (cwi i up o (eY up S (o i)) v) K=sumTo (cwi (i+1) up o S v) K+(if up (o i)=(v:Int)then S (o i)+1 else 0):=fun v=>by
  have h1:=nS (w:=cwi (i+1) up o S v) (w':=cwi i up o (eY up S (o i)) v) (b:=i) (k:=K) hi (fun k hkK hki=>by
   unfold cwi
   by_cases hik:i<k
   ·rw[hS' k hik hkK]
    by_cases e:up (o k)=(v:Int)
    ·rw[if_pos ⟨by omega,e⟩,if_pos ⟨by omega,e⟩]
    ·rw[if_neg (fun h=>e h.2),if_neg (fun h=>e h.2)]
   ·rw[if_neg (by omega),if_neg (by omega)])
  have h2:cwi (i+1) up o S v i=0:=by unfold cwi;rw[if_neg (by omega)]
  have h3:cwi i up o (eY up S (o i)) v i=(if up (o i)=(v:Int)then S (o i)+1 else 0):=by
   unfold cwi
   rw[hb]
   by_cases e:up (o i)=(v:Int)
   ·rw[if_pos ⟨Nat.le_refl _,e⟩,if_pos e]
   ·rw[if_neg (fun h=>e h.2),if_neg e]
  omega
 have hv:∀ v,M v→pl v<i→S v+S (o i)≤sumTo (fun k=>S (o k)) i+S (o i):=fun v hv hl=>by
  have:=yX (w:=fun k=>S (o k)) hl
  simp only[(L.at_ v hv).1]at this
  omega
 refine⟨fun v hv=> ?_,fun h1=> ?_,fun v hMv=> ?_⟩
 ·rw[hsum v]
  have h0:=h.sum v hv
  by_cases e:v=o i
  ·subst e
   rw[hb,if_neg hbi,if_pos (by omega)]
   rw[if_neg (by omega)]at h0
   omega
  ·have hpl:pl v≠i:=fun h3=>e (by rw[←(L.at_ v hv).1,h3])
   have hle:(i≤pl v)=(i+1≤pl v):=propext (by omega)
   by_cases e2:up (o i)=(v:Int)
   ·rw[if_pos e2]
    have:eY up S (o i) v=S v+(S (o i)+1):=by unfold eY;rw[if_neg e,if_pos e2]
    rw[this,if_neg (by have:=(L.lt _ _ e2).2;omega)]
    rw[if_neg (by have:=(L.lt _ _ e2).2;omega)]at h0
    omega
   ·rw[if_neg e2]
    have:eY up S (o i) v=S v:=by unfold eY;rw[if_neg e,if_neg e2]
    rw[this,Nat.add_zero]
    simp only[hle]
    exact h0
 ·
  obtain⟨c,hc⟩:=Int.eq_ofNat_of_zero_le (L.up0 (o i) hMb (by omega))
  have hlt:=L.lt _ _ hc
  rw[hpb]at hlt
  have h3:=nS (w:=fun k=>S (o k)) (w':=fun k=>eY up S (o i) (o k)) (b:=pl c) (k:=i) hlt.2 (fun k hk hkc=>by
   unfold eY
   rw[if_neg (hne k (by omega) (by omega)),if_neg fun e=> ?_]
   have h4:=Int.ofNat.inj (hc.symm.trans e)
   rw[h4]at hkc
   exact hkc (L.met k (by omega)).2.symm)
  have h5:eY up S (o i) (o (pl c))=S (o (pl c))+(S (o i)+1):=by
   rw[(L.at_ c hlt.1).1]
   unfold eY
   rw[if_neg (fun e=>by subst e;omega),if_pos hc]
  simp only[h5]at h3
  omega
 ·by_cases e:v=o i
  ·subst e;rw[hb];omega
  ·by_cases e2:up (o i)=(v:Int)
   ·have:eY up S (o i) v=S v+(S (o i)+1):=by unfold eY;rw[if_neg e,if_pos e2]
    have h3:=(L.lt _ _ e2).2
    rw[hpb]at h3
    have:=hv v hMv h3
    omega
   ·have:eY up S (o i) v=S v:=by unfold eY;rw[if_neg e,if_neg e2]
    rw[this];exact h.small v hMv
structure wB(M:Nat→Prop)(up:Nat→Int)(o:Nat→Nat)(K:Nat)(S:Nat→Nat):Prop where
 size:∀ v,M v→S v=1+sumTo (cw up o S v) K
 small:∀ v,M v→S v≤K
theorem lZ.done(h:lZ M pl up o K 0 S):wB M up o K S:=⟨fun v hv=>by
 have:=h.sum v hv
 rwa [if_pos (Nat.zero_le _),GH]at this,h.small⟩
structure mR(M:Nat→Prop)(pl:Nat→Nat)(up:Nat→Int)(o:Nat→Nat)(K i:Nat)(S N R:Nat→Nat):Prop where
 num:∀ c v:Nat,M c→pl c<i→up c=(v:Int)→N c=N v+1+sumTo (cw up o S v) (pl c)
 free:∀ v,M v→pl v<i→R v=N v+1+sumTo (cw up o S v) i
 fit:∀ v,M v→pl v<i→N v+S v≤K
theorem mR.start{N R:Nat→Nat}:mR M pl up o K 0 S N R:=⟨fun _ _ _ h=>absurd h (by omega),fun _ _ h=>absurd h (by omega),fun _ _ h=>absurd h (by omega)⟩
theorem mR.freeLe{N R:Nat→Nat}(Z:wB M up o K S)(h:mR M pl up o K i S N R)(hi:i≤K){v:Nat}(hv:M v)(hl:pl v<i):R v≤K:=by
 have h1:=h.free v hv hl
 have h2:=h.fit v hv hl
 have h3:=Z.size v hv
 have h4:=lG (w:=cw up o S v) hi
 omega
theorem mR.first{N R R':Nat→Nat}(L:nN M pl up o K)(Z:wB M up o K S)(h:mR M pl up o K 0 S N R)(hK:0<K)(hu:up (o 0)<0)(hN:N (o 0)=0)(hR:R' (o 0)=1):mR M pl up o K 1 S N R':=by
 have h0:∀ v,M v→pl v<1→v=o 0:=fun v hv hl=>by rw[←(L.at_ v hv).1,show pl v=0 by omega]
 refine⟨fun c v hc hl e=> ?_,fun v hv hl=> ?_,fun v hv hl=> ?_⟩
 ·rw[h0 c hc hl]at e;omega
 ·rw[h0 v hv hl,hR,hN,jF fun k hk=> ?_]
  unfold cw
  rw[if_neg fun e=>by
   have:k=0:=by omega
   subst this
   omega]
 ·rw[h0 v hv hl,hN]
  have:=Z.small _ (L.met 0 hK).1
  omega
theorem mR.step{N R N' R':Nat→Nat}(L:nN M pl up o K)(Z:wB M up o K S)(h:mR M pl up o K i S N R)(hi:i<K){c:Nat}(hc:up (o i)=(c:Int))
 (hN:N' (o i)=R c)(hNo:∀ v,M v→v≠o i→N' v=N v)(hRb:R' (o i)=R c+1)(hRc:R' c=R c+S (o i))(hRo:∀ v,M v→v≠o i→v≠c→R' v=R v):mR M pl up o K (i+1) S N' R':=by
 obtain⟨hMb,hpb⟩:=L.met i hi
 have hlt:=L.lt _ _ hc
 rw[hpb]at hlt
 have hcb:c≠o i:=fun e=>by rw[e]at hlt;omega
 have hcR:=h.free c hlt.1 hlt.2
 have hb:∀ v,M v→pl v<i+1→v≠o i→pl v<i:=fun v hv hl hne=>by
  have:pl v≠i:=fun e=>hne (by rw[←(L.at_ v hv).1,e])
  omega
 have hcw:∀ v:Nat,v≠c→cw up o S v i=0:=fun v hv=>by
  unfold cw
  rw[if_neg fun e=>hv (Int.ofNat.inj (e.symm.trans hc))]
 have hfitc:=h.fit c hlt.1 hlt.2
 refine⟨fun d v hd hl e=> ?_,fun v hv hl=> ?_,fun v hv hl=> ?_⟩
 ·have hv:=L.lt _ _ e
  by_cases e1:d=o i
  ·subst e1
   have:v=c:=Int.ofNat.inj (e.symm.trans hc)
   subst this
   rw[hN,hNo v hv.1 hcb,hpb]
   exact hcR
  ·have hvb:v≠o i:=fun e2=>by
    have:=hb d hd hl e1
    rw[e2]at hv
    omega
   rw[hNo d hd e1,hNo v hv.1 hvb]
   exact h.num d v hd (hb d hd hl e1) e
 ·simp only[sumTo]
  by_cases e1:v=o i
  ·subst e1
   rw[hRb,hN,hcw _ (fun e=>hcb e.symm),jF fun k hk=> ?_]
   unfold cw
   rw[if_neg fun e=>by
    have:=(L.lt _ _ e).2
    rw[hpb,(L.met k (by omega)).2]at this
    omega]
  ·have hl':=hb v hv hl e1
   rw[hNo v hv e1]
   by_cases e2:v=c
   ·subst e2
    have:cw up o S v i=S (o i):=by unfold cw;rw[if_pos hc]
    rw[hRc,hcR,this]
    omega
   ·rw[hRo v hv e1 e2,hcw v e2,h.free v hv hl']
    omega
 ·by_cases e1:v=o i
  ·subst e1
   rw[hN,hcR]
   have h3:=Z.size c hlt.1
   have h4:=lG (w:=cw up o S c) (show i+1≤K from hi)
   have:cw up o S c i=S (o i):=by unfold cw;rw[if_pos hc]
   simp only[sumTo]at h4
   omega
  ·rw[hNo v hv e1]
   exact h.fit v hv (hb v hv hl e1)
theorem mR.done{N R:Nat→Nat}(L:nN M pl up o K)(Z:wB M up o K S)(h:mR M pl up o K K S N R):bV M pl up o K S N:=
 ⟨L.at_,Z.size,fun c v hc e=>h.num c v hc (L.at_ c hc).2 e⟩
end
end Go.Proofs.YthjdeoppajlcoaaGreatDoor

namespace Go.Proofs.YthjdeoppajlcoaaGreatDoor
set_option linter.unusedVariables false
open Go.RowKit (wrap64 intOf Below Hid)
open Go.Lib (hid)
def iF(b:Bool)(x:Int):List Int:=if b then [x]else []
def aA(K A B C:Int)(L:List Int):List Int:=iF (hasB K 65) A++iF (hasB K 66) B++iF (hasB K 67) C++dA (hasB K 76) L
theorem dH(b:Bool)(x:Int):(iF b x).length≤1:=by unfold iF;split<;>simp
theorem iT{w w2:World}{C0:Array Value}{t0:TypeId}(hb:Below (w.heap.size+1) (w.alloc (.cells C0 t0)) w2):∀ j,w2.cell? ⟨w.heap.size,j,none⟩=C0[j]? :=fun j=>by
 rw[hb.cell (p:=⟨w.heap.size,j,none⟩) (by simp),World.cell?_alloc_mark]
theorem nX{w w2:World}{C0:Array Value}{t0:TypeId}(hb:Below (w.heap.size+1) (w.alloc (.cells C0 t0)) w2):w.heap.size+1≤w2.heap.size:=by
 have:=hb.size
 simpa using this
theorem bq{w w2:World}{C0:Array Value}{t0:TypeId}(hb:Below (w.heap.size+1) (w.alloc (.cells C0 t0)) w2):Below w.heap.size w w2:=
 ((Below.refl w.heap.size w).alloc (Nat.le_refl _) _).trans (hb.mono (by omega))
set_option maxRecDepth 100000 in
set_option maxHeartbeats 2000000 in
theorem FE(K A B C N:Int)(S:ByteArray)(la:Option Addr)(ln lc:Nat)(T:Bool)(L:List Int)(w:World)(hat:ai w la ln L)(hnil:la=none→lc=0)(hn:ln≤17592186044000):
 Calls Tryz.prog 63 #[.agg #[.int .i64 K,.int .i64 A,.int .i64 B,.int .i64 C,.int .i64 N,.string S,.slice la ln lc,.bool T]] w
  fun e w'=>∃ va vn vc,e=.returned (.slice va vn vc)∧aj w' w.heap.size 3 (.slice va vn vc) (aA K A B C L)∧Below w.heap.size w w':=by
 obtain⟨O,hO⟩:∃ O:Array Value,O=#[.int .i64 K,.int .i64 A,.int .i64 B,.int .i64 C,.int .i64 N,.string S,.slice la ln lc,.bool T]:=⟨_,rfl⟩
 have HA:=hid hat
 have HNIL:=hid hnil
 clear hat hnil
 go_enter Tryz.func63,Tryz.ntmps63
 go_upto_if 7 with(go_at_call 56;(with_reducible refine(has_A K _).mono ?_);rintro e w' ⟨rfl,rfl⟩)
 go_cut [3] (fun ov wc=>Hid (aj wc (w.heap.size+1) 3 ov (iF (hasB K 65) A)∧Below (w.heap.size+1) (w.alloc (.cells O 64)) wc))
 case first=>
  rcases Bool.eq_false_or_eq_true (hasB K 65)with h|h
  ·have HP:Hid (iF (hasB K 65) A=[A]):=hid (by rw[h];rfl)
   rw[h]
   go_wp2_with(at_builtin;refine eO _ rfl _ _ 40 rfl 3 Tryz.underlying40 aT (w.heap.size+1) _ [] rfl (aj.laid (by simp) (by omega)) (by simp) _ 1 _ A rfl (by simp) rfl (by simp) ?_;intro v2 w2 hown hb)
   go_meet
   rw[HP.out,hO]
   exact hid ⟨hown,((Below.refl _ _).alloc (by simp) _).trans hb⟩
  ·have HP:Hid (iF (hasB K 65) A=[]):=hid (by rw[h];rfl)
   rw[h]
   go_wp2_with fail
   go_meet
   rw[HP.out,hO]
   exact hid ⟨aj.laid (by simp) (by omega),(Below.refl _ _).alloc (by simp) _⟩
 subst hO
 case rest=>
  have HC:=hcut
  clear hcut
  have hc0:=iT HC.out.2
  have HSZ:=hid (nX HC.out.2)
  go_upto_if 15 with(go_at_call 56;(with_reducible refine(has_B K _).mono ?_);rintro e w' ⟨rfl,rfl⟩)
  go_cut [3] (fun ov wc=>Hid (aj wc (w.heap.size+1) 3 ov (iF (hasB K 65) A++iF (hasB K 66) B)∧Below (w.heap.size+1) (w.alloc (.cells #[.int .i64 K,.int .i64 A,.int .i64 B,.int .i64 C,.int .i64 N,.string S,.slice la ln lc,.bool T] 64)) wc))
  case first=>
   rcases Bool.eq_false_or_eq_true (hasB K 66)with h|h
   ·have HP:Hid (iF (hasB K 66) B=[B]):=hid (by rw[h];rfl)
    have HL:Hid (((iF (hasB K 65) A).length+1)*8≤140737488355328):=hid (by(try simp only[List.length_append]);have:=dH (hasB K 65) A;omega)
    rw[h]
    go_wp2_with(at_builtin;refine eO _ rfl _ _ 40 rfl 3 Tryz.underlying40 aT (w.heap.size+1) _ _ rfl HC.out.1 HSZ.out _ 1 _ B rfl (by simp) rfl HL.out ?_;intro v2 w2 hown hb)
    go_meet
    rw[HP.out]
    exact hid ⟨hown,HC.out.2.trans hb⟩
   ·have HP:Hid (iF (hasB K 66) B=[]):=hid (by rw[h];rfl)
    rw[h]
    go_wp2_with fail
    go_meet
    rw[HP.out,List.append_nil]
    exact HC
  case rest=>
   have HC:=hcut
   clear hcut
   have hc0:=iT HC.out.2
   have HSZ:=hid (nX HC.out.2)
   go_upto_if 23 with(go_at_call 56;(with_reducible refine(has_C K _).mono ?_);rintro e w' ⟨rfl,rfl⟩)
   go_cut [3] (fun ov wc=>Hid (aj wc (w.heap.size+1) 3 ov (iF (hasB K 65) A++iF (hasB K 66) B++iF (hasB K 67) C)∧Below (w.heap.size+1) (w.alloc (.cells #[.int .i64 K,.int .i64 A,.int .i64 B,.int .i64 C,.int .i64 N,.string S,.slice la ln lc,.bool T] 64)) wc))
   case first=>
    rcases Bool.eq_false_or_eq_true (hasB K 67)with h|h
    ·have HP:Hid (iF (hasB K 67) C=[C]):=hid (by rw[h];rfl)
     have HL:Hid (((iF (hasB K 65) A++iF (hasB K 66) B).length+1)*8≤140737488355328):=hid (by(try simp only[List.length_append]);have:=dH (hasB K 65) A;have:=dH (hasB K 66) B;omega)
     rw[h]
     go_wp2_with(at_builtin;refine eO _ rfl _ _ 40 rfl 3 Tryz.underlying40 aT (w.heap.size+1) _ _ rfl HC.out.1 HSZ.out _ 1 _ C rfl (by simp) rfl HL.out ?_;intro v2 w2 hown hb)
     go_meet
     rw[HP.out]
     exact hid ⟨hown,HC.out.2.trans hb⟩
    ·have HP:Hid (iF (hasB K 67) C=[]):=hid (by rw[h];rfl)
     rw[h]
     go_wp2_with fail
     go_meet
     rw[HP.out,List.append_nil]
     exact HC
   case rest=>
    have HC:=hcut
    clear hcut
    have hc0:=iT HC.out.2
    have HSZ:=hid (nX HC.out.2)
    have HW:=hid (bq HC.out.2)
    rcases Bool.eq_false_or_eq_true (hasB K 76)with h|h
    ·have HP:Hid (aA K A B C L=iF (hasB K 65) A++iF (hasB K 66) B++iF (hasB K 67) C++L):=hid (by unfold aA dA;rw[h];rfl)
     have HL:Hid (((iF (hasB K 65) A++iF (hasB K 66) B++iF (hasB K 67) C).length+ln)*8≤140737488355328):=hid (by(try simp only[List.length_append]);have:=dH (hasB K 65) A;have:=dH (hasB K 66) B;have:=dH (hasB K 67) C;omega)
     go_wp2_with(first|(go_at_call 56;(with_reducible refine(has_L K _).mono ?_);rintro e w' ⟨rfl,rfl⟩)|(at_builtin;refine bQ _ rfl _ _ 40 rfl 3 Tryz.underlying40 aT (w.heap.size+1) _ _ rfl HC.out.1 HSZ.out la ln lc L rfl HNIL.out (HA.out.since HW.out) HL.out ?_;intro va vn vc w2 hown hb))
     rw[←HP.out]at hown
     go_ret
     exact⟨va,vn,vc,rfl,hown.mono (by omega),HW.out.trans (hb.mono (by omega))⟩
    ·have HP:Hid (aA K A B C L=iF (hasB K 65) A++iF (hasB K 66) B++iF (hasB K 67) C):=hid (by unfold aA dA;rw[h];simp)
     have hown:=HC.out.1
     rw[←HP.out]at hown
     obtain⟨va,vn,vc,rfl,hnn⟩:=hown.nums
     have HO:=hid hown
     clear hown hnn
     go_wp2_with(go_at_call 56;(with_reducible refine(has_L K _).mono ?_);rintro e w' ⟨rfl,rfl⟩)
     go_ret
     exact⟨va,vn,vc,rfl,HO.out.mono (by omega),HW.out⟩
end Go.Proofs.YthjdeoppajlcoaaGreatDoor
