/- Layer 8: the blocks of the tree get their sizes, and their numbers (mk_dom.py E). -/
import Derived.Test.YthjdeoppajlcoaaGreatDoorYT3

namespace Go.Proofs.YthjdeoppajlcoaaGreatDoor
set_option linter.unusedSimpArgs false
set_option linter.unusedVariables false
open Go.RowKit
attribute [local go_sem] Oper.semAt_some
def ZN(Z:Nat→List Int)(NU EN:List Int):Nat→List Int:=fun k=>if k=2 then NU else if k=3 then EN else Z k
theorem ZN_num(Z:Nat→List Int)(NU NU2 EN:List Int):(fun k=>if k=2 then NU2 else ZN Z NU EN k)=ZN Z NU2 EN:=by
 funext k
 unfold ZN
 by_cases h:k=2<;>simp[h]
theorem wm(Z:Nat→List Int)(NU EN EN2:List Int):(fun k=>if k=3 then EN2 else ZN Z NU EN k)=ZN Z NU EN2:=by
 funext k
 unfold ZN
 by_cases h:k=3
 ·subst h;simp
 ·simp[h]
theorem ZN_same(Z:Nat→List Int):ZN Z (Z 2) (Z 3)=Z:=by
 funext k
 unfold ZN
 by_cases h:k=2
 ·subst h;simp
 ·by_cases h3:k=3
  ·subst h3;simp
  ·simp[h,h3]
theorem Hy(Z:Nat→List Int)(NU EN:List Int):ZN Z NU EN 1=Z 1:=rfl
theorem r9(Z:Nat→List Int)(NU EN:List Int):ZN Z NU EN 2=NU:=rfl
theorem iq(Z:Nat→List Int)(NU EN:List Int):ZN Z NU EN 3=EN:=rfl
section
variable {W W' : World} {B p n : Nat} {g : Nat → Nat} {Z : Nat → List Int} {ov fv : Value} {ord : List Int} {vs : List Value} {FR : List (List Int)} {rd : Int}
theorem aI.kept{X:Nat→Prop}(h:aI W B p n g Z ov fv ord vs FR rd)(hb:Off X W W')(hX:∀ i,X i→∀ (C:Array Value) (t:TypeId),W.heap[i]? ≠some (Obj.cells C t (0,0))):aI W' B p n g Z ov fv ord vs FR rd:=by
 have hk:∀ i (C:Array Value) (t:TypeId),W.heap[i]? =some (Obj.cells C t (0,0))→W'.heap[i]? =W.heap[i]? :=fun i C t e=>hb.block i (Array.getElem?_eq_some_iff.1 e).1 (fun hx=>hX i hx C t e)
 have hown:∀ {v:Value} {L:List Int},aj W B 3 v L→aj W' B 3 v L:=fun ho=>jJ ho fun i hi=>by obtain⟨cur,hc,_⟩:=bL ho hi;exact hk i _ _ hc
 exact⟨(hk p _ _ h.blk).trans h.blk,h.ge,⟨fun i hi=>hown (h.rows.own i hi),h.rows.apart⟩,hown h.ord,h.ordne,h.fr.kept hb (fun i hi=>.inr fun C t _=>hX i hi C t),h.frne⟩
theorem jR.off{b:Nat}{a:Option Addr}{m:Nat}{L:List Int}{X:Nat→Prop}(h:Off X W W')(hk:KeepsOthers W W')(hb:b<W.heap.size)(hxb:¬ X b)(hx:∀ g off,a=some ⟨g,off,none⟩→0<m→¬ X g):jR b a m L W W':=
 ⟨hk.walks,h.cell (p:=⟨b,0,none⟩) hb hxb,fun hn=>hn.off h hx⟩
def lU(W:World)(bx p:Nat):Prop:=W.heap[bx]? =some (.cells #[.pointer (some ⟨p,0,none⟩)] 160 (0,0))
theorem lU.cell{bx:Nat}(h:lU W bx p):W.cell? ⟨bx,0,none⟩=some (.pointer (some ⟨p,0,none⟩)):=by
 unfold lU at h
 simp[World.cell?,h]
theorem lU.lt{bx:Nat}(h:lU W bx p):bx<W.heap.size:=(Array.getElem?_eq_some_iff.1 h).1
theorem lU.ne{bx:Nat}(h:lU W bx p)(hA:aI W B p n g Z ov fv ord vs FR rd){i:Nat}(hi:i<5):bx≠g i:=fun e=>by
 obtain⟨cur,hc,_⟩:=hA.gblk hi
 unfold lU at h
 rw[←e,h]at hc
 simp at hc
theorem lU.kept{bx:Nat}{X:Nat→Prop}(h:lU W bx p)(hb:Off X W W')(hx:¬ X bx):lU W' bx p:=(hb.block bx h.lt hx).trans h
end
structure jg(W0:World)(M:Nat→Prop)(pl:Nat→Nat)(up:Nat→Int)(o:Nat→Nat)(K:Nat)(B p n:Nat)(g:Nat→Nat)(Z:Nat→List Int)(ov fv:Value)(ord:List Int)(vs:List Value)(FR:List (List Int))(rd:Int)(bx:Nat)(pre:List Nat)(EN:List Int)(W:World):Prop where
 at_:aI W B p n g (ZN Z (Z 2) EN) ov fv ord vs FR rd
 box:lU W bx p
 off:Off (fun i=>i=g 3) W0 W
 st:∀ q,q≤K→pre=ddn K q→∃ S,lZ M pl up o K (K-q) S∧∀ v,M v→nth EN v=(S v:Int)
section
variable {W0 W W' : World} {M : Nat → Prop} {pl : Nat → Nat} {up : Nat → Int} {o : Nat → Nat} {K : Nat} {B p n : Nat} {g : Nat → Nat} {Z : Nat → List Int} {ov fv : Value} {ord : List Int} {vs : List Value} {FR : List (List Int)} {rd : Int} {bx : Nat} {pre : List Nat} {EN : List Int}
theorem jg.kept{X:Nat→Prop}(h:jg W0 M pl up o K B p n g Z ov fv ord vs FR rd bx pre EN W)(hb:Off X W W')(hX:∀ i,X i→W0.heap.size≤i∧∀ (C:Array Value) (t:TypeId),W.heap[i]? ≠some (Obj.cells C t (0,0))):jg W0 M pl up o K B p n g Z ov fv ord vs FR rd bx pre EN W':=
 ⟨h.at_.kept hb (fun i hi=>(hX i hi).2),h.box.kept hb (fun hx=>(hX bx hx).2 _ _ h.box),h.off.trans_new hb (fun i hi=>.inr (hX i hi).1),h.st⟩
theorem mO{z:Int}(h0: -9223372036854775808≤z)(h:z≤9223372036854775807):wrap64 z=z:=by unfold wrap64;omega
theorem ED{K q x:Nat}{pre:List Nat}(h:pre++ [x]=ddn K q):∃ q',q=q'+1∧pre=ddn K q'∧x=K-1-q':=by
 cases q with
 |zero=>simp[ddn]at h
 |succ q=>
  rw[zI]at h
  have:=List.append_inj' h rfl
  exact⟨q,rfl,this.1,by simpa using this.2⟩
theorem jg.one(L:nN M pl up o K)(h:jg W0 M pl up o K B p n g Z ov fv ord vs FR rd bx pre EN W){x b:Nat}(hx:∀ i,i<K→x=i→b=o i)(hbn:b<n)(hb:up b<0)(hK:K≤100000):
 jg W0 M pl up o K B p n g Z ov fv ord vs FR rd bx (pre++ [x]) (EN.set b (wrap64 (nth EN b+1))) (W.setCell ⟨g 3,b,none⟩ (.int .i64 (wrap64 (nth EN b+1)))):=by
 have hput:=h.at_.put (i:=3) (by omega) b (wrap64 (nth EN b+1))
 rw[wm,iq]at hput
 refine⟨hput,h.box.kept (X:=fun i=>i=g 3) (Off.setCell (X:=fun i=>i=g 3) (p:=⟨g 3,b,none⟩) (Off.refl _ W) (.inl rfl) _) (h.box.ne h.at_ (by omega)),h.off.setCell (.inl rfl) _,fun q hq hp=> ?_⟩
 obtain⟨q',rfl,hp',hx'⟩:=ED hp
 obtain⟨S,hS,hE⟩:=h.st q' (by omega) hp'
 have hbo:=hx (K-1-q') (by omega) hx'
 have e1:K-q'=(K-(q'+1))+1:=by omega
 have e2:K-(q'+1)=K-1-q':=by omega
 rw[e1]at hS
 have hst:=hS.step L (by omega)
 rw[e2,←hbo]at hst
 rw[e2]
 refine⟨_,hst,fun v hv=> ?_⟩
 have hMb:M b:=by rw[hbo];exact(L.met _ (by omega)).1
 have hlen:EN.length=n:=by have:=h.at_.len (i:=3) (by omega);simpa [ZN]using this
 rw[dP (by omega)]
 unfold eY
 by_cases e:v=b
 ·subst e
  have:=hS.small v hv
  rw[if_pos rfl,if_pos rfl,hE v hv,mO (by omega) (by omega)]
  omega
 ·rw[if_neg e,if_neg e,if_neg (by omega)]
  exact hE v hv
theorem jg.two(L:nN M pl up o K)(h:jg W0 M pl up o K B p n g Z ov fv ord vs FR rd bx pre EN W){x b c:Nat}(hx:∀ i,i<K→x=i→b=o i)(hbn:b<n)(hcn:c<n)(hb:up b=(c:Int))(hK:K≤100000){W2:World}{y:Int}{EN1:List Int}(hy:y=wrap64 (nth EN b+1))(hEN1:EN1=EN.set b y)
 (hA1:aI W2 B p n g (ZN Z (Z 2) EN1) ov fv ord vs FR rd)(hbx:lU W2 bx p)(hoff:Off (fun i=>i=g 3) W W2):
 jg W0 M pl up o K B p n g Z ov fv ord vs FR rd bx (pre++ [x]) (EN1.set c (wrap64 (nth EN1 c+nth EN1 b))) (W2.setCell ⟨g 3,c,none⟩ (.int .i64 (wrap64 (nth EN1 c+nth EN1 b)))):=by
 have hput:=hA1.put (i:=3) (by omega) c (wrap64 (nth EN1 c+nth EN1 b))
 rw[wm,iq]at hput
 refine⟨hput,hbx.kept (X:=fun i=>i=g 3) (Off.setCell (X:=fun i=>i=g 3) (p:=⟨g 3,c,none⟩) (Off.refl _ W2) (.inl rfl) _) (hbx.ne hA1 (by omega)),(h.off.trans hoff).setCell (.inl rfl) _,fun q hq hp=> ?_⟩
 obtain⟨q',rfl,hp',hx'⟩:=ED hp
 obtain⟨S,hS,hE⟩:=h.st q' (by omega) hp'
 have hbo:=hx (K-1-q') (by omega) hx'
 have e1:K-q'=(K-(q'+1))+1:=by omega
 have e2:K-(q'+1)=K-1-q':=by omega
 rw[e1]at hS
 have hst:=hS.step L (by omega)
 rw[e2,←hbo]at hst
 rw[e2]
 refine⟨_,hst,fun v hv=> ?_⟩
 have hMb:M b:=by rw[hbo];exact(L.met _ (by omega)).1
 have hlen:EN.length=n:=by have:=h.at_.len (i:=3) (by omega);simpa [ZN]using this
 have hlt:=L.lt _ _ hb
 have hcb:c≠b:=fun e=>by rw[e]at hlt;omega
 have hsb:=hS.small b hMb
 have hsc:=hS.small c hlt.1
 have hyv:y=(S b:Int)+1:=by rw[hy,hE b hMb,mO (by omega) (by omega)]
 have h1b:nth EN1 b=(S b:Int)+1:=by rw[hEN1,dP (by omega),if_pos rfl,hyv]
 have h1c:nth EN1 c=(S c:Int):=by rw[hEN1,dP (by omega),if_neg hcb,hE c hlt.1]
 have hl1:EN1.length=n:=by rw[hEN1,List.length_set,hlen]
 rw[dP (by omega)]
 unfold eY
 by_cases e:v=b
 ·subst e
  rw[if_neg (fun e=>hcb e.symm),if_pos rfl,h1b]
  omega
 ·rw[if_neg e]
  by_cases e3:v=c
  ·subst e3
   rw[if_pos rfl,if_pos hb,h1b,h1c,mO (by omega) (by omega)]
   omega
  ·rw[if_neg e3,if_neg (fun e4=>e3 (Int.ofNat.inj (e4.symm.trans hb))),hEN1,dP (by omega),if_neg e]
   exact hE v hv
end
structure l5(W0:World)(M:Nat→Prop)(pl:Nat→Nat)(up:Nat→Int)(o:Nat→Nat)(K:Nat)(S:Nat→Nat)(B p n:Nat)(g:Nat→Nat)(Z:Nat→List Int)(ov fv:Value)(ord:List Int)(vs:List Value)(FR:List (List Int))(rd:Int)(bx gr Br i:Nat)(NU EN RE:List Int)(W:World):Prop where
 at_:aI W B p n g (ZN Z NU EN) ov fv ord vs FR rd
 box:lU W bx p
 free:aj W Br 3 (.slice (some ⟨gr,0,none⟩) n n) RE
 off:Off (fun i=>i=g 2∨i=g 3∨i=gr) W0 W
 st:∃ N R,mR M pl up o K i S N R∧(∀v,M v→nth NU v=(if pl v<i then(N v:Int)else 0))∧(∀v,M v→nth EN v=(S v:Int)+(if pl v<i then(N v:Int)else 0))∧∀ v,M v→pl v<i→nth RE v=(R v:Int)
section
variable {W0 W W' : World} {M : Nat → Prop} {pl : Nat → Nat} {up : Nat → Int} {o : Nat → Nat} {K : Nat} {S : Nat → Nat} {B p n : Nat} {g : Nat → Nat} {Z : Nat → List Int} {ov fv : Value} {ord : List Int} {vs : List Value} {FR : List (List Int)} {rd : Int} {bx gr Br i : Nat} {NU EN RE : List Int}
theorem l5.first(L:nN M pl up o K)(Sz:wB M up o K S)(h:l5 W0 M pl up o K S B p n g Z ov fv ord vs FR rd bx gr Br i NU EN RE W){b:Nat}(hi:i<K)(hbo:b=o i)(hbn:b<n)(hb:up b<0)(hK:K≤100000){W2:World}
 (hA:aI W2 B p n g (ZN Z NU (EN.set b (nth EN b+nth NU b))) ov fv ord vs FR rd)(hbx:lU W2 bx p)(hfr:aj W2 Br 3 (.slice (some ⟨gr,0,none⟩) n n) (RE.set b (nth NU b+1)))(hoff:Off (fun i=>i=g 2∨i=g 3∨i=gr) W W2):
 l5 W0 M pl up o K S B p n g Z ov fv ord vs FR rd bx gr Br (i+1) NU (EN.set b (nth EN b+nth NU b)) (RE.set b (nth NU b+1)) W2:=by
 subst hbo
 obtain⟨hMb,hpb⟩:=L.met i hi
 have hi0:i=0:=by
  refine Nat.eq_zero_of_not_pos fun h0=> ?_
  have:=L.up0 _ hMb (by omega)
  omega
 subst hi0
 obtain⟨N,R,hN,h1,h2,h3⟩:=h.st
 have hlenE:EN.length=n:=by have:=h.at_.len (i:=3) (by omega);simpa [ZN]using this
 have hlenR:RE.length=n:=h.free.read.1
 have hnu:nth NU (o 0)=0:=by rw[h1 _ hMb,if_neg (by omega)]
 have hen:nth EN (o 0)=(S (o 0):Int):=by rw[h2 _ hMb,if_neg (by omega)];omega
 have h0:∀ v,M v→pl v<1→v=o 0:=fun v hv hl=>by rw[←(L.at_ v hv).1,show pl v=0 by omega]
 refine⟨hA,hbx,hfr,h.off.trans hoff,fun _=>0,fun _=>1,mR.first (N:=fun _=>0) (R:=R) L Sz ⟨fun _ _ _ h=>absurd h (by omega),fun _ _ h=>absurd h (by omega),fun _ _ h=>absurd h (by omega)⟩ hi hb rfl rfl,fun v hv=> ?_,fun v hv=> ?_,fun v hv hl=> ?_⟩
 ·rw[h1 v hv,if_neg (by omega)];split<;>rfl
 ·rw[dP (by omega)]
  split
  ·rename_i e;subst e;rw[hen,hnu];simp
  ·rename_i e;rw[h2 v hv,if_neg (by omega),if_neg (fun hl=>e (h0 v hv hl))]
 ·rw[h0 v hv hl,dP (by omega),if_pos rfl,hnu];rfl
theorem l5.next(L:nN M pl up o K)(Sz:wB M up o K S)(h:l5 W0 M pl up o K S B p n g Z ov fv ord vs FR rd bx gr Br i NU EN RE W){b c:Nat}(hi:i<K)(hbo:b=o i)(hbn:b<n)(hcn:c<n)(hb:up b=(c:Int))(hK:K≤100000){W2:World}{x:Int}{NU2 EN2 RE2:List Int}
 (hx:x=nth RE c)(hN2:NU2=NU.set b x)(hR2:RE2=(RE.set c (nth RE c+nth EN b)).set b (x+1))(hE2:EN2=EN.set b (nth EN b+x))
 (hA:aI W2 B p n g (ZN Z NU2 EN2) ov fv ord vs FR rd)(hbx:lU W2 bx p)(hfr:aj W2 Br 3 (.slice (some ⟨gr,0,none⟩) n n) RE2)(hoff:Off (fun i=>i=g 2∨i=g 3∨i=gr) W W2):
 l5 W0 M pl up o K S B p n g Z ov fv ord vs FR rd bx gr Br (i+1) NU2 EN2 RE2 W2:=by
 subst hbo
 obtain⟨hMb,hpb⟩:=L.met i hi
 obtain⟨N,R,hN,h1,h2,h3⟩:=h.st
 have hlt:=L.lt _ _ hb
 rw[hpb]at hlt
 have hcb:c≠o i:=fun e=>by rw[e]at hlt;omega
 have hlenE:EN.length=n:=by have:=h.at_.len (i:=3) (by omega);simpa [ZN]using this
 have hlenN:NU.length=n:=by have:=h.at_.len (i:=2) (by omega);simpa [ZN]using this
 have hlenR:RE.length=n:=h.free.read.1
 have hxc:x=(R c:Int):=by rw[hx,h3 c hlt.1 hlt.2]
 have hen:nth EN (o i)=(S (o i):Int):=by rw[h2 _ hMb,if_neg (by omega)];omega
 have hb':∀ v,M v→v≠o i→(pl v<i+1↔pl v<i):=fun v hv hne=>by
  have:pl v≠i:=fun e=>hne (by rw[←(L.at_ v hv).1,e])
  omega
 refine⟨hA,hbx,hfr,h.off.trans hoff,fun v=>if v=o i then R c else N v,fun v=>if v=o i then R c+1 else if v=c then R c+S (o i)else R v,hN.step L Sz hi hb (if_pos rfl) (fun v _ hv=>if_neg hv) (if_pos rfl) (by simp[hcb]) (fun v _ h1 h2=>by simp[h1,h2]),fun v hv=> ?_,fun v hv=> ?_,fun v hv hl=> ?_⟩
 ·simp only
  rw[hN2,dP (by omega)]
  by_cases e:v=o i
  ·rw[if_pos e,if_pos (by rw[e];omega),if_pos e,hxc]
  ·rw[if_neg e,h1 v hv,if_neg e]
   simp only[hb' v hv e]
 ·simp only
  rw[hE2,dP (by omega)]
  by_cases e:v=o i
  ·rw[if_pos e,if_pos (by rw[e];omega),if_pos e,hxc,hen,e]
  ·rw[if_neg e,h2 v hv,if_neg e]
   simp only[hb' v hv e]
 ·simp only
  rw[hR2,dP (by simp;omega)]
  by_cases e:v=o i
  ·rw[if_pos e,if_pos e,hxc];omega
  ·rw[if_neg e,if_neg e,dP (by omega)]
   by_cases e2:v=c
   ·rw[if_pos e2,if_pos e2,hen,h3 c hlt.1 hlt.2];omega
   ·rw[if_neg e2,if_neg e2]
    exact h3 v hv ((hb' v hv e).1 hl)
theorem l5.small(L:nN M pl up o K)(Sz:wB M up o K S)(h:l5 W0 M pl up o K S B p n g Z ov fv ord vs FR rd bx gr Br i NU EN RE W)(hi:i<K)(hK:K≤100000):(∀v,M v→0≤nth NU v∧nth NU v≤100000)∧(∀v,M v→0≤nth EN v∧nth EN v≤200000)∧∀ v,M v→pl v<i→0≤nth RE v∧nth RE v≤100000:=by
 obtain⟨N,R,hN,h1,h2,h3⟩:=h.st
 refine⟨fun v hv=> ?_,fun v hv=> ?_,fun v hv hl=> ?_⟩
 ·rw[h1 v hv]
  split
  ·have:=hN.fit v hv (by assumption);omega
  ·omega
 ·rw[h2 v hv]
  have:=Sz.small v hv
  split
  ·have:=hN.fit v hv (by assumption);omega
  ·omega
 ·rw[h3 v hv hl]
  have:=hN.freeLe Sz (by omega) hv hl
  omega
end
def E5(N p:Nat)(g:Nat→Nat)(ov fv:Value)(vs:List Value):Prop:=p<N∧(∀i,i<5→g i<N)∧(∀k,ov.ownBlock=some k→k<N)∧(∀k,fv.ownBlock=some k→k<N)∧∀ j (h:j<vs.length) k,vs[j].ownBlock=some k→k<N
section
variable {W W' : World} {B p n : Nat} {g : Nat → Nat} {Z : Nat → List Int} {ov fv : Value} {ord : List Int} {vs : List Value} {FR : List (List Int)} {rd : Int}
theorem aI.tlt(h:aI W B p n g Z ov fv ord vs FR rd):E5 W.heap.size p g ov fv vs:=
 ⟨h.plt,fun i hi=>by obtain⟨cur,hc,_⟩:=h.gblk hi;exact(Array.getElem?_eq_some_iff.1 hc).1,fun k hk=>(h.ord.lt k hk).2,fun k hk=>by obtain⟨cur,hc,_⟩:=dG h.fr.row hk;exact(Array.getElem?_eq_some_iff.1 hc).1,fun j hj k hk=>((h.fr.own j hj (by rw[←h.fr.len];exact hj)).lt k hk).2⟩
theorem aI.beyond{X:Nat→Prop}{N:Nat}(h:aI W B p n g Z ov fv ord vs FR rd)(ht:E5 N p g ov fv vs)(hb:Off X W W')(hX:∀ i,X i→N≤i):aI W' B p n g Z ov fv ord vs FR rd:=by
 obtain⟨t1,t2,t3,t4,t5⟩:=ht
 have hk:∀ i o,i<N→W.heap[i]? =some o→W'.heap[i]? =W.heap[i]? :=fun i o hi e=>hb.block i (Array.getElem?_eq_some_iff.1 e).1 (fun hx=>by have:=hX i hx;omega)
 have hown:∀ {v:Value} {L:List Int},(∀k,v.ownBlock=some k→k<N)→aj W B 3 v L→aj W' B 3 v L:=fun hv ho=>jJ ho fun i hi=>by obtain⟨cur,hc,_⟩:=bL ho hi;exact hk i _ (hv i hi) hc
 refine⟨(hk p _ t1 h.blk).trans h.blk,h.ge,⟨fun i hi=>hown (fun k e=>by cases e;exact t2 i hi) (h.rows.own i hi),h.rows.apart⟩,hown t3 h.ord,h.ordne,⟨⟨h.fr.row.1, ?_⟩,h.fr.len,fun i h1 h2=>hown (t5 i h1) (h.fr.own i h1 h2),h.fr.apart⟩,h.frne⟩
 rcases h.fr.row.2 with hn|⟨q,cap,cur',e,hB,hq,rest⟩
 ·exact .inl hn
 ·exact .inr ⟨q,cap,cur',e,hB,(hk q _ (t4 q (by rw[e];rfl)) hq).trans hq,rest⟩
theorem nD{e:TypeId}{m:Nat}(hB:B≤W.heap.size)(hm:m≤maxLen):aj (W.alloc (.cells (madeCells #[.int .i64 0] m) e)) B e (.slice (some ⟨W.heap.size,0,none⟩) m m) (List.replicate m 0):=by
 have h:=World.ownsRow_lit (base:=B) (e:=e) (size:=1) W (madeCells #[Value.int .i64 0] m) m hB hm (by simp[size_madeCells])
 have e1:(madeCells #[Value.int .i64 0] m).toList=(List.replicate m 0).map dN:=by
  apply List.ext_getElem
  ·simp[madeCells]
  ·intro i h1 h2
   simp[madeCells,dN,Nat.mod_one]
 rw[e1]at h
 show World.ownsRow _ B e 1 _ (List.replicate m (0:Int)).length _
 rw[List.length_replicate]
 exact h
end
end Go.Proofs.YthjdeoppajlcoaaGreatDoor
