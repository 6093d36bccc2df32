/- Layer 8: the document's Over. -/
import Derived.Test.YthjdeoppajlcoaaGreatDoorYCodeFi
import Derived.Test.YthjdeoppajlcoaaGreatDoorYCodeWl
import Derived.Test.YthjdeoppajlcoaaGreatDoorYDomE
import Derived.Test.YthjdeoppajlcoaaGreatDoorYDomR
import Derived.Lib.AppendZerosOnto
namespace Go.Proofs.YthjdeoppajlcoaaGreatDoor
set_option linter.unusedSimpArgs false
set_option linter.unusedVariables false
open Go.RowKit (wrap64 intOf Below)
def MI(f:ak)(fr wo z:Int):Prop:=∃ v:Nat,z=v∧RM f fr wo v
def G5(f:ak)(x y:Int):Prop:=MI f 0 (-1) x∧MI f 0 (-1) y∧¬ MI f 0 x y
open Classical in
noncomputable def oV(f:ak)(x y:Int):Bool:=decide (G5 f x y)
theorem uX{f:ak}{x y:Int}:oV f x y=true↔G5 f x y:=by unfold oV;simp
end Go.Proofs.YthjdeoppajlcoaaGreatDoor

namespace Go.Proofs.YthjdeoppajlcoaaGreatDoor
set_option linter.unusedVariables false
section
variable {f : ak} {n m : Nat} {UP : List Int}
theorem zu(f:ak)(v:Nat):MI f 0 (-1) v↔iH f v:=by
 constructor
 ·rintro ⟨u,hu,k,hk,hkl,hw⟩
  obtain rfl:v=u:=by omega
  obtain rfl:k=0:=by omega
  exact(DF hkl v).2 (hw.mono fun _ _=>trivial)
 ·intro h
  have h0:0<f.blocks.length:=by have:=iJ h;omega
  exact⟨v,rfl,0,rfl,h0,((DF h0 v).1 h).mono fun u _=>by omega⟩
theorem Dz{f:ak}{fr wo z:Int}(h:MI f fr wo z):∃ v:Nat,z=v:=by obtain⟨v,h,_⟩:=h;exact⟨v,h⟩
theorem rJ(f:ak)(h0:0<f.blocks.length)(a v:Nat):MI f 0 a v↔¬ Dom (kJ f) a v:=by
 unfold Dom
 rw[Classical.not_not]
 constructor
 ·rintro ⟨u,hu,k,hk,hkl,hw⟩
  obtain rfl:v=u:=by omega
  obtain rfl:k=0:=by omega
  exact hw.mono fun u hu=>by omega
 ·intro h
  exact⟨v,rfl,0,rfl,h0,h.mono fun u hu=>by omega⟩
theorem over_on(hs:fK (kJ f) (iH f) (plF f) n UP m)(x y:Int):G5 f x y↔∃ a b:Nat,x=a∧y=b∧iH f a∧iH f b∧On (gH n UP) b a:=by
 constructor
 ·rintro ⟨h1,h2,h3⟩
  obtain⟨a,rfl⟩:=Dz h1
  obtain⟨b,rfl⟩:=Dz h2
  have ha:=(zu f a).1 h1
  have hb:=(zu f b).1 h2
  have h0:0<f.blocks.length:=by have:=iJ ha;omega
  exact⟨a,b,rfl,rfl,ha,hb,(settled (pY f h0) hs.tree hs.all hs.fix hb ha).2 (Classical.byContradiction fun h=>h3 ((rJ f h0 a b).2 h))⟩
 ·rintro ⟨a,b,rfl,rfl,ha,hb,ho⟩
  have h0:0<f.blocks.length:=by have:=iJ ha;omega
  exact⟨(zu f a).2 ha,(zu f b).2 hb,fun h=>(rJ f h0 a b).1 h ((settled (pY f h0) hs.tree hs.all hs.fix hb ha).1 ho)⟩
theorem zk(hs:fK (kJ f) (iH f) (plF f) n UP m)(a b:Nat):G5 f a b↔iH f a∧iH f b∧On (gH n UP) b a:=by
 rw[over_on hs]
 constructor
 ·rintro ⟨a',b',e1,e2,h⟩
  obtain rfl:a=a':=by omega
  obtain rfl:b=b':=by omega
  exact h
 ·exact fun h=>⟨a,b,rfl,rfl,h⟩
theorem zm{up:Nat→Int}{b a:Nat}(h:On up b a)(hne:a≠b):∃ c:Nat,up b=(c:Int)∧On up c a:=by
 cases h with
 |refl _=>exact absurd rfl hne
 |step e h=>exact⟨_,e,h⟩
end
end Go.Proofs.YthjdeoppajlcoaaGreatDoor

namespace Go.Proofs.YthjdeoppajlcoaaGreatDoor
set_option linter.unusedSimpArgs false
set_option linter.unusedVariables false
open Go.RowKit (wrap64 intOf Below)
def sizeB(b:dD):Nat:=b.params.length+b.ops.length
def aL(f:ak)(i:Nat):Nat:=((f.blocks.take i).map sizeB).sum
def aV(f:ak):Nat:=aL f f.blocks.length
theorem mM(f:ak):aL f 0=0:=by simp[aL]
theorem gQ{f:ak}{i:Nat}(h:i<f.blocks.length):aL f (i+1)=aL f i+(f.blocks[i].params.length+f.blocks[i].ops.length):=by
 unfold aL
 rw[List.take_succ_eq_append_getElem h,List.map_append,List.sum_append]
 simp[sizeB]
theorem xQ(f:ak)(i:Nat):aL f i≤aL f (i+1):=by
 by_cases h:i<f.blocks.length
 ·rw[gQ h];omega
 ·unfold aL
  rw[List.take_of_length_le (by omega),List.take_of_length_le (by omega)]
  exact Nat.le_refl _
theorem gT(f:ak){i j:Nat}(h:i≤j):aL f i≤aL f j:=by
 induction h with
 |refl=>exact Nat.le_refl _
 |step _ ih=>exact Nat.le_trans ih (xQ f _)
theorem je(f:ak)(i:Nat):aL f i≤aV f:=by
 by_cases h:i≤f.blocks.length
 ·exact gT f h
 ·unfold aL aV aL
  rw[List.take_of_length_le (by omega),List.take_of_length_le (Nat.le_refl _)]
  exact Nat.le_refl _
def uf(f:ak)(b v:Nat):Prop:=aL f b≤v∧v<aL f (b+1)
theorem Ee{f:ak}{b v:Nat}(h:uf f b v):b<f.blocks.length:=by
 by_cases hb:b<f.blocks.length
 ·exact hb
 ·exfalso
  have h1:=h.1
  have h2:=h.2
  have h3:aL f (b+1)≤aL f b:=by
   unfold aL
   rw[List.take_of_length_le (by omega),List.take_of_length_le (by omega)]
   exact Nat.le_refl _
  omega
theorem zF{f:ak}{b c v:Nat}(h:uf f b v)(k:uf f c v):b=c:=by
 rcases Nat.lt_trichotomy b c with hl|he|hl
 ·have:=gT f (show b+1≤c from hl)
  have h2:=h.2
  have k1:=k.1
  omega
 ·exact he
 ·have:=gT f (show c+1≤b from hl)
  have h1:=h.1
  have k2:=k.2
  omega
def GZ(f:ak)(x a v:Int):Prop:=
 ∃b k u:Nat,x=(b:Int)∧a=(k:Int)∧v=(u:Int)∧∃ hb:b<f.blocks.length,k≤f.blocks[b].ops.length∧u<aV f∧
  ∃h:Nat,uf f h u∧((h=b∧u<aL f b+f.blocks[b].params.length+k)∨(h≠b∧oV f (h:Int) (b:Int)=true))
open Classical in
noncomputable def jV(f:ak)(x a v:Int):Bool:=decide (GZ f x a v)
theorem sM{f:ak}{x a v:Int}:jV f x a v=true↔GZ f x a v:=by unfold jV;simp
theorem Dg{f:ak}{x a v:Int}{q:Bool}(h:q=true↔GZ f x a v):q=jV f x a v:=by
 rw[Bool.eq_iff_iff,sM]
 exact h
theorem xu{f:ak}{x a v:Int}(h:¬ GZ f x a v):jV f x a v=false:=by
 cases hs:jV f x a v with
 |false=>rfl
 |true=>exact absurd (sM.1 hs) h
theorem y9{f:ak}{b k u:Nat}(hb:b<f.blocks.length)(hk:k≤f.blocks[b].ops.length)(hu:u<aV f)(hh:uf f b u):jV f (b:Int) (k:Int) (u:Int)=decide (u<aL f b+f.blocks[b].params.length+k):=by
 refine(Dg ?_).symm
 rw[decide_eq_true_iff]
 constructor
 ·intro h
  exact⟨b,k,u,rfl,rfl,rfl,hb,hk,hu,b,hh,.inl ⟨rfl,h⟩⟩
 ·rintro ⟨b',k',u',e1,e2,e3,hb',hk',hu',h,hH,hc⟩
  obtain rfl:b'=b:=by omega
  obtain rfl:k'=k:=by omega
  obtain rfl:u'=u:=by omega
  obtain rfl:=zF hH hh
  rcases hc with⟨_,h1⟩|⟨h1,_⟩
  ·exact h1
  ·exact absurd rfl h1
theorem Au{f:ak}{b k u h:Nat}(hb:b<f.blocks.length)(hk:k≤f.blocks[b].ops.length)(hu:u<aV f)(hh:uf f h u)(hne:h≠b):jV f (b:Int) (k:Int) (u:Int)=oV f (h:Int) (b:Int):=by
 refine(Dg ?_).symm
 constructor
 ·intro ho
  exact⟨b,k,u,rfl,rfl,rfl,hb,hk,hu,h,hh,.inr ⟨hne,ho⟩⟩
 ·rintro ⟨b',k',u',e1,e2,e3,hb',hk',hu',h',hH,hc⟩
  obtain rfl:b'=b:=by omega
  obtain rfl:k'=k:=by omega
  obtain rfl:u'=u:=by omega
  obtain rfl:=zF hH hh
  rcases hc with⟨h1,_⟩|⟨_,h1⟩
  ·exact absurd h1 hne
  ·exact h1
end Go.Proofs.YthjdeoppajlcoaaGreatDoor

namespace Go.Proofs.YthjdeoppajlcoaaGreatDoor
set_option linter.unusedSimpArgs false
set_option linter.unusedVariables false
set_option maxHeartbeats 4000000
set_option maxRecDepth 100000
open Go.RowKit (wrap64 intOf Below Hid)
open Go.Lib (hid)
def qy(er:Int):Ending:=.panicked [{v:=.iface 30 (.int .i64 er),recovered:=false}]
theorem Dx(er:Int)(w:World):Calls Tryz.prog 24 #[.bool true,.int .i64 er] w fun e w'=>e=.returned (.tuple #[])∧w'=w:=by
 go_enter Tryz.func24,Tryz.ntmps24
 go_wp2_with fail
 go_end0
 exact⟨rfl,rfl⟩
theorem sZ(er:Int)(w:World):Calls Tryz.prog 24 #[.bool false,.int .i64 er] w fun e w'=>e=qy er∧w'=w:=by
 unfold qy
 go_enter Tryz.func24,Tryz.ntmps24
 go_wp2_with fail
 exact⟨rfl,rfl,rfl⟩
def au(ok:Bool)(w:World)(e:Ending)(w':World):Prop:=(ok=true∧e=.returned (.tuple #[])∨ok=false∧e=qy 4)∧Below w.heap.size w w'
def tZ(ok:Bool)(w:World)(e:Ending)(w':World):Prop:=(ok=true∧e=.returned (.tuple #[])∨ok=false∧e=qy 4)∧w'=w
theorem bS(ok:Bool)(w:World):Calls Tryz.prog 49 #[.bool ok] w (tZ ok w):=by
 cases ok with
 |true=>
  go_enter Tryz.func49,Tryz.ntmps49
  go_wp2_with(go_at_call 24;refine(Dx 4 _).mono ?_;rintro e u ⟨rfl,rfl⟩)
  go_end0
  exact⟨.inl ⟨rfl,rfl⟩,rfl⟩
 |false=>
  go_enter Tryz.func49,Tryz.ntmps49
  go_wp2_with(go_at_call 24;refine(sZ 4 _).mono ?_;rintro e u ⟨he,rfl⟩;unfold qy at he;subst he)
  exact⟨rfl,.inr ⟨rfl,rfl⟩,rfl⟩
def jM(f:ak):List Int:=(List.range (f.blocks.length+1)).map fun i=>((aL f i:Nat):Int)
theorem BD(f:ak):(jM f).length=f.blocks.length+1:=by simp[jM]
theorem qA(f:ak)(i:Nat)(h:i<(jM f).length):(jM f)[i]=((aL f i:Nat):Int):=by simp[jM]
structure fM(W:World)(a:Option Addr)(n c:Nat)(f:ak)(fa ua:Option Addr)(m:Nat)(UP:List Int):Prop where
 row:gG aM 8 W (.slice a n c) f.blocks
 first:ai W fa (n+1) (jM f)
 above:ai W ua n UP
 set:fK (kJ f) (iH f) (plF f) n UP m
 vals:aV f≤1099511627776
 small:n≤100000
theorem fM.len{W:World}{a:Option Addr}{n c:Nat}{f:ak}{fa ua:Option Addr}{m:Nat}{UP:List Int}(h:fM W a n c f fa ua m UP):n=f.blocks.length:=by
 obtain⟨_,_,_,e,hl,_⟩:=h.row
 cases e
 exact hl.symm
theorem fM.since{W W':World}{a:Option Addr}{n c:Nat}{f:ak}{fa ua:Option Addr}{m:Nat}{UP:List Int}(h:fM W a n c f fa ua m UP)(hb:Below W.heap.size W W'):fM W' a n c f fa ua m UP:=
 ⟨h.row.since aM.lasts hb,h.first.since hb,h.above.since hb,h.set,h.vals,h.small⟩
def EZ(f:ak)(up:Nat→Int)(x y:Nat)(b:Int):Prop:=
 (∃k:Nat,b=(k:Int)∧k<f.blocks.length∧(oV f (x:Int) (y:Int)=true→On up k x)∧On up y k∧(k=y∨(iH f k∧iH f y)))∨(b= -1∧oV f (x:Int) (y:Int)=false)
theorem EZ.start{f:ak}{n m:Nat}{UP:List Int}(hs:fK (kJ f) (iH f) (plF f) n UP m){x y:Nat}(hy:y<f.blocks.length):EZ f (gH n UP) x y (y:Int):=
 .inl ⟨y,rfl,hy,fun h=>((zk hs x y).1 (uX.1 h)).2.2,.refl _,.inl rfl⟩
theorem EZ.step{f:ak}{n m:Nat}{UP:List Int}(hs:fK (kJ f) (iH f) (plF f) n UP m){x y k:Nat}(h:EZ f (gH n UP) x y (k:Int))(hne:k≠x):
 EZ f (gH n UP) x y (gH n UP k)∧(0≤gH n UP k→plF f (gH n UP k).toNat<plF f k):=by
 rcases h with⟨k',e,hk,ho,hy,hm⟩|⟨e,_⟩
 ·obtain rfl:k'=k:=by omega
  by_cases h0:0≤gH n UP k'
  ·obtain⟨c,hc⟩:=Int.eq_ofNat_of_zero_le h0
   have hlt:=hs.tree.lt _ _ hc
   have hmk:iH f k':=by
    by_cases hx:iH f k'∧k'≠0
    ·exact hx.1
    ·have:=hs.tree.none k' hx;omega
   refine⟨.inl ⟨c,hc,iJ hlt.1,fun h=> ?_,hy.trans (.step hc (.refl _)),.inr ⟨hlt.1, ?_⟩⟩,fun _=> ?_⟩
   ·obtain⟨c',hc',hr⟩:=zm (ho h) (fun e=>hne e.symm)
    rw[hc]at hc'
    obtain rfl:c=c':=by omega
    exact hr
   ·rcases hm with rfl|hm
    ·exact hmk
    ·exact hm.2
   ·rw[hc];exact hlt.2.1
  ·have hlow:=hs.tree.low k'
   refine⟨.inr ⟨by omega, ?_⟩,fun h=>absurd h h0⟩
   cases hov:oV f (x:Int) (y:Int)with
   |false=>rfl
   |true=>
    obtain⟨c',hc',_⟩:=zm (ho hov) (fun e=>hne e.symm)
    omega
 ·omega
theorem EZ.found{f:ak}{n m:Nat}{UP:List Int}(hs:fK (kJ f) (iH f) (plF f) n UP m){x y:Nat}(hxy:x≠y)(h:EZ f (gH n UP) x y (x:Int)):oV f (x:Int) (y:Int)=true:=by
 rcases h with⟨k,e,hk,ho,hy,hm⟩|⟨e,_⟩
 ·obtain rfl:k=x:=by omega
  rcases hm with e|hm
  ·exact absurd e hxy
  ·exact uX.2 ((zk hs k y).2 ⟨hm.1,hm.2,hy⟩)
 ·omega
theorem EZ.off{f:ak}{up:Nat→Int}{x y:Nat}{b:Int}(h:EZ f up x y b)(hb:¬ 0≤b):b= -1∧oV f (x:Int) (y:Int)=false:=by
 rcases h with⟨k,e,_⟩|h
 ·omega
 ·exact h
def wupM(f:ak)(v:Value):Nat:=if 0≤intOf v then plF f (intOf v).toNat+1 else 0
theorem wupM_lt{f:ak}{k:Nat}{z:Int}(h:0≤z→plF f z.toNat<plF f k):wupM f (.int .i64 z)<wupM f (.int .i64 (k:Int)):=by
 have e:∀ z:Int,intOf (.int .i64 z)=z:=fun _=>rfl
 unfold wupM
 rw[e,e,if_pos (Int.natCast_nonneg k),Int.toNat_natCast]
 split
 ·rename_i h0
  have:=h h0
  omega
 ·omega
theorem Cq{W:World}{r:Int}{a:Option Addr}{n c fc uc:Nat}{f:ak}{fa ua:Option Addr}{m:Nat}{UP:List Int}(h:fM W a n c f fa ua m UP)(x y:Nat)(hxy:x≠y)(hx:x<n)(hy:y<n):
 Calls Tryz.prog 74 #[.agg #[.int .i64 r,.slice a n c,.slice fa (n+1) fc,.slice ua n uc],.int .i64 (x:Int),.int .i64 (y:Int)] W fun e w'=>e=.returned (.bool (oV f (x:Int) (y:Int)))∧Below W.heap.size W w':=by
 obtain⟨W1,hW1⟩:∃ U,W.alloc (.cells #[.int .i64 r,.slice a n c,.slice fa (n+1) fc,.slice ua n uc] 80)=U:=⟨_,rfl⟩
 have hb1:Below W.heap.size W W1:=by rw[←hW1];exact(Below.refl _ W).alloc (Nat.le_refl _) _
 have HB1:=hid hb1
 have hc:∀ j,W1.cell? ⟨W.heap.size,j,none⟩=(#[.int .i64 r,.slice a n c,.slice fa (n+1) fc,.slice ua n uc]:Array Value)[j]? :=fun j=>by rw[←hW1];exact World.cell?_alloc_mark _ _ _ _ _
 have hc3:=hc 3
 have HS:=hid h.set
 have HXY:=hid hxy
 have hn:=h.len
 obtain⟨hul,hug⟩:=(h.since hb1).above
 obtain⟨g,off,rfl,hg,hcells⟩:=hug (by omega)
 have HC:Hid (∀k:Nat,k<n→W1.cell? ⟨g,off+k,none⟩=some (.int .i64 (gH n UP k))):=hid fun k hk=>by
  have:=hcells k (by omega)
  rw[this,pO hk,bN (by omega)]
  rfl
 have HST:=hid (EZ.start (x:=x) h.set (by omega:y<f.blocks.length))
 have HN:=hid hn
 clear h hb1 hc hcells hug hul hn hxy hg
 go_enter Tryz.func74,Tryz.ntmps74
 go_upto_region 1 with fail
 try rw[hW1]
 clear hW1
 go_loopw[2] (fun v2 wr=>∃ b:Int,v2=.int .i64 b∧wr=W1∧Hid (EZ f (gH n UP) x y b)) (fun v2 _=>wupM f v2)
 case atStart=>exact⟨(y:Int),rfl,rfl,HST⟩
 case round=>
  obtain⟨b,rfl,rfl,HI⟩:=hrel
  by_cases hbx:b=(x:Int)
  ·have hne:(b !=(x:Int))=false:=by rw[hbx];simp
   have hee:(b==(x:Int))=true:=by rw[hbx];simp
   have HR:Hid (oV f (x:Int) (y:Int)=true):=hid (by
    have h:=HI.out
    rw[hbx]at h
    exact h.found HS.out HXY.out)
   have HBX:=hid hbx
   clear hbx
   go_wp2_with fail
   go_ret
   exact⟨by rw[HR.out];simp[HBX.out],HB1.out⟩
  ·have hne:(b !=(x:Int))=true:=by rw[bne_iff_ne];exact hbx
   have hee:(b==(x:Int))=false:=by rw[beq_eq_false_iff_ne];exact hbx
   by_cases hb0:0≤b
   ·obtain⟨k,rfl⟩:=Int.eq_ofNat_of_zero_le hb0
    have hkn:k<n:=by
     rcases HI.out with⟨k',e,hk,_⟩|⟨e,_⟩
     ·rw[HN.out];omega
     ·omega
    have hcell:=HC.out k hkn
    have HST2:=hid (HI.out.step HS.out (fun e=>hbx (by rw[e])))
    have hkl:(k:Int)<(n:Int):=by omega
    have HB0:=hid hb0
    clear hbx
    go_wp2_with fail
    go_roundw
    case rel=>exact⟨_,rfl,(by first|rfl|trivial),hid HST2.out.1⟩
    case measure=>exact wupM_lt HST2.out.2
   ·have HR:=hid (HI.out.off hb0)
    have HBX:=hid hbx
    clear hbx
    go_wp2_with fail
    go_ret
    exact⟨by rw[HR.out.2];simp[HBX.out],HB1.out⟩
set_option maxHeartbeats 1000000 in
theorem wL{W:World}{d:Nat→Bool}{b1 b2:Nat}(n:Nat)(hn:n≤1099511627776)(hmono:∀ i j,i≤j→d i=true→d j=true)
 (hc:∀ k:Nat,k<n→∀ q,Calls Tryz.prog 106 #[.int .i64 (k:Int),.pointer (some ⟨b1,0,none⟩),.pointer (some ⟨b2,0,none⟩)] (W.drewN q) fun e w'=>e=.returned (.bool (d k))∧∃ q',w'=W.drewN q'):
 Calls Tryz.prog 105 #[.int .i64 (n:Int),.func (.func 106) #[] #[.pointer (some ⟨b1,0,none⟩),.pointer (some ⟨b2,0,none⟩)]] W fun e w'=>∃ k:Nat,e=.returned (.int .i64 (k:Int))∧k≤n∧(∀i,i<k→d i=false)∧(∀i,k≤i→i<n→d i=true)∧∃ q,w'=W.drewN q:=by
 have HC:=hid hc
 have HMO:=hid hmono
 clear hc hmono
 go_enter Tryz.func105,Tryz.ntmps105
 go_wp2_with fail
 go_loopw[5,6] (fun v5 v6 wr=>∃ i j:Nat,i≤j∧j≤n∧v5=.int .i64 (i:Int)∧v6=.int .i64 (j:Int)∧Hid ((∀x,x<i→d x=false)∧(∀x,j≤x→x<n→d x=true)∧∃ q,wr=W.drewN q)) (fun v5 v6 _=>(intOf v6).toNat-(intOf v5).toNat)
 case atStart=>exact⟨0,n,Nat.zero_le _,Nat.le_refl _,rfl,rfl,hid ⟨fun x hx=>absurd hx (by omega),fun x h1 h2=>absurd h1 (by omega),0,rfl⟩⟩
 case round=>
  obtain⟨i,j,hij,hj,rfl,rfl,HI⟩:=hrel
  by_cases hlt:i<j
  ·obtain⟨m,hm⟩:∃ m:Nat,m=(i+j)/2:=⟨_,rfl⟩
   have hmi:i≤m:=by omega
   have hmj:m<j:=by omega
   have hs:wrap64 ((i:Int)+(j:Int))=((i+j:Nat):Int):=by unfold wrap64;omega
   have hii:(i:Int)<(j:Int):=by omega
   go_upto_region 4 with fail
   have hmid:((i:Int)+(j:Int))/2=(m:Int):=by omega
   rw[hmid]
   obtain⟨hI1,hI2,q,rfl⟩:=HI.out
   have CD:=hid (HC.out m (by omega) q)
   have HIA:=hid (And.intro hI1 hI2)
   have HWM:Hid (wrap64 ((m:Int)+1)=((m+1:Nat):Int)):=hid (by unfold wrap64;omega)
   clear hm hs hI1 hI2 HI
   cases hd:d m with
   |true=>
    have HN:Hid (∀q',((∀x,x<i→d x=false)∧(∀x,m≤x→x<n→d x=true)∧∃ q,W.drewN q'=W.drewN q)):=hid fun q'=>⟨HIA.out.1,fun x h1 _=>HMO.out m x h1 hd,q',rfl⟩
    rw[hd]at CD
    clear hd
    go_wp2_with(go_at_call 106;refine CD.out.mono ?_;rintro e u ⟨rfl,q',rfl⟩)
    go_roundw
    case rel=>exact⟨i,m,hmi,by omega,rfl,rfl,hid (HN.out _)⟩
    case measure=>simp[intOf];omega
   |false=>
    have HN:Hid (∀q',((∀x,x<m+1→d x=false)∧(∀x,j≤x→x<n→d x=true)∧∃ q,W.drewN q'=W.drewN q)):=hid fun q'=>⟨fun x hx=>(by
     cases hdx:d x with
     |false=>rfl
     |true=>(have h3:=HMO.out x m (by omega) hdx;rw[hd]at h3;cases h3)),HIA.out.2,q',rfl⟩
    rw[hd]at CD
    clear hd
    go_wp2_with(go_at_call 106;refine CD.out.mono ?_;rintro e u ⟨rfl,q',rfl⟩)
    go_roundw
    case rel=>exact⟨m+1,j,by omega,hj,by go_num,rfl,hid (HN.out _)⟩
    case measure=>simp[intOf];omega
  ·obtain rfl:i=j:=by omega
   have hii:¬ ((i:Int)<(i:Int)):=by omega
   go_wp2_with fail
   go_ret
   exact⟨i,rfl,hj,HI.out.1,HI.out.2.1,HI.out.2.2⟩
theorem Ad(W:World)(a b:Nat):∃ q,(W.drewN a).drewN b=W.drewN q:=⟨a+b,by simp[World.drewN,Nat.add_assoc]⟩
theorem Ed{W:World}{b1 b2 g off n fc:Nat}{u y:Int}(k:Nat)(hk:k<n)
 (c1:W.cell? ⟨b1,2,none⟩=some (.slice (some ⟨g,off,none⟩) n fc))(c2:W.cell? ⟨b2,0,none⟩=some (.int .i64 u))(c3:W.cell? ⟨g,off+k,none⟩=some (.int .i64 y)):
 Calls Tryz.prog 106 #[.int .i64 (k:Int),.pointer (some ⟨b1,0,none⟩),.pointer (some ⟨b2,0,none⟩)] W fun e w'=>e=.returned (.bool (decide (u<y)))∧∃ q',w'=W.drewN q':=by
 have hk0:(0:Int)≤(k:Int):=by omega
 have hkn:(k:Int)<(n:Int):=by omega
 go_enter Tryz.func106,Tryz.ntmps106
 go_wp2_with fail
 go_quiet (fail)
 go_wp2_with fail
 go_ret
 exact⟨rfl,_,rfl⟩
def G9(f:ak)(u:Nat)(W:World)(e:Ending)(w':World):Prop:=∃ b:Nat,e=.returned (.int .i64 (b:Int))∧uf f b u∧Below W.heap.size W w'
def Bt(f:ak)(u k:Nat):Bool:=decide ((u:Int)<((aL f k:Nat):Int))
theorem Ct{W:World}{r:Int}{a:Option Addr}{n c fc uc:Nat}{f:ak}{fa ua:Option Addr}{m:Nat}{UP:List Int}(h:fM W a n c f fa ua m UP)(u:Nat)(hu:u<aV f):
 Calls Tryz.prog 73 #[.agg #[.int .i64 r,.slice a n c,.slice fa (n+1) fc,.slice ua n uc],.int .i64 (u:Int)] W (G9 f u W):=by
 obtain⟨W1,hW1⟩:∃ U,W.alloc (.cells #[.int .i64 r,.slice a n c,.slice fa (n+1) fc,.slice ua n uc] 80)=U:=⟨_,rfl⟩
 have hb1:Below W.heap.size W W1:=by rw[←hW1];exact(Below.refl _ W).alloc (Nat.le_refl _) _
 have hs1:W1.heap.size=W.heap.size+1:=by rw[←hW1];simp
 have hc:∀ j,W1.cell? ⟨W.heap.size,j,none⟩=(#[.int .i64 r,.slice a n c,.slice fa (n+1) fc,.slice ua n uc]:Array Value)[j]? :=fun j=>by rw[←hW1];exact World.cell?_alloc_mark _ _ _ _ _
 obtain⟨W2,hW2⟩:∃ U,W1.alloc (.cells #[.int .i64 (u:Int)] 3)=U:=⟨_,rfl⟩
 have hb2':Below (W.heap.size+1) W1 W2:=by rw[←hW2];exact(Below.refl _ W1).alloc (by omega) _
 have hb2:Below W.heap.size W W2:=hb1.trans (hb2'.mono (by omega))
 have hn:=h.len
 obtain⟨hul,hug⟩:=(h.since hb2).first
 obtain⟨g,off,rfl,hg,hcells⟩:=hug (by omega)
 have c1:W2.cell? ⟨W.heap.size,2,none⟩=some (.slice (some ⟨g,off,none⟩) (n+1) fc):=(hb2'.cell (p:=⟨W.heap.size,2,none⟩) (by simp)).trans (hc 2)
 have c2:W2.cell? ⟨W.heap.size+1,0,none⟩=some (.int .i64 (u:Int)):=by
  rw[←hW2,←hs1]
  exact World.cell?_alloc_mark _ _ _ _ _
 have c3:∀ k:Nat,k<n+1→W2.cell? ⟨g,off+k,none⟩=some (.int .i64 ((aL f k:Nat):Int)):=fun k hk=>by
  have:=hcells k (by omega)
  rw[this,qA]
  rfl
 have CS:=hid (wL (W:=W2) (d:=Bt f u) (b1:=W.heap.size) (b2:=W.heap.size+1) (n+1) (by have:=h.small;omega) (fun i j hij hd=>by
  unfold Bt at hd⊢
  rw[decide_eq_true_iff]at hd⊢
  have:=gT f hij
  omega) (fun k hk q=>by
  refine(Ed (W:=W2.drewN q) (g:=g) (off:=off) (n:=n+1) (fc:=fc) (u:=(u:Int)) (y:=((aL f k:Nat):Int)) k hk c1 c2 (c3 k hk)).mono ?_
  rintro e' w' ⟨he,q',hq'⟩
  obtain⟨q2,hq2⟩:=Ad W2 q q'
  exact⟨he,q2,by rw[hq',hq2]⟩))
 have HB2:=hid hb2
 have HN:=hid hn
 have HU:=hid hu
 have HSM:=hid h.small
 have k1:=hc 1
 have k2:=hc 2
 have k2':=c1
 clear h hb1 hb2 hb2' hug hul hcells c1 c2 c3 hc hg hn hu
 go_enter Tryz.func73,Tryz.ntmps73
 go_upto_region 1 with fail
 try rw[hW1]
 try rw[hs1]
 try rw[hW2]
 clear hW1 hW2 k1 k2
 go_wp2_with(go_at_call 105;refine CS.out.mono ?_;rintro e w2 ⟨k,rfl,hkn,hlo,hhi,q,rfl⟩;have HK:=hid (And.intro hkn (And.intro hlo hhi));clear hkn hlo hhi)
 have h0:¬ k=0:=fun e=>by
  have:=HK.out.2.2 0 (by omega) (by omega)
  unfold Bt at this
  rw[mM,decide_eq_true_iff]at this
  omega
 obtain⟨b,rfl⟩:∃ b,k=b+1:=⟨k-1,by omega⟩
 have hw:wrap64 (((b+1:Nat):Int)-1)=(b:Int):=by
  have h1:=HK.out.1
  have h2:=HSM.out
  clear HK HSM
  unfold wrap64
  omega
 have hh:uf f b u:=by
  have h1:=HK.out.2.1 b (by omega)
  unfold Bt at h1
  rw[decide_eq_false_iff_not]at h1
  refine⟨by omega, ?_⟩
  by_cases hl:b+1<n+1
  ·have h2:=HK.out.2.2 (b+1) (Nat.le_refl _) hl
   unfold Bt at h2
   rw[decide_eq_true_iff]at h2
   omega
  ·have h3:=HK.out.1
   have h4:=HU.out
   have h5:=HN.out
   have h6:=HK.out.2.1 n (by omega)
   unfold Bt at h6
   rw[decide_eq_false_iff_not]at h6
   unfold aV at h4
   rw[←h5]at h4
   omega
 have HH:=hid hh
 clear hh h0 HK
 go_wp2_with fail
 go_ret
 exact⟨b,(by show Ending.returned (.int .i64 (wrap64 (((b+1:Nat):Int)-1)))=_;rw[hw]),HH.out,below_drewN _ HB2.out⟩
def qP(f:ak)(k:Nat):Nat:=((f.blocks[k]?).map fun b=>b.ops.length).getD 0
theorem jC{f:ak}{k:Nat}(h:k<f.blocks.length):qP f k=f.blocks[k].ops.length:=by simp[qP,List.getElem?_eq_getElem h]
def gP(f:ak)(x t:Int):Bool:=decide (0≤x∧x<(f.blocks.length:Int)∧0≤t∧t≤(qP f x.toNat:Int))
theorem FI{f:ak}{x t v:Int}(h:gP f x t=false):jV f x t v=false:=by
 refine xu ?_
 rintro ⟨b,k,u,rfl,rfl,rfl,hb,hk,_⟩
 unfold gP at h
 rw[decide_eq_false_iff_not]at h
 refine h ⟨by omega,by omega,by omega, ?_⟩
 rw[Int.toNat_natCast,jC hb]
 omega
theorem fM.block{W:World}{a:Option Addr}{n c:Nat}{f:ak}{fa ua:Option Addr}{m:Nat}{UP:List Int}(h:fM W a n c f fa ua m UP){k:Nat}(hk:k<f.blocks.length):
 ∃g off pa pc oa oc,a=some ⟨g,off,none⟩∧W.cell? ⟨g,off+k*8,none⟩=some (.slice pa f.blocks[k].params.length pc)∧W.cell? ⟨g,off+k*8+1,none⟩=some (.slice oa f.blocks[k].ops.length oc):=by
 have hlen:=h.len
 obtain⟨a',n',c',e,_,_,_,hrow⟩:=h.row
 cases e
 obtain⟨g,off,rfl,hg,hcs⟩:=hrow (by omega)
 obtain⟨cs,hl,hcell,hq⟩:=hcs k hk
 obtain⟨pv,ov,es,rfl,⟨pa,pn,pc,rfl,hp,_⟩,⟨oa,on,oc,rfl,ho,_⟩,_⟩:=hq
 have hd0:=hcell 0 (by simp)
 have hd1:=hcell 1 (by simp)
 simp only[Nat.add_zero,List.getElem_cons_zero,List.getElem_cons_succ]at hd0 hd1
 exact⟨g,off,pa,pc,oa,oc,rfl,by rw[hp.1];exact hd0,by rw[ho];exact hd1⟩
theorem lq{a b:Nat}(h:a+b≤1099511627776):wrap64 ((a:Int)+(b:Int))=((a+b:Nat):Int):=by unfold wrap64;omega
theorem kL{a b c:Nat}(h:a+b+c≤1099511627776):wrap64 ((a:Int)+(b:Int)+(c:Int))=((a+b+c:Nat):Int):=by unfold wrap64;omega
theorem dec_lt(a b:Nat):decide ((a:Int)<(b:Int))=decide (a<b):=decide_eq_decide.2 (by omega)
theorem fM.room{W:World}{a:Option Addr}{n c:Nat}{f:ak}{fa ua:Option Addr}{m:Nat}{UP:List Int}(h:fM W a n c f fa ua m UP){q k:Nat}(hq:q<f.blocks.length)(hk:k≤f.blocks[q].ops.length):aL f q+f.blocks[q].params.length+k≤1099511627776:=by
 have h1:=gQ hq
 have h2:=je f (q+1)
 have h3:=h.vals
 omega
theorem zS{W:World}{r:Int}{a:Option Addr}{n c fc uc:Nat}{f:ak}{fa ua:Option Addr}{m:Nat}{UP:List Int}(h:fM W a n c f fa ua m UP)(x t:Int):
 Calls Tryz.prog 72 #[.agg #[.int .i64 r,.slice a n c,.slice fa (n+1) fc,.slice ua n uc],.int .i64 x,.int .i64 t] W fun e w'=>e=.returned (.bool (gP f x t))∧Below W.heap.size W w':=by
 obtain⟨W1,hW1⟩:∃ U,W.alloc (.cells #[.int .i64 r,.slice a n c,.slice fa (n+1) fc,.slice ua n uc] 80)=U:=⟨_,rfl⟩
 have hb1:Below W.heap.size W W1:=by rw[←hW1];exact(Below.refl _ W).alloc (Nat.le_refl _) _
 have HB1:=hid hb1
 have hc:∀ j,W1.cell? ⟨W.heap.size,j,none⟩=(#[.int .i64 r,.slice a n c,.slice fa (n+1) fc,.slice ua n uc]:Array Value)[j]? :=fun j=>by rw[←hW1];exact World.cell?_alloc_mark _ _ _ _ _
 have hc1:=hc 1
 have hn:=h.len
 have hs:=h.small
 have HS:=hid (h.since hb1)
 clear h hc hb1
 by_cases hx0:0≤x
 ·obtain⟨k,rfl⟩:=Int.eq_ofNat_of_zero_le hx0
  by_cases hk:k<n
  ·have hkl:(k:Int)<(n:Int):=by omega
   by_cases ht:0≤t
   ·obtain⟨g,off,pa,pc,oa,oc,rfl,hp,ho⟩:=HS.out.block (by omega:k<f.blocks.length)
    have HR:Hid (gP f (k:Int) t=decide (t≤(f.blocks[k].ops.length:Int))):=hid (by
     unfold gP
     rw[Int.toNat_natCast,jC (by omega)]
     simp[hx0,ht]
     intro _
     omega)
    obtain⟨on,hon⟩:∃ q,q=f.blocks[k].ops.length:=⟨_,rfl⟩
    rw[←hon]at ho HR
    clear hon hp hn
    go_enter Tryz.func72,Tryz.ntmps72
    go_upto_region 1 with fail
    try rw[hW1]
    clear hW1
    go_wp2_with fail
    go_ret
    exact⟨by rw[HR.out];try rfl,HB1.out⟩
   ·have HR:Hid (gP f (k:Int) t=false):=hid (by unfold gP;simp[ht])
    clear hn
    go_enter Tryz.func72,Tryz.ntmps72
    go_upto_region 1 with fail
    try rw[hW1]
    clear hW1
    go_wp2_with fail
    go_ret
    exact⟨by rw[HR.out];try rfl,HB1.out⟩
  ·have hkl:¬ (k:Int)<(n:Int):=by omega
   have HR:Hid (gP f (k:Int) t=false):=hid (by unfold gP;rw[decide_eq_false_iff_not];omega)
   clear hn
   go_enter Tryz.func72,Tryz.ntmps72
   go_upto_region 1 with fail
   try rw[hW1]
   clear hW1
   go_wp2_with fail
   go_ret
   exact⟨by rw[HR.out];try rfl,HB1.out⟩
 ·have HR:Hid (gP f x t=false):=hid (by unfold gP;rw[decide_eq_false_iff_not];omega)
  clear hn
  go_enter Tryz.func72,Tryz.ntmps72
  go_upto_region 1 with fail
  try rw[hW1]
  clear hW1
  go_wp2_with fail
  go_ret
  exact⟨by rw[HR.out];try rfl,HB1.out⟩
theorem Cm{W:World}{r:Int}{a:Option Addr}{n c fc uc:Nat}{f:ak}{fa ua:Option Addr}{m:Nat}{UP:List Int}(h:fM W a n c f fa ua m UP)(x t v:Int):
 Calls Tryz.prog 43 #[.agg #[.int .i64 r,.slice a n c,.slice fa (n+1) fc,.slice ua n uc],.int .i64 x,.int .i64 t,.int .i64 v] W fun e w'=>e=.returned (.bool (jV f x t v))∧Below W.heap.size W w':=by
 obtain⟨W1,hW1⟩:∃ U,W.alloc (.cells #[.int .i64 r,.slice a n c,.slice fa (n+1) fc,.slice ua n uc] 80)=U:=⟨_,rfl⟩
 have hb1:Below W.heap.size W W1:=by rw[←hW1];exact(Below.refl _ W).alloc (Nat.le_refl _) _
 have hs1:W1.heap.size=W.heap.size+1:=by rw[←hW1];simp
 have HB1:=hid hb1
 have hc:∀ j,W1.cell? ⟨W.heap.size,j,none⟩=(#[.int .i64 r,.slice a n c,.slice fa (n+1) fc,.slice ua n uc]:Array Value)[j]? :=fun j=>by rw[←hW1];exact World.cell?_alloc_mark _ _ _ _ _
 have HC:Hid (∀U,Below W1.heap.size W1 U→∀ j,j<4→U.cell? ⟨W.heap.size,j,none⟩=(#[.int .i64 r,.slice a n c,.slice fa (n+1) fc,.slice ua n uc]:Array Value)[j]?):=hid fun U hU j hj=>(hU.cell (p:=⟨W.heap.size,j,none⟩) (by simp only[];omega)).trans (hc j)
 have hc0:=hc 0
 have hc1:=hc 1
 have hc2:=hc 2
 have hc3:=hc 3
 have hn:=h.len
 have HS:=hid (h.since hb1)
 have HN:=hid hn
 obtain⟨hfl,hfg⟩:=(h.since hb1).first
 obtain⟨g,off,rfl,hg,hcells⟩:=hfg (by omega)
 have HF:Hid (∀U,Below W1.heap.size W1 U→∀ k:Nat,k<n+1→U.cell? ⟨g,off+k,none⟩=some (.int .i64 ((aL f k:Nat):Int))):=hid fun U hU k hk=>by
  rw[hU.cell (p:=⟨g,off+k,none⟩) hg,hcells k (by omega),qA]
  rfl
 have CT:=hid (zS (r:=r) (fc:=fc) (uc:=uc) (h.since hb1) x t)
 clear h hb1 hc hs1 hn hfl hfg hcells hg
 cases hth:gP f x t with
 |false=>
  have HR:=hid (FI (v:=v) hth)
  rw[hth]at CT
  clear hth
  go_enter Tryz.func43,Tryz.ntmps43
  go_upto_region 1 with fail
  try rw[hW1]
  clear hW1
  go_wp2_with(go_at_call 72;refine CT.out.mono ?_;rintro e w2 ⟨rfl,hb⟩;have HB2:=hid (HB1.out.trans (hb.mono HB1.out.size));clear hb)
  go_ret
  exact⟨by rw[HR.out];rfl,HB2.out⟩
 |true=>
  have hxt:=hth
  unfold gP at hxt
  rw[decide_eq_true_iff]at hxt
  obtain⟨hx0,hx1,ht0,ht1⟩:=hxt
  obtain⟨b,rfl⟩:=Int.eq_ofNat_of_zero_le hx0
  obtain⟨k,rfl⟩:=Int.eq_ofNat_of_zero_le ht0
  have hbl:b<f.blocks.length:=by omega
  rw[Int.toNat_natCast,jC hbl]at ht1
  have hko:k≤f.blocks[b].ops.length:=by omega
  rw[hth]at CT
  clear hth hx0 hx1 ht0 ht1
  by_cases hv0:v<0
  ·have HR:Hid (jV f (b:Int) (k:Int) v=false):=hid (xu (by rintro ⟨_,_,u,_,_,e,_⟩;omega))
   clear hko
   go_enter Tryz.func43,Tryz.ntmps43
   go_upto_region 1 with fail
   try rw[hW1]
   clear hW1
   go_wp2_with(go_at_call 72;refine CT.out.mono ?_;rintro e w2 ⟨rfl,hb⟩;have HB2:=hid (HB1.out.trans (hb.mono HB1.out.size));clear hb)
   go_ret
   exact⟨by rw[HR.out];rfl,HB2.out⟩
  ·obtain⟨u,rfl⟩:=Int.eq_ofNat_of_zero_le (by omega:0≤v)
   have HKO:Hid (∃hb:b<f.blocks.length,k≤f.blocks[b].ops.length):=hid ⟨hbl,hko⟩
   have hvl:¬ (u:Int)<0:=by omega
   obtain⟨zn,hzn⟩:∃ z,z=aL f n:=⟨_,rfl⟩
   have hvn:aV f=zn:=by unfold aV;rw[hzn,HN.out]
   have hnn:(n:Int)<((n+1:Nat):Int):=by omega
   have hnn0:(0:Int)≤(n:Int):=by omega
   by_cases hu:u<aV f
   ·have HU:=hid hu
    have hge:¬ ((zn:Nat):Int)≤(u:Int):=by omega
    have HZN:=hid hzn
    clear hko hbl hu hvn hzn
    go_enter Tryz.func43,Tryz.ntmps43
    go_upto_region 1 with fail
    try rw[hW1]
    clear hW1
    go_upto_region 4 with(first
     |(go_at_call 72;refine CT.out.mono ?_;rintro e w2 ⟨rfl,hb⟩;have HB2:=hid hb;have HS2:=hid (HS.out.since hb);have d0:=HC.out w2 hb 0 (by omega);have d1:=HC.out w2 hb 1 (by omega);have d2:=HC.out w2 hb 2 (by omega);have d3:=HC.out w2 hb 3 (by omega);have d4:=HF.out w2 hb n (by omega);rw[←HZN.out]at d4;clear hb hc0 hc1 hc2 hc3)
     |(go_at_call 73;refine(Ct (r:=r) (fc:=fc) (uc:=uc) HS2.out u HU.out).mono ?_;rintro e w3 ⟨q,rfl,hq,hb3⟩;have HQ:=hid hq;have hb13:=HB2.out.trans (hb3.mono HB2.out.size);have HB3:=hid hb13;have HS3:=hid (HS.out.since hb13);have c0:=HC.out w3 hb13 0 (by omega);have c1:=HC.out w3 hb13 1 (by omega);have c2:=HC.out w3 hb13 2 (by omega);have c3:=HC.out w3 hb13 3 (by omega);clear hb13 hq hb3 d0 d1 d2 d3 d4))
    by_cases hqb:q=b
    ·have hqe:((q:Int)==(b:Int))=true:=by rw[hqb];simp
     subst hqb
     have c5:=HF.out w3 HB3.out q (by have:=Ee HQ.out;have:=HN.out;omega)
     obtain⟨hql,hko⟩:=HKO.out
     have hfm:=HS.out.room hql hko
     have HR:Hid (jV f (q:Int) (k:Int) (u:Int)=decide (u<aL f q+f.blocks[q].params.length+k)):=hid (y9 hql hko HU.out HQ.out)
     obtain⟨g8,off8,pa,pc,oa,oc,rfl,hp,ho⟩:=HS3.out.block hql
     obtain⟨pn,hpn⟩:∃ z,z=f.blocks[q].params.length:=⟨_,rfl⟩
     obtain⟨z0,hz0⟩:∃ z,z=aL f q:=⟨_,rfl⟩
     rw[←hpn]at hp HR hfm
     rw[←hz0]at c5 HR hfm
     have hw1:wrap64 ((z0:Int)+(pn:Int))=((z0+pn:Nat):Int):=lq (Nat.le_trans (Nat.le_add_right _ k) hfm)
     have hw2:wrap64 (((z0+pn:Nat):Int)+(k:Int))=((z0+pn+k:Nat):Int):=lq hfm
     have HW3:=hid (kL hfm)
     have hqi:(q:Int)<(n:Int):=by have:=HN.out;omega
     have hqi1:(q:Int)<((n+1:Nat):Int):=by omega
     have hqi0:(0:Int)≤(q:Int):=by omega
     clear hfm hko hpn hz0 ho hql
     go_wp2_with fail
     go_quiet (fail)
     go_wp2_with fail
     go_ret
     exact⟨by rw[HR.out,←dec_lt];show Ending.returned (.bool (decide ((u:Int)<wrap64 ((z0:Int)+(pn:Int)+(k:Int)))))=_;rw[HW3.out],below_drewN _ (HB1.out.trans (HB3.out.mono HB1.out.size))⟩
    ·have hqe:((q:Int)==(b:Int))=false:=by rw[beq_eq_false_iff_ne];omega
     obtain⟨hql,hko⟩:=HKO.out
     have HR:Hid (jV f (b:Int) (k:Int) (u:Int)=oV f (q:Int) (b:Int)):=hid (Au hql hko HU.out HQ.out hqb)
     have CO:=hid (Cq (r:=r) (fc:=fc) (uc:=uc) HS3.out q b hqb (by have:=Ee HQ.out;have:=HN.out;omega) (by have:=HN.out;omega))
     clear hko hql hqb
     go_wp2_with(go_at_call 74;refine CO.out.mono ?_;rintro e w4 ⟨rfl,hb⟩;have HB4:=hid hb;clear hb)
     go_ret
     exact⟨by rw[HR.out];rfl,HB1.out.trans ((HB3.out.trans (HB4.out.mono HB3.out.size)).mono HB1.out.size)⟩
   ·have HR:Hid (jV f (b:Int) (k:Int) (u:Int)=false):=hid (xu (by rintro ⟨_,_,u',_,_,e,_,_,h2,_⟩;omega))
    have hge:((zn:Nat):Int)≤(u:Int):=by omega
    have HZN:=hid hzn
    clear hko hbl hu HKO hvn hzn
    go_enter Tryz.func43,Tryz.ntmps43
    go_upto_region 1 with fail
    try rw[hW1]
    clear hW1
    go_wp2_with(go_at_call 72;refine CT.out.mono ?_;rintro e w2 ⟨rfl,hb⟩;have HB2:=hid (HB1.out.trans (hb.mono HB1.out.size));have d1:=HC.out w2 hb 1 (by omega);have d2:=HC.out w2 hb 2 (by omega);have d3:=HF.out w2 hb n (by omega);rw[←HZN.out]at d3;clear hb hc1 hc2)
    go_ret
    exact⟨by rw[HR.out];rfl,HB2.out⟩
theorem uw{u:World}{ops:Array Oper}{o:Oper}{a:Act}{K:Act→World→Prop}{Q:Exit→Act→World→Prop}{E:Prop}(hgd:Region.wanted o (yielded ops a.tmps)=true)(s x:Operand)
 (ho:o.op=.call {callee:=.builtin .append,args:=#[s,x],argTypes:=#[40,40]})
 (B:Nat)(v:Value)(L:List Int)(hs:a.eval s=v)(hown:aj u B 3 v L)(hB:B≤u.heap.size)
 (c g:Nat)(z:Int)(hx:a.eval x=.slice (some ⟨g,0,none⟩) 1 c)(hc:u.cell? ⟨g,0,none⟩=some (.int .i64 z))
 (hlen:(L.length+1)*8≤140737488355328)
 (h:∀ va vn vc w',aj w' B 3 (.slice va vn vc) (L++ [z])→u.grownBy w' v.ownBlock→(∀k,(Value.slice va vn vc).ownBlock=some k→v.ownBlock=some k∨u.heap.size≤k)→K (a.put o.dst (.slice va vn vc)) w'):
 if Region.wanted o (yielded ops a.tmps)=true then Oper.wp Tryz.prog o a u K Q else E:=by
 rw[if_pos hgd]
 obtain⟨i0,hi,hz0,hz1,hz2⟩:=info_parts aT
 obtain⟨v',w',hrun,r1,r2,_,r3⟩:=run_append_own_at (P:=Tryz.prog) u B 40 o.type 3 i0 (.int .i64 0) 1 8 Tryz.underlying40 hi hz0 hz1 hz2 rfl (by decide) v L.length (L.map dN) hown ⟨g,0,none⟩ 1 c [.int .i64 z] rfl (fun j y hu=>by
  rw[aU,Nat.zero_add]
  cases j with
  |zero=>simp at hu;subst hu;exact hc
  |succ j=>simp at hu) (by intro y hu;simp at hu;subst hu;rfl) (by unfold maxLen;omega) hlen hB
 have h2:aj w' B 3 v' (L++ [z]):=by
  show w'.ownsRow B _ 1 v' (L++ [z]).length ((L++ [z]).map dN)
  rw[List.map_append,List.length_append]
  exact r1
 obtain⟨va,vn,vc,rfl⟩:∃ va vn vc,v'=.slice va vn vc:=by
  rcases h2.2 with⟨e,_⟩|⟨_,_,_,e,_⟩
  ·exact⟨_,_,_,e⟩
  ·exact⟨_,_,_,e⟩
 have hk:=h va vn vc w' h2 r2 (fun k hk=>by
  rcases r3 with e'|e'
  ·exact .inl (e'▸hk)
  ·rw[e']at hk;cases hk;simp)
 unfold Oper.wp
 simp only[execOp,ho,resolve,invoke,builtin,List.map_toArray,List.map_cons,List.map_nil,hs,hx,Sem.run_bind,Sem.run_pure,Result.andThen_ok,hrun]
 exact hk
def iK(f:ak)(i:Nat):List Int:=(List.range (i+1)).map fun j=>((aL f j:Nat):Int)
theorem jN(f:ak)(i:Nat):(iK f i).length=i+1:=by simp[iK]
theorem BF(f:ak):iK f f.blocks.length=jM f:=rfl
theorem xR(f:ak):iK f 0=[0]:=by simp[iK,mM]
theorem xS(f:ak)(i:Nat):iK f (i+1)=iK f i++ [((aL f (i+1):Nat):Int)]:=by
 unfold iK
 rw[List.range_succ,List.map_append]
 rfl
theorem own_one(w:World)(B n:Nat)(cur:Array Value)(hB:B≤w.heap.size)(hn:n+1≤maxLen)(hc:cur.size=n+1)(h0:cur[0]? =some (.int .i64 0)):aj (w.alloc (.cells cur 3)) B 3 (.slice (some ⟨w.heap.size,0,none⟩) 1 (n+1)) [0]:=by
 refine⟨rfl,.inr ⟨w.heap.size,n+1,cur,rfl,hB,heap_alloc_new w _,by simp,hn,by rw[hc,Nat.mul_one], ?_⟩⟩
 have hl:cur.toList[0]? =some (.int .i64 0):=by simpa using h0
 cases hq:cur.toList with
 |nil=>rw[hq]at hl;cases hl
 |cons x l=>rw[hq]at hl;simp at hl;subst hl;rfl
theorem Bb(n:Nat)(hn:n≤100000)(u:World):(Instr.makeSlice 40 (.int .i64 1) (.int .i64 ((n:Int)+1))).run Tryz.prog u=.ok (.slice (some ⟨u.heap.size,0,none⟩) 1 (n+1)) (u.alloc (.cells (madeCells #[.int .i64 0] (n+1)) 3)):=by
 obtain⟨i0,hi,hz0,hz1,hz2⟩:=info_parts aT
 have h:=run_make (P:=Tryz.prog) u 40 3 i0 (.int .i64 0) Tryz.underlying40 hi hz0 .i64 .i64 1 ((n:Int)+1) (by omega) (by omega) (by rw[hz2];omega) (by omega)
 have e:((n:Int)+1).toNat=n+1:=by omega
 rw[e]at h
 simpa [hz1,Value.cells]using h
theorem Bh{a b c:Nat}(h:a+b+c≤1099511627776):IntKind.i64.wrap (IntKind.i64.wrap ((a:Int)+(b:Int))+(c:Int))=((a+b+c:Nat):Int):=by
 rw[wrap_small ((a:Int)+(b:Int)) (by omega) (by omega),wrap_small _ (by omega) (by omega)]
 omega
def Cg(f:ak)(n:Nat)(w:World)(e:Ending)(w':World):Prop:=∃ va vc,e=.returned (.slice va (n+1) vc)∧aj w' w.heap.size 3 (.slice va (n+1) vc) (jM f)∧Below w.heap.size w w'
set_option maxRecDepth 100000 in
set_option maxHeartbeats 2000000 in
theorem pK(r:Int)(a:Option Addr)(n c:Nat)(f:ak)(w:World)(hrow:gG aM 8 w (.slice a n c) f.blocks)(hn:n≤100000)(hv:aV f≤1099511627776):
 Calls Tryz.prog 35 #[.agg #[.int .i64 r,.slice a n c]] w (Cg f n w):=by
 obtain⟨W1,hW1⟩:∃ W,w.alloc (.cells #[.int .i64 r,.slice a n c] 36)=W:=⟨_,rfl⟩
 have hb1:Below w.heap.size w W1:=by rw[←hW1];exact(Below.refl _ w).alloc (Nat.le_refl _) _
 have HB1:=hid hb1
 have hc:∀ j,W1.cell? ⟨w.heap.size,j,none⟩=(#[.int .i64 r,.slice a n c]:Array Value)[j]? :=fun j=>by rw[←hW1];exact World.cell?_alloc_mark _ _ _ _ _
 have hc1:=hc 1
 have HR:=hid hrow
 have HL:Hid (f.blocks.length=n):=hid (by obtain⟨_,_,_,e,h,_⟩:=hrow;cases e;exact h)
 have HV:=hid hv
 have hwn:wrap64 ((n:Int)+1)=((n+1:Nat):Int):=by unfold wrap64;omega
 have hs1:w.heap.size≤W1.heap.size:=hb1.size
 have HS1:=hid hs1
 have HLT:Hid (w.heap.size<W1.heap.size):=hid (by rw[←hW1];simp)
 have hmk:=Bb n hn
 clear hrow hb1 hc hv hs1
 go_enter Tryz.func35,Tryz.ntmps35
 go_upto_region 1 with fail
 try rw[hW1]
 clear hW1
 go_upto_region 2 with fail
 clear hmk
 obtain⟨W2,hW2⟩:∃ u,W1.alloc (.cells (madeCells #[.int .i64 0] (n+1)) 3)=u:=⟨_,rfl⟩
 have hb2:Below w.heap.size w W2:=by rw[←hW2];exact HB1.out.alloc HS1.out _
 have HO0:Hid (aj W2 w.heap.size 3 (.slice (some ⟨W1.heap.size,0,none⟩) 1 (n+1)) (iK f 0)∧Below w.heap.size w W2):=hid ⟨by rw[←hW2,xR];exact own_one W1 w.heap.size n _ HS1.out (by unfold maxLen;omega) (size_madeCells _ _) (by simp[madeCells]),hb2⟩
 rw[hW2]
 have hsw:W1.heap.size≤W2.heap.size:=by rw[←hW2];simp
 have HB12:Hid (Below W1.heap.size W1 W2):=hid (by rw[←hW2];exact(Below.refl _ W1).alloc (Nat.le_refl _) _)
 have k1:W2.cell? ⟨w.heap.size,1,none⟩=some (.slice a n c):=(HB12.out.cell (p:=⟨w.heap.size,1,none⟩) HLT.out).trans hc1
 clear hW2 hb2 hc1
 go_upto_region 3 with fail
 go_loopw[3,14] (fun v3 v14 wr=>∃ (i:Nat) (va:Option Addr) (vn vc:Nat),i≤n∧v3=.slice va vn vc∧v14=.int .i64 (i:Int)∧Hid (aj wr w.heap.size 3 (.slice va vn vc) (iK f i)∧Below w.heap.size w wr)) (fun _ iv _=>n-(intOf iv).toNat)
 case atStart=>exact⟨0,_,_,_,Nat.zero_le _,rfl,rfl,HO0⟩
 case round=>
  obtain⟨i,va,vn,vc,hi,rfl,rfl,HI⟩:=hrel
  by_cases hlt:i<n
  ·have hltz:(i:Int)<(n:Int):=by omega
   obtain⟨a',n',c',e,_,hpm,_,hrow⟩:=HR.out.since aM.lasts HI.out.2
   cases e
   obtain⟨g,off,rfl,hg,hcs⟩:=hrow (by omega)
   have hif:i<f.blocks.length:=by rw[HL.out];exact hlt
   obtain⟨cs,hl8,hcell,hq⟩:=hcs i hif
   obtain⟨X,hX⟩:∃ X,X=f.blocks[i]:=⟨_,rfl⟩
   rw[←hX]at hq
   obtain⟨pv,ov,es,rfl,⟨pa,pn,pc,rfl,hp,_⟩,⟨oa,on,oc,rfl,ho,_⟩,l1,m1,rfl,r1,r2,r3,r4,⟨la,ln,lc,rfl,_⟩,⟨ma,mn,mc,rfl,_⟩⟩:=hq
   have hd0:=hcell 0 (by simp)
   have hd1:=hcell 1 (by simp)
   have hd2:=hcell 2 (by simp)
   have hd3:=hcell 3 (by simp)
   have hd4:=hcell 4 (by simp)
   have hd5:=hcell 5 (by simp)
   have hd6:=hcell 6 (by simp)
   have hd7:=hcell 7 (by simp)
   simp only[Nat.add_zero,List.getElem_cons_zero,List.getElem_cons_succ]at hd0 hd1 hd2 hd3 hd4 hd5 hd6 hd7
   have hfm:=gQ hif
   rw[←hX,hp.1,ho]at hfm
   clear hX
   have hfv:=Nat.le_trans (je f (i+1)) HV.out
   obtain⟨z0,hz0⟩:∃ z,z=aL f i:=⟨_,rfl⟩
   have hvn:vn=i+1:=by have:=HI.out.1.read.1;rw[jN]at this;omega
   subst hvn
   obtain⟨_,hvg⟩:=HI.out.1.read
   obtain⟨gv,ov,rfl,hgv,hvc⟩:=hvg (by omega)
   have hv0:=hvc i (by rw[jN];omega)
   have hfk:(iK f i)[i]'(by rw[jN];omega)=((z0:Nat):Int):=by simp[iK,hz0]
   rw[hfk]at hv0
   have hv1:wr.cell? ⟨gv,ov+i,none⟩=some (.int .i64 (z0:Int)):=hv0
   have HE:Hid (aL f (i+1)=z0+pn+on∧z0+pn+on≤1099511627776):=hid (by rw[hz0];omega)
   have HGV:=hid hgv
   clear hcs hcell hrow hfm hfv hz0 hvg hvc hv0 hfk hp ho hl8 hif
   go_upto_region 5 with fail
   obtain⟨Y,hY⟩:∃ u,u=wr.alloc (.cells #[.slice pa pn pc,.slice oa on oc,.int .i64 X.fin.K,.int .i64 X.fin.A,.int .i64 X.fin.To,.int .i64 X.fin.Else,.slice la ln lc,.slice ma mn mc] 51):=⟨_,rfl⟩
   have hbY:Below wr.heap.size wr Y:=by rw[hY];exact(Below.refl _ wr).alloc (Nat.le_refl _) _
   have e1:Y.cell? ⟨gv,ov+i,none⟩=some (.int .i64 (z0:Int)):=(hbY.cell (p:=⟨gv,ov+i,none⟩) HGV.out).trans hv1
   have hcY:∀ j,Y.cell? ⟨wr.heap.size,j,none⟩=(#[.slice pa pn pc,.slice oa on oc,.int .i64 X.fin.K,.int .i64 X.fin.A,.int .i64 X.fin.To,.int .i64 X.fin.Else,.slice la ln lc,.slice ma mn mc]:Array Value)[j]? :=fun j=>by rw[hY];exact World.cell?_alloc_mark _ _ _ _ _
   have e2:=hcY 0
   have e3:=hcY 1
   have hpy:wr.heap.size<Y.heap.size:=by rw[hY];simp
   rw[←hY]
   obtain⟨p,hp⟩:∃ p,p=wr.heap.size:=⟨_,rfl⟩
   rw[←hp]at e2 e3 hpy⊢
   have hgY:gv<Y.heap.size:=by have:=hbY.size;have:=HGV.out;omega
   have HS0:Hid (∀u,Below Y.heap.size Y u→u.cell? ⟨gv,ov+i,none⟩=some (.int .i64 (z0:Int))∧u.cell? ⟨p,0,none⟩=some (.slice pa pn pc)∧u.cell? ⟨p,1,none⟩=some (.slice oa on oc)):=hid fun u hu=>⟨(hu.cell (p:=⟨gv,ov+i,none⟩) hgY).trans e1,(hu.cell (p:=⟨p,0,none⟩) hpy).trans e2,(hu.cell (p:=⟨p,1,none⟩) hpy).trans e3⟩
   have HBY:Hid (w.heap.size≤Y.heap.size∧Below w.heap.size w Y):=hid (by have h1:=HI.out.2.size;have h2:=hbY.size;exact⟨by omega,HI.out.2.trans (hbY.mono h1)⟩)
   have HOY:Hid (aj Y w.heap.size 3 (.slice (some ⟨gv,ov,none⟩) (i+1) vc) (iK f i)):=hid (aj.below HI.out.1 hbY)
   have HLN:Hid (((iK f i).length+1)*8≤140737488355328):=hid (by rw[jN];omega)
   have HE2:=hid HE.out.2
   have hw1:wrap64 ((z0:Int)+(pn:Int))=((z0+pn:Nat):Int):=lq (Nat.le_trans (Nat.le_add_right _ on) HE.out.2)
   have hw2:wrap64 (((z0+pn:Nat):Int)+(on:Int))=((z0+pn+on:Nat):Int):=lq HE.out.2
   have hw3:wrap64 ((z0:Int)+(pn:Int)+(on:Int))=((z0+pn+on:Nat):Int):=kL HE.out.2
   have hi0:(0:Int)≤(i:Int):=by omega
   have hiv:(i:Int)<((i+1:Nat):Int):=by omega
   have hiv2:(i:Int)<(i:Int)+1:=by omega
   have HX3:=hid (Bh HE.out.2)
   have HYB:Hid (∀X,Below Y.heap.size Y (Y.drew.alloc X)):=hid fun X=>(below_drewN 1 (Below.refl _ Y)).alloc (by simp) X
   clear e1 e2 e3 hcY hbY hY hpy hgY hp hd0 hd1 hd2 hd3 hd4 hd5 hd6 hd7 r1 r2 r3 r4 hv1
   refine bM (S:=(fun u:World=>u.cell? ⟨gv,ov+i,none⟩=some (.int .i64 (z0:Int))∧u.cell? ⟨p,0,none⟩=some (.slice pa pn pc)∧u.cell? ⟨p,1,none⟩=some (.slice oa on oc))) 14 (by kernel_rfl) (HS0.out _ (below_drewN 1 (Below.refl _ _))) (fun hHeld=> ?_)
   refine zW 0 19 ?_
   (try simp only[Act.put,zA,zB,zC])
   refine zW 1 20 ?_
   (try simp only[Act.put,zA,zB,zC])
   refine zW 2 21 ?_
   (try simp only[Act.put,zA,zB,zC])
   refine zW 3 22 ?_
   (try simp only[Act.put,zA,zB,zC])
   refine zT 4 23 8 ?_
   (try simp only[Act.put,zA,zB,zC])
   refine zW 5 24 ?_
   (try simp only[Act.put,zA,zB,zC])
   refine zT 6 25 8 ?_
   (try simp only[Act.put,zA,zB,zC])
   refine zW 7 26 ?_
   (try simp only[Act.put,zA,zB,zC])
   refine zW 8 27 ?_
   (try simp only[Act.put,zA,zB,zC])
   refine zW 9 28 ?_
   (try simp only[Act.put,zA,zB,zC])
   refine zT 10 29 8 ?_
   (try simp only[Act.put,zA,zB,zC])
   refine zW 11 30 ?_
   (try simp only[Act.put,zA,zB,zC])
   refine zW 12 31 ?_
   (try simp only[Act.put,zA,zB,zC])
   refine aO (i:=13) (by kernel_rfl) rfl (fun K hK=> ?_)
   rw[if_pos (by rfl)]
   go_simp
   refine hK.out _ _ (HS0.out _ (HYB.out _)) (fun hHeld=> ?_)
   clear hK K
   (try simp only[Act.put,zA,zB,zC])
   refine jE (i:=14) (by kernel_rfl) (by kernel_rfl) rfl (fun K hK=> ?_)
   refine uw (by rfl) _ _ (by rfl) w.heap.size (.slice (some ⟨gv,ov,none⟩) (i+1) vc) (iK f i) (by rfl) (aj.below HOY.out (HYB.out _)) (Nat.le_trans HBY.out.1 (HYB.out _).size) _ _ (IntKind.i64.wrap (IntKind.i64.wrap ((z0:Int)+(pn:Int))+(on:Int))) (by rfl) (show(Y.alloc (.cells #[.int .i64 (IntKind.i64.wrap (IntKind.i64.wrap ((z0:Int)+(pn:Int))+(on:Int)))] 3)).cell? ⟨Y.heap.size,0,none⟩=_ from World.cell?_alloc_mark _ _ _ _ _) HLN.out ?_
   intro ya yn yc w1 ho1 hg1 hw1
   have HW1:Hid (aj w1 w.heap.size 3 (.slice ya yn yc) (iK f (i+1))∧Below w.heap.size w w1):=hid ⟨by rw[xS,HE.out.1,←HX3.out];exact ho1,(HBY.out.2.trans ((HYB.out _).mono HBY.out.1)).grown hg1 (Nat.le_trans HBY.out.1 (HYB.out _).size) (fun b hb=>(HOY.out.lt b hb).1)⟩
   clear ho1 hg1 hw1
   refine hK.out _ _ ?_
   clear hK K
   (try simp only[Act.put,zA,zB,zC])
   refine jE (i:=15) (by kernel_rfl) (by kernel_rfl) rfl (fun K hK=> ?_)
   rw[if_pos (by rfl)]
   go_simp
   refine hK.out _ _ ?_
   clear hK K
   (try simp only[Act.put,zA,zB,zC])
   refine bH (by kernel_rfl) ?_
   go_wp2_with fail
   go_roundw
   case rel=>exact⟨i+1,_,_,_,hlt,rfl,by go_num,HW1⟩
   case measure=>simp[intOf];omega
  ·obtain rfl:i=n:=by omega
   have hnn:¬ (i:Int)<(i:Int):=by omega
   have hvn:vn=i+1:=by have:=HI.out.1.read.1;rw[jN]at this;omega
   subst hvn
   go_wp2_with fail
   go_ret
   exact⟨va,vc,rfl,by rw[←BF,HL.out];exact HI.out.1,HI.out.2⟩
theorem Gj(n:Nat)(h0:0<n)(hn:n≤17592186044000)(w:World):
 Calls Tryz.prog 151 #[.slice none 0 0,.int .i64 (n:Int)] w fun e w'=>∃ va vc,e=.returned (.slice va 0 vc)∧aj w' w.heap.size 3 (.slice va 0 vc) []∧Below w.heap.size w w':=by
 obtain⟨i0,hi,hz0,hz1,hz2⟩:=info_parts aT
 have h1:¬ ((n:Int)<0):=by omega
 have h2:wrap64 ((0:Int)-0)=0:=by unfold wrap64;omega
 have h3:wrap64 ((n:Int)-0)=(n:Int):=by unfold wrap64;omega
 have h4:(n:Int)>0:=by omega
 have hrz:∀ ty,(Builtin.append_ #[40,3] ty #[.slice none 0 0,.int .i64 (n:Int)]).run Tryz.prog w=
  .ok (.slice (some ⟨w.heap.size,0,none⟩) n (grownCap w n 0 3)) (w.drew.alloc (.cells (#[]++Builtin.zeroCells (Value.int .i64 0).cells n++Builtin.zeroCells (Value.int .i64 0).cells (grownCap w n 0 3-n)) 3)):=fun ty=>by
  have h:=Lib.run_append_grow_zeros (P:=Tryz.prog) w 40 3 ty 3 i0 (.int .i64 0) .i64 .i64 Tryz.underlying40 Tryz.underlying3 hi hz0 none 0 0 [] (run_firstCells_none w.drew i0.size 0 0 0) n h0 (by omega) (by omega) (by omega) (by rw[hz2];omega) (by rw[hz2];exact growslice_fits (by omega) (by omega))
  rw[Nat.zero_add]at h
  exact h
 have hge:n≤grownCap w n 0 3:=grownCap_ge w _ _ _
 have hml:grownCap w n 0 3≤maxLen:=grownCap_le_maxLen w n 0 _ (by unfold maxLen;omega)
 obtain⟨G,hG⟩:∃ G,G=grownCap w n 0 3:=⟨_,rfl⟩
 rw[←hG]at hrz hge hml
 have ho:aj (w.alloc (.cells (Builtin.zeroCells #[.int .i64 0] n++Builtin.zeroCells #[.int .i64 0] (G-n)) 3)) w.heap.size 3 (.slice (some ⟨w.heap.size,0,none⟩) 0 G) []:=aj.made (w:=w) _ G (Nat.le_refl _) hml (by simp[Builtin.zeroCells];omega)
 have HO:Hid (aj (w.alloc (.cells (Builtin.zeroCells #[.int .i64 0] n++Builtin.zeroCells #[.int .i64 0] (G-n)) 3)).drew w.heap.size 3 (.slice (some ⟨w.heap.size,0,none⟩) 0 G) []):=hid ho
 have HB:Hid (Below w.heap.size w (w.alloc (.cells (Builtin.zeroCells #[.int .i64 0] n++Builtin.zeroCells #[.int .i64 0] (G-n)) 3)).drew):=hid (((Below.refl _ w).alloc (Nat.le_refl _) _).drew)
 clear ho
 have hG0:(0:Int)≤(n:Int):=by omega
 have hGG:(0:Int)≤(G:Int):=by omega
 clear hG hi hz0 hz1 hz2 i0
 go_enter Tryz.func151,Tryz.ntmps151
 go_wp2_with(at_builtin;refine Lib.wpList_append_run _ rfl _ _ _ _ rfl _ _ rfl rfl _ _ (hrz _) ?_)
 all_goals (go_ret;exact⟨_,_,rfl,by simpa using HO.out,by simpa using HB.out⟩)
def Ci(w:World)(v:Value)(L:List Int)(wr:World):Prop:=∃ va vn vc,v=.slice va vn vc∧aj wr w.heap.size 3 (.slice va vn vc) L∧Below w.heap.size w wr
theorem BR(h g5:Nat)(z:Int)(pa:Option Addr)(pn pc:Nat)(L:List Int)(w:World)(hh:h<w.heap.size)(hc0:w.cell? ⟨h,0,none⟩=some (.slice (some ⟨g5,0,none⟩) 1 1))(hc1:w.cell? ⟨h,1,none⟩=some (.slice pa pn pc))(h5:ai w (some ⟨g5,0,none⟩) 1 [z])(hL:ai w pa pn L)(hnil:pa=none→pc=0)(hpn:pn≤17592186043904):
 Calls Tryz.prog 117 #[.slice (some ⟨h,0,none⟩) 2 2] w fun e w'=>∃ va vn vc,e=.returned (.slice va vn vc)∧aj w' w.heap.size 3 (.slice va vn vc) (z::L)∧Below w.heap.size w w':=by
 have CG:Hid (Calls Tryz.prog 151 #[.slice none 0 0,.int .i64 (1+(pn:Int))] w fun e w'=>∃ va vc,e=.returned (.slice va 0 vc)∧aj w' w.heap.size 3 (.slice va 0 vc) []∧Below w.heap.size w w'):=hid (by
  have:=Gj (1+pn) (by omega) (by omega) w
  rw[show(((1+pn:Nat)):Int)=1+(pn:Int) by omega]at this
  exact this)
 have HC:Hid (∀u,Below w.heap.size w u→u.cell? ⟨h,0,none⟩=some (.slice (some ⟨g5,0,none⟩) 1 1)∧u.cell? ⟨h,1,none⟩=some (.slice pa pn pc)):=hid fun u hu=>⟨(hu.cell (p:=⟨h,0,none⟩) hh).trans hc0,(hu.cell (p:=⟨h,1,none⟩) hh).trans hc1⟩
 have H5:=hid h5
 have HL:=hid hL
 have HNIL:=hid hnil
 have HLL:Hid (L.length=pn):=hid hL.1
 have hw1:wrap64 (1+(pn:Int))=1+(pn:Int):=by unfold wrap64;omega
 have hpos:¬ (1+(pn:Int))<0:=by omega
 have HPN:=hid hpn
 clear h5 hL hnil hh hpn
 go_enter Tryz.func117,Tryz.ntmps117
 go_upto_region 3 with fail
 go_loopw[3,11] (fun v3 v11 wr=>w=wr∧((v11=.int .i64 0∧v3=.int .i64 0)∨(v11=.int .i64 1∧v3=.int .i64 1)∨(v11=.int .i64 2∧v3=.int .i64 (1+(pn:Int))))) (fun _ iv _=>2-(intOf iv).toNat)
 case atStart=>exact⟨rfl,.inl ⟨rfl,rfl⟩⟩
 case round=>
  obtain⟨rfl,hrel⟩:=hrel
  rcases hrel with⟨rfl,rfl⟩|⟨rfl,rfl⟩|⟨rfl,rfl⟩
  ·go_wp2_with fail
   go_roundw
   case rel=>exact⟨by first|rfl|trivial,.inr (.inl ⟨by go_num,by go_num⟩)⟩
   case measure=>simp[intOf]
  ·go_wp2_with fail
   go_roundw
   case rel=>exact⟨by first|rfl|trivial,.inr (.inr ⟨by go_num,by go_num⟩)⟩
   case measure=>simp[intOf]
  ·go_upto_region 10 with(go_at_call 151;(with_reducible refine CG.out.mono ?_);rintro e w2 ⟨va,vc,rfl,ho,hb⟩;have HO2:Hid (Ci w (.slice va 0 vc) [] w2):=hid ⟨_,_,_,rfl,ho,hb⟩;obtain⟨d0,d1⟩:=HC.out w2 hb;clear ho hb hc0 hc1)
   clear hw1 hpos
   go_upto_region 11 with fail
   go_loopw[6,27] (fun v6 v27 w3=>(v27=.int .i64 0∧Hid (Ci w v6 [] w3))∨(v27=.int .i64 1∧Hid (Ci w v6 [z] w3))∨(v27=.int .i64 2∧Hid (Ci w v6 (z::L) w3))) (fun _ iv _=>2-(intOf iv).toNat)
   case atStart=>exact .inl ⟨rfl,HO2⟩
   case round=>
    rcases hrel with⟨rfl,HI⟩|⟨rfl,HI⟩|⟨rfl,HI⟩
    ·obtain⟨xa,xn,xc,rfl,ho,hb⟩:=HI.out
     have HO:=hid ho
     have HB:=hid hb
     obtain⟨d0,d1⟩:=HC.out wr hb
     have HAT:=hid (H5.out.since hb)
     clear ho hb HI
     go_wp2_with(at_builtin;(with_reducible refine bQ _ rfl _ _ 40 rfl 3 Tryz.underlying40 aT w.heap.size (.slice xa xn xc) [] ?_ ?_ ?_ (some ⟨g5,0,none⟩) 1 1 [z] ?_ ?_ ?_ ?_ ?_);(next=>rfl);(next=>exact HO.out);(next=>exact HB.out.size);(next=>rfl);(next=>exact fun e=>by cases e);(next=>exact HAT.out);(next=>simp);intro ya yn yc w5 ho5 hb5;have HX5:Hid (Ci w (.slice ya yn yc) [z] w5):=hid ⟨_,_,_,rfl,ho5,HB.out.trans hb5⟩;clear ho5 hb5)
     go_roundw
     case rel=>exact .inr (.inl ⟨by go_num,HX5⟩)
     case measure=>simp[intOf]
    ·obtain⟨xa,xn,xc,rfl,ho,hb⟩:=HI.out
     have HO:=hid ho
     have HB:=hid hb
     obtain⟨d0,d1⟩:=HC.out wr hb
     have HAT:=hid (HL.out.since hb)
     have HFIT:Hid (([z].length+pn)*8≤140737488355328):=hid (by have:=HPN.out;simp;omega)
     clear ho hb HI
     go_wp2_with(at_builtin;(with_reducible refine bQ _ rfl _ _ 40 rfl 3 Tryz.underlying40 aT w.heap.size (.slice xa xn xc) [z] ?_ ?_ ?_ pa pn pc L ?_ ?_ ?_ ?_ ?_);(next=>rfl);(next=>exact HO.out);(next=>exact HB.out.size);(next=>rfl);(next=>exact HNIL.out);(next=>exact HAT.out);(next=>exact HFIT.out);intro ya yn yc w5 ho5 hb5;have HX5:Hid (Ci w (.slice ya yn yc) (z::L) w5):=hid ⟨_,_,_,rfl,ho5,HB.out.trans hb5⟩;clear ho5 hb5)
     go_roundw
     case rel=>exact .inr (.inr ⟨by go_num,HX5⟩)
     case measure=>simp[intOf]
    ·obtain⟨xa,xn,xc,rfl,ho,hb⟩:=HI.out
     have HO:=hid ho
     have HB:=hid hb
     clear ho hb HI
     go_wp2_with fail
     go_ret
     exact⟨_,_,_,rfl,HO.out,HB.out⟩
end Go.Proofs.YthjdeoppajlcoaaGreatDoor

namespace Go.Proofs.YthjdeoppajlcoaaGreatDoor
set_option linter.unusedSimpArgs false
set_option linter.unusedVariables false
open Go.RowKit
attribute [local go_sem] Oper.semAt_some
open Go.Lib (hid)
def Fb(M:Nat→Prop)(pl:Nat→Nat)(up:Nat→Int)(o:Nat→Nat)(K:Nat)(w:World)(B p n:Nat)(g:Nat→Nat)(Z:Nat→List Int)(ov fv:Value)(ord:List Int)(vs:List Value)(FR:List (List Int))(rd:Int)(w':World):Prop:=
 ∃NU EN S N,aI w' B p n g (ZN Z NU EN) ov fv ord vs FR rd∧Off (fun i=>i=g 2∨i=g 3) w w'∧bV M pl up o K S N∧(∀v,M v→nth NU v=(N v:Int))∧∀ v,M v→nth EN v=(S v:Int)+(N v:Int)
set_option maxRecDepth 100000 in
set_option maxHeartbeats 8000000 in
theorem EH{M:Nat→Prop}{pl:Nat→Nat}{up:Nat→Int}{o:Nat→Nat}{K:Nat}{w:World}{B p n:Nat}{g:Nat→Nat}{Z:Nat→List Int}{ov fv:Value}{ord:List Int}{vs:List Value}{FR:List (List Int)}{rd:Int}
 (hA:aI w B p n g Z ov fv ord vs FR rd)(hL:nN M pl up o K)(hup:∀ v,v<n→nth (Z 1) v=up v)(hlt:∀ v,M v→v<n)(hol:ord.length=K)(hoa:∀ i (h:i<ord.length),ord[i]=(o i:Int))(h2:∀ v,M v→nth (Z 2) v=0)(h3:∀ v,M v→nth (Z 3) v=0)(hn:n≤100000)(hKn:K≤n)(hroot:0<K→up (o 0)<0):
 Calls Tryz.prog 142 #[.pointer (some ⟨p,0,none⟩)] w fun e w'=>e=.returned (.tuple #[])∧Fb M pl up o K w B p n g Z ov fv ord vs FR rd w':=by
 refine(callsIn_wide (n:=9)).1 ?_
 refine callsIn_of_wp_marks Tryz.func142 rfl trivial ?_ rfl
 simp only[Tryz.ntmps142,List.size_toArray,List.length_cons,List.length_nil,Nat.reduceAdd,Nat.reduceSub,Array.replicate_succ,Array.replicate_zero,List.push_toArray,List.append_toArray,List.nil_append,List.cons_append]
 obtain⟨oa,on,oc,rfl,hon⟩:=hA.ord.nums
 have HON:Hid (on=K):=hid (hon.1.symm.trans hol)
 have HL:=hid hL
 have HUP:Hid (∀v,v<n→nth (Z 1) v=up v∧(up v<0∨∃ c:Nat,up v=(c:Int)∧c<n)):=hid fun v hv=>⟨hup v hv,by
  by_cases h:up v<0
  ·exact .inl h
  ·obtain⟨c,hc⟩:=Int.eq_ofNat_of_zero_le (show 0≤up v by omega)
   exact .inr ⟨c,hc,hlt c (hL.lt v c hc).1⟩⟩
 have HOA:Hid (∀i,i<K→nth ord i=(o i:Int)):=hid fun i hi=>by rw[bN (by omega)];exact hoa i (by omega)
 have HOO:Hid (∀x,0<K→∃ b:Nat,nth ord x=(b:Int)∧b<n∧∀ i,i<K→x=i→b=o i):=hid fun x h0=>by
  by_cases hx:x<K
  ·exact⟨o x,HOA.out x hx,hlt _ (hL.met x hx).1,fun i _ e=>by rw[e]⟩
  ·refine⟨0, ?_,by omega,fun i hi e=>by omega⟩
   unfold nth
   rw[List.getD_eq_getElem?_getD,List.getElem?_eq_none (by omega)]
   rfl
 have HONE:Hid (∀i,i<5→∀ g0 off,oa=some ⟨g0,off,none⟩→g0≠g i):=hid fun i hi g0 off e h=>hA.ordne i hi (by rw[e,←h];rfl)
 have HRT:=hid hroot
 have HLT:=hid hlt
 obtain⟨W0,hW0⟩:∃ W0,((w.alloc (.cells #[.pointer (some ⟨p,0,none⟩)] 160)).alloc (.cells #[.slice oa on oc] 40))=W0:=⟨_,rfl⟩
 have hb0:Below w.heap.size w W0:=by rw[←hW0];exact((Below.refl w.heap.size w).alloc (Nat.le_refl _) _).alloc (by simp) _
 have HB0:=hid hb0
 have hz0:W0.heap.size=w.heap.size+2:=by rw[←hW0];simp
 have HA0:Hid (aI W0 B p n g Z (.slice oa on oc) fv ord vs FR rd):=hid (hA.since hb0)
 have HBX:Hid (lU W0 w.heap.size p):=hid (by
  unfold lU
  rw[←hW0]
  exact(Below.heap_alloc _ _ _ (by simp)).trans (World.alloc_heap_new w _))
 have hbs:W0.cell? ⟨w.heap.size+1,0,none⟩=some (.slice oa on oc):=by
  rw[←hW0,show w.heap.size+1=(w.alloc (.cells #[.pointer (some ⟨p,0,none⟩)] 160)).heap.size by simp]
  exact World.cell?_alloc_mark _ _ _ _ _
 have HGN:Hid (∀i,i<5→g i<w.heap.size):=hid fun i hi=>by obtain⟨cur,hc,_⟩:=hA.gblk hi;exact(Array.getElem?_eq_some_iff.1 hc).1
 have HS0:Hid (jg W0 M pl up o K B p n g Z (.slice oa on oc) fv ord vs FR rd w.heap.size [] (Z 3) W0):=hid ⟨by rw[ZN_same];exact HA0.out,HBX.out,Off.refl _ _,fun q hq he=>by
  have:q=0:=by have:=congrArg List.length he;simpa [EG]using this.symm
  subst this
  exact⟨fun _=>0,lZ.start (fun _ _=>rfl) hL,fun v hv=>h3 v hv⟩⟩
 have H2:=hid h2
 have w0:w.cell? ⟨p,0,none⟩=some (.slice oa on oc):=by simp[World.cell?,hA.blk]
 have hplt:=hA.plt
 have hcb0:(w.alloc (.cells #[.pointer (some ⟨p,0,none⟩)] 160)).cell? ⟨p,0,none⟩=some (.slice oa on oc):=(((Below.refl w.heap.size w).alloc (Nat.le_refl _) _).cell (p:=⟨p,0,none⟩) hplt).trans w0
 have hon':ai W0 oa on ord:=hon.since hb0
 have HNO:=hid hon'
 have honn:on≤100000:=by have:=HON.out;omega
 clear hon hol hup hlt hoa h2 h3 hroot hA hL w0 hb0 hplt
 gi_wp2_with (refine⟨trivial, ?_⟩;gi_at_call 159;refine(callsIn_wide.2 (vY oa on oc _)).mono ?_;rintro e w' ⟨rfl,rfl⟩)
 try rw[World.size_alloc]
 try rw[hW0]
 clear hW0 hcb0
 have hst:=GQ oa on oc ord (w.heap.size+1) 8 W0 hbs hon' (by omega)
 clear hbs hon'
 refine wpIn_rangeFunc_ownH rfl (by omega) (gf:=167) (lb:=#[.pointer (some ⟨w.heap.size+1,0,none⟩)]) rfl trivial (enters_of Tryz.func167 (by kernel_rfl) rfl) hst jR.trans ?hKb (Below.refl _ _) (fun x=>rfl)
  (fun pre W=>∃ EN,jg W0 M pl up o K B p n g Z (.slice oa on oc) fv ord vs FR rd w.heap.size pre EN W)
  (fun _ _ _=>False) ?hI (fun _ _ _ _ _ hs _ _=>hs) ⟨_,HS0.out⟩
  (fun x a' W=>a'={tmps:=#[.pointer (some ⟨p,0,none⟩),.pointer (some ⟨w.heap.size,0,none⟩),undef,.int .i64 (nth ord x),undef,undef,undef,undef,undef,.pointer (some ⟨p,0,none⟩),.pointer (some ⟨p,0,none⟩),.pointer (some ⟨p,0,none⟩),.slice oa on oc,.func (.func 167) #[] #[.pointer (some ⟨w.heap.size+1,0,none⟩)],.int .i64 (x:Int),.int .i64 (nth ord x),undef,undef,undef,undef,undef,undef,undef,undef,undef,undef,undef,undef,undef,undef,undef,undef,undef,undef,undef,undef,undef,undef,undef,undef,undef,undef,undef,undef,undef,undef,undef,undef,undef,undef,undef,undef,undef,undef,undef,undef,undef,undef,undef,undef,undef,undef,undef,undef,undef,undef,undef,undef,undef,undef,undef,undef,undef,undef,undef,undef,undef,undef,undef,undef,undef,undef,undef,undef,undef,undef,undef,undef,undef,undef,undef,undef,undef,undef,undef,undef,undef,undef,undef,undef,undef,undef,undef,undef,undef,undef,undef,undef,undef,undef,undef,undef,undef,undef,undef,undef,undef,undef,undef,undef,undef,undef,undef,undef,undef],defers:=[]})
  ?hAx ?assign ?body ?done ?stop
 case hKb=>exact vF (n0:=W0.heap.size) (by omega)
 case hI=>
  rintro pre W W' row ⟨EN,hS⟩ hg hr
  refine⟨EN,hS.kept (X:=fun i=>row=some i) ((Off.refl _ W).grown hg (fun k hk=>.inl hk)) fun i hi=> ?_⟩
  obtain⟨h1,o,ho,hc⟩:=hr i hi
  exact⟨h1,fun C t e=>by rw[ho]at e;cases e;cases hc⟩
 case hAx=>rintro x a' _ W W' row h hg hr;exact h
 case assign=>
  rintro l pre x W K' hI hK
  gi_wp2
  exact hK _ _ (KeepsFrom.refl _ _) (jR.refl _ _ _ _ _) hI rfl
 case body=>
  rintro l pre x a' W hl0 _ ⟨EN,hS⟩ rfl hlen
  obtain⟨b,hb,hbn,hbo⟩:=HOO.out x (by have:=HON.out;omega)
  rw[hb]
  have HBO:=hid hbo
  have HS:=hid hS
  clear hb hbo hS hlen
  have c1:=HS.out.box.cell
  have c5:W.cell? ⟨p,5,none⟩=some (.slice (some ⟨g 3,0,none⟩) n n):=by simp[World.cell?,HS.out.at_.blk]
  have e1:W.cell? ⟨g 3,b,none⟩=some (.int .i64 (nth EN b)):=HS.out.at_.cell (i:=3) (by omega) hbn
  have ef:W.frozen? ⟨g 3,b,none⟩=false:=HS.out.at_.free (by omega) b
  have hbi:(b:Int)<(n:Int):=by omega
  have hbi0:(0:Int)≤(b:Int):=by omega
  have HK1:Hid (K≤100000):=hid (by have:=HON.out;omega)
  obtain⟨y,hy⟩:∃ y,y=wrap64 (nth EN b+1):=⟨_,rfl⟩
  obtain⟨EN1,hE1⟩:∃ E1,E1=EN.set b y:=⟨_,rfl⟩
  have hput:=HS.out.at_.put (i:=3) (by omega) b y
  rw[wm,iq,←hE1]at hput
  have HP:=hid hput
  have HOF:Hid (Off (fun i=>i=g 3) W (W.setCell ⟨g 3,b,none⟩ (.int .i64 y))):=hid (Off.setCell (X:=fun i=>i=g 3) (p:=⟨g 3,b,none⟩) (Off.refl _ W) (.inl rfl) _)
  have HBX1:Hid (lU (W.setCell ⟨g 3,b,none⟩ (.int .i64 y)) w.heap.size p):=hid (HS.out.box.kept HOF.out (HS.out.box.ne HS.out.at_ (by omega)))
  have hg3:g 3<W0.heap.size:=by have:=HGN.out 3 (by omega);omega
  have HKO:Hid (∀U,Off (fun i=>i=g 3) W U→(∀B0,KeepsFrom B0 W U)∧jR (w.heap.size+1) oa on ord W U):=hid fun U hU=>by
   have hcell:∀ i,i=g 3→∀ ob,W.heap[i]? =some ob→ob.isCells=true:=fun i hi ob hob=>by
    obtain⟨cur,hc,_⟩:=HS.out.at_.gblk (i:=3) (by omega)
    rw[hi,hc]at hob
    cases hob;rfl
   have hko:=KeepsOthers.of_off hU hcell
   exact⟨fun B0=>hko.from B0,jR.off hU hko (by have:=HS.out.off.size;omega) (by have:=HGN.out 3 (by omega);omega) (fun g0 off e _=>HONE.out 3 (by omega) g0 off e)⟩
  have d1:=HBX1.out.cell
  have d3:(W.setCell ⟨g 3,b,none⟩ (.int .i64 y)).cell? ⟨p,3,none⟩=some (.slice (some ⟨g 1,0,none⟩) n n):=by simp[World.cell?,HP.out.blk]
  have d4:(W.setCell ⟨g 3,b,none⟩ (.int .i64 y)).cell? ⟨g 1,b,none⟩=some (.int .i64 (up b)):=by
   have:=HP.out.cell (i:=1) (by omega) hbn
   rw[Hy,(HUP.out b hbn).1]at this
   exact this
  have HY:=hid hy
  have HE1:=hid hE1
  rw[hy]at d1 d3 d4
  rcases(HUP.out b hbn).2 with hneg|⟨c,hc,hcn⟩
  ·have hge:¬ (0:Int)≤up b:=by omega
   have hdec:decide ((0:Int)≤up b)=false:=decide_eq_false hge
   have HNE:=hid hneg
   clear hy hE1 hput hneg
   gi_wp2_with fail
   rw[←HY.out]
   have hn1:=HS.out.one HL.out HBO.out hbn HNE.out HK1.out
   rw[←HY.out,←HE1.out]at hn1
   exact⟨(HKO.out _ HOF.out).1 _,(HKO.out _ HOF.out).2,_,hn1⟩
  ·have hdec:decide ((0:Int)≤up b)=true:=decide_eq_true (by omega)
   have HC:=hid hc
   rw[hc]at d4 hdec
   clear hy hE1 hput hc
   gi_wp2_with fail
   rw[←HY.out]
   generalize hU:W.setCell ⟨g 3,b,none⟩ (.int .i64 y)=U at*
   have HPD:Hid (aI U.drew B p n g (ZN Z (Z 2) EN1) (.slice oa on oc) fv ord vs FR rd):=hid (HP.out.since (Below.refl _ _).drew)
   have HBD:Hid (lU U.drew w.heap.size p):=hid HBX1.out
   have k1:=HBD.out.cell
   have k5:U.drew.cell? ⟨p,5,none⟩=some (.slice (some ⟨g 3,0,none⟩) n n):=by simp[World.cell?,HPD.out.blk]
   have kc:U.drew.cell? ⟨g 3,c,none⟩=some (.int .i64 (nth EN1 c)):=by have:=HPD.out.cell (i:=3) (by omega) hcn;rwa [iq]at this
   have kb:U.drew.cell? ⟨g 3,b,none⟩=some (.int .i64 (nth EN1 b)):=by have:=HPD.out.cell (i:=3) (by omega) hbn;rwa [iq]at this
   have kf:U.drew.frozen? ⟨g 3,c,none⟩=false:=HPD.out.free (by omega) c
   have hci:(c:Int)<(n:Int):=by omega
   have hci0:(0:Int)≤(c:Int):=by omega
   clear c1 c5 e1 ef d1 d3 d4
   refine dw (by kernel_rfl) (by kernel_rfl) (fO (S:=(fun u:World=>u.cell? ⟨w.heap.size,0,none⟩=some (.pointer (some ⟨p,0,none⟩))∧u.cell? ⟨p,5,none⟩=some (.slice (some ⟨g 3,0,none⟩) n n)∧u.cell? ⟨g 3,c,none⟩=some (.int .i64 (nth EN1 c))∧u.cell? ⟨g 3,b,none⟩=some (.int .i64 (nth EN1 b)))) (z:=16) _ _ _ _ ?_)
   have hHeld:=And.intro k1 (And.intro k5 (And.intro kc kb))
   refine zZ 0 34 ?_
   (try simp only[Act.put,zA,zB,zC])
   refine zZ 1 35 ?_
   (try simp only[Act.put,zA,zB,zC])
   refine zZ 2 36 ?_
   (try simp only[Act.put,zA,zB,zC])
   refine zZ 3 37 ?_
   (try simp only[Act.put,zA,zB,zC])
   refine zZ 4 38 ?_
   (try simp only[Act.put,zA,zB,zC])
   refine zZ 5 39 ?_
   (try simp only[Act.put,zA,zB,zC])
   refine zZ 6 40 ?_
   (try simp only[Act.put,zA,zB,zC])
   refine zZ 7 41 ?_
   (try simp only[Act.put,zA,zB,zC])
   refine zZ 8 42 ?_
   (try simp only[Act.put,zA,zB,zC])
   refine zZ 9 43 ?_
   (try simp only[Act.put,zA,zB,zC])
   refine zZ 10 44 ?_
   (try simp only[Act.put,zA,zB,zC])
   refine zZ 11 45 ?_
   (try simp only[Act.put,zA,zB,zC])
   refine zZ 12 46 ?_
   (try simp only[Act.put,zA,zB,zC])
   refine zZ 13 47 ?_
   (try simp only[Act.put,zA,zB,zC])
   refine zZ 14 48 ?_
   (try simp only[Act.put,zA,zB,zC])
   refine zZ 15 49 ?_
   (try simp only[Act.put,zA,zB,zC])
   refine dW (by kernel_rfl) rfl (by kernel_rfl) (fun K hK=> ?_)
   rw[if_pos (by rfl)]
   go_simp
   refine hK.out _ _ ?_
   clear hK K
   (try simp only[Act.put,zA,zB,zC])
   refine nE ?_
   rw[IntWalk.i64_left]
   have hn2:=HS.out.two HL.out HBO.out hbn hcn HC.out HK1.out HY.out HE1.out HPD.out HBD.out HOF.out.drew
   have hoff2:Off (fun i=>i=g 3) W (U.drew.setCell ⟨g 3,c,none⟩ (.int .i64 (wrap64 (nth EN1 c+nth EN1 b)))):=HOF.out.drew.setCell (.inl rfl) _
   exact⟨(HKO.out _ hoff2).1 _,(HKO.out _ hoff2).2,_,hn2⟩
 case stop=>
  rintro D c pre W _ _ h _
  exact h.elim
 case done=>
  rintro D ys W hD rfl ⟨EN,hS⟩ hK
  obtain⟨S,hSS,hSE⟩:=hS.st on (by have:=HON.out;omega) (by rw[HON.out])
  have hSS0:lZ M pl up o K 0 S:=by
   have e:K-on=0:=by have:=HON.out;omega
   rw[e]at hSS
   exact hSS
  have HSZ:=hid hSS0.done
  have HS:=hid hS
  have c1:=HS.out.box.cell
  have c3:W.cell? ⟨p,3,none⟩=some (.slice (some ⟨g 1,0,none⟩) n n):=by simp[World.cell?,HS.out.at_.blk]
  have hmk:=jK n n rfl (by omega)
  obtain⟨W1,hW1⟩:∃ W1,W.alloc (.cells (madeCells #[.int .i64 0] n) 3)=W1:=⟨_,rfl⟩
  have hb1:Below W.heap.size W W1:=by rw[←hW1];exact(Below.refl _ W).alloc (Nat.le_refl _) _
  have HB1:=hid hb1
  have hz1:W1.heap.size=W.heap.size+1:=by rw[←hW1];simp
  have hWz:W0.heap.size≤W.heap.size:=HS.out.off.size
  have HTL:Hid (E5 W0.heap.size p g (.slice oa on oc) fv vs):=hid HA0.out.tlt
  have HN0:Hid (l5 W1 M pl up o K S B p n g Z (.slice oa on oc) fv ord vs FR rd w.heap.size W.heap.size W0.heap.size 0 (Z 2) EN (List.replicate n 0) W1):=hid ⟨HS.out.at_.since hb1,(hb1.block _ HS.out.box.lt).trans HS.out.box,by rw[←hW1];exact nD hWz (by unfold maxLen;omega),Off.refl _ _,fun _=>0,fun _=>0,mR.start,fun v hv=>by rw[if_neg (by omega)];exact H2.out v hv,fun v hv=>by rw[if_neg (by omega),hSE v hv];omega,fun v hv hl=>absurd hl (by omega)⟩
  have HSE:=hid hSE
  have d1:=HN0.out.box.cell
  have d0:W1.cell? ⟨p,0,none⟩=some (.slice oa on oc):=by simp[World.cell?,HN0.out.at_.blk]
  have HND:Hid (ai W1 oa on ord∧∀ g0 off,oa=some ⟨g0,off,none⟩→g0<W0.heap.size):=hid ⟨(HNO.out.off HS.out.off (fun g0 off e _=>HONE.out 3 (by omega) g0 off e)).since hb1,fun g0 off e=>HTL.out.2.2.1 g0 (by rw[e];rfl)⟩
  have HDW:Hid (W1.heap[D]? =some (.deferred (some []))):=hid ((hb1.block D (Array.getElem?_eq_some_iff.1 hK).1).trans hK)
  have HK1:Hid (K≤100000):=hid (by have:=HON.out;omega)
  have hd2:D≠g 2:=fun e=>by
   obtain⟨cur,hc,_⟩:=HS.out.at_.gblk (i:=2) (by omega)
   rw[←e,hK]at hc
   cases hc
  have hd3:D≠g 3:=fun e=>by
   obtain⟨cur,hc,_⟩:=HS.out.at_.gblk (i:=3) (by omega)
   rw[←e,hK]at hc
   cases hc
  have HDN:Hid (D≠g 2∧D≠g 3∧D<W.heap.size):=hid ⟨hd2,hd3,(Array.getElem?_eq_some_iff.1 hK).1⟩
  clear hd2 hd3
  have HOW:Hid (Off (fun i=>i=g 2∨i=g 3) w W1):=hid (((Off.since HB0.out).trans_new HS.out.off (fun i hi=>.inl (.inr hi))).trans_new (Off.since (X:=fun _=>False) HB1.out) (fun i hi=>hi.elim))
  clear hS hSS hSS0 hSE hK hb1
  gi_wp2_with fail
  try rw[hW1]
  clear hW1 d1 d0 c1 c3 hmk
  gi_loopw [61] (fun v61 wr=>∃ (i:Nat) (NU EN RE:List Int),i≤on∧v61=.int .i64 (i:Int)∧Hid (l5 W1 M pl up o K S B p n g Z (.slice oa on oc) fv ord vs FR rd w.heap.size W.heap.size W0.heap.size i NU EN RE wr)) (fun v61 _=>on-(intOf v61).toNat)
  case atStart=>exact⟨0,_,_,_,Nat.zero_le _,rfl,HN0⟩
  case round=>
   obtain⟨i,NU,EN,RE,hi,rfl,HI⟩:=hrel
   clear HN0
   obtain⟨wo,hwo⟩:∃ u,u=wr:=⟨_,rfl⟩
   rw[←hwo]at HI⊢
   clear hwo
   by_cases hlt:i<on
   ·have HIK:Hid (i<K):=hid (by have:=HON.out;omega)
    obtain⟨b,hb,hbn,hbo⟩:=HOO.out i (by have:=HIK.out;omega)
    have HBO:Hid (b=o i):=hid (hbo i HIK.out rfl)
    have HMB:Hid (M b∧pl b=i):=hid (by rw[HBO.out];exact HL.out.met i HIK.out)
    obtain⟨g0,off,hae,hg0,hcs⟩:=HND.out.1.2 (by omega)
    subst hae
    have hil:i<ord.length:=by have:=HND.out.1.1;omega
    have hcb:wo.cell? ⟨g0,off+i,none⟩=some (.int .i64 (b:Int)):=by
     rw[←hb,bN hil]
     refine(HI.out.off.cell (p:=⟨g0,off+i,none⟩) hg0 ?_).trans (hcs i hil)
     rintro (h|h|h)
     ·exact HONE.out 2 (by omega) g0 off rfl h
     ·exact HONE.out 3 (by omega) g0 off rfl h
     ·have:=HND.out.2 g0 off rfl
      have h':g0=W.heap.size:=h
      omega
    clear hb hbo hg0 hcs hil
    have c1:=HI.out.box.cell
    have c3:wo.cell? ⟨p,3,none⟩=some (.slice (some ⟨g 1,0,none⟩) n n):=by simp[World.cell?,HI.out.at_.blk]
    have u1:wo.cell? ⟨g 1,b,none⟩=some (.int .i64 (up b)):=by
     have:=HI.out.at_.cell (i:=1) (by omega) hbn
     rw[Hy,(HUP.out b hbn).1]at this
     exact this
    have hbi:(b:Int)<(n:Int):=by omega
    have hbi0:(0:Int)≤(b:Int):=by omega
    have HSM:=hid (HI.out.small HL.out HSZ.out HIK.out HK1.out)
    have HGR:Hid (∀k,k<5→g k≠W.heap.size):=hid fun k hk=>by have:=HTL.out.2.1 k hk;omega
    have HBR:Hid (w.heap.size≠W.heap.size∧∀ k,k<5→w.heap.size≠g k):=hid ⟨by omega,fun k hk=>by have:=HGN.out k hk;omega⟩
    obtain⟨eb,heb⟩:∃ eb,eb=nth EN b:=⟨_,rfl⟩
    have hebB:0≤eb∧eb≤200000:=by rw[heb];exact HSM.out.2.1 b HMB.out.1
    rcases(HUP.out b hbn).2 with hneg|⟨c,hc,hcn⟩
    ·have hdec:decide ((0:Int)≤up b)=false:=decide_eq_false (by omega)
     have HNE:=hid hneg
     clear hneg
     obtain⟨x,hx⟩:∃ x,x=nth NU b:=⟨_,rfl⟩
     have hxB:0≤x∧x≤100000:=by rw[hx];exact HSM.out.1 b HMB.out.1
     have c4:wo.cell? ⟨p,4,none⟩=some (.slice (some ⟨g 2,0,none⟩) n n):=by simp[World.cell?,HI.out.at_.blk]
     have n1:wo.cell? ⟨g 2,b,none⟩=some (.int .i64 x):=by have:=HI.out.at_.cell (i:=2) (by omega) hbn;rw[r9,←hx]at this;exact this
     have rf:wo.frozen? ⟨W.heap.size,b,none⟩=false:=lM HI.out.free b
     have rc:wo.cell? ⟨W.heap.size,b,none⟩=some (.int .i64 (nth RE b)):=iP HI.out.free (by have:=HI.out.free.read.1;omega)
     have hw1:wrap64 (x+1)=x+1:=by unfold wrap64;omega
     have hw2:wrap64 (eb+x)=eb+x:=by unfold wrap64;omega
     obtain⟨U3,hU3⟩:∃ U,wo.setCell ⟨W.heap.size,b,none⟩ (.int .i64 (x+1))=U:=⟨_,rfl⟩
     have ho3:Off (fun i=>i=W.heap.size) wo U3:=by rw[←hU3];exact Off.setCell (X:=fun i=>i=W.heap.size) (p:=⟨W.heap.size,b,none⟩) (Off.refl _ wo) (.inl rfl) _
     have HO3:=hid ho3
     have HA3:Hid (aI U3 B p n g (ZN Z NU EN) (.slice (some ⟨g0,off,none⟩) on oc) fv ord vs FR rd):=hid (HI.out.at_.beyond HTL.out ho3 (fun k hk=>by have h':k=W.heap.size:=hk;omega))
     have HX3:Hid (lU U3 w.heap.size p):=hid (HI.out.box.kept ho3 HBR.out.1)
     have HR3:Hid (aj U3 W0.heap.size 3 (.slice (some ⟨W.heap.size,0,none⟩) n n) (RE.set b (x+1))):=hid (by rw[←hU3];exact jI HI.out.free b (x+1))
     clear ho3
     have HEB:=hid heb
     have HX:=hid hx
     clear heb hx
     gi_wp2_with fail
     try rw[hU3]
     clear hU3 c1 c3 u1 c4 n1 rf rc hcb
     have HAD:Hid (aI U3.drew B p n g (ZN Z NU EN) (.slice (some ⟨g0,off,none⟩) on oc) fv ord vs FR rd):=hid (HA3.out.since (Below.refl _ _).drew)
     have k1:U3.drew.cell? ⟨w.heap.size,0,none⟩=some (.pointer (some ⟨p,0,none⟩)):=HX3.out.cell
     have k5:U3.drew.cell? ⟨p,5,none⟩=some (.slice (some ⟨g 3,0,none⟩) n n):=by simp[World.cell?,HAD.out.blk]
     have k4:U3.drew.cell? ⟨p,4,none⟩=some (.slice (some ⟨g 2,0,none⟩) n n):=by simp[World.cell?,HAD.out.blk]
     have ke:U3.drew.cell? ⟨g 3,b,none⟩=some (.int .i64 eb):=by have:=HAD.out.cell (i:=3) (by omega) hbn;rw[iq,←HEB.out]at this;exact this
     have kn:U3.drew.cell? ⟨g 2,b,none⟩=some (.int .i64 x):=by have:=HAD.out.cell (i:=2) (by omega) hbn;rw[r9,←HX.out]at this;exact this
     have kf:U3.drew.frozen? ⟨g 3,b,none⟩=false:=HAD.out.free (by omega) b
     refine dw (by kernel_rfl) (by kernel_rfl) (fO (S:=(fun u:World=>u.cell? ⟨w.heap.size,0,none⟩=some (.pointer (some ⟨p,0,none⟩))∧u.cell? ⟨p,5,none⟩=some (.slice (some ⟨g 3,0,none⟩) n n)∧u.cell? ⟨p,4,none⟩=some (.slice (some ⟨g 2,0,none⟩) n n)∧u.cell? ⟨g 3,b,none⟩=some (.int .i64 eb)∧u.cell? ⟨g 2,b,none⟩=some (.int .i64 x))) (z:=16) _ _ _ _ ?_)
     have hHeld:=And.intro k1 (And.intro k5 (And.intro k4 (And.intro ke kn)))
     refine zZ 0 108 ?_
     (try simp only[Act.put,zA,zB,zC])
     refine zZ 1 109 ?_
     (try simp only[Act.put,zA,zB,zC])
     refine zZ 2 110 ?_
     (try simp only[Act.put,zA,zB,zC])
     refine zZ 3 111 ?_
     (try simp only[Act.put,zA,zB,zC])
     refine zZ 4 112 ?_
     (try simp only[Act.put,zA,zB,zC])
     refine zZ 5 113 ?_
     (try simp only[Act.put,zA,zB,zC])
     refine zZ 6 114 ?_
     (try simp only[Act.put,zA,zB,zC])
     refine zZ 7 115 ?_
     (try simp only[Act.put,zA,zB,zC])
     refine zZ 8 116 ?_
     (try simp only[Act.put,zA,zB,zC])
     refine zZ 9 117 ?_
     (try simp only[Act.put,zA,zB,zC])
     refine zZ 10 118 ?_
     (try simp only[Act.put,zA,zB,zC])
     refine zZ 11 119 ?_
     (try simp only[Act.put,zA,zB,zC])
     refine zZ 12 120 ?_
     (try simp only[Act.put,zA,zB,zC])
     refine zZ 13 121 ?_
     (try simp only[Act.put,zA,zB,zC])
     refine zZ 14 122 ?_
     (try simp only[Act.put,zA,zB,zC])
     refine zZ 15 123 ?_
     (try simp only[Act.put,zA,zB,zC])
     refine dW (by kernel_rfl) rfl (by kernel_rfl) (fun K hK=> ?_)
     rw[if_pos (by rfl)]
     go_simp
     refine hK.out _ _ ?_
     clear hK K
     (try simp only[Act.put,zA,zB,zC])
     refine nE ?_
     try rw[IntWalk.i64_left]
     try rw[hw2]
     obtain⟨U4,hU4⟩:∃ U,(U3.setCell ⟨g 3,b,none⟩ (.int .i64 (eb+x))).drew=U:=⟨_,rfl⟩
     have hU4':U3.drew.setCell ⟨g 3,b,none⟩ (.int .i64 (eb+x))=U4:=hU4
     have hput:=HAD.out.put (i:=3) (by omega) b (eb+x)
     rw[wm,iq,hU4']at hput
     have ho4:Off (fun i=>i=g 3) U3 U4:=by rw[←hU4'];exact Off.setCell (X:=fun i=>i=g 3) (p:=⟨g 3,b,none⟩) (Off.refl _ U3).drew (.inl rfl) _
     have HN1:=hid (HI.out.first HL.out HSZ.out HIK.out HBO.out hbn HNE.out HK1.out (W2:=U4) (by rw[←HX.out,←HEB.out];exact hput) (HX3.out.kept ho4 (HBR.out.2 3 (by omega))) (by rw[←HX.out];exact jJ HR3.out (fun k hk=>by cases hk;exact ho4.block _ (HR3.out.lt _ rfl).2 (fun h=>HGR.out 3 (by omega) h.symm))) ((HO3.out.mono (fun k _ hk=>.inr (.inr hk))).trans (ho4.mono (fun k _ hk=>.inr (.inl hk)))))
     rw[hU4]
     clear hU4 hU4' hput ho4 k1 k5 k4 ke kn kf hHeld
     gi_wp2_with fail
     go_roundw
     case rel=>exact⟨i+1,_,_,_,hlt,by go_num,HN1⟩
     case measure=>simp[intOf];omega
    ·have hdec:decide ((0:Int)≤up b)=true:=decide_eq_true (by omega)
     have HC:=hid hc
     rw[hc]at u1 hdec
     have hltc:=HL.out.lt b c hc
     rw[HMB.out.2]at hltc
     have HLC:=hid hltc
     obtain⟨x,hx⟩:∃ x,x=nth RE c:=⟨_,rfl⟩
     have hxB:0≤x∧x≤100000:=by rw[hx];exact HSM.out.2.2 c hltc.1 hltc.2
     have hw0:wrap64 (x+eb)=x+eb:=by unfold wrap64;omega
     have hw1:wrap64 (x+1)=x+1:=by unfold wrap64;omega
     have hw2:wrap64 (eb+x)=eb+x:=by unfold wrap64;omega
     have hci:(c:Int)<(n:Int):=by omega
     have hci0:(0:Int)≤(c:Int):=by omega
     have hREl:RE.length=n:=HI.out.free.read.1
     have HREL:=hid hREl
     have HEB:=hid heb
     have HX:=hid hx
     clear hc hltc heb
     gi_wp2_with fail
     clear c1 c3 u1 hcb
     have HAD:Hid (aI wo.drew B p n g (ZN Z NU EN) (.slice (some ⟨g0,off,none⟩) on oc) fv ord vs FR rd):=hid (HI.out.at_.since (Below.refl _ _).drew)
     have k1:wo.drew.cell? ⟨w.heap.size,0,none⟩=some (.pointer (some ⟨p,0,none⟩)):=HI.out.box.cell
     have k4:wo.drew.cell? ⟨p,4,none⟩=some (.slice (some ⟨g 2,0,none⟩) n n):=by simp[World.cell?,HAD.out.blk]
     have kr:wo.drew.cell? ⟨W.heap.size,c,none⟩=some (.int .i64 x):=by rw[hx];exact iP HI.out.free (by omega)
     have kn:wo.drew.cell? ⟨g 2,b,none⟩=some (.int .i64 (nth NU b)):=by have:=HAD.out.cell (i:=2) (by omega) hbn;rw[r9]at this;exact this
     have kf:wo.drew.frozen? ⟨g 2,b,none⟩=false:=HAD.out.free (by omega) b
     clear hx
     refine dw (by kernel_rfl) (by kernel_rfl) (fO (S:=(fun u:World=>u.cell? ⟨w.heap.size,0,none⟩=some (.pointer (some ⟨p,0,none⟩))∧u.cell? ⟨p,4,none⟩=some (.slice (some ⟨g 2,0,none⟩) n n)∧u.cell? ⟨W.heap.size,c,none⟩=some (.int .i64 x))) (z:=10) _ _ _ _ ?_)
     have hHeld:=And.intro k1 (And.intro k4 kr)
     refine zZ 0 74 ?_
     (try simp only[Act.put,zA,zB,zC])
     refine zZ 1 75 ?_
     (try simp only[Act.put,zA,zB,zC])
     refine zZ 2 76 ?_
     (try simp only[Act.put,zA,zB,zC])
     refine zZ 3 77 ?_
     (try simp only[Act.put,zA,zB,zC])
     refine zZ 4 78 ?_
     (try simp only[Act.put,zA,zB,zC])
     refine zZ 5 79 ?_
     (try simp only[Act.put,zA,zB,zC])
     refine zZ 6 80 ?_
     (try simp only[Act.put,zA,zB,zC])
     refine zZ 7 81 ?_
     (try simp only[Act.put,zA,zB,zC])
     refine zZ 8 82 ?_
     (try simp only[Act.put,zA,zB,zC])
     refine zZ 9 83 ?_
     (try simp only[Act.put,zA,zB,zC])
     refine dW (by kernel_rfl) rfl (by kernel_rfl) (fun K hK=> ?_)
     rw[if_pos (by rfl)]
     go_simp
     refine hK.out _ _ ?_
     clear hK K
     (try simp only[Act.put,zA,zB,zC])
     refine nE ?_
     obtain⟨U1,hU1⟩:∃ U,(wo.setCell ⟨g 2,b,none⟩ (.int .i64 x)).drew=U:=⟨_,rfl⟩
     have hU1':wo.drew.setCell ⟨g 2,b,none⟩ (.int .i64 x)=U1:=hU1
     have hput:=HAD.out.put (i:=2) (by omega) b x
     rw[ZN_num,r9,hU1']at hput
     have HA1:Hid (aI U1 B p n g (ZN Z (NU.set b x) EN) (.slice (some ⟨g0,off,none⟩) on oc) fv ord vs FR rd):=hid hput
     have ho1:Off (fun i=>i=g 2) wo U1:=by rw[←hU1'];exact Off.setCell (X:=fun i=>i=g 2) (p:=⟨g 2,b,none⟩) (Off.refl _ wo).drew (.inl rfl) _
     have HO1:=hid ho1
     have HX1:Hid (lU U1 w.heap.size p):=hid (HI.out.box.kept ho1 (HBR.out.2 2 (by omega)))
     have HR1:Hid (aj U1 W0.heap.size 3 (.slice (some ⟨W.heap.size,0,none⟩) n n) RE):=hid (jJ HI.out.free (fun k hk=>by cases hk;exact ho1.block _ (HI.out.free.lt _ rfl).2 (fun h=>HGR.out 2 (by omega) h.symm)))
     rw[hU1]
     clear hU1 hU1' hput ho1 k1 k4 kr kn kf hHeld HAD
     gi_wp2_with fail
     have HAD:Hid (aI U1.drew B p n g (ZN Z (NU.set b x) EN) (.slice (some ⟨g0,off,none⟩) on oc) fv ord vs FR rd):=hid (HA1.out.since (Below.refl _ _).drew)
     have k1:U1.drew.cell? ⟨w.heap.size,0,none⟩=some (.pointer (some ⟨p,0,none⟩)):=HX1.out.cell
     have k5:U1.drew.cell? ⟨p,5,none⟩=some (.slice (some ⟨g 3,0,none⟩) n n):=by simp[World.cell?,HAD.out.blk]
     have kr:U1.drew.cell? ⟨W.heap.size,c,none⟩=some (.int .i64 x):=by rw[HX.out];exact iP HR1.out (by omega)
     have ke:U1.drew.cell? ⟨g 3,b,none⟩=some (.int .i64 eb):=by have:=HAD.out.cell (i:=3) (by omega) hbn;rw[iq,←HEB.out]at this;exact this
     have kf:U1.drew.frozen? ⟨W.heap.size,c,none⟩=false:=lM HR1.out c
     refine dw (by kernel_rfl) (by kernel_rfl) (fO (S:=(fun u:World=>u.cell? ⟨w.heap.size,0,none⟩=some (.pointer (some ⟨p,0,none⟩))∧u.cell? ⟨p,5,none⟩=some (.slice (some ⟨g 3,0,none⟩) n n)∧u.cell? ⟨W.heap.size,c,none⟩=some (.int .i64 x)∧u.cell? ⟨g 3,b,none⟩=some (.int .i64 eb))) (z:=13) _ _ _ _ ?_)
     have hHeld:=And.intro k1 (And.intro k5 (And.intro kr ke))
     refine zZ 0 84 ?_
     (try simp only[Act.put,zA,zB,zC])
     refine zZ 1 85 ?_
     (try simp only[Act.put,zA,zB,zC])
     refine zZ 2 86 ?_
     (try simp only[Act.put,zA,zB,zC])
     refine zZ 3 87 ?_
     (try simp only[Act.put,zA,zB,zC])
     refine zZ 4 88 ?_
     (try simp only[Act.put,zA,zB,zC])
     refine zZ 5 89 ?_
     (try simp only[Act.put,zA,zB,zC])
     refine zZ 6 90 ?_
     (try simp only[Act.put,zA,zB,zC])
     refine zZ 7 91 ?_
     (try simp only[Act.put,zA,zB,zC])
     refine zZ 8 92 ?_
     (try simp only[Act.put,zA,zB,zC])
     refine zZ 9 93 ?_
     (try simp only[Act.put,zA,zB,zC])
     refine zZ 10 94 ?_
     (try simp only[Act.put,zA,zB,zC])
     refine zZ 11 95 ?_
     (try simp only[Act.put,zA,zB,zC])
     refine zZ 12 96 ?_
     (try simp only[Act.put,zA,zB,zC])
     refine dW (by kernel_rfl) rfl (by kernel_rfl) (fun K hK=> ?_)
     rw[if_pos (by rfl)]
     go_simp
     refine hK.out _ _ ?_
     clear hK K
     (try simp only[Act.put,zA,zB,zC])
     refine nE ?_
     try rw[IntWalk.i64_left]
     try rw[hw0]
     obtain⟨U2,hU2⟩:∃ U,(U1.setCell ⟨W.heap.size,c,none⟩ (.int .i64 (x+eb))).drew=U:=⟨_,rfl⟩
     have hU2':U1.drew.setCell ⟨W.heap.size,c,none⟩ (.int .i64 (x+eb))=U2:=hU2
     have ho2:Off (fun i=>i=W.heap.size) U1 U2:=by rw[←hU2'];exact Off.setCell (X:=fun i=>i=W.heap.size) (p:=⟨W.heap.size,c,none⟩) (Off.refl _ U1).drew (.inl rfl) _
     have HO2:=hid ho2
     have HA2:Hid (aI U2 B p n g (ZN Z (NU.set b x) EN) (.slice (some ⟨g0,off,none⟩) on oc) fv ord vs FR rd):=hid (HA1.out.beyond HTL.out ho2 (fun k hk=>by have h':k=W.heap.size:=hk;omega))
     have HX2:Hid (lU U2 w.heap.size p):=hid (HX1.out.kept ho2 HBR.out.1)
     have HR2:Hid (aj U2 W0.heap.size 3 (.slice (some ⟨W.heap.size,0,none⟩) n n) (RE.set c (x+eb))):=hid (by rw[←hU2'];exact jI (W:=U1.drew) HR1.out c (x+eb))
     rw[hU2]
     clear hU2 hU2' ho2 k1 k5 kr ke kf hHeld HAD
     have c1:=HX2.out.cell
     have c4:U2.cell? ⟨p,4,none⟩=some (.slice (some ⟨g 2,0,none⟩) n n):=by simp[World.cell?,HA2.out.blk]
     have n1:U2.cell? ⟨g 2,b,none⟩=some (.int .i64 x):=by
      have h1:=HA2.out.cell (i:=2) (by omega) hbn
      have h2:=HI.out.at_.len (i:=2) (by omega)
      rw[r9]at h1 h2
      rw[dP (by omega),if_pos rfl]at h1
      exact h1
     have rf:U2.frozen? ⟨W.heap.size,b,none⟩=false:=lM HR2.out b
     have rc:U2.cell? ⟨W.heap.size,b,none⟩=some (.int .i64 (nth (RE.set c (x+eb)) b)):=iP HR2.out (by simp;omega)
     obtain⟨U3,hU3⟩:∃ U,U2.setCell ⟨W.heap.size,b,none⟩ (.int .i64 (x+1))=U:=⟨_,rfl⟩
     have ho3:Off (fun i=>i=W.heap.size) U2 U3:=by rw[←hU3];exact Off.setCell (X:=fun i=>i=W.heap.size) (p:=⟨W.heap.size,b,none⟩) (Off.refl _ U2) (.inl rfl) _
     have HO3:=hid ho3
     have HA3:Hid (aI U3 B p n g (ZN Z (NU.set b x) EN) (.slice (some ⟨g0,off,none⟩) on oc) fv ord vs FR rd):=hid (HA2.out.beyond HTL.out ho3 (fun k hk=>by have h':k=W.heap.size:=hk;omega))
     have HX3:Hid (lU U3 w.heap.size p):=hid (HX2.out.kept ho3 HBR.out.1)
     have HR3:Hid (aj U3 W0.heap.size 3 (.slice (some ⟨W.heap.size,0,none⟩) n n) ((RE.set c (x+eb)).set b (x+1))):=hid (by rw[←hU3];exact jI HR2.out b (x+1))
     clear ho3
     gi_wp2_with fail
     try rw[hU3]
     clear hU3 c1 c4 n1 rf rc
     have HAD:Hid (aI U3.drew B p n g (ZN Z (NU.set b x) EN) (.slice (some ⟨g0,off,none⟩) on oc) fv ord vs FR rd):=hid (HA3.out.since (Below.refl _ _).drew)
     have k1:U3.drew.cell? ⟨w.heap.size,0,none⟩=some (.pointer (some ⟨p,0,none⟩)):=HX3.out.cell
     have k5:U3.drew.cell? ⟨p,5,none⟩=some (.slice (some ⟨g 3,0,none⟩) n n):=by simp[World.cell?,HAD.out.blk]
     have k4:U3.drew.cell? ⟨p,4,none⟩=some (.slice (some ⟨g 2,0,none⟩) n n):=by simp[World.cell?,HAD.out.blk]
     have ke:U3.drew.cell? ⟨g 3,b,none⟩=some (.int .i64 eb):=by have:=HAD.out.cell (i:=3) (by omega) hbn;rw[iq,←HEB.out]at this;exact this
     have kn:U3.drew.cell? ⟨g 2,b,none⟩=some (.int .i64 x):=by
      have h1:=HAD.out.cell (i:=2) (by omega) hbn
      have h2:=HI.out.at_.len (i:=2) (by omega)
      rw[r9]at h1 h2
      rw[dP (by omega),if_pos rfl]at h1
      exact h1
     have kf:U3.drew.frozen? ⟨g 3,b,none⟩=false:=HAD.out.free (by omega) b
     refine dw (by kernel_rfl) (by kernel_rfl) (fO (S:=(fun u:World=>u.cell? ⟨w.heap.size,0,none⟩=some (.pointer (some ⟨p,0,none⟩))∧u.cell? ⟨p,5,none⟩=some (.slice (some ⟨g 3,0,none⟩) n n)∧u.cell? ⟨p,4,none⟩=some (.slice (some ⟨g 2,0,none⟩) n n)∧u.cell? ⟨g 3,b,none⟩=some (.int .i64 eb)∧u.cell? ⟨g 2,b,none⟩=some (.int .i64 x))) (z:=16) _ _ _ _ ?_)
     have hHeld:=And.intro k1 (And.intro k5 (And.intro k4 (And.intro ke kn)))
     refine zZ 0 108 ?_
     (try simp only[Act.put,zA,zB,zC])
     refine zZ 1 109 ?_
     (try simp only[Act.put,zA,zB,zC])
     refine zZ 2 110 ?_
     (try simp only[Act.put,zA,zB,zC])
     refine zZ 3 111 ?_
     (try simp only[Act.put,zA,zB,zC])
     refine zZ 4 112 ?_
     (try simp only[Act.put,zA,zB,zC])
     refine zZ 5 113 ?_
     (try simp only[Act.put,zA,zB,zC])
     refine zZ 6 114 ?_
     (try simp only[Act.put,zA,zB,zC])
     refine zZ 7 115 ?_
     (try simp only[Act.put,zA,zB,zC])
     refine zZ 8 116 ?_
     (try simp only[Act.put,zA,zB,zC])
     refine zZ 9 117 ?_
     (try simp only[Act.put,zA,zB,zC])
     refine zZ 10 118 ?_
     (try simp only[Act.put,zA,zB,zC])
     refine zZ 11 119 ?_
     (try simp only[Act.put,zA,zB,zC])
     refine zZ 12 120 ?_
     (try simp only[Act.put,zA,zB,zC])
     refine zZ 13 121 ?_
     (try simp only[Act.put,zA,zB,zC])
     refine zZ 14 122 ?_
     (try simp only[Act.put,zA,zB,zC])
     refine zZ 15 123 ?_
     (try simp only[Act.put,zA,zB,zC])
     refine dW (by kernel_rfl) rfl (by kernel_rfl) (fun K hK=> ?_)
     rw[if_pos (by rfl)]
     go_simp
     refine hK.out _ _ ?_
     clear hK K
     (try simp only[Act.put,zA,zB,zC])
     refine nE ?_
     try rw[IntWalk.i64_left]
     try rw[hw2]
     obtain⟨U4,hU4⟩:∃ U,(U3.setCell ⟨g 3,b,none⟩ (.int .i64 (eb+x))).drew=U:=⟨_,rfl⟩
     have hU4':U3.drew.setCell ⟨g 3,b,none⟩ (.int .i64 (eb+x))=U4:=hU4
     have hput:=HAD.out.put (i:=3) (by omega) b (eb+x)
     rw[wm,iq,hU4']at hput
     have ho4:Off (fun i=>i=g 3) U3 U4:=by rw[←hU4'];exact Off.setCell (X:=fun i=>i=g 3) (p:=⟨g 3,b,none⟩) (Off.refl _ U3).drew (.inl rfl) _
     have hoff:=(((HO1.out.mono (Y:=fun i=>i=g 2∨i=g 3∨i=W.heap.size) (fun k _ hk=>.inl hk)).trans (HO2.out.mono (fun k _ hk=>.inr (.inr hk)))).trans (HO3.out.mono (fun k _ hk=>.inr (.inr hk)))).trans (ho4.mono (fun k _ hk=>.inr (.inl hk)))
     have HN1:=hid (HI.out.next HL.out HSZ.out HIK.out HBO.out hbn hcn HC.out HK1.out (W2:=U4) HX.out rfl (by rw[←HX.out,←HEB.out]) (by rw[←HEB.out]) hput (HX3.out.kept ho4 (HBR.out.2 3 (by omega))) (jJ HR3.out (fun k hk=>by cases hk;exact ho4.block _ (HR3.out.lt _ rfl).2 (fun h=>HGR.out 3 (by omega) h.symm))) hoff)
     rw[hU4]
     clear hU4 hU4' hput ho4 hoff k1 k5 k4 ke kn kf hHeld
     gi_wp2_with fail
     go_roundw
     case rel=>exact⟨i+1,_,_,_,hlt,by go_num,HN1⟩
     case measure=>simp[intOf];omega
   ·obtain rfl:i=on:=by omega
    obtain⟨N,R,hN,h1,h2,h3⟩:=HI.out.st
    have HNB:Hid (bV M pl up o K S N∧(∀v,M v→nth NU v=(N v:Int))∧∀ v,M v→nth EN v=(S v:Int)+(N v:Int)):=hid ⟨by rw[HON.out]at hN;exact hN.done HL.out HSZ.out,fun v hv=>by rw[h1 v hv,if_pos (by have:=(HL.out.at_ v hv).2;have:=HON.out;omega)],fun v hv=>by rw[h2 v hv,if_pos (by have:=(HL.out.at_ v hv).2;have:=HON.out;omega)]⟩
    have hDlt:=(Array.getElem?_eq_some_iff.1 HDW.out).1
    have hDo:wo.heap[D]? =some (.deferred (some [])):=by
     refine(HI.out.off.block D hDlt ?_).trans HDW.out
     rintro (h|h|h)
     ·exact HDN.out.1 h
     ·exact HDN.out.2.1 h
     ·have:=HDN.out.2.2
      have h':D=W.heap.size:=h
      omega
    clear hN h1 h2 h3
    gi_wp2
    refine⟨by simp,.inl ⟨_,_,rfl,run_takeDeferred hDo, ?_⟩⟩
    have hg:=grownBy_putObj' wo D (.deferred none)
    refine⟨_,results_none rfl _ _ _,rfl,NU,EN,S,N,HI.out.at_.kept (X:=fun k=>k=D) ((Off.refl _ wo).grown hg (fun k e=>by cases e;exact .inl rfl)) (fun k hk C t e=>by have h':k=D:=hk;rw[h',hDo]at e;cases e), ?_,HNB.out⟩
    refine Off.grown (HOW.out.trans_new HI.out.off (fun k hk=> ?_)) hg (fun k e=>by cases e;exact .inr (by omega))
    rcases hk with h|h|h
    ·exact .inl (.inl h)
    ·exact .inl (.inr h)
    ·have h':k=W.heap.size:=h
     exact .inr (by omega)
end Go.Proofs.YthjdeoppajlcoaaGreatDoor

namespace Go.Proofs.YthjdeoppajlcoaaGreatDoor
set_option linter.unusedVariables false
open Go.RowKit (wrap64 intOf Below)
attribute [local go_sem ↓] Go.wp_at_zero Go.wp_at_succ
theorem cu.safe{w:World}{x B:Nat}{v:Value}{L:List UInt8}(h:cu w x B v L){b:Nat}(hb:b<B∧b≠x):¬ WX x v b:=fun hx=>by
 rcases hx with rfl|hx
 ·exact hb.2 rfl
 ·have:=(h.own hx).1;omega
theorem eH.form{w:World}{S:Nat→Prop}{v:Value}{Z:List Int}(h:eH w S v Z):
 ∃a c g,v=.slice a Z.length c∧Z.length*8≤140737488351232∧(a=none→c=0)∧(0<Z.length→a=some ⟨g,0,none⟩∧S g)∧∀ k (hk:k<Z.length),dm w g k [.int .i64 Z[k]]∧ -9223372036854775808≤Z[k]∧Z[k]≤9223372036854775807:=by
 obtain⟨h1,h2,h3,h4⟩:=h
 have hown:=h1
 rcases h1.2 with⟨rfl,h0⟩|⟨g,cap,cur,rfl,hB,hg,hc1,hc2,hc3,htake⟩
 ·have h0':Z.length=0:=h0
  refine⟨none,0,0,by rw[h0'],h3,fun _=>rfl,fun hp=>absurd hp (by omega),fun k hk=>absurd hk (by omega)⟩
 ·refine⟨_,cap,g,rfl,h3,(fun h=>by cases h),fun hp=>⟨rfl,h2 g rfl⟩,fun k hk=>⟨⟨cur,_,hg,fun j hj=> ?_⟩,h4 _ (List.getElem_mem hk)⟩⟩
  obtain rfl:j=0:=by simpa using hj
  have hz:(Z.map dN)[k]? =some (.int .i64 Z[k]):=by simp[hk,dN]
  rw[←htake,List.getElem?_take]at hz
  split at hz
  ·simpa using hz
  ·cases hz
theorem gW.form{α:Type}{T K:Nat}{Q:World→(Nat→Prop)→List Value→α→Prop}(hQ:Holds Q){w:World}{S:Nat→Prop}{v:Value}{xs:List α}(h:gW T K Q w S v xs):
 ∃a c g,v=.slice a xs.length c∧xs.length≤140737488351232∧(a=Option.none→c=0)∧(0<xs.length→a=some ⟨g,0,Option.none⟩∧S g)∧∀ k (hk:k<xs.length),∃cs,cs.length=K∧dm w g (k*K) cs∧Q w S cs xs[k]:=by
 obtain⟨css,h1,h2,h3,h4,h5,h6⟩:=h
 have hown:=h1
 rcases h1.2 with⟨rfl,h0⟩|⟨g,cap,cur,rfl,hB,hg,hc1,hc2,hc3,htake⟩
 ·refine⟨Option.none,0,0,by rw[h0],h5,fun _=>rfl,fun hp=>absurd hp (by omega),fun k hk=>absurd hk (by omega)⟩
 ·refine⟨_,cap,g,rfl,h5,(fun h=>by cases h),fun hp=>⟨rfl,h4 g rfl⟩,fun k hk=> ?_⟩
  have hk':k<css.length:=by omega
  exact⟨css[k],h3 _ (List.getElem_mem hk'),xI hown h3 rfl hk',hQ.wider (h6 k hk hk') (fun b _ hb=>hb.1)⟩
theorem nQ(x B:Nat)(v:Value)(L:List UInt8)(Z:List Int)(most:Nat)(S:Nat→Prop)(mi:Int)(hmi:mi=(most:Int))(a:Option Addr)(n c:Nat)(w:World)(h:cu w x B v L)(hm:most≤1000)(hl:L.length+(10+most*10)≤140737488355328)(hz:eH w S (.slice a n c) Z)(hS:∀ b,S b→b<B∧b≠x):
 Calls Tryz.prog 144 #[.agg #[.iface 84 (.pointer (some ⟨x,0,none⟩))],.slice a n c,.int .i64 mi,.func (.func 145) #[.agg #[.iface 84 (.pointer (some ⟨x,0,none⟩))]] #[]] w
  (di x B v L (dz most Z) (.slice a n c) w):=by
 obtain⟨a',c',g,he,hlen,hnil,hpos,hk⟩:=hz.form
 cases he
 refine wl_int kI Z 10 x B v L most g mi hmi a c w h bJ.num hm hl (by omega) (fun hp=>(hpos hp).1) (fun k hkl u v' L' ho hn hw hr=> ?_)
 have hgS:=hS g (hpos (by omega)).2
 have hx:=h.safe hgS
 refine(gX x B g k v' L' Z[k] u hw (hk k hkl).2.1 (hk k hkl).2.2 hr ((hk k hkl).1.stays ho hx) (hw.safe hgS)).mono ?_
 rintro e w' ⟨v2,he,h2,h3,h4⟩
 exact .inl ⟨_,v2,rfl,he,h2,h3,h4⟩
structure WSt(x B:Nat)(v:Value)(w:World)(bx:Nat)(L:List UInt8)(u:World)(vu:Value):Prop where
 wr:cu u x B vu L
 offs:Off (WX x v) w u
 new:NewAt w v vu
 box:u.heap[bx]? =some (.cells #[.iface 84 (.pointer (some ⟨x,0,none⟩))] 124 (0,0))
 nx:bx≠x
 nv:vu.ownBlock≠some bx
section
variable {x B : Nat} {v : Value} {w : World} {bx : Nat} {L : List UInt8} {u : World} {vu : Value}
theorem WSt.start(h:cu w x B v L):WSt x B v w w.heap.size L (w.alloc (.cells #[.iface 84 (.pointer (some ⟨x,0,none⟩))] 124)) v:=
 ⟨h.since ((Below.refl _ _).alloc (Nat.le_refl _) _),Off.alloc (Off.refl _ _) _,NewAt.refl _ _,heap_alloc_new w _,(by have:=h.lt;omega),fun e=>by have:=(h.own e).2;omega⟩
theorem WSt.cell(h:WSt x B v w bx L u vu):u.cell? ⟨bx,0,none⟩=some (.iface 84 (.pointer (some ⟨x,0,none⟩))):=by
 simp[World.cell?,h.box]
theorem WSt.step{u':World}{v':Value}{L':List UInt8}(h:WSt x B v w bx L u vu)(h1:cu u' x B v' L')(h2:Off (WX x vu) u u')(h3:NewAt u vu v'):WSt x B v w bx L' u' v':=by
 have hlt:bx<u.heap.size:=(Array.getElem?_eq_some_iff.1 h.box).1
 refine⟨h1,h.offs.wr h.new h2,h.new.trans h3 h.offs.size,(h2.block bx hlt (fun hX=> ?_)).trans h.box,h.nx,fun e=> ?_⟩
 ·rcases hX with hX|hX
  ·exact h.nx hX
  ·exact h.nv hX
 ·rcases h3 bx e with h'|h'
  ·exact h.nv h'
  ·omega
theorem WSt.drew(h:WSt x B v w bx L u vu):WSt x B v w bx L u.drew vu:=
 h.step (h.wr.since ((Below.refl _ _).drew)) (Off.drew (Off.refl _ _)) (NewAt.refl _ _)
theorem WSt.win(h:WSt x B v w bx L u vu){g off:Nat}{cs:List Value}(hw:dm w g off cs)(hn:¬ WX x v g):dm u g off cs:=hw.stays h.offs hn
theorem WSt.done(h:WSt x B v w bx L u vu){L0 l:List UInt8}{o:Out}{val:Value}(hl:L=L0++l)(ho:o=.ok l):di x B v L0 o val w (.returned val) u:=
 .inl ⟨l,vu,ho,rfl,by rw[←hl];exact h.wr,h.offs,h.new⟩
theorem WSt.fails(h:WSt x B v w bx L u vu){u':World}(h2:Off (WX x vu) u u'){L0:List UInt8}{o:Out}{er:Int}{val:Value}(ho:o=.no er):
 di x B v L0 o val w (.panicked [{v:=.iface 30 (.int .i64 er),recovered:=false}]) u':=
 .inr ⟨er,ho,rfl,h.offs.wr h.new h2⟩
end
end Go.Proofs.YthjdeoppajlcoaaGreatDoor

namespace Go.Proofs.YthjdeoppajlcoaaGreatDoor
set_option linter.unusedSimpArgs false
set_option linter.unusedVariables false
set_option maxRecDepth 100000
open Go.RowKit (wrap64 intOf Below Hid)
attribute [local go_sem ↓] Go.wp_at_zero Go.wp_at_succ
open Go.Lib (hid)
theorem aj.numsO{w:World}{B:Nat}{v:Value}{Z:List Int}(h:aj w B 3 v Z)(hl:Z.length*8≤140737488351232)(hr:∀ z∈Z,InR z):eH w (From B) v Z:=
 ⟨h.mono (Nat.zero_le _),fun b hb=>(h.lt b hb).1,hl,hr⟩
def G6(Z:List Int)(w:World)(e:Ending)(w':World):Prop:=∃ va vn vc,e=.returned (.slice va vn vc)∧eH w' (From w.heap.size) (.slice va vn vc) Z∧Below w.heap.size w w'
theorem mP(a:Option Addr)(n c:Nat)(Z:List Int)(w:World)(h:lm w (.slice a n c) Z):
 Calls Tryz.prog 113 #[.slice a n c] w (G6 Z w):=by
 obtain⟨a',n',c',he,hat,hnil,hn,hr⟩:=h
 cases he
 have HA:=hid hat
 have HZ:=hid hat.1
 have HN:=hid hnil
 have HR:=hid hr
 clear hat hnil hr
 go_enter Tryz.func113,Tryz.ntmps113
 go_wp2_with(at_builtin;refine bQ _ rfl _ _ 40 rfl 3 Tryz.underlying40 aT w.heap.size (.slice none 0 0) [] rfl (World.ownsRow_nil _ _ _ 1) (Nat.le_refl _) a n c Z rfl HN.out HA.out (by simp;omega) ?_;intro va vn vc w2 hown hb;have HO:=hid hown;have HB:=hid hb;clear hown hb)
 go_ret
 exact⟨va,vn,vc,rfl,aj.numsO HO.out (by rw[HZ.out];exact hn) HR.out,HB.out⟩
def SigPost(y:wC)(w:World)(e:Ending)(w':World):Prop:=∃ va vn vc,e=.returned (.agg #[.slice va vn vc,.int .i64 y.ret])∧qK w' (From w.heap.size) [.slice va vn vc,.int .i64 y.ret] y∧Below w.heap.size w w'
structure qJ(w:World)(C0 C1:Array Value)(u:World):Prop where
 bel:Below w.heap.size w u
 c0:∀ j,u.cell? ⟨w.heap.size,j,none⟩=C0[j]?
 c1:∀ j,u.cell? ⟨w.heap.size+1,j,none⟩=C1[j]?
 f0:∀ j,u.frozen? ⟨w.heap.size,j,none⟩=false
 f1:∀ j,u.frozen? ⟨w.heap.size+1,j,none⟩=false
 size:w.heap.size+2≤u.heap.size
theorem qJ.start(w:World)(C0 C1:Array Value)(t0 t1:TypeId):qJ w C0 C1 ((w.alloc (.cells C0 t0)).alloc (.cells C1 t1)).drew:=by
 have h:=rW (C0:=C0) (C1:=C1) (t0:=t0) (t1:=t1) (show Below (w.heap.size+2) ((w.alloc (.cells C0 t0)).alloc (.cells C1 t1)) ((w.alloc (.cells C0 t0)).alloc (.cells C1 t1)).drew from(Below.refl _ _).drew)
 exact⟨(((Below.refl _ _).alloc (Nat.le_refl _) _).alloc (by simp) _).drew,h.1,h.2.1,h.2.2.1,h.2.2.2,by simp[World.drew]⟩
theorem qJ.step{w:World}{C0 C1:Array Value}{u u':World}(h:qJ w C0 C1 u)(hb:Below u.heap.size u u'):qJ w C0 C1 u':=by
 have hs:=h.size
 exact⟨kH h.bel hb,fun j=>(hb.cell (p:=⟨w.heap.size,j,none⟩) (by simp;omega)).trans (h.c0 j),fun j=>(hb.cell (p:=⟨w.heap.size+1,j,none⟩) (by simp;omega)).trans (h.c1 j),fun j=>(hb.frozen (p:=⟨w.heap.size,j,none⟩) (by simp;omega)).trans (h.f0 j),fun j=>(hb.frozen (p:=⟨w.heap.size+1,j,none⟩) (by simp;omega)).trans (h.f1 j),Nat.le_trans hs hb.size⟩
theorem eH.first{w u:World}{v:Value}{Z:List Int}{C0 C1:Array Value}(hl:qJ w C0 C1 u){u':World}(h:eH u' (From u.heap.size) v Z):eH u' (From (w.heap.size+2)) v Z:=
 h.wider (fun b _ hb=>Nat.le_trans hl.size hb)
theorem eH.past{n:Nat}{u u':World}{v:Value}{Z:List Int}(h:eH u (From (n+2)) v Z)(ho:Off (fun b=>b=n+1) u u'):eH u' (From n) v Z:=
 (h.off ho (fun b hb e=>by have:n+2≤b:=hb;omega)).wider (fun b _ hb=>Nat.le_trans (by omega) hb)
theorem BQ(a:Option Addr)(n c:Nat)(y:wC)(w:World)(h:Cf w [.slice a n c,.int .i64 y.ret] y):
 Calls Tryz.prog 79 #[.agg #[.slice a n c,.int .i64 y.ret]] w (SigPost y w):=by
 obtain⟨p,he,hp,hr⟩:=h
 cases he
 have hl0:=qJ.start w #[.slice a n c,.int .i64 y.ret] #[.slice none 0 0,.int .i64 0] 60 60
 have HL0:=hid hl0
 have HP:=hid (hp.since hl0.bel)
 have HR:=hid hr
 clear hp hr hl0
 go_enter Tryz.func79,Tryz.ntmps79
 go_wp2_with fail
 go_region_held3 (fun u=>u.cell? ⟨w.heap.size,0,none⟩=some (.slice a n c)∧u.cell? ⟨w.heap.size,1,none⟩=some (.int .i64 y.ret)) (first|(exact⟨by simp,by simp⟩)|exact⟨hc0 0,hc0 1⟩|go_keep)
  (first|(go_at_call 113;(with_reducible refine(mP a n c y.params _ HP.out).mono ?_);rintro e w1 ⟨va,vn,vc,rfl,hn1,hb1⟩;have hl1:=HL0.out.step hb1;have hn2:=hn1.first HL0.out;have hc0:=hl1.c0;have hc1:=hl1.c1;have hf1:=hl1.f1))
 all_goals
  have HN:=hid hn2
  have HL:=hid hl1
  clear hn1 hn2 hl1
  go_wp2_with fail
  refine bodyPost_ret (v:=.agg #[.slice va vn vc,.int .i64 y.ret]) (by simp[results,Tryz.results79,go_sem,hc1]) rfl ⟨va,vn,vc,rfl,⟨_,rfl,HN.out.past (((Off.refl (fun b=>b=w.heap.size+1) _).setCell (.inl rfl) _).setCell (.inl rfl) _),HR.out⟩,(HL.out.bel.setCell (by simp) _).setCell (by simp) _⟩
def Fe(y:iE)(w:World)(e:Ending)(w':World):Prop:=∃ va vn vc ua un uc,e=.returned (.agg #[.slice va vn vc,.slice ua un uc])∧fD w' (From w.heap.size) [.slice va vn vc,.slice ua un uc] y∧Below w.heap.size w w'
theorem vR(a b:Option Addr)(n c m d:Nat)(y:iE)(w:World)(h:jy w [.slice a n c,.slice b m d] y):
 Calls Tryz.prog 81 #[.agg #[.slice a n c,.slice b m d]] w (Fe y w):=by
 obtain⟨p,q,he,hp,hq⟩:=h
 cases he
 have hl0:=qJ.start w #[.slice a n c,.slice b m d] #[.slice none 0 0,.slice none 0 0] 62 62
 have HL0:=hid hl0
 have HP:=hid (hp.since hl0.bel)
 have HQ:=hid (hq.since hl0.bel)
 clear hp hq hl0
 go_enter Tryz.func81,Tryz.ntmps81
 go_wp2_with fail
 go_region_held3 (fun u=>u.cell? ⟨w.heap.size,0,none⟩=some (.slice a n c)∧u.cell? ⟨w.heap.size,1,none⟩=some (.slice b m d)) (first|(exact⟨by simp,by simp⟩)|exact⟨hd0 0,hd0 1⟩|exact⟨hc0 0,hc0 1⟩|go_keep)
  (first
    |(go_at_call 113;(with_reducible refine(mP a n c y.fields _ HP.out).mono ?_);rintro e w1 ⟨va,vn,vc,rfl,hn1,hb1⟩;have hl1:=HL0.out.step hb1;have hn2:=hn1.first HL0.out;have hc0:=hl1.c0;have hq1:=HQ.out.since hb1)
    |(go_at_call 113;(with_reducible refine(mP b m d y.methods _ hq1).mono ?_);rintro e w2 ⟨ua,un,uc,rfl,hm1,hb2⟩;have hl2:=hl1.step hb2;have hm2:=hm1.first hl1;have hn3:=hn2.off (X:=fun _=>False) (Off.since hb2) (fun _ _ h=>h);have hd0:=hl2.c0;have hc1:=hl2.c1;have hf1:=hl2.f1))
 all_goals
  have HN:=hid hn3
  have HM:=hid hm2
  have HL:=hid hl2
  clear hn1 hn2 hn3 hm1 hm2 hl1 hl2 hq1 hc0
  go_wp2_with fail
  refine bodyPost_ret (v:=.agg #[.slice va vn vc,.slice ua un uc]) (by simp[results,Tryz.results81,go_sem,hc1]) rfl ⟨va,vn,vc,ua,un,uc,rfl,⟨_,_,rfl,HN.out.past (((Off.refl (fun b=>b=w.heap.size+1) _).setCell (.inl rfl) _).setCell (.inl rfl) _),HM.out.past (((Off.refl (fun b=>b=w.heap.size+1) _).setCell (.inl rfl) _).setCell (.inl rfl) _)⟩,(HL.out.bel.setCell (by simp) _).setCell (by simp) _⟩
end Go.Proofs.YthjdeoppajlcoaaGreatDoor

namespace Go.Proofs.YthjdeoppajlcoaaGreatDoor
set_option linter.unusedSimpArgs false
set_option linter.unusedVariables false
open Go.RowKit (wrap64 intOf Below)
theorem nR(f:ak)(hv:aV f≤1099511627776):∀ i:Nat,i≤f.blocks.length→fZ (f.blocks.take i)=((aL f i:Nat):Int)
 |0,_=>by simp[fZ,aL]
 |i+1,h=>by
  have ih:=nR f hv i (by omega)
  have h1:=gQ (show i<f.blocks.length from h)
  have h2:=je f (i+1)
  rw[mh _ _ (show i<f.blocks.length from h),ih,h1]
  unfold wrap64
  omega
theorem qz(f:ak)(hv:aV f≤1099511627776)(i:Nat):gy f (i:Int)=((aL f i:Nat):Int):=by
 unfold gy
 rw[Int.toNat_natCast]
 by_cases h:i≤f.blocks.length
 ·exact nR f hv i h
 ·have e1:f.blocks.take i=f.blocks.take f.blocks.length:=by rw[List.take_of_length_le (by omega),List.take_of_length_le (Nat.le_refl _)]
  rw[e1,nR f hv _ (Nat.le_refl _)]
  unfold aL
  rw[e1]
theorem oD(f:ak)(hv:aV f≤1099511627776):valuesOf f=((aV f:Nat):Int):=qz f hv _
theorem jc{w:World}{r:Int}{a:Option Addr}{n c:Nat}{f:ak}(h:bO w [.int .i64 r,.slice a n c] f):gG aM 8 w (.slice a n c) f.blocks∧n=f.blocks.length:=by
 obtain⟨b,he,_,hb⟩:=h
 simp only[List.cons.injEq,Value.int.injEq,true_and,and_true]at he
 obtain⟨_,rfl⟩:=he
 refine⟨hb, ?_⟩
 obtain⟨_,_,_,e,hl,_⟩:=hb
 cases e
 exact hl.symm
end Go.Proofs.YthjdeoppajlcoaaGreatDoor
