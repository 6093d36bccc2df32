/- Layer 5, plain: which bytes a program is, or why none (P5.1, P5.2). Nothing of the program is named here. -/
import Derived.Test.YthjdeoppajlcoaaGreatDoorYT0

namespace Go.Proofs.YthjdeoppajlcoaaGreatDoor
set_option linter.unusedVariables false
inductive Out where
 |ok (l:List UInt8)
 |no (e:Int)
def Out.and:Out→Out→Out
 | .no e,_=>.no e
 | .ok _,.no e=>.no e
 | .ok l,.ok m=>.ok (l++m)
@[simp] theorem Out.no_and (e : Int) (b : Out) : (Out.no e).and b = .no e := by cases b <;> rfl
theorem Out.ok_no(l:List UInt8)(e:Int):(Out.ok l).and (.no e)=.no e:=rfl
theorem Out.ok_ok(l m:List UInt8):(Out.ok l).and (.ok m)=.ok (l++m):=rfl
@[simp] theorem Out.nil_and (b : Out) : (Out.ok []).and b = b := by cases b <;> rfl
@[simp] theorem Out.and_nil (a : Out) : a.and (.ok []) = a := by cases a <;> simp [Out.and]
theorem Out.and_assoc(a b c:Out):(a.and b).and c=a.and (b.and c):=by
 cases a<;>cases b<;>cases c<;>simp[Out.and]
def chk(b:Bool)(e:Int):Out:=if b then .ok []else .no e
def kI(z:Int):Out:=.ok (dU z)
def bT{α:Type}(f:α→Out):List α→Out
 | []=>.ok []
 |x::r=>(f x).and (bT f r)
theorem kg{α:Type}(f:α→Out):∀ a b:List α,bT f (a++b)=(bT f a).and (bT f b)
 | [],b=>by simp[bT]
 |x::a,b=>by simp[bT,kg f a b,Out.and_assoc]
theorem fJ{α:Type}(f:α→Out)(xs:List α)(k:Nat)(h:k<xs.length):bT f (xs.take (k+1))=(bT f (xs.take k)).and (f xs[k]):=by
 rw[List.take_succ_eq_append_getElem h,kg]
 simp[bT]
theorem jf{α:Type}{f:α→Out}{xs:List α}{k:Nat}(h:k<xs.length){l:List UInt8}{e:Int}(h1:bT f (xs.take k)=.ok l)(h2:f xs[k]=.no e):bT f xs=.no e:=by
 conv=>lhs;rw[←List.take_append_drop k xs]
 rw[kg,h1,List.drop_eq_getElem_cons h]
 simp[bT,h2,Out.ok_no]
def jZ(n most:Nat):Out:=(kI n).and (chk (decide (n≤most)) 2)
def aH{α:Type}(most:Nat)(f:α→Out)(xs:List α):Out:=(jZ xs.length most).and (bT f xs)
def dz(most:Nat)(Z:List Int):Out:=aH most kI Z
def FV(s:ByteArray):List UInt8:=dU (s.size:Int)++s.data.toList
def dV(o:OpD)(f:UInt8):Out:=
 if f=78 then kI o.N else if f=83 then(chk (decide (o.S.size≤64)) 2).and (.ok (FV o.S))else if f=65 then kI o.A else if f=66 then kI o.B else if f=67 then kI o.C else
 if f=76 then dz 8 o.L else kI (if o.T then 1 else 0)
def inB(n bound:Int):Bool:=decide (0≤n∧n<bound)
def eX(n bound:Int):Out:=(kI n).and (chk (inB n bound) 4)
theorem iA{n bound:Int}(h0:0≤n)(h1:n<bound):eX n bound=.ok (dU n):=by
 unfold eX inB;rw[decide_eq_true ⟨h0,h1⟩];exact Out.and_nil _
theorem j3{n bound:Int}(h:n<0∨bound≤n):eX n bound=.no 4:=by
 unfold eX inB;rw[decide_eq_false (by omega)];rfl
theorem dY{n most:Nat}(h:n≤most):jZ n most=.ok (dU n):=by
 unfold jZ;rw[decide_eq_true h];exact Out.and_nil _
theorem fH{n most:Nat}(h:most<n):jZ n most=.no 2:=by
 unfold jZ;rw[decide_eq_false (by omega)];rfl
def nK(o:OpD):Out:=(eX o.K 26).and (bT (dV o) (av o.K))
def nY(e:mV):Out:=
 if e.K=0 then(kI e.To).and (dz 8 e.L)else if e.K=1 then(kI e.A).and ((kI e.To).and ((dz 8 e.L).and ((kI e.Else).and (dz 8 e.M))))else kI e.A
def kD(e:mV):Out:=(eX e.K 4).and (nY e)
def gF(b:dD):Out:=(dz 8 b.params).and ((aH 700 nK b.ops).and (kD b.fin))
def j6(f:ak):Out:=(kI f.ret).and (aH 40 gF f.blocks)
def nJ(s:wC):Out:=(dz 8 s.params).and (kI s.ret)
def ic(c:iE):Out:=(dz 8 c.fields).and (dz 4 c.methods)
def cK(p:aB):Out:=(aH 4 nJ p.sigs).and ((aH 8 ic p.classes).and (aH 16 j6 p.funcs))
def bJ(o:Out)(n:Nat):Prop:=∀ l,o=.ok l→l.length≤n
theorem bJ.and{a b:Out}{n m:Nat}(h1:bJ a n)(h2:bJ b m):bJ (a.and b) (n+m):=by
 intro l h
 cases a with
 |no e=>simp at h
 |ok x=>
  cases b with
  |no e=>simp[Out.and]at h
  |ok y=>
   simp only[Out.and,Out.ok.injEq]at h
   subst h
   have:=h1 x rfl
   have:=h2 y rfl
   simp;omega
theorem bJ.mono{a:Out}{n m:Nat}(h:bJ a n)(hm:n≤m):bJ a m:=fun l hl=>Nat.le_trans (h l hl) hm
theorem bJ.check(b:Bool)(e:Int):bJ (chk b e) 0:=by
 intro l h
 unfold chk at h
 split at h
 ·simp only[Out.ok.injEq]at h;subst h;simp
 ·cases h
theorem bJ.num(z:Int):bJ (kI z) 10:=by
 intro l h
 simp only[kI,Out.ok.injEq]at h
 subst h
 exact dn z
theorem bJ.all{α:Type}{f:α→Out}{n:Nat}:∀ (xs:List α),(∀x∈xs,bJ (f x) n)→bJ (bT f xs) (xs.length*n)
 | [],_=>by intro l h;simp only[bT,Out.ok.injEq]at h;subst h;simp
 |x::xs,h=>by
  have h1:=(h x (by simp)).and (bJ.all xs (fun y hy=>h y (by simp[hy])))
  simp only[bT]
  exact h1.mono (by simp only[List.length_cons,Nat.succ_mul];omega)
theorem bJ.list{α:Type}{f:α→Out}{n most:Nat}(xs:List α)(h:∀ x∈xs,bJ (f x) n):bJ (aH most f xs) (10+most*n):=by
 unfold aH
 by_cases hm:xs.length≤most
 ·refine(((bJ.num _).and (bJ.check _ _)).and (bJ.all xs h)).mono ?_
  have:xs.length*n≤most*n:=Nat.mul_le_mul_right _ hm
  omega
 ·intro l hl
  simp only[jZ,chk,decide_eq_true_eq,if_neg hm,kI,Out.and]at hl
  cases hl
theorem bJ.nums(most:Nat)(Z:List Int):bJ (dz most Z) (10+most*10):=bJ.list Z (fun z _=>bJ.num z)
theorem vM(K:Int):(av K).length≤3:=by
 unfold av
 repeat (first|(split;· decide)|decide)
theorem bJ.op(o:OpD):bJ (nK o) 300:=by
 unfold nK eX
 refine(((bJ.num _).and (bJ.check _ _)).and (bJ.all (n:=90) _ fun f _=> ?_)).mono (by have:=vM o.K;omega)
 unfold dV
 repeat' split
 ·exact(bJ.num _).mono (by omega)
 ·by_cases hs:o.S.size≤64
  ·refine((bJ.check _ _).and (b:=.ok (FV o.S)) (m:=90) ?_).mono (by omega)
   intro l h
   simp only[Out.ok.injEq]at h
   subst h
   have:=dn (o.S.size:Int)
   have hl:o.S.data.toList.length=o.S.size:=by rw[Array.length_toList];rfl
   simp only[FV,List.length_append,hl]
   omega
  ·intro l h
   simp only[chk,hs,decide_false,Bool.false_eq_true,if_false,Out.no_and]at h
   cases h
 ·exact(bJ.num _).mono (by omega)
 ·exact(bJ.num _).mono (by omega)
 ·exact(bJ.num _).mono (by omega)
 ·exact(bJ.nums _ _).mono (by omega)
 all_goals exact(bJ.num _).mono (by omega)
theorem bJ.fin(e:mV):bJ (kD e) 300:=by
 unfold kD nY eX
 refine(((bJ.num _).and (bJ.check _ _)).and (m:=280) ?_).mono (by omega)
 repeat' split
 ·exact((bJ.num _).and (bJ.nums _ _)).mono (by omega)
 ·exact((bJ.num _).and ((bJ.num _).and ((bJ.nums _ _).and ((bJ.num _).and (bJ.nums _ _))))).mono (by omega)
 ·exact(bJ.num _).mono (by omega)
theorem bJ.block(b:dD):bJ (gF b) 220000:=((bJ.nums _ _).and ((bJ.list _ fun o _=>bJ.op o).and (bJ.fin _))).mono (by omega)
theorem bJ.func(f:ak):bJ (j6 f) 9000000:=((bJ.num _).and (bJ.list _ fun b _=>bJ.block b)).mono (by omega)
theorem bJ.sig(s:wC):bJ (nJ s) 200:=((bJ.nums _ _).and (bJ.num _)).mono (by omega)
theorem bJ.cls(c:iE):bJ (ic c) 200:=((bJ.nums _ _).and (bJ.nums _ _)).mono (by omega)
theorem bJ.prog(p:aB):bJ (cK p) 200000000:=((bJ.list _ fun s _=>bJ.sig s).and ((bJ.list _ fun s _=>bJ.cls s).and (bJ.list _ fun s _=>bJ.func s))).mono (by omega)
def gZ(e:mV):mV:=
 if e.K=0 then⟨e.K,0,e.To,0,e.L,[]⟩else if e.K=1 then e else if e.K=2∨e.K=3 then⟨e.K,e.A,0,0,[],[]⟩else⟨e.K,0,0,0,[],[]⟩
def jW(o:OpD):OpD:=
 ⟨o.K,jk (hasB o.K 65) o.A,jk (hasB o.K 66) o.B,jk (hasB o.K 67) o.C,jk (hasB o.K 78) o.N,uS (hasB o.K 83) o.S,dA (hasB o.K 76) o.L,hasB o.K 75&&o.T⟩
def eU(b:dD):dD:=⟨b.params,b.ops.map jW,gZ b.fin⟩
def plainFunc(f:ak):ak:=⟨f.ret,f.blocks.map eU⟩
def dJ(p:aB):aB:=⟨p.sigs,p.classes,p.funcs.map plainFunc⟩
def tV(b:dD):Prop:=b.ops.length≤100000
def zP(f:ak):Prop:=f.blocks.length≤100000∧∀ b∈f.blocks,tV b
def wz(p:aB):Prop:=p.sigs.length≤100000∧p.classes.length≤100000∧p.funcs.length≤100000∧∀ f∈p.funcs,zP f
end Go.Proofs.YthjdeoppajlcoaaGreatDoor
