/- Layer 2 plain: how a text is quoted (P2.2) byte by byte on lists of bytes -/
import Derived.Lib.Bytealg
import Derived.Lib.Strings
import Derived.WalkKit
import Derived.ProofKit
import Derived.Laws.AppendOwn
import Derived.Laws.MakeOwn
import Derived.Laws.IdiomStrings
import Derived.Below
import Derived.Deep.AppendLies
import Derived.OpenShut
import Derived.Laws.AppendOwnNone
import Derived.SizedLaws
import Derived.Deep.QuietTactic
import Derived.BigQuiet
import Derived.Laws.Slices
import Derived.Lib.SmallJoins
import Derived.Test.YthjdeoppajlcoaaGreatDoorRows
import Derived.Lib.Hide
import Derived.Outline
import Derived.Handy
import Derived.RangeFuncNested
import Derived.Shelf.Abstract
import Derived.Shelf.RegionOpen
import Derived.RangeFuncBound
import Derived.RangeFuncCalls
import Derived.RangeFuncLeaves
import Derived.OwnWalkIn
import Derived.TacticsInMore
import Derived.LoopNIn
import Derived.LoopIn
import Derived.Maps.AppendAt
import Derived.RangeFuncBox
import Derived.OrdersIn
import Derived.Orders
import Derived.Deep.RegionHeld
import Derived.Scope
import Derived.ControlIn
import Derived.RangeFuncIn
import Derived.Laws.Bits64b
import Derived.Deep.RegionHeld3
import Derived.Lib.AppendStr
namespace Go.Proofs.YthjdeoppajlcoaaGreatDoor
universe u
theorem zA {α : Type u} (l : List α) (i : Nat) (a : α) : l.toArray.setIfInBounds i a = (l.set i a).toArray := List.setIfInBounds_toArray ..
theorem zB {α : Type u} (x a : α) (l : List α) : (x :: l).set 0 a = a :: l := rfl
theorem zC {α : Type u} (x a : α) (l : List α) (n : Nat) : (x :: l).set (n + 1) a = x :: l.set n a := rfl
end Go.Proofs.YthjdeoppajlcoaaGreatDoor

namespace Go.Proofs.YthjdeoppajlcoaaGreatDoor
set_option linter.unusedVariables false
def mk(l:List UInt8):ByteArray:=⟨l.toArray⟩
theorem Dy(l:List UInt8):(mk l).data.toList=l:=by simp[mk]
theorem mk_of(s:ByteArray):mk s.data.toList=s:=by unfold mk;rw[Array.toArray_toList]
theorem mF(l:List UInt8):(mk l).size=l.length:=by simp[mk,ByteArray.size]
theorem nG(s:ByteArray):s.data.toList.length=s.size:=by rw[Array.length_toList];rfl
theorem DX(s:ByteArray)(k:Nat)(h:k<s.size):s.data.toList[k]? =some s[k]:=by
 rw[List.getElem?_eq_getElem (by rw[nG];exact h)];rfl
def kF(o:Oper):Bool:=
 match o.op with
 | .move _| .assign _| .alloc _| .box _ _| .build _ _| .buildSlice _ _ _| .load _ _| .store _ _ _| .fieldAddr _ _ _| .indexAddr _ _ _| .slice _ _ _ _ _| .binOp _ _ _ _ _| .nilCheck _=>true
 | .call c=>(match c.callee with| .builtin .append=>true| .builtin .len=>true|_=>false)
 |_=>false
section
variable {F : Fence} {n : Nat} {P : Program} {ops : Array Oper} {Q : Exit → Act → World → Prop} {md : Region.Mode}
theorem Av{s:Sem Value}{w:World}:(∃v w',(do let x←s;pure (Next.value x):Sem Next).run P w=.ok (.value v) w'∧s.run P w=.ok v w')∨(∃h w',(do let x←s;pure (Next.value x):Sem Next).run P w=.halt h w'):=by
 rw[Sem.run_bind]
 cases h:s.run P w with
 |ok v w'=>exact .inl ⟨v,w',by simp[Result.andThen,Sem.run_pure],rfl⟩
 |halt x w'=>exact .inr ⟨x,w',by simp[Result.andThen]⟩
theorem uN{s:Sem Next}{w:World}(h:∀ (x:Next) w',s.run P w=.ok x w'→∃ v,x=.value v):(∃v w',s.run P w=.ok (.value v) w')∨(∃w',s.run P w=.ok .skip w')∨(∃x w',s.run P w=.halt x w'):=by
 cases e:s.run P w with
 |ok x w'=>obtain⟨v,rfl⟩:=h x w' e;exact .inl ⟨v,w',rfl⟩
 |halt x w'=>exact .inr (.inr ⟨x,w',rfl⟩)
theorem lT{α:Type}{m:Sem α}{k:α→Sem Next}(hk:∀ a w (x:Next) w',(k a).run P w=.ok x w'→∃ v,x=.value v)(w:World)(x:Next)(w':World)(h:(m >>= k).run P w=.ok x w'):∃ v,x=.value v:=by
 rw[Sem.run_bind]at h
 cases e:m.run P w with
 |ok a u=>rw[e]at h;exact hk a u x w' h
 |halt y u=>rw[e]at h;cases h
theorem lK{v:Value}(w:World)(x:Next)(w':World)(h:(pure (Next.value v):Sem Next).run P w=.ok x w'):∃ v,x=.value v:=by
 rw[Sem.run_pure]at h
 cases h
 exact⟨_,rfl⟩
theorem jY(w:World)(x:Next)(w':World)(h:(runtimePanic .nilDeref:Sem Next).run P w=.ok x w'):∃ v,x=.value v:=by
 unfold runtimePanic at h
 refine lT (fun p u y u' h=> ?_) w x w' h
 exact absurd h (by simp only;intro h;cases h)
theorem EO{o:Oper}(h:kF o=true)(ρ:Operand→Value)(w:World):
 (∃v w',(execOp ρ o).run P w=.ok (.value v) w')∨(∃w',(execOp ρ o).run P w=.ok .skip w')∨(∃x w',(execOp ρ o).run P w=.halt x w'):=by
 have val:∀ s:Sem Value,(∃v w',(do let x←s;pure (Next.value x):Sem Next).run P w=.ok (.value v) w')∨(∃w',(do let x←s;pure (Next.value x):Sem Next).run P w=.ok .skip w')∨(∃x w',(do let x←s;pure (Next.value x):Sem Next).run P w=.halt x w'):=fun s=>by
  rcases Av (P:=P) (s:=s) (w:=w)with⟨v,w',h,_⟩|⟨x,w',h⟩
  ·exact .inl ⟨v,w',h⟩
  ·exact .inr (.inr ⟨x,w',h⟩)
 have uni:∀ s:Sem Unit,(∃v w',(do s;pure Next.skip:Sem Next).run P w=.ok (.value v) w')∨(∃w',(do s;pure Next.skip:Sem Next).run P w=.ok .skip w')∨(∃x w',(do s;pure Next.skip:Sem Next).run P w=.halt x w'):=fun s=>by
  rw[Sem.run_bind]
  cases h:s.run P w with
  |ok v w'=>exact .inr (.inl ⟨w',by simp[Result.andThen,Sem.run_pure]⟩)
  |halt x w'=>exact .inr (.inr ⟨x,w',by simp[Result.andThen]⟩)
 unfold kF at h
 unfold execOp
 cases hop:o.op<;>simp only[hop]at h⊢ <;>first
  |exact val _
  |exact uni _
  |exact .inl ⟨_,_,Sem.run_pure _ _ _⟩
  |(cases h;done)
  |skip
 case nilCheck y=>
  refine uN fun r w' e=> ?_
  split at e
  ·exact jY _ _ _ e
  ·exact jY _ _ _ e
  ·exact jY _ _ _ e
  ·split at e
   ·exact jY _ _ _ e
   ·refine lT (fun p u y u' h=> ?_) _ _ _ e
    refine lT (fun p u y u' h=> ?_) _ _ _ h
    split at h
    ·exact lT (fun p u y u' h=>lK _ _ _ h) _ _ _ h
    ·exact lK _ _ _ h
   ·exact lK _ _ _ e
  ·exact lK _ _ _ e
 case call c=>
  split at h
  ·rename_i hc
   unfold resolve
   simp only[hc,Sem.run_bind,Sem.run_pure,Result.andThen_ok,invoke]
   unfold builtin
   first|exact val _|skip
  ·rename_i hc
   unfold resolve
   simp only[hc,Sem.run_bind,Sem.run_pure,Result.andThen_ok,invoke]
   unfold builtin
   first|exact val _|skip
  ·cases h
theorem rX{o:Oper}(h:kF o=true)(ρ:Operand→Value)(w:World):o.about P w ρ=none:=by
 unfold kF at h
 unfold Oper.about
 cases hop:o.op<;>simp only[hop]at h⊢
 rename_i c
 unfold resolve
 split at h
 ·rename_i hc
  simp only[hc,Sem.run_pure]
  rfl
 ·rename_i hc
  simp only[hc,Sem.run_pure]
  rfl
 ·cases h
theorem BX{o:Oper}(h:kF o=true):∀ c,o.op≠.defer c:=by
 intro c e
 unfold kF at h
 rw[e]at h
 cases h
theorem calm_op{o:Oper}(h:kF o=true)(hQ:¬ LetsOut Q){a:Act}{w:World}{K:Act→World→Prop}(hw:o.wp P a w K Q∨(o.asks P a w∧LetsOut Q)):o.wpIn F n P a w K Q:=by
 rcases hw with hw|hw
 ·refine⟨fun f hf=>(by rw[rX h]at hf;exact nomatch hf), ?_⟩
  rw[Oper.semAt_plain F _ _ (BX h)]
  unfold Oper.wp at hw
  rcases EO (P:=P) h a.eval w with⟨v,w',e⟩|⟨w',e⟩|⟨x,w',e⟩
  ·rw[e]at hw ⊢;exact hw
  ·rw[e]at hw ⊢;exact hw
  ·rw[e]at hw⊢
   cases x<;>exact hw
 ·exact absurd hw.2 hQ
theorem pE(hc:∀ (i:Nat) (o:Oper),ops[i]? =some o→kF o=true)(hQ:¬ LetsOut Q):∀ (fuel:Nat) (listed:Array Bool) (a:Act) (w:World),wpAny P md ops Q fuel listed a w→wpAnyIn F n P md ops Q fuel listed a w
 |0,_,_,_,h=>h
 |fuel+1,_,_,_,h=>⟨h.1,fun i hi=>by
  have h1:=h.2 i hi
  unfold wpOp at h1
  unfold wpOpIn
  cases ho:ops[i]? with
  |none=>simp only[ho]at h1 ⊢;exact pE hc hQ fuel _ _ _ h1
  |some o=>
   simp only[ho]at h1⊢
   split at h1
   ·rename_i hw
    rw[if_pos hw]
    exact Oper.wpIn_mono (fun a' w' h'=>pE hc hQ fuel _ a' w' h') (calm_op (hc i o ho) hQ h1)
   ·rename_i hw
    rw[if_neg hw]
    exact⟨fun f hf=>(by rw[rX (hc i o ho)]at hf;exact nomatch hf),pE hc hQ fuel _ _ _ h1⟩⟩
theorem GK(h:ops.all kF=true):∀ (i:Nat) (o:Oper),ops[i]? =some o→kF o=true:=by
 intro i o ho
 obtain⟨hi,rfl⟩:=Array.getElem?_eq_some_iff.1 ho
 exact Array.all_eq_true.1 h i hi
theorem ku{id:Nat}{a:Act}{w:World}(hm:P.follows .mixedOrders=true)(hc:ops.all kF=true)(hQ:¬ LetsOut Q)
 (h:wpAny P .any ops Q ops.size (Array.replicate ops.size false) a w.drew):(Code.region id ops true).wpIn F n P Q a w:=
 wpIn_region_any hm (pE (GK hc) hQ _ _ _ _ h)
end
section
variable {P : Program} {ops : Array Oper} {Q : Exit → Act → World → Prop} {md : Region.Mode} {S : World → Prop} {z : Nat}
def kC(P:Program)(md:Region.Mode)(ops:Array Oper)(Q:Exit→Act→World→Prop)(S:World→Prop)(z:Nat):Nat→Array Bool→Act→World→Prop
 |0,listed,a,w=>Region.ready md ops listed=[]∧Q .normal a w
 |fuel+1,listed,a,w=>
  (Region.ready md ops listed=[]→Q .normal a w)∧
  ∀i∈Region.ready md ops listed,wpOp P ops Q i (fun a' w'=>(i≠z→S w')∧kC P md ops Q S z fuel (listed.setIfInBounds i true) a' w') a w
theorem fO:∀ (fuel:Nat) (listed:Array Bool) (a:Act) (w:World),kC P md ops Q S z fuel listed a w→wpAny P md ops Q fuel listed a w
 |0,_,_,_,h=>h
 |fuel+1,_,_,_,h=>⟨h.1,fun i hi=>wpOp_mono (fun a' w' h'=>fO fuel _ a' w' h'.2) (h.2 i hi)⟩
def waits(md:Region.Mode)(ops:Array Oper)(z i:Nat):Bool:=((ops[z]?).map fun o=>o.after.any fun e=>Region.binds md e&&e.on==i).getD false
theorem rq{i:Nat}(h:waits md ops z i=true):∃ o,ops[z]? =some o∧∃ e∈o.after,Region.binds md e=true∧e.on=i:=by
 unfold waits at h
 cases ho:ops[z]? with
 |none=>simp[ho]at h
 |some o=>
  simp only[ho,Option.map_some,Option.getD_some,Array.any_eq_true,Bool.and_eq_true,beq_iff_eq]at h
  obtain⟨k,hk,h1,h2⟩:=h
  exact⟨o,rfl,o.after[k],Array.getElem_mem hk,h1,h2⟩
theorem F7{i:Nat}{listed:Array Bool}(hw:waits md ops z i=true)(hi:listed.getD i true=false):z∉Region.ready md ops listed:=by
 intro hz
 obtain⟨o,ho,e,he,hb,rfl⟩:=rq hw
 obtain⟨_,o',ho',hall⟩:=mem_ready.1 hz
 rw[ho]at ho'
 cases ho'
 have h1:=hall e he hb
 rcases Nat.lt_or_ge e.on listed.size with h'|h'
 ·simp[h']at hi h1;rw[hi]at h1;cases h1
 ·simp[Array.getElem?_eq_none h']at h1
theorem uy{i:Nat}{oi:Oper}{v:Value}(hi:ops[i]? =some oi)(hsel:∀ (j:Nat) (o:Oper) cs b,ops[j]? =some o→o.op≠.select cs b)
 (hQ:∀ c a w,Q (.panic c) (a.put oi.dst v) w→Q (.panic c) a w)(hz:waits md ops z i=true):
 ∀(fuel:Nat) (listed:Array Bool) (a:Act) (w:World),
  (∀j oj,ops[j]? =some oj→j≠i→listed.getD j true=false→(∀e∈oj.after,Region.binds md e=true→e.on≠i)→oi.apart ops oj=true)→
  i∈Region.ready md ops listed→YieldsIf P ops S oi v a→S w→
  kC P md ops Q S z fuel (listed.setIfInBounds i true) (a.put oi.dst v) w→kC P md ops Q S z (fuel+1) listed a w:=by
 intro fuel
 induction fuel with
 |zero=>
  intro listed a w _ hr hy hS H
  refine⟨fun h=>(by rw[h]at hr;cases hr),fun j hj=> ?_⟩
  by_cases hji:j=i
  ·subst hji;exact hy.wpOp hi hS ⟨fun _=>hS,H⟩
  ·have:=ready_mono hj hji
   rw[H.1]at this
   cases this
 |succ fuel ih=>
  intro listed a w hfree hr hy hS H
  refine⟨fun h=>(by rw[h]at hr;cases hr),fun j hj=> ?_⟩
  by_cases hji:j=i
  ·subst hji;exact hy.wpOp hi hS ⟨fun _=>hS,H⟩
  ·have hjz:j≠z:=fun e=>F7 hz (mem_ready.1 hr).1 (e▸hj)
   have h1:=H.2 j (ready_mono hj hji)
   obtain⟨hjun,oj,hoj,hall⟩:=mem_ready.1 hj
   have hnot:∀ e∈oj.after,Region.binds md e=true→e.on≠i:=fun e he hb heq=>by
    have g1:=hall e he hb
    have g0:=(mem_ready.1 hr).1
    rw[heq]at g1
    rcases Nat.lt_or_ge i listed.size with h'|h'
    ·simp[h']at g0 g1;rw[g0]at g1;cases g1
    ·simp[Array.getElem?_eq_none h']at g1
   have h2:=wpOp_putIf hoj (hfree j oj hoj hji hjun hnot) (fun cs b=>hsel i oi cs b hi) (fun cs b=>hsel j oj cs b hoj) hQ hy h1
   have hfree':∀ k ok,ops[k]? =some ok→k≠i→(listed.setIfInBounds j true).getD k true=false→
    (∀e∈ok.after,Region.binds md e=true→e.on≠i)→oi.apart ops ok=true:=fun k ok hk hki hun hno=>by
    refine hfree k ok hk hki ?_ hno
    by_cases hjk:j=k
    ·subst hjk;exact hjun
    ·rw[getD_set_ne true hjk]at hun;exact hun
   refine wpOp_mono (fun a' w' h3=>⟨fun _=>h3.2.1 hjz,ih (listed.setIfInBounds j true) a' w' hfree' (ready_mono hr (Ne.symm hji)) h3.1 (h3.2.1 hjz) ?_⟩) h2
   rw[Array.setIfInBounds_comm _ _ hji]
   exact h3.2.2
theorem wO{i:Nat}{oi:Oper}{v:Value}{fuel:Nat}{listed:Array Bool}{a:Act}{w:World}(hi:ops[i]? =some oi)
 (hs:Region.noSelect ops=true)(hf:Region.free md ops listed i=true)(hr:(Region.ready md ops listed).contains i=true)(hz:waits md ops z i=true)
 (hQ:∀ c a w,Q (.panic c) (a.put oi.dst v) w→Q (.panic c) a w)(hy:YieldsIf P ops S oi v a)(hS:S w)
 (h:kC P md ops Q S z fuel (listed.setIfInBounds i true) (a.put oi.dst v) w):kC P md ops Q S z (fuel+1) listed a w:=
 uy hi (Region.noSelect_spec hs) hQ hz fuel listed a w (Region.free_spec hi hf) (by simpa using hr) hy hS h
theorem lu{i:Nat}{o:Oper}{fuel:Nat}{listed:Array Bool}{a:Act}{w:World}(hr:Region.ready md ops listed=[i])(ho:ops[i]? =some o)
 (h:∀ K':Act→World→Prop,Shut (∀a w,S w→(S w→kC P md ops Q S z fuel (listed.setIfInBounds i true) a w)→K' a w)→if Region.wanted o (yielded ops a.tmps)=true then Oper.wp P o a w K' Q else K' (a.put o.dst undef) w):
 kC P md ops Q S z (fuel+1) listed a w:=by
 refine⟨fun h0=>(by rw[hr]at h0;cases h0),fun j hj=> ?_⟩
 rw[hr,List.mem_singleton]at hj
 subst hj
 exact wpOp_step ho (fun K' hK=>h K' (fun a w hS hW=>hK a w ⟨fun _=>hS,hW hS⟩))
theorem dW{o:Oper}{fuel:Nat}{listed:Array Bool}{a:Act}{w:World}(hr:Region.ready md ops listed=[z])(ho:ops[z]? =some o)(hd:Region.ready md ops (listed.setIfInBounds z true)=[])
 (h:∀ K':Act→World→Prop,Shut (∀a w,Q .normal a w→K' a w)→if Region.wanted o (yielded ops a.tmps)=true then Oper.wp P o a w K' Q else K' (a.put o.dst undef) w):
 kC P md ops Q S z (fuel+1) listed a w:=by
 refine⟨fun h0=>(by rw[hr]at h0;cases h0),fun j hj=> ?_⟩
 rw[hr,List.mem_singleton]at hj
 subst hj
 exact wpOp_step ho (fun K' hK=>h K' (fun a w hW=>hK a w ⟨fun e=>absurd rfl e,by
  cases fuel with
  |zero=>exact⟨hd,hW⟩
  |succ n=>exact⟨fun _=>hW,by rw[hd];simp⟩⟩))
theorem pI{id:Nat}(z:Nat){a:Act}{w:World}(hm:P.follows .mixedOrders=true)(hS:S w.drew)
 (h:S w.drew→kC P .any ops Q S z ops.size (Array.replicate ops.size false) a w.drew):(Code.region id ops true).wp P Q a w:=
 wp_region_any hm (fO _ _ _ _ (h hS))
theorem zZ(i d:Nat){op:Op}{t:TypeId}{ps:String}{af:Array Edge}{gu:Option (Nat×Bool)}{v:Value}{fuel:Nat}{listed:Array Bool}{a:Act}{w:World}
 (h:kC P md ops Q S z fuel (listed.setIfInBounds i true) (a.put (some d) v) w)
 (hi:ops[i]? =some ⟨some d,op,t,ps,af,gu⟩:=by rfl)(hs:Region.noSelect ops=true:=by kernel_rfl)(hf:Region.free md ops listed i=true:=by kernel_rfl)(hr:(Region.ready md ops listed).contains i=true:=by kernel_rfl)(hz:waits md ops z i=true:=by kernel_rfl)
 (hQ:∀ c a w,Q (.panic c) (a.put (some d) v) w→Q (.panic c) a w:=by exact fun _ _ _ h=>h)
 (hy:YieldsIf P ops S ⟨some d,op,t,ps,af,gu⟩ v a:=by exact Or.inl ⟨by rfl,by((intro w hSw;(try dsimp only at hSw);go_simp);try with_reducible rfl)⟩)(hS:S w:=by assumption):kC P md ops Q S z (fuel+1) listed a w:=
 wO (i:=i) hi hs hf hr hz hQ hy hS h
end
section
variable {F : Fence} {n : Nat} {P : Program} {Q : Exit → Act → World → Prop} {a : Act} {w : World} {b : Frame} {k : List Item} {cs : List Frame}
theorem gM{c:Code}:step P (lone (b.atR a (.code (.scope c)::k)) cs w)=.next (lone (b.atR a (.code c:: .inScope c::k)) cs w):=
 step_lone_go (by simp[stepG,stepG.exec,Frame.atR])
theorem sJ{c:Code}:step P (lone (b.atR a (.inScope c::k)) cs w)=.next (lone (b.atR a k) cs w):=
 step_lone_go (by simp[stepG,stepG.exec,Frame.atR])
theorem iW{c:Code}(h:c.wpIn F n P (Exit.noGoto Q) a w):(Code.scope c).wpIn F n P Q a w:=by
 intro b k cs hro hb hr
 have h0:(lone (b.atR a (.code (.scope c)::k)) cs w).fenced P F:=fenced_calm hb hr rfl
 obtain⟨e,a₁,w₁,hq,harr⟩:=h b (.inScope c::k) cs hro hb hr
 cases e with
 |normal=>exact⟨.normal,a₁,w₁,hq,.head h0 gM (StepsIn.trans harr (.one (fenced_calm hb hr rfl) sJ))⟩
 |exit id=>
  have hx:exitTo id (.inScope c::k)=exitTo id k:=by simp[exitTo]
  exact⟨_,a₁,w₁,hq,fun k' hk=>.head h0 gM (harr.1 k' (by rw[hx];exact hk)),fun hr' hk=>let ⟨k₁,h1,h2⟩:=harr.2 hr' (by rw[hx];exact hk);⟨k₁,h1,.head h0 gM h2⟩⟩
 |goto l=>exact hq.elim
 |ret=>exact⟨_,a₁,w₁,hq,.of_steps (.one h0 gM) harr⟩
 |panic ch=>exact⟨_,a₁,w₁,hq,.of_steps (.one h0 gM) harr⟩
 |outgrown=>exact⟨_,a₁,w₁,hq,.of_steps (.one h0 gM) harr⟩
end
theorem vv{Q:Exit→Act→World→Prop}{a:Act}{w:World}(h:Q .ret a w):Exit.noGoto Q .ret a w:=h
theorem qj{Q:Exit→Act→World→Prop}{a:Act}{w:World}(h:Q .normal a w):Exit.noGoto Q .normal a w:=h
theorem wpIn_loop_ghost{σ:Type}{F:Fence}{n:Nat}{P:Program}{c:Code}{Q:Exit→Act→World→Prop}{a:Act}{w:World}(St:σ→Act→World→Prop)(μ:σ→Nat)(s0:σ)(h0:St s0 a w)
 (round:∀ s a w (K:Act→World→Prop),St s a w→(∀s' a' w',St s' a' w'→μ s'<μ s→K a' w')→c.wpIn F n P (Exit.then K Q) a w):(Code.loop c).wpIn F n P Q a w:=by
 have key:∀ m s a w,μ s≤m→St s a w→Code.roundsIn F n P c Q (m+1) a w:=by
  intro m
  induction m with
  |zero=>intro s a w hm hs;exact round s a w _ hs (fun s' a' w' _ h=>by omega)
  |succ m ih=>intro s a w hm hs;exact round s a w _ hs (fun s' a' w' h1 h2=>ih s' a' w' (by omega) h1)
 exact wpIn_loop_rounds _ (key _ s0 a w (Nat.le_refl _) h0)
def av(K:Int):List UInt8:=
 if K=0∨K=1 then [78]else if K=2 then [83]else if K=3∨K=11 then [78,65,66]else
 if K=4∨K=6∨K=13∨K=14∨K=20∨K=22∨K=25 then [65]else
 if K=5∨K=7∨K=8∨K=15∨K=19∨K=21 then [65,66]else
 if K=9 then [78,76,75]else if K=10 then [78,65]else if K=12 then [78,75]else if K=16∨K=18 then [65,66,67]else
 if K=17 then [75]else if K=23 then [78,76]else if K=24 then [78,65,76]else []
def hasB(K:Int)(f:UInt8):Bool:=(av K).contains f
theorem kinds(K:Int):(K=0∨K=1∨K=2∨K=3∨K=4∨K=5∨K=6∨K=7∨K=8∨K=9∨K=10∨K=11∨K=12∨K=13∨K=14∨K=15∨K=16∨K=17∨K=18∨K=19∨K=20∨K=21∨K=22∨K=23∨K=24∨K=25)∨(K<0∨25<K):=by omega
theorem gV{K:Int}(h:K<0∨25<K):av K=[]:=by
 unfold av
 repeat rw[if_neg (by omega)]
def jk(b:Bool)(x:Int):Int:=if b then x else 0
def uS(b:Bool)(s:ByteArray):ByteArray:=if b then s else⟨#[]⟩
def dA(b:Bool)(l:List Int):List Int:=if b then l else []
section
variable {P : Program} {ops : Array Oper} {Q : Exit → Act → World → Prop} {md : Region.Mode} {S : World → Prop} {z : Nat}
def uQ(md:Region.Mode)(ops:Array Oper):Nat→Nat→Nat→Bool
 |0,_,_=>false
 |k+1,j,i=>waits md ops j i||(List.range ops.size).any fun q=>waits md ops j q&&uQ md ops k q i
def Closed(md:Region.Mode)(ops:Array Oper)(listed:Array Bool):Prop:=∀ j o,ops[j]? =some o→listed.getD j false=true→∀ e∈o.after,Region.binds md e=true→listed.getD e.on false=true
def x9(md:Region.Mode)(ops:Array Oper)(listed:Array Bool):Bool:=(List.range ops.size).all fun j=> !listed.getD j false||((ops[j]?).map fun o=>o.after.all fun e=> !Region.binds md e||listed.getD e.on false).getD true
theorem EJ{listed:Array Bool}(h:x9 md ops listed=true):Closed md ops listed:=by
 intro j o ho hl e he hb
 have hj:j<ops.size:=(Array.getElem?_eq_some_iff.1 ho).1
 have h1:=List.all_eq_true.1 h j (List.mem_range.2 hj)
 rw[hl,ho]at h1
 simp only[Bool.not_true,Bool.false_or,Option.map_some,Option.getD_some,Array.all_eq_true_iff_forall_mem,Bool.or_eq_true,Bool.not_eq_true']at h1
 rcases h1 e he with h2|h2
 ·rw[hb]at h2;cases h2
 ·exact h2
theorem Closed.more{listed:Array Bool}(h:Closed md ops listed){j:Nat}(hj:j∈Region.ready md ops listed):Closed md ops (listed.setIfInBounds j true):=by
 intro k o ho hl e he hb
 refine getD_set_true ?_
 by_cases hkj:k=j
 ·subst hkj
  obtain⟨_,o',ho',hall⟩:=mem_ready.1 hj
  rw[ho]at ho';cases ho'
  exact hall e he hb
 ·rw[getD_set_ne false (fun e=>hkj e.symm)]at hl
  exact h k o ho hl e he hb
theorem oF{listed:Array Bool}(h:Closed md ops listed){i:Nat}:∀ (k j:Nat),(∀o,ops[j]? =some o→∀ e∈o.after,Region.binds md e=true→listed.getD e.on false=true)→uQ md ops k j i=true→listed.getD i false=true
 |0,_,_,hr=>by cases hr
 |k+1,j,hj,hr=>by
  have hw:∀ q,waits md ops j q=true→listed.getD q false=true:=fun q hq=>by
   obtain⟨o,ho,e,he,hb,rfl⟩:=rq hq
   exact hj o ho e he hb
  unfold uQ at hr
  rw[Bool.or_eq_true]at hr
  rcases hr with hr|hr
  ·exact hw i hr
  ·obtain⟨q,_,hq⟩:=List.any_eq_true.1 hr
   rw[Bool.and_eq_true]at hq
   exact oF h k q (fun o ho=>h q o ho (hw q hq.1)) hq.2
theorem Dv{i k:Nat}{listed:Array Bool}(hc:Closed md ops listed)(hw:uQ md ops k z i=true)(hi:listed.getD i true=false):z∉Region.ready md ops listed:=by
 intro hz
 obtain⟨_,o',ho',hall⟩:=mem_ready.1 hz
 have h1:=oF hc k z (fun o ho e he hb=>by rw[ho']at ho;cases ho;exact hall e he hb) hw
 rcases Nat.lt_or_ge i listed.size with h'|h'
 ·simp[h']at hi h1;rw[hi]at h1;cases h1
 ·simp[Array.getElem?_eq_none h']at h1
end
section
variable {P : Program} {ops : Array Oper} {Q : Exit → Act → World → Prop} {md : Region.Mode} {S : World → Prop} {z : Nat}
def dX(P:Program)(md:Region.Mode)(ops:Array Oper)(Q:Exit→Act→World→Prop)(S:World→Prop)(z:Nat):Nat→Array Bool→Act→World→Prop
 |0,listed,a,w=>Region.ready md ops listed=[]∧Q .normal a w
 |fuel+1,listed,a,w=>
  (Region.ready md ops listed=[]→Q .normal a w)∧
  ∀i∈Region.ready md ops listed,wpOp P ops Q i (fun a' w'=>(i<z→S w→S w')∧dX P md ops Q S z fuel (listed.setIfInBounds i true) a' w') a w
theorem qY:∀ (fuel:Nat) (listed:Array Bool) (a:Act) (w:World),dX P md ops Q S z fuel listed a w→wpAny P md ops Q fuel listed a w
 |0,_,_,_,h=>h
 |fuel+1,_,_,_,h=>⟨h.1,fun i hi=>wpOp_mono (fun a' w' h'=>qY fuel _ a' w' h'.2) (h.2 i hi)⟩
def FK(md:Region.Mode)(ops:Array Oper)(k z i:Nat):Bool:=(List.range ops.size).all fun j=>decide (j<z)||uQ md ops k j i
theorem F6{i k:Nat}{listed:Array Bool}(hc:Closed md ops listed)(hw:FK md ops k z i=true)(hi:listed.getD i true=false){j:Nat}(hj:j∈Region.ready md ops listed):j<z:=by
 rcases Nat.lt_or_ge j z with h|h
 ·exact h
 ·obtain⟨_,o',ho',_⟩:=mem_ready.1 hj
  have h1:=List.all_eq_true.1 hw j (List.mem_range.2 (Array.getElem?_eq_some_iff.1 ho').1)
  rw[Bool.or_eq_true,decide_eq_true_eq]at h1
  rcases h1 with h1|h1
  ·omega
  ·exact absurd hj (Dv (z:=j) hc h1 hi)
theorem uD{i kk:Nat}{oi:Oper}{v:Value}(hi:ops[i]? =some oi)(hsel:∀ (j:Nat) (o:Oper) cs b,ops[j]? =some o→o.op≠.select cs b)
 (hQ:∀ c a w,Q (.panic c) (a.put oi.dst v) w→Q (.panic c) a w)(hz:FK md ops kk z i=true):
 ∀(fuel:Nat) (listed:Array Bool) (a:Act) (w:World),Closed md ops listed→
  (∀j oj,ops[j]? =some oj→j≠i→listed.getD j true=false→(∀e∈oj.after,Region.binds md e=true→e.on≠i)→oi.apart ops oj=true)→
  i∈Region.ready md ops listed→YieldsIf P ops S oi v a→S w→
  dX P md ops Q S z fuel (listed.setIfInBounds i true) (a.put oi.dst v) w→dX P md ops Q S z (fuel+1) listed a w:=by
 intro fuel
 induction fuel with
 |zero=>
  intro listed a w _ _ hr hy hS H
  refine⟨fun h=>(by rw[h]at hr;cases hr),fun j hj=> ?_⟩
  by_cases hji:j=i
  ·subst hji;exact hy.wpOp hi hS ⟨fun _ _=>hS,H⟩
  ·have:=ready_mono hj hji
   rw[H.1]at this
   cases this
 |succ fuel ih=>
  intro listed a w hcl hfree hr hy hS H
  refine⟨fun h=>(by rw[h]at hr;cases hr),fun j hj=> ?_⟩
  by_cases hji:j=i
  ·subst hji;exact hy.wpOp hi hS ⟨fun _ _=>hS,H⟩
  ·have hjz:j<z:=F6 hcl hz (mem_ready.1 hr).1 hj
   have h1:=H.2 j (ready_mono hj hji)
   obtain⟨hjun,oj,hoj,hall⟩:=mem_ready.1 hj
   have hnot:∀ e∈oj.after,Region.binds md e=true→e.on≠i:=fun e he hb heq=>by
    have g1:=hall e he hb
    have g0:=(mem_ready.1 hr).1
    rw[heq]at g1
    rcases Nat.lt_or_ge i listed.size with h'|h'
    ·simp[h']at g0 g1;rw[g0]at g1;cases g1
    ·simp[Array.getElem?_eq_none h']at g1
   have h2:=wpOp_putIf hoj (hfree j oj hoj hji hjun hnot) (fun cs b=>hsel i oi cs b hi) (fun cs b=>hsel j oj cs b hoj) hQ hy h1
   have hfree':∀ k ok,ops[k]? =some ok→k≠i→(listed.setIfInBounds j true).getD k true=false→
    (∀e∈ok.after,Region.binds md e=true→e.on≠i)→oi.apart ops ok=true:=fun k ok hk hki hun hno=>by
    refine hfree k ok hk hki ?_ hno
    by_cases hjk:j=k
    ·subst hjk;exact hjun
    ·rw[getD_set_ne true hjk]at hun;exact hun
   refine wpOp_mono (fun a' w' h3=>⟨fun _=>h3.2.1 hjz,ih (listed.setIfInBounds j true) a' w' (hcl.more hj) hfree' (ready_mono hr (Ne.symm hji)) h3.1 (h3.2.1 hjz hS) ?_⟩) h2
   rw[Array.setIfInBounds_comm _ _ hji]
   exact h3.2.2
theorem wP{i:Nat}{oi:Oper}{v:Value}{fuel:Nat}{listed:Array Bool}{a:Act}{w:World}(kk:Nat)(hi:ops[i]? =some oi)
 (hs:Region.noSelect ops=true)(hf:Region.free md ops listed i=true)(hr:(Region.ready md ops listed).contains i=true)(hz:FK md ops kk z i=true)(hc:x9 md ops listed=true)
 (hQ:∀ c a w,Q (.panic c) (a.put oi.dst v) w→Q (.panic c) a w)(hy:YieldsIf P ops S oi v a)(hS:S w)
 (h:dX P md ops Q S z fuel (listed.setIfInBounds i true) (a.put oi.dst v) w):dX P md ops Q S z (fuel+1) listed a w:=
 uD hi (Region.noSelect_spec hs) hQ hz fuel listed a w (EJ hc) (Region.free_spec hi hf) (by simpa using hr) hy hS h
theorem sD{i:Nat}{oi:Oper}{v:Value}(hi:ops[i]? =some oi)(hsel:∀ (j:Nat) (o:Oper) cs b,ops[j]? =some o→o.op≠.select cs b)
 (hQ:∀ c a w,Q (.panic c) (a.put oi.dst v) w→Q (.panic c) a w):
 ∀(fuel:Nat) (listed:Array Bool) (a:Act) (w:World),
  (∀j oj,ops[j]? =some oj→j≠i→listed.getD j true=false→(∀e∈oj.after,Region.binds md e=true→e.on≠i)→oi.apart ops oj=true)→
  i∈Region.ready md ops listed→YieldsIf P ops (fun _=>True) oi v a→
  dX P md ops Q S z fuel (listed.setIfInBounds i true) (a.put oi.dst v) w→dX P md ops Q S z (fuel+1) listed a w:=by
 intro fuel
 induction fuel with
 |zero=>
  intro listed a w _ hr hy H
  refine⟨fun h=>(by rw[h]at hr;cases hr),fun j hj=> ?_⟩
  by_cases hji:j=i
  ·subst hji;exact hy.wpOp hi trivial ⟨fun _ hS=>hS,H⟩
  ·have:=ready_mono hj hji
   rw[H.1]at this
   cases this
 |succ fuel ih=>
  intro listed a w hfree hr hy H
  refine⟨fun h=>(by rw[h]at hr;cases hr),fun j hj=> ?_⟩
  by_cases hji:j=i
  ·subst hji;exact hy.wpOp hi trivial ⟨fun _ hS=>hS,H⟩
  ·have h1:=H.2 j (ready_mono hj hji)
   obtain⟨hjun,oj,hoj,hall⟩:=mem_ready.1 hj
   have hnot:∀ e∈oj.after,Region.binds md e=true→e.on≠i:=fun e he hb heq=>by
    have g1:=hall e he hb
    have g0:=(mem_ready.1 hr).1
    rw[heq]at g1
    rcases Nat.lt_or_ge i listed.size with h'|h'
    ·simp[h']at g0 g1;rw[g0]at g1;cases g1
    ·simp[Array.getElem?_eq_none h']at g1
   have h2:=wpOp_putIf hoj (hfree j oj hoj hji hjun hnot) (fun cs b=>hsel i oi cs b hi) (fun cs b=>hsel j oj cs b hoj) hQ hy h1
   have hfree':∀ k ok,ops[k]? =some ok→k≠i→(listed.setIfInBounds j true).getD k true=false→
    (∀e∈ok.after,Region.binds md e=true→e.on≠i)→oi.apart ops ok=true:=fun k ok hk hki hun hno=>by
    refine hfree k ok hk hki ?_ hno
    by_cases hjk:j=k
    ·subst hjk;exact hjun
    ·rw[getD_set_ne true hjk]at hun;exact hun
   refine wpOp_mono (fun a' w' h3=>⟨fun hjz=>h3.2.1 hjz,ih (listed.setIfInBounds j true) a' w' hfree' (ready_mono hr (Ne.symm hji)) h3.1 ?_⟩) h2
   rw[Array.setIfInBounds_comm _ _ hji]
   exact h3.2.2
theorem uz{i:Nat}{oi:Oper}{v:Value}{fuel:Nat}{listed:Array Bool}{a:Act}{w:World}(hi:ops[i]? =some oi)
 (hs:Region.noSelect ops=true)(hf:Region.free md ops listed i=true)(hr:(Region.ready md ops listed).contains i=true)
 (hQ:∀ c a w,Q (.panic c) (a.put oi.dst v) w→Q (.panic c) a w)(hy:YieldsIf P ops (fun _=>True) oi v a)
 (h:dX P md ops Q S z fuel (listed.setIfInBounds i true) (a.put oi.dst v) w):dX P md ops Q S z (fuel+1) listed a w:=
 sD hi (Region.noSelect_spec hs) hQ fuel listed a w (Region.free_spec hi hf) (by simpa using hr) hy h
theorem aO{i:Nat}{o:Oper}{fuel:Nat}{listed:Array Bool}{a:Act}{w:World}(hr:Region.ready md ops listed=[i])(ho:ops[i]? =some o)
 (h:∀ K':Act→World→Prop,Shut (∀a w,S w→(S w→dX P md ops Q S z fuel (listed.setIfInBounds i true) a w)→K' a w)→if Region.wanted o (yielded ops a.tmps)=true then Oper.wp P o a w K' Q else K' (a.put o.dst undef) w):
 dX P md ops Q S z (fuel+1) listed a w:=by
 refine⟨fun h0=>(by rw[hr]at h0;cases h0),fun j hj=> ?_⟩
 rw[hr,List.mem_singleton]at hj
 subst hj
 exact wpOp_step ho (fun K' hK=>h K' (fun a w hS hW=>hK a w ⟨fun _ _=>hS,hW hS⟩))
theorem zX{i j:Nat}{o p:Oper}{fuel:Nat}{listed:Array Bool}{a:Act}{w:World}(hr:Region.ready md ops listed=[i,j])(ho:ops[i]? =some o)(hp:ops[j]? =some p)
 (h:∀ K':Act→World→Prop,Shut (∀a w,S w→(S w→dX P md ops Q S z fuel (listed.setIfInBounds i true) a w)→K' a w)→if Region.wanted o (yielded ops a.tmps)=true then Oper.wp P o a w K' Q else K' (a.put o.dst undef) w)
 (h':∀ K':Act→World→Prop,Shut (∀a w,S w→(S w→dX P md ops Q S z fuel (listed.setIfInBounds j true) a w)→K' a w)→if Region.wanted p (yielded ops a.tmps)=true then Oper.wp P p a w K' Q else K' (a.put p.dst undef) w):
 dX P md ops Q S z (fuel+1) listed a w:=by
 refine⟨fun h0=>(by rw[hr]at h0;cases h0),fun k hk=> ?_⟩
 rw[hr]at hk
 simp only[List.mem_cons,List.not_mem_nil,or_false]at hk
 rcases hk with rfl|rfl
 ·exact wpOp_step ho (fun K' hK=>h K' (fun a w hS hW=>hK a w ⟨fun _ _=>hS,hW hS⟩))
 ·exact wpOp_step hp (fun K' hK=>h' K' (fun a w hS hW=>hK a w ⟨fun _ _=>hS,hW hS⟩))
theorem jE{i:Nat}{o:Oper}{fuel:Nat}{listed:Array Bool}{a:Act}{w:World}(hr:Region.ready md ops listed=[i])(hz:decide (i<z)=false)(ho:ops[i]? =some o)
 (h:∀ K':Act→World→Prop,Shut (∀a w,dX P md ops Q S z fuel (listed.setIfInBounds i true) a w→K' a w)→if Region.wanted o (yielded ops a.tmps)=true then Oper.wp P o a w K' Q else K' (a.put o.dst undef) w):
 dX P md ops Q S z (fuel+1) listed a w:=by
 refine⟨fun h0=>(by rw[hr]at h0;cases h0),fun j hj=> ?_⟩
 rw[hr,List.mem_singleton]at hj
 subst hj
 exact wpOp_step ho (fun K' hK=>h K' (fun a w hW=>hK a w ⟨fun e=>absurd e (of_decide_eq_false hz),hW⟩))
theorem bH{fuel:Nat}{listed:Array Bool}{a:Act}{w:World}(hr:Region.ready md ops listed=[])(h:Q .normal a w):dX P md ops Q S z fuel listed a w:=by
 cases fuel with
 |zero=>exact⟨hr,h⟩
 |succ n=>exact⟨fun _=>h,by rw[hr];simp⟩
theorem bM{id:Nat}(z:Nat){a:Act}{w:World}(hm:P.follows .mixedOrders=true)(hS:S w.drew)
 (h:S w.drew→dX P .any ops Q S z ops.size (Array.replicate ops.size false) a w.drew):(Code.region id ops true).wp P Q a w:=
 wp_region_any hm (qY _ _ _ _ (h hS))
theorem zT(i d kk:Nat){op:Op}{t:TypeId}{ps:String}{af:Array Edge}{gu:Option (Nat×Bool)}{v:Value}{fuel:Nat}{listed:Array Bool}{a:Act}{w:World}
 (h:dX P md ops Q S z fuel (listed.setIfInBounds i true) (a.put (some d) v) w)
 (hi:ops[i]? =some ⟨some d,op,t,ps,af,gu⟩:=by rfl)(hs:Region.noSelect ops=true:=by kernel_rfl)(hf:Region.free md ops listed i=true:=by kernel_rfl)(hr:(Region.ready md ops listed).contains i=true:=by kernel_rfl)(hz:FK md ops kk z i=true:=by kernel_rfl)(hc:x9 md ops listed=true:=by kernel_rfl)
 (hQ:∀ c a w,Q (.panic c) (a.put (some d) v) w→Q (.panic c) a w:=by exact fun _ _ _ h=>h)
 (hy:YieldsIf P ops S ⟨some d,op,t,ps,af,gu⟩ v a:=by exact Or.inl ⟨by rfl,by((intro w hSw;(try dsimp only at hSw);go_simp);try with_reducible rfl)⟩)(hS:S w:=by assumption):dX P md ops Q S z (fuel+1) listed a w:=
 wP (i:=i) kk hi hs hf hr hz hc hQ hy hS h
theorem zW(i d:Nat){op:Op}{t:TypeId}{ps:String}{af:Array Edge}{gu:Option (Nat×Bool)}{v:Value}{fuel:Nat}{listed:Array Bool}{a:Act}{w:World}
 (h:dX P md ops Q S z fuel (listed.setIfInBounds i true) (a.put (some d) v) w)
 (hi:ops[i]? =some ⟨some d,op,t,ps,af,gu⟩:=by rfl)(hs:Region.noSelect ops=true:=by kernel_rfl)(hf:Region.free md ops listed i=true:=by kernel_rfl)(hr:(Region.ready md ops listed).contains i=true:=by kernel_rfl)
 (hQ:∀ c a w,Q (.panic c) (a.put (some d) v) w→Q (.panic c) a w:=by exact fun _ _ _ h=>h)
 (hy:YieldsIf P ops (fun _=>True) ⟨some d,op,t,ps,af,gu⟩ v a:=by exact Or.inl ⟨by rfl,by((intro w _;go_simp);try with_reducible rfl)⟩):dX P md ops Q S z (fuel+1) listed a w:=
 uz (i:=i) hi hs hf hr hQ hy h
end
def onlyN(Q:Exit→Act→World→Prop):Exit→Act→World→Prop
 | .normal,a,w=>Q .normal a w
 |_,_,_=>False
theorem nE{Q:Exit→Act→World→Prop}{a:Act}{w:World}(h:Q .normal a w):onlyN Q .normal a w:=h
theorem dw{F:Fence}{n:Nat}{P:Program}{ops:Array Oper}{Q:Exit→Act→World→Prop}{id:Nat}{a:Act}{w:World}(hm:P.follows .mixedOrders=true)(hc:ops.all kF=true)
 (h:wpAny P .any ops (onlyN Q) ops.size (Array.replicate ops.size false) a w.drew):(Code.region id ops true).wpIn F n P Q a w:=
 wpIn_mono (ku hm hc (by rintro ⟨_,_,h⟩;exact h) h) (fun e a w h=>by
  cases e with
  |normal=>exact h
  |_=>exact h.elim)
def zz(n:Int):Nat:=if n<0 then(2*(-1-n)+1).toNat else(2*n).toNat
theorem zz_lt{n:Int}(h0: -9223372036854775808≤n)(h1:n≤9223372036854775807):zz n<18446744073709551616:=by
 unfold zz;split<;>omega
def wG:Nat→Nat→List UInt8
 |0,z=>[UInt8.ofNat z]
 |f+1,z=>if z<128 then [UInt8.ofNat z]else UInt8.ofNat (z%128+128)::wG f (z/128)
def dU(n:Int):List UInt8:=wG 9 (zz n)
theorem FW(f z:Nat):1≤(wG f z).length:=by
 cases f with
 |zero=>simp[wG]
 |succ f=>unfold wG;split<;>simp
theorem FX(f z:Nat):(wG f z).length≤f+1:=by
 induction f generalizing z with
 |zero=>simp[wG]
 |succ f ih=>
  unfold wG
  split
  ·simp
  ·have:=ih (z/128);simp only[List.length_cons];omega
theorem ze(n:Int):1≤(dU n).length:=FW _ _
theorem dn(n:Int):(dU n).length≤10:=FX 9 _
theorem GN(n:Nat)(h:n<256):(UInt8.ofNat n).toNat=n:=by simp;omega
theorem pow9:(128:Nat)^9=9223372036854775808:=by decide
theorem Dc(z p:Nat):z%128*p+z/128*(p*128)=z*p:=by
 have h:z=128*(z/128)+z%128:=by omega
 have hh:z%128*p+z/128*(p*128)=(128*(z/128)+z%128)*p:=by
  rw[Nat.add_mul,Nat.mul_comm p 128,←Nat.mul_assoc,Nat.mul_comm (z/128) 128];omega
 rw[←h]at hh
 exact hh
end Go.Proofs.YthjdeoppajlcoaaGreatDoor

namespace Go.Proofs.YthjdeoppajlcoaaGreatDoor
set_option linter.unusedVariables false
open Go.RowKit (wrap64 intOf Below)
def ko(c:UInt8):Value:=.int .u8 c.toNat
def eG(w:World)(B:Nat)(e:TypeId)(v:Value)(l:List UInt8):Prop:=w.ownsRow B e 1 v l.length (l.map ko)
theorem eG.alloc{w:World}{B:Nat}{e:TypeId}{v:Value}{l:List UInt8}(h:eG w B e v l)(o:Obj):eG (w.alloc o) B e v l:=World.ownsRow.alloc h o
theorem eG.made{w:World}{B:Nat}{e:TypeId}(cur:Array Value)(cap:Nat)(hB:B≤w.heap.size)(hm:cap≤maxLen)(hs:cur.size=cap):eG (w.alloc (.cells cur e)) B e (.slice (some ⟨w.heap.size,0,none⟩) 0 cap) []:=
 World.ownsRow_made w cur cap hB hm (by rw[hs,Nat.mul_one])
theorem eG.lt{w:World}{B:Nat}{e:TypeId}{v:Value}{l:List UInt8}(h:eG w B e v l):∀ k,v.ownBlock=some k→B≤k∧k<w.heap.size:=World.ownsRow.lt h
theorem qF{l:List UInt8}:∀ u∈l.map ko,u.oneCell'=true:=by
 intro u hu
 obtain⟨c,_,rfl⟩:=List.mem_map.1 hu
 rfl
theorem iV{P:Program}(w:World){ops:Array Oper}{rest:List Oper}{o:Oper}{a:Act}{Q:Exit→Act→World→Prop}(hgd:o.guard=none)(s x:Operand)(t:TypeId)
 (ho:o.op=.call {callee:=.builtin .append,args:=#[s,x],argTypes:=#[t,t]})(e:TypeId)(ht:P.underlying t=some (.slice e))
 (hinfo:(P.info? e).map (fun i=>(i.zero,i.size,i.bytes))=some (some (.int .u8 0),1,1))
 (B:Nat)(v:Value)(l:List UInt8)(hs:a.eval s=v)(hown:eG w B e v l)(hB:B≤w.heap.size)
 (C:Array Value)(m c g:Nat)(news:List UInt8)(hx:a.eval x=.slice (some ⟨g,0,none⟩) m c)(hg:g=w.heap.size)(hC:C=(news.map ko).toArray)(hm:news.length=m)
 (hlen:l.length+m≤140737488355328)
 (h:∀ v' w',eG w' B e v' (l++news)→Below B w w'→w.heap.size<w'.heap.size→wpList P ops Q rest (a.put o.dst v') w'):wpList P ops Q (o::rest) a (w.alloc (.cells C e)):=by
 obtain⟨i0,hi,hz0,hz1,hz2⟩:=info_parts hinfo
 subst hC hm hg
 refine wpList_append_own _ hgd s x t ho B e i0 (.int .u8 0) 1 1 ht hi hz0 hz1 hz2 rfl (by decide) v l.length (l.map ko) hs (hown.alloc _) ⟨w.heap.size,0,none⟩ news.length c (news.map ko) hx (by simp) (fun j u hu=> ?_) qF (by unfold maxLen;omega) (by omega) (by simp;omega) ?_
 ·have hadd:(⟨w.heap.size,0,none⟩:Addr).add j=⟨w.heap.size,j,none⟩:=by unfold Addr.add;split<;>simp_all
  rw[hadd,World.cell?_alloc_mark]
  simpa using hu
 ·intro v' w' hown' hgrow _
  refine h v' w' ?_ ?_ ?_
  ·show w'.ownsRow B e 1 v' (l++news).length ((l++news).map ko)
   rw[List.map_append,List.length_append]
   exact hown'
  ·exact Below.grown ((Below.refl B w).alloc hB _) hgrow (by simp;omega) (fun k hk=>(hown.lt k hk).1)
  ·have:=hgrow.size
   simp at this
   omega
theorem Ce(a:Addr)(j:Nat):(a.add j).block=a.block:=by unfold Addr.add;split<;>rfl
theorem aU(b off j:Nat):(⟨b,off,none⟩:Addr).add j=⟨b,off+j,none⟩:=by
 unfold Addr.add;split
 ·rename_i h;subst h;rfl
 ·rfl
def nth(L:List Int)(k:Nat):Int:=L.getD k 0
theorem rE{P:Program}{f:FuncId}{args:Array Value}{w:World}{n:Nat}{v:Value}
 (h:Calls P f args (w.drewN n) fun e w'=>e=.returned v∧w.drewN n=w'):Calls P f args (w.drewN n) fun e w''=>e=.returned v∧∃ m,w''=w.drewN m:=
 h.mono fun _ _ ⟨he,hm⟩=>⟨he,n,hm.symm⟩
theorem oC{n:Int}(h:(Lit.int .i64 n).wf=true): -9223372036854775808≤n∧n≤9223372036854775807:=by
 simp only[Lit.wf,IntKind.min,IntKind.max,IntKind.signed,IntKind.bits,Bool.and_eq_true,decide_eq_true_eq,if_true]at h
 omega
def BytesAt(w:World)(a:Option Addr)(n c:Nat)(L:List UInt8):Prop:=
 L.length=n∧n≤c∧c≤maxLen∧(a=none→c=0)∧(0<n→∃ g off,a=some ⟨g,off,none⟩∧g<w.heap.size)∧
 ∀ad,a=some ad→∀ j (h:j<L.length),w.cell? (ad.add j)=some (ko L[j])
theorem BytesAt.nil(w:World):BytesAt w none 0 0 []:=⟨rfl,Nat.le_refl _,Nat.zero_le _,fun _=>rfl,fun h=>absurd h (by omega),fun _ h=>by cases h⟩
theorem BytesAt.below{w w':World}{a:Option Addr}{n c:Nat}{L:List UInt8}{B:Nat}(h:BytesAt w a n c L)(hb:Below B w w')(hB:w.heap.size≤B):BytesAt w' a n c L:=by
 obtain⟨h1,h2,h3,h4,h5,h6⟩:=h
 refine⟨h1,h2,h3,h4,fun hn=> ?_,fun ad ha j hj=> ?_⟩
 ·obtain⟨g,off,e,hg⟩:=h5 hn
  exact⟨g,off,e,Nat.lt_of_lt_of_le hg hb.size⟩
 ·obtain⟨g,off,e,hg⟩:=h5 (by omega)
  rw[ha]at e
  cases e
  rw[hb.cell (p:=(⟨g,off,none⟩:Addr).add j) (by rw[Ce];exact Nat.lt_of_lt_of_le hg hB)]
  exact h6 _ ha j hj
theorem eG.at{w:World}{B:Nat}{e:TypeId}{v:Value}{l:List UInt8}(h:eG w B e v l):∃ a n c,v=.slice a n c∧BytesAt w a n c l:=by
 have hown:=h
 rcases h.2 with⟨rfl,h0⟩|⟨g,cap,cur,rfl,hB,hg,h1,h2,_⟩
 ·obtain rfl:=List.eq_nil_of_length_eq_zero h0
  exact⟨none,0,0,rfl,BytesAt.nil w⟩
 ·refine⟨_,_,cap,rfl,rfl,h1,h2,(fun h=>by cases h),fun _=>⟨g,0,rfl,(hown.lt g rfl).2⟩,fun ad ha j hj=> ?_⟩
  cases ha
  exact World.ownsRow.cells hown (g:=g) rfl j (ko l[j]) (by rw[List.getElem?_map,List.getElem?_eq_getElem hj];rfl)
def Bv(a:Option Addr)(c k:Nat):Option Addr:=if c=k then a else a.map (·.add k)
theorem Bu(a:Addr)(c k:Nat)(h:k<c):Bv (some a) c k=some (a.add k):=by
 unfold Bv;rw[if_neg (by omega)];rfl
theorem EB{P:Program}{t e:TypeId}(ht:P.underlying t=some (.slice e)):P.elem t=e:=by simp[Program.elem,ht]
section
variable {P : Program} {t e : TypeId} (ht : P.underlying t = some (.slice e)) (hz : ∀ w, (sizeOf e).run P w = .ok 1 w)
theorem Aj{P:Program}{t e:TypeId}(ht:P.underlying t=some (.slice e)):P.underlying t=some (.slice (P.elem t)):=by rw[EB ht];exact ht
include ht hz
theorem FN(a:Option Addr)(n c k:Nat)(hk:k≤n)(w:World):(Instr.slice t (.slice a n c) (some (.int .i64 (k:Int))) none none).run P w=.ok (.slice (Bv a c k) (n-k) (c-k)) w:=by
 rw[run_slice_l w t a n c (Aj ht) .i64 k (by omega) (by omega),EB ht,hz w]
 simp[Result.andThen,sliced,Bv]
end
theorem mW{P:Program}(w:World){ops:Array Oper}{rest:List Oper}{o:Oper}{a:Act}{Q:Exit→Act→World→Prop}(hgd:o.guard=none)(s x:Operand)(t:TypeId)
 (ho:o.op=.call {callee:=.builtin .append,args:=#[s,x],argTypes:=#[t,t]})(e:TypeId)(ht:P.underlying t=some (.slice e))
 (hinfo:(P.info? e).map (fun i=>(i.zero,i.size,i.bytes))=some (some (.int .u8 0),1,1))
 (B:Nat)(v:Value)(l:List UInt8)(hs:a.eval s=v)(hown:eG w B e v l)(hB:B≤w.heap.size)
 (xa:Option Addr)(m c:Nat)(news:List UInt8)(hx:a.eval x=.slice xa m c)(hat:BytesAt w xa m c news)
 (hlen:l.length+m≤140737488355328)
 (h:∀ va vn vc w',eG w' B e (.slice va vn vc) (l++news)→BytesAt w' va vn vc (l++news)→Below B w w'→wpList P ops Q rest (a.put o.dst (.slice va vn vc)) w'):wpList P ops Q (o::rest) a w:=by
 obtain⟨i0,hi,hz0,hz1,hz2⟩:=info_parts hinfo
 obtain⟨h1,h2,h3,h4,h5,h6⟩:=hat
 subst h1
 cases xa with
 |none=>
  have:c=0:=h4 rfl
  have h0:news=[]:=List.eq_nil_of_length_eq_zero (by omega)
  subst h0 this
  refine wpList_append_own_none hgd s x t ho B e i0 1 ht hi v l.length (l.map ko) hs hown hx ?_
  obtain⟨va,vn,vc,rfl,hat⟩:=hown.at
  exact h va vn vc w (by rw[List.append_nil];exact hown) (by rw[List.append_nil];exact hat) (Below.refl _ _)
 |some ad=>
  refine wpList_append_own _ hgd s x t ho B e i0 (.int .u8 0) 1 1 ht hi hz0 hz1 hz2 rfl (by decide) v l.length (l.map ko) hs hown ad news.length c (news.map ko) hx (by simp) (fun j u hu=> ?_) qF (by unfold maxLen;omega) (by omega) hB ?_
  ·rw[List.getElem?_map]at hu
   obtain⟨z,hz,rfl⟩:=Option.map_eq_some_iff.1 hu
   obtain⟨hj,rfl⟩:=List.getElem?_eq_some_iff.1 hz
   exact h6 ad rfl j hj
  ·intro v' w' hown' hgrow _
   have hown2:eG w' B e v' (l++news):=by
    show w'.ownsRow B e 1 v' (l++news).length ((l++news).map ko)
    rw[List.map_append,List.length_append]
    exact hown'
   obtain⟨va,vn,vc,rfl,hat⟩:=hown2.at
   exact h va vn vc w' hown2 hat (Below.grown (Below.refl B w) hgrow hB (fun k hk=>(hown.lt k hk).1))
theorem eG.mono{w:World}{B B':Nat}{e:TypeId}{v:Value}{l:List UInt8}(h:eG w B e v l)(hB:B'≤B):eG w B' e v l:=by
 refine⟨h.1, ?_⟩
 rcases h.2 with hn|⟨g,cap,cur,rfl,hg,rest⟩
 ·exact .inl hn
 ·exact .inr ⟨g,cap,cur,rfl,Nat.le_trans hB hg,rest⟩
def dN(z:Int):Value:=.int .i64 z
theorem bN{Z:List Int}{j:Nat}(h:j<Z.length):nth Z j=Z[j]:=by
 unfold nth;rw[List.getD_eq_getElem?_getD,List.getElem?_eq_getElem h];rfl
def ai(w:World)(a:Option Addr)(n:Nat)(Z:List Int):Prop:=
 Z.length=n∧(0<n→∃ g off,a=some ⟨g,off,none⟩∧g<w.heap.size∧∀ j (h:j<Z.length),w.cell? ⟨g,off+j,none⟩=some (dN Z[j]))
theorem ai.nil(w:World)(a:Option Addr):ai w a 0 []:=⟨rfl,fun h=>absurd h (by omega)⟩
theorem ai.below{w w':World}{a:Option Addr}{n:Nat}{Z:List Int}{B:Nat}(h:ai w a n Z)(hb:Below B w w')(hB:w.heap.size≤B):ai w' a n Z:=by
 refine⟨h.1,fun hn=> ?_⟩
 obtain⟨g,off,e,hg,hc⟩:=h.2 hn
 refine⟨g,off,e,Nat.lt_of_lt_of_le hg hb.size,fun j hj=> ?_⟩
 rw[hb.cell (p:=⟨g,off+j,none⟩) (Nat.lt_of_lt_of_le hg hB)]
 exact hc j hj
theorem ai.since{w w':World}{a:Option Addr}{n:Nat}{Z:List Int}(h:ai w a n Z)(hb:Below w.heap.size w w'):ai w' a n Z:=h.below hb (Nat.le_refl _)
theorem ai.drewN{w:World}{a:Option Addr}{n:Nat}{Z:List Int}(h:ai w a n Z)(q:Nat):ai (w.drewN q) a n Z:=
 h.below (B:=w.heap.size) ⟨rfl,rfl,rfl,Nat.le_refl _,fun _ _=>rfl⟩ (Nat.le_refl _)
def aj(w:World)(B:Nat)(e:TypeId)(v:Value)(Z:List Int):Prop:=w.ownsRow B e 1 v Z.length (Z.map dN)
theorem aj.lt{w:World}{B:Nat}{e:TypeId}{v:Value}{Z:List Int}(h:aj w B e v Z):∀ k,v.ownBlock=some k→B≤k∧k<w.heap.size:=World.ownsRow.lt h
theorem aj.made{w:World}{B:Nat}{e:TypeId}(cur:Array Value)(cap:Nat)(hB:B≤w.heap.size)(hm:cap≤maxLen)(hs:cur.size=cap):aj (w.alloc (.cells cur e)) B e (.slice (some ⟨w.heap.size,0,none⟩) 0 cap) []:=
 World.ownsRow_made w cur cap hB hm (by rw[hs,Nat.mul_one])
theorem aj.below{w w':World}{B:Nat}{e:TypeId}{v:Value}{Z:List Int}(h:aj w B e v Z)(hb:Below w.heap.size w w'):aj w' B e v Z:=by
 refine⟨h.1, ?_⟩
 rcases h.2 with hn|⟨g,cap,cur,rfl,hB,hg,rest⟩
 ·exact .inl hn
 ·refine .inr ⟨g,cap,cur,rfl,hB, ?_,rest⟩
  rw[hb.block g (Array.getElem?_eq_some_iff.1 hg).1]
  exact hg
theorem aj.mono{w:World}{B B':Nat}{e:TypeId}{v:Value}{Z:List Int}(h:aj w B e v Z)(hB:B'≤B):aj w B' e v Z:=by
 refine⟨h.1, ?_⟩
 rcases h.2 with hn|⟨g,cap,cur,rfl,hg,rest⟩
 ·exact .inl hn
 ·exact .inr ⟨g,cap,cur,rfl,Nat.le_trans hB hg,rest⟩
theorem aj.nums{w:World}{B:Nat}{e:TypeId}{v:Value}{Z:List Int}(h:aj w B e v Z):∃ a n c,v=.slice a n c∧ai w a n Z:=by
 have hown:=h
 rcases h.2 with⟨rfl,h0⟩|⟨g,cap,cur,rfl,hB,hg,h1,h2,_⟩
 ·obtain rfl:=List.eq_nil_of_length_eq_zero h0
  exact⟨none,0,0,rfl,ai.nil w none⟩
 ·refine⟨_,_,cap,rfl,rfl,fun _=>⟨g,0,rfl,(hown.lt g rfl).2,fun j hj=> ?_⟩⟩
  have:=World.ownsRow.cells hown (g:=g) rfl j (dN Z[j]) (by rw[List.getElem?_map,List.getElem?_eq_getElem hj];rfl)
  rwa [aU]at this
theorem eO{P:Program}(w:World){ops:Array Oper}{rest:List Oper}{o:Oper}{a:Act}{Q:Exit→Act→World→Prop}(hgd:o.guard=none)(s x:Operand)(t:TypeId)
 (ho:o.op=.call {callee:=.builtin .append,args:=#[s,x],argTypes:=#[t,t]})(e:TypeId)(ht:P.underlying t=some (.slice e))
 (hinfo:(P.info? e).map (fun i=>(i.zero,i.size,i.bytes))=some (some (.int .i64 0),1,8))
 (B:Nat)(v:Value)(Z:List Int)(hs:a.eval s=v)(hown:aj w B e v Z)(hB:B≤w.heap.size)
 (C:Array Value)(c g:Nat)(z:Int)(hx:a.eval x=.slice (some ⟨g,0,none⟩) 1 c)(hg:g=w.heap.size)(hC:C=#[.int .i64 z])
 (hlen:(Z.length+1)*8≤140737488355328)
 (h:∀ v' w',aj w' B e v' (Z++ [z])→Below B w w'→wpList P ops Q rest (a.put o.dst v') w'):wpList P ops Q (o::rest) a (w.alloc (.cells C e)):=by
 obtain⟨i0,hi,hz0,hz1,hz2⟩:=info_parts hinfo
 subst hC hg
 refine wpList_append_own _ hgd s x t ho B e i0 (.int .i64 0) 1 8 ht hi hz0 hz1 hz2 rfl (by decide) v Z.length (Z.map dN) hs (World.ownsRow.alloc hown _) ⟨w.heap.size,0,none⟩ 1 c [.int .i64 z] hx rfl (fun j u hu=> ?_) (by intro u hu;simp at hu;subst hu;rfl) (by unfold maxLen;omega) hlen (by simp;omega) ?_
 ·rw[aU,Nat.zero_add,World.cell?_alloc_mark]
  simpa using hu
 ·intro v' w' hown' hgrow _
  refine h v' w' ?_ ?_
  ·show w'.ownsRow B e 1 v' (Z++ [z]).length ((Z++ [z]).map dN)
   rw[List.map_append,List.length_append]
   exact hown'
  ·exact Below.grown ((Below.refl B w).alloc hB _) hgrow (by simp;omega) (fun k hk=>(hown.lt k hk).1)
theorem ai.at{w:World}{a:Option Addr}{n:Nat}{Z:List Int}(h:ai w a n Z)(hn:0<n):∃ ad,a=some ad∧∀ j (h:j<Z.length),w.cell? (ad.add j)=some (dN Z[j]):=by
 obtain⟨g,off,rfl,_,hc⟩:=h.2 hn
 exact⟨_,rfl,fun j hj=>by rw[aU];exact hc j hj⟩
theorem aj.read{w:World}{B:Nat}{e:TypeId}{a:Option Addr}{n c:Nat}{Z:List Int}(h:aj w B e (.slice a n c) Z):ai w a n Z:=by
 obtain⟨a',n',c',he,hat⟩:=h.nums
 cases he
 exact hat
theorem aj.laid{w:World}{e:TypeId}{n B:Nat}(hn:n=w.heap.size)(hB:B≤n):aj (w.alloc (.cells #[] e)) B e (.slice (some ⟨n,0,none⟩) 0 0) []:=by
 subst hn;exact aj.made #[] 0 hB (Nat.zero_le _) rfl
theorem aj.setCell{w:World}{B:Nat}{e:TypeId}{v:Value}{Z:List Int}(h:aj w B e v Z)(p:Addr)(x:Value)(hp:p.block<B):aj (w.setCell p x) B e v Z:=by
 refine⟨h.1, ?_⟩
 rcases h.2 with hn|⟨g,cap,cur,rfl,hg,hh,rest⟩
 ·exact .inl hn
 ·refine .inr ⟨g,cap,cur,rfl,hg, ?_,rest⟩
  rw[Below.heap_setCell _ _ _ _ (by omega)]
  exact hh
theorem bQ{P:Program}(w:World){ops:Array Oper}{rest:List Oper}{o:Oper}{a:Act}{Q:Exit→Act→World→Prop}(hgd:o.guard=none)(s x:Operand)(t:TypeId)
 (ho:o.op=.call {callee:=.builtin .append,args:=#[s,x],argTypes:=#[t,t]})(e:TypeId)(ht:P.underlying t=some (.slice e))
 (hinfo:(P.info? e).map (fun i=>(i.zero,i.size,i.bytes))=some (some (.int .i64 0),1,8))
 (B:Nat)(v:Value)(Z:List Int)(hs:a.eval s=v)(hown:aj w B e v Z)(hB:B≤w.heap.size)
 (xa:Option Addr)(m c:Nat)(news:List Int)(hx:a.eval x=.slice xa m c)(hnil:xa=none→c=0)(hat:ai w xa m news)
 (hlen:(Z.length+m)*8≤140737488355328)
 (h:∀ va vn vc w',aj w' B e (.slice va vn vc) (Z++news)→Below B w w'→wpList P ops Q rest (a.put o.dst (.slice va vn vc)) w'):wpList P ops Q (o::rest) a w:=by
 obtain⟨i0,hi,hz0,hz1,hz2⟩:=info_parts hinfo
 have h1:=hat.1
 cases xa with
 |none=>
  have hm:m=0:=by
   by_cases h0:0<m
   ·obtain⟨g,off,he,_⟩:=hat.2 h0;cases he
   ·omega
  have hc:c=0:=hnil rfl
  subst hm hc
  have h0:news=[]:=List.eq_nil_of_length_eq_zero h1
  subst h0
  refine wpList_append_own_none hgd s x t ho B e i0 1 ht hi v Z.length (Z.map dN) hs hown hx ?_
  obtain⟨va,vn,vc,rfl,hat⟩:=hown.nums
  exact h va vn vc w (by rw[List.append_nil];exact hown) (Below.refl _ _)
 |some ad=>
  subst h1
  refine wpList_append_own _ hgd s x t ho B e i0 (.int .i64 0) 1 8 ht hi hz0 hz1 hz2 rfl (by decide) v Z.length (Z.map dN) hs hown ad news.length c (news.map dN) hx (by simp) (fun j u hu=> ?_) (fun u hu=>by obtain⟨z,_,rfl⟩:=List.mem_map.1 hu;rfl) (by unfold maxLen;omega) hlen hB ?_
  ·rw[List.getElem?_map]at hu
   obtain⟨z,hz,rfl⟩:=Option.map_eq_some_iff.1 hu
   obtain⟨hj,rfl⟩:=List.getElem?_eq_some_iff.1 hz
   obtain⟨ad',he,hcell⟩:=hat.at (by omega)
   cases he
   exact hcell j hj
  ·intro v' w' hown' hgrow _
   have hown2:aj w' B e v' (Z++news):=by
    show w'.ownsRow B e 1 v' (Z++news).length ((Z++news).map dN)
    rw[List.map_append,List.length_append]
    exact hown'
   obtain⟨va,vn,vc,rfl,hat⟩:=hown2.nums
   exact h va vn vc w' hown2 (Below.grown (Below.refl B w) hgrow hB (fun k hk=>(hown.lt k hk).1))
theorem below_drewN{B:Nat}{w u:World}(q:Nat)(h:Below B w u):Below B w (u.drewN q):=h.trans ⟨rfl,rfl,rfl,Nat.le_refl _,fun _ _=>rfl⟩
theorem aT:(Tryz.prog.info? 3).map (fun i=>(i.zero,i.size,i.bytes))=some (some (.int .i64 0),1,8):=by kernel_rfl
end Go.Proofs.YthjdeoppajlcoaaGreatDoor

namespace Go.Proofs.YthjdeoppajlcoaaGreatDoor
open Go.ChangeShapes Go.WideShapes Go.ChangeAt Go.RowKit
section
variable {H : Type} {enc : TypeId × Value → H} {P : Program}
theorem ni(hl:laidOutB P=true){W W':World}(hb:Below W.heap.size W W'):∀ {ts:List TypeId} {vs:List Value} {ds:List (DataW H)} {ps:List MemPlace},
 (∀t∈ts,P.readableRec t=true∧t<P.types.size)→DataW.TrodAll enc P W 0 (fun _=>true) true ts vs ds ps→(∀x∈ps,x.block<W.heap.size)→
 DataW.TrodAll enc P W' 0 (fun b=>decide (b<W.heap.size)) true ts vs ds ps
 | [],_,_,_,_,h,_=>by
  obtain⟨rfl,rfl,rfl⟩:=trodAll_nil h
  exact trodAll_mk0
 |t::ts,_,_,_,ht,h,hlt=>by
  obtain⟨v,vs,d,ds,p,q,rfl,rfl,rfl,h0,hr⟩:=trodAll_cons h
  have h1:=ht t (by simp)
  exact trodAll_cons_mk (Below.trod hl h1.1 h1.2 h0 hb (fun x hx=>hlt x (by simp[hx]))) (ni hl hb (fun u hu=>ht u (by simp[hu])) hr (fun x hx=>hlt x (by simp[hx])))
theorem Gf{f:Func}{s:ChangeSpec}{apart:Bool}{W W':World}{args:Array Value}{ds gs:List (DataW H)}{before:List MemPlace}{tb:TypeId}
 (hl:laidOutB P=true)(hts:∀ t∈f.params.toList,P.readableRec t=true∧t<P.types.size)(hrs:f.resultTypes=#[tb])(htb:P.underlying tb=some .bool)(hvars:s.vars=[])
 (hfn:s.fn H (ds++gs)={results:=[.lit (.bool true)],args:=ds})(hW:DataW.Whole enc P f.params.toList s.vars apart W args.toList ds gs before)(hb:Below W.heap.size W W'):
 s.post enc P f apart true false false W args (.bool true) W':=by
 have hW':=hW
 obtain⟨p,q,hA,hV,hps,hfz,hnd⟩:=hW
 refine⟨ds,gs,before,[],p,[],hW', ?_, ?_, ?_,hb.frame _,fun h=>by cases h⟩
 ·rw[hfn,hrs]
  exact trodAll_cons_mk (shut_bool htb _) trodAll_mk0
 ·rw[hfn]
  exact ni hl hb hts hA (fun x hx=>hW'.lt x (by rw[hps];simp[hx]))
 ·rw[hfn,hvars];rfl
end
section
variable {H : Type} {enc : TypeId × Value → H} {P : Program}
def SliceOf(k:IntKind)(n:Nat)(d:DataW H):Prop:=n=0∨∃ (zs ys:List Int),d=.slice (lits k zs) (lits k ys)∧zs.length=n
end
end Go.Proofs.YthjdeoppajlcoaaGreatDoor

namespace Go.Proofs.YthjdeoppajlcoaaGreatDoor
set_option linter.unusedVariables false
open Go.ChangeShapes Go.WideShapes Go.ChangeAt Go.RowKit Go.Joins Go.Deep
section
variable {H : Type} {enc : TypeId × Value → H} {P : Program} {W : World}
theorem Df{ts:List TypeId}{ds:List (DataW H)}(hsz:(DataW.weightsEach P ts ds).all (· ≤reachBytes)=true){j:Nat}{t:TypeId}{fs:Array Field}{parts:List (DataW H)}(hj:ts[j]? =some t)(hd:ds[j]? =some (.agg parts))(hs:P.underlying t=some (.struct fs)):
 (DataW.weightsEach P (fs.toList.map (·.type)) parts).all (· ≤reachBytes)=true:=by
 rw[List.all_eq_true]
 intro n hn
 have:=List.all_eq_true.1 hsz n (DataW.weights_mem_each hj hd n (by simp only[DataW.weights,hs];exact hn))
 exact this
theorem qi{fuel:Nat}{t e:TypeId}{v:Value}{y:DataW H×List MemPlace}(ht:P.underlying t=some (.slice e))(he:P.underlying e=some (.int .i64))(hc:P.cellsOf e=1)(h8:P.bytesOf e=8)
 (h:DataW.trod enc P W 0 (fun _=>true) true fuel t [v]=some y)(hlt:∀ x∈y.2,x.block<W.heap.size){ts:List TypeId}{ds:List (DataW H)}(hsz:(DataW.weightsEach P ts ds).all (· ≤reachBytes)=true){j:Nat}(hj:ts[j]? =some t)(hd:ds[j]? =some y.1):
 ∃(a:Option Addr) (n c:Nat) (Z:List Int),v=.slice a n c∧ai W a n Z∧(a=none→c=0)∧n*8≤140737488351232∧(∀z∈Z, -9223372036854775808≤z∧z≤9223372036854775807)∧SliceOf .i64 n y.1:=by
 rcases open_ints ht he hc h with⟨hcs,hx⟩|⟨a,len,cap,zs,hcs,_,hl,hm,hz,hx,hcell,hwz⟩
 ·simp at hcs
  subst hcs
  exact⟨none,0,0,[],rfl,ai.nil W none,fun _=>rfl,by omega,(fun z hz=>by cases hz),Or.inl rfl⟩
 ·simp at hcs
  subst hcs hx
  simp only[if_true]at hz
  have hr:=sized_slice hsz hj hd ht
  rw[h8]at hr
  simp only[lits,List.length_map,List.length_take,List.length_drop,reachBytes]at hr
  refine⟨some a,len,cap,zs.take len,rfl,⟨by simp;omega,fun hn=> ?_⟩,(fun h=>by cases h),by omega,fun z hz'=>oC (hwz z (List.mem_of_mem_take hz')),Or.inr ⟨zs.take len,zs.drop len,rfl,by simp;omega⟩⟩
  obtain⟨b,off,spot⟩:=a
  have hs:spot=none:=by simpa [Addr.add]using World.cell?_spot (hcell 0 (by omega))
  subst hs
  refine⟨b,off,rfl,hlt (.cell b (off+0)) (MemPlace.mem_row.2 ⟨0,by omega,rfl⟩),fun i hi=> ?_⟩
  rw[List.length_take]at hi
  have:=hcell i (by omega)
  rw[aU,List.getD_eq_getElem?_getD,List.getElem?_eq_getElem (by omega)]at this
  rw[this,List.getElem_take]
  rfl
end
structure OpD where
 (K A B C N:Int)(S:ByteArray)(L:List Int)(T:Bool)
structure mV where
 (K A To Else:Int)(L M:List Int)
structure dD where
 (params:List Int)(ops:List OpD)(fin:mV)
structure ak where
 (ret:Int)(blocks:List dD)
structure wC where
 (params:List Int)(ret:Int)
structure iE where
 (fields methods:List Int)
structure aB where
 (sigs:List wC)(classes:List iE)(funcs:List ak)
def InR(z:Int):Prop:= -9223372036854775808≤z∧z≤9223372036854775807
def lm(W:World)(v:Value)(Z:List Int):Prop:=
 ∃a n c,v=.slice a n c∧ai W a n Z∧(a=none→c=0)∧n*8≤140737488351232∧∀ z∈Z,InR z
def gG{α:Type}(Q:World→List Value→α→Prop)(k:Nat)(W:World)(v:Value)(xs:List α):Prop:=
 ∃a n c,v=.slice a n c∧xs.length=n∧(a=none→c=0)∧n≤140737488351232∧(0<n→∃ g off,a=some ⟨g,off,none⟩∧g<W.heap.size∧
  ∀i (h:i<xs.length),∃cs,cs.length=k∧(∀j (hj:j<cs.length),W.cell? ⟨g,off+i*k+j,none⟩=some cs[j])∧Q W cs xs[i])
def OpQ(W:World)(cs:List Value)(x:OpD):Prop:=
 ∃l,cs=[.int .i64 x.K,.int .i64 x.A,.int .i64 x.B,.int .i64 x.C,.int .i64 x.N,.string x.S,l,.bool x.T]∧InR x.K∧InR x.A∧InR x.B∧InR x.C∧InR x.N∧x.S.size≤140737488351232∧lm W l x.L
def Fj(W:World)(cs:List Value)(x:mV):Prop:=
 ∃l m,cs=[.int .i64 x.K,.int .i64 x.A,.int .i64 x.To,.int .i64 x.Else,l,m]∧InR x.K∧InR x.A∧InR x.To∧InR x.Else∧lm W l x.L∧lm W m x.M
def aM(W:World)(cs:List Value)(x:dD):Prop:=
 ∃p o es,cs=p::o::es∧lm W p x.params∧gG OpQ 8 W o x.ops∧Fj W es x.fin
def bO(W:World)(cs:List Value)(x:ak):Prop:=∃ b,cs=[.int .i64 x.ret,b]∧InR x.ret∧gG aM 8 W b x.blocks
def Cf(W:World)(cs:List Value)(x:wC):Prop:=∃ p,cs=[p,.int .i64 x.ret]∧lm W p x.params∧InR x.ret
def jy(W:World)(cs:List Value)(x:iE):Prop:=∃ f m,cs=[f,m]∧lm W f x.fields∧lm W m x.methods
def oZ(W:World)(cs:List Value)(x:aB):Prop:=∃ s c f,cs=[s,c,f]∧gG Cf 2 W s x.sigs∧gG jy 2 W c x.classes∧gG bO 2 W f x.funcs
def wE{α:Type}(Q:World→List Value→α→Prop):Prop:=∀ (W W':World) (cs:List Value) (x:α),Below W.heap.size W W'→Q W cs x→Q W' cs x
theorem lm.since{W W':World}{v:Value}{Z:List Int}(hb:Below W.heap.size W W')(h:lm W v Z):lm W' v Z:=by
 obtain⟨a,n,c,e,hat,rest⟩:=h
 exact⟨a,n,c,e,hat.since hb,rest⟩
theorem gG.since{α:Type}{Q:World→List Value→α→Prop}(hQ:wE Q){k:Nat}{W W':World}{v:Value}{xs:List α}(hb:Below W.heap.size W W')(h:gG Q k W v xs):gG Q k W' v xs:=by
 obtain⟨a,n,c,e,hl,hn,hm,hc⟩:=h
 refine⟨a,n,c,e,hl,hn,hm,fun h0=> ?_⟩
 obtain⟨g,off,ea,hg,hi⟩:=hc h0
 refine⟨g,off,ea,Nat.lt_of_lt_of_le hg hb.size,fun i h=> ?_⟩
 obtain⟨cs,hk,hcs,hq⟩:=hi i h
 exact⟨cs,hk,fun j hj=>(hb.cell (p:=⟨g,off+i*k+j,none⟩) hg).trans (hcs j hj),hQ _ _ _ _ hb hq⟩
theorem OpQ.lasts:wE OpQ:=fun _ _ _ _ hb ⟨l,e,h1,h2,h3,h4,h5,h6,h⟩=>⟨l,e,h1,h2,h3,h4,h5,h6,h.since hb⟩
theorem Fj.lasts:wE Fj:=fun _ _ _ _ hb ⟨l,m,e,h1,h2,h3,h4,h,h'⟩=>⟨l,m,e,h1,h2,h3,h4,h.since hb,h'.since hb⟩
theorem aM.lasts:wE aM:=fun _ _ _ _ hb ⟨p,o,es,e,h1,h2,h3⟩=>⟨p,o,es,e,h1.since hb,h2.since OpQ.lasts hb,Fj.lasts _ _ _ _ hb h3⟩
theorem bO.lasts:wE bO:=fun _ _ _ _ hb ⟨b,e,h1,h2⟩=>⟨b,e,h1,h2.since aM.lasts hb⟩
theorem Cf.lasts:wE Cf:=fun _ _ _ _ hb ⟨p,e,h1,h2⟩=>⟨p,e,h1.since hb,h2⟩
theorem jy.lasts:wE jy:=fun _ _ _ _ hb ⟨f,m,e,h1,h2⟩=>⟨f,m,e,h1.since hb,h2.since hb⟩
theorem oZ.lasts:wE oZ:=fun _ _ _ _ hb ⟨s,c,f,e,h1,h2,h3⟩=>⟨s,c,f,e,h1.since Cf.lasts hb,h2.since jy.lasts hb,h3.since bO.lasts hb⟩
section
variable {H : Type} {enc : TypeId × Value → H} {P : Program}
def Fits(P:Program)(t:TypeId)(d:DataW H):Prop:=(d.weights P t).all (· ≤reachBytes)=true
theorem Fits.of_each{ts:List TypeId}{ds:List (DataW H)}(h:(DataW.weightsEach P ts ds).all (· ≤reachBytes)=true){j:Nat}{t:TypeId}{d:DataW H}(hj:ts[j]? =some t)(hd:ds[j]? =some d):Fits P t d:=by
 unfold Fits
 rw[List.all_eq_true]
 exact fun n hn=>List.all_eq_true.1 h n (DataW.weights_mem_each hj hd n hn)
theorem Fits.each{t:TypeId}{d:DataW H}(h:Fits P t d):(DataW.weightsEach P [t] [d]).all (· ≤reachBytes)=true:=by
 simpa [DataW.weightsEach,Fits]using h
theorem Fits.part{t:TypeId}{fs:Array Field}{parts:List (DataW H)}(hs:P.underlying t=some (.struct fs))(h:Fits P t (.agg parts)){j:Nat}{f:Field}{d:DataW H}(hf:fs[j]? =some f)(hd:parts[j]? =some d):Fits P f.type d:=by
 have h1:=Df h.each (j:=0) rfl rfl hs
 exact Fits.of_each h1 (by simp[List.getElem?_map,hf]) hd
theorem pM{e:TypeId}{ds:List (DataW H)}{d:DataW H}(hd:d∈ds){n:Nat}(hn:n∈d.weights P e):n∈DataW.weightsAll P e ds:=by
 induction ds with
 |nil=>cases hd
 |cons x r ih=>
  simp only[DataW.weightsAll,List.mem_append]
  rcases List.mem_cons.1 hd with rfl|h
  ·exact .inl hn
  ·exact .inr (ih h)
theorem Fits.elem{t e:TypeId}{elems spare:List (DataW H)}(ht:P.underlying t=some (.slice e))(h:Fits P t (.slice elems spare)){d:DataW H}(hd:d∈elems):Fits P e d:=by
 unfold Fits at h⊢
 rw[List.all_eq_true]at h⊢
 intro n hn
 refine h n ?_
 simp only[DataW.weights,ht,List.mem_cons,List.mem_append]
 exact .inr (.inl (pM hd hn))
def Opens{α:Type}(enc:TypeId×Value→H)(P:Program)(t:TypeId)(Q:World→List Value→α→Prop):Prop:=
 ∀{W:World} {fuel:Nat} {cs:List Value} {y:DataW H×List MemPlace},DataW.trod enc P W 0 (fun _=>true) true fuel t cs=some y→(∀x∈y.2,x.block<W.heap.size)→Fits P t y.1→∃ x:α,Q W cs x
theorem DW{α:Type}{R:Nat→α→Prop}:∀ n:Nat,(∀i,i<n→∃ x,R i x)→∃ xs:List α,xs.length=n∧∀ i (h:i<xs.length),R i xs[i]
 |0,_=>⟨[],rfl,fun i h=>absurd h (by simp)⟩
 |n+1,h=>by
  obtain⟨xs,hl,hx⟩:=DW n (fun i hi=>h i (by omega))
  obtain⟨x,hr⟩:=h n (by omega)
  refine⟨xs++ [x],by simp[hl],fun i hi=> ?_⟩
  by_cases hi':i<xs.length
  ·rw[List.getElem_append_left hi'];exact hx i hi'
  ·have:i=n:=by simp[hl]at hi;omega
   subst this
   rw[List.getElem_append_right (by omega)]
   simpa using hr
theorem kU{α:Type}{Q:World→List Value→α→Prop}{t e:TypeId}{k:Nat}(ht:P.underlying t=some (.slice e))(hk:P.cellsOf e=k)(h0:0<k)(hby:0<P.bytesOf e)(hQ:Opens enc P e Q):Opens enc P t (fun W cs xs=>∃ v,cs=[v]∧gG Q k W v xs):=by
 intro W fuel cs y h hlt hfit
 subst hk
 rcases open_slice ht h with⟨rfl,rfl⟩|⟨a,len,cap,m,n,D,Pl,rfl,hb,hl,hm,hmm,rfl,hi⟩
 ·exact⟨[],_,rfl,none,0,0,rfl,rfl,fun _=>rfl,by omega,fun h=>absurd h (by omega)⟩
 ·simp only[if_true]at hmm
  have hw:=sized_slice hfit.each (j:=0) rfl rfl ht
  simp only[List.length_map,List.length_range,reachBytes]at hw
  have hlen:len≤140737488351232:=by
   have h1:len*1≤(len+(m-len))*P.bytesOf e:=Nat.mul_le_mul (by omega) hby
   omega
  obtain⟨xs,hxl,hxs⟩:=DW (R:=fun(i:Nat) (x:α)=>∃ cs:List Value,cs.length=P.cellsOf e∧(∀j (hj:j<cs.length),W.cell? ((a.add (i*P.cellsOf e)).add j)=some cs[j])∧Q W cs x) len (fun i hi'=>by
   obtain⟨cs',hc,htr⟩:=hi i (by omega)
   obtain⟨_,hcl,hcat⟩:=World.cells?_some hc
   have hmem:D i∈(List.range len).map D:=List.mem_map.2 ⟨i,List.mem_range.2 hi',rfl⟩
   obtain⟨x,hx⟩:=hQ htr (fun p hp=>hlt p (List.mem_append_right _ (List.mem_flatMap.2 ⟨i,List.mem_range.2 (by omega),hp⟩))) (hfit.elem ht hmem)
   exact⟨x,cs',hcl,fun j hj=>by rw[hcat j (by omega),List.getElem?_eq_getElem hj],hx⟩)
  refine⟨xs,_,rfl,some a,len,cap,rfl,hxl,(fun h=>by cases h),hlen,fun hpos=> ?_⟩
  obtain⟨b,off,spot⟩:=a
  have hs:spot=none:=by
   obtain⟨cs0,hcl0,hc0,_⟩:=hxs 0 (by omega)
   have:=World.cell?_spot (hc0 0 (by omega))
   simpa [Addr.add]using this
  subst hs
  refine⟨b,off,rfl,hlt (.cell b (off+0)) (List.mem_append_left _ (MemPlace.mem_row.2 ⟨0,Nat.mul_pos (by omega) h0,rfl⟩)),fun i h=> ?_⟩
  obtain⟨cs,hcl,hc,hq⟩:=hxs i h
  refine⟨cs,hcl,fun j hj=> ?_,hq⟩
  have:=hc j hj
  rw[aU,aU]at this
  exact this
theorem AX{t e:TypeId}(ht:P.underlying t=some (.slice e))(he:P.underlying e=some (.int .i64))(hc:P.cellsOf e=1)(h8:P.bytesOf e=8):Opens enc P t (fun W cs Z=>∃ v,cs=[v]∧lm W v Z):=by
 intro W fuel cs y h hlt hfit
 have hone:∃ v,cs=[v]:=by
  rcases open_slice ht h with⟨rfl,_⟩|⟨a,len,cap,_,_,_,_,rfl,_⟩<;>exact⟨_,rfl⟩
 obtain⟨v,rfl⟩:=hone
 obtain⟨a,n,c,Z,e1,h1,h2,h3,h4,_⟩:=qi ht he hc h8 h hlt hfit.each (j:=0) rfl rfl
 exact⟨Z,v,rfl,a,n,c,e1,h1,h2,h3,h4⟩
theorem d9{t:TypeId}(ht:P.underlying t=some (.int .i64)):Opens enc P t (fun W cs z=>cs=[.int .i64 z]∧InR z):=by
 intro W fuel cs y h _ _
 obtain⟨n,h1,_,h3⟩:=DataW.trod_int ht h
 exact⟨n,h1,oC h3⟩
theorem AV{t:TypeId}(ht:P.underlying t=some .string):Opens enc P t (fun W cs s=>cs=[.string s]∧s.size≤140737488351232):=by
 intro W fuel cs y h _ hfit
 obtain⟨s,h1,h2,_⟩:=DataW.trod_string ht h
 have:=sized_string hfit.each (j:=0) (bytes:=s.data.toList) rfl (by rw[h2];rfl)
 rw[nG]at this
 exact⟨s,h1,by simpa [reachBytes]using this⟩
theorem AZ{t:TypeId}(ht:P.underlying t=some .bool):Opens enc P t (fun W cs b=>cs=[.bool b]):=by
 intro W fuel cs y h _ _
 obtain⟨b,h1,_⟩:=DataW.trod_bool ht h
 exact⟨b,h1⟩
theorem aS{α:Type}{Q:World→List Value→α→Prop}{t:TypeId}{fs:Array Field}{W:World}{fuel:Nat}{cs:List Value}{y:DataW H×List MemPlace}(hs:P.underlying t=some (.struct fs))(h:DataW.trod enc P W 0 (fun _=>true) true fuel t cs=some y)(hlt:∀ x∈y.2,x.block<W.heap.size)(hfit:Fits P t y.1)
 (j:Nat){f:Field}(hf:fs[j]? =some f){o k:Nat}(ho:f.offset=o)(hk:P.cellsOf f.type=k){u:TypeId}(hu:f.type=u)(hQ:Opens enc P u Q):∃ x,Q W ((cs.drop o).take k) x:=by
 subst ho hk hu
 obtain⟨xs,n,_,rfl,hcl,hxl,hg⟩:=DataW.trod_struct hs h
 have hj:j<xs.length:=by rw[hxl];exact(Array.getElem?_eq_some_iff.1 hf).1
 have hx:xs[j]? =some xs[j]:=List.getElem?_eq_getElem hj
 have h1:=(hg j f hf).trans hx
 exact hQ h1 (fun p hp=>hlt p (List.mem_flatMap.2 ⟨xs[j],List.getElem_mem _,hp⟩)) (hfit.part hs hf (by rw[List.getElem?_map,hx];rfl))
theorem gL{t:TypeId}{fs:Array Field}{W:World}{fuel:Nat}{cs:List Value}{y:DataW H×List MemPlace}(hs:P.underlying t=some (.struct fs))(h:DataW.trod enc P W 0 (fun _=>true) true fuel t cs=some y):cs.length=P.cellsOf t:=by
 obtain⟨xs,n,_,_,hcl,_⟩:=DataW.trod_struct hs h
 exact hcl
end
end Go.Proofs.YthjdeoppajlcoaaGreatDoor

namespace Go.Proofs.YthjdeoppajlcoaaGreatDoor
set_option linter.unusedVariables false
def pU(e:mV):List (Int×List Int):=if e.K=0 then [(e.To,e.L)]else if e.K=1 then [(e.To,e.L),(e.Else,e.M)]else []
def tos(e:mV):List Int:=(pU e).map (·.1)
def iQ(e:mV):List Int:=if e.K=0 then [e.To]else if e.K=1 then(if e.To=e.Else then [e.To]else [e.To,e.Else])else []
def noEnd:mV:=⟨2,0,0,0,[],[]⟩
def aN(f:ak)(k:Nat):mV:=match f.blocks[k]? with|some b=>b.fin|none=>noEnd
def toF(f:ak)(k:Nat):List Int:=tos (aN f k)
def nxF(f:ak)(k:Nat):List Int:=iQ (aN f k)
section
variable (N : Nat) (nx : Nat → List Int)
def There(N:Nat)(z:Int):Prop:=0≤z∧z<(N:Int)
instance (z:Int):Decidable (There N z):=by unfold There;infer_instance
def bf:Nat→List Int×List Int→Int→List Int×List Int
 |0,s,_=>s
 |k+1,s,b=>if¬There N b∨b∈s.1 then s else(((nx b.toNat).foldl (bf k) (s.1++ [b],s.2)).1,b::((nx b.toNat).foldl (bf k) (s.1++ [b],s.2)).2)
def Inv(met:List Int):Prop:=met.Nodup∧∀ x∈met,There N x
end
section
variable {N : Nat} {nx : Nat → List Int}
theorem bR{k:Nat}{s:List Int×List Int}{b:Int}(h:¬ There N b∨b∈s.1):bf N nx k s b=s:=by
 cases k with
 |zero=>rfl
 |succ k=>unfold bf;rw[if_pos h]
theorem iM{k:Nat}{s:List Int×List Int}{b:Int}(h:There N b)(h2:b∉s.1):bf N nx (k+1) s b=(((nx b.toNat).foldl (bf N nx k) (s.1++ [b],s.2)).1,b::((nx b.toNat).foldl (bf N nx k) (s.1++ [b],s.2)).2):=by
 rw[bf,if_neg (by intro h';rcases h' with h'|h';exact h' h;exact h2 h')]
theorem Inv.len{met:List Int}(h:Inv N met):met.length≤N:=by
 have h1:=List.Nodup.length_le_of_subset h.1 (l₂:=(List.range N).map Int.ofNat) (fun x hx=>by
  have h0:=h.2 x hx
  obtain⟨k,rfl⟩:=Int.eq_ofNat_of_zero_le h0.1
  exact List.mem_map.2 ⟨k,List.mem_range.2 (by have:=h0.2;omega),rfl⟩)
 simpa using h1
theorem Inv.nil:Inv N []:=⟨List.nodup_nil,fun x hx=>by cases hx⟩
theorem Inv.more{met:List Int}{b:Int}(h:Inv N met)(hb:There N b)(hn:b∉met):Inv N (met++ [b]):=
 ⟨List.nodup_append.2 ⟨h.1,by simp,fun a ha c hc e=>by simp at hc;subst hc;subst e;exact hn ha⟩,fun x hx=>by
  rcases List.mem_append.1 hx with hx|hx
  ·exact h.2 x hx
  ·simp at hx;subst hx;exact hb⟩
theorem Inv.room{met:List Int}{b:Int}(h:Inv N met)(hb:There N b)(hn:b∉met):met.length<N:=by
 have:=(h.more hb hn).len
 simp at this
 omega
theorem uF:∀ (k:Nat) (s:List Int×List Int) (b:Int),∃t u,(bf N nx k s b).1=s.1++t∧(bf N nx k s b).2=u++s.2
 |0,s,b=>⟨[],[],by simp[bf],by simp[bf]⟩
 |k+1,s,b=>by
  by_cases h:¬ There N b∨b∈s.1
  ·exact⟨[],[],by rw[bR h];simp,by rw[bR h];simp⟩
  ·have hT:There N b:=Classical.byContradiction fun h'=>h (.inl h')
   have hM:b∉s.1:=fun h'=>h (.inr h')
   have fold:∀ (l:List Int) (s:List Int×List Int),∃t u,(l.foldl (bf N nx k) s).1=s.1++t∧(l.foldl (bf N nx k) s).2=u++s.2:=by
    intro l
    induction l with
    |nil=>intro s;exact⟨[],[],by simp,by simp⟩
    |cons n l ih=>
     intro s
     obtain⟨t1,u1,h1,h2⟩:=uF k s n
     obtain⟨t2,u2,h3,h4⟩:=ih (bf N nx k s n)
     exact⟨t1++t2,u2++u1,by rw[List.foldl_cons,h3,h1,List.append_assoc],by rw[List.foldl_cons,h4,h2,List.append_assoc]⟩
   obtain⟨t,u,h1,h2⟩:=fold (nx b.toNat) (s.1++ [b],s.2)
   rw[iM hT hM]
   exact⟨[b]++t,b::u,by simp only;rw[h1];simp,by simp only;rw[h2];rfl⟩
theorem yP{k:Nat}{s:List Int×List Int}{b x:Int}(h:x∈s.1):x∈(bf N nx k s b).1:=by
 obtain⟨t,u,h1,_⟩:=uF (N:=N) (nx:=nx) k s b
 rw[h1]
 exact List.mem_append_left _ h
theorem Ah(k:Nat)(s:List Int×List Int)(b:Int):bf N nx k (bf N nx k s b) b=bf N nx k s b:=by
 cases k with
 |zero=>rfl
 |succ k=>
  by_cases h:¬ There N b∨b∈s.1
  ·rw[bR h,bR h]
  ·have hT:There N b:=Classical.byContradiction fun h'=>h (.inl h')
   have hM:b∉s.1:=fun h'=>h (.inr h')
   refine bR (.inr ?_)
   rw[iM hT hM]
   have fold:∀ (l:List Int) (s:List Int×List Int),b∈s.1→b∈(l.foldl (bf N nx k) s).1:=by
    intro l
    induction l with
    |nil=>intro s h;exact h
    |cons n l ih=>intro s h;exact ih _ (yP h)
   exact fold _ _ (by simp)
end
theorem Ei{N:Nat}{nx:Nat→List Int}(k:Nat)(s:List Int×List Int)(e:mV):(tos e).foldl (bf N nx k) s=(iQ e).foldl (bf N nx k) s:=by
 unfold tos iQ pU
 split
 ·rfl
 ·split
  ·split
   ·rename_i h
    simp only[List.map_cons,List.map_nil,List.foldl_cons,List.foldl_nil,←h,Ah]
   ·rfl
  ·rfl
theorem uE(f:ak)(N:Nat):∀ (k:Nat) (s:List Int×List Int) (b:Int),bf N (toF f) k s b=bf N (nxF f) k s b
 |0,s,b=>rfl
 |k+1,s,b=>by
  have hf:bf N (toF f) k=bf N (nxF f) k:=funext fun s=>funext fun b=>uE f N k s b
  by_cases h:¬ There N b∨b∈s.1
  ·rw[bR h,bR h]
  ·have hT:There N b:=Classical.byContradiction fun h'=>h (.inl h')
   have hM:b∉s.1:=fun h'=>h (.inr h')
   rw[iM hT hM,iM hT hM,hf]
   unfold toF
   rw[Ei]
   rfl
section
variable {N : Nat} {nx : Nat → List Int}
structure Adds(N:Nat)(nx:Nat→List Int)(s s':List Int×List Int)(from_:Int→Prop)(t u:List Int):Prop where
 met:s'.1=s.1++t
 left:s'.2=u++s.2
 perm:u.Perm t
 inv:Inv N s'.1
 pred:∀ x∈t,from_ x∨∃ p∈t,x∈nx p.toNat
 clos:∀ p∈t,∀n∈nx p.toNat,There N n→n∈s'.1
theorem mZ:∀ (k:Nat) (s:List Int×List Int) (b:Int),Inv N s.1→N-s.1.length<k→∃ t u,Adds N nx s (bf N nx k s b) (fun x=>x=b) t u∧(There N b→b∈(bf N nx k s b).1)
 |0,s,b,_,h=>absurd h (by omega)
 |k+1,s,b,hi,hk=>by
  by_cases h:¬ There N b∨b∈s.1
  ·rw[bR h]
   exact⟨[],[],⟨by simp,by simp,List.Perm.nil,hi,fun x hx=>by simp at hx,fun x hx=>by simp at hx⟩,fun hT=>by rcases h with h|h;exact absurd hT h;exact h⟩
  ·have hT:There N b:=Classical.byContradiction fun h'=>h (.inl h')
   have hM:b∉s.1:=fun h'=>h (.inr h')
   have fold:∀ (l:List Int) (s:List Int×List Int),Inv N s.1→N-s.1.length<k→∃ t u,Adds N nx s (l.foldl (bf N nx k) s) (fun x=>x∈l) t u∧∀ n∈l,There N n→n∈(l.foldl (bf N nx k) s).1:=by
    intro l
    induction l with
    |nil=>intro s hi hk;exact⟨[],[],⟨by simp,by simp,List.Perm.nil,hi,fun x hx=>by simp at hx,fun x hx=>by simp at hx⟩,fun n hn=>by simp at hn⟩
    |cons n l ih=>
     intro s hi hk
     obtain⟨t1,u1,a1,b1⟩:=mZ k s n hi hk
     obtain⟨t2,u2,a2,b2⟩:=ih (bf N nx k s n) a1.inv (by rw[a1.met,List.length_append];omega)
     rw[List.foldl_cons]
     have sub:∀ x,x∈(bf N nx k s n).1→x∈(l.foldl (bf N nx k) (bf N nx k s n)).1:=fun x hx=>by rw[a2.met];exact List.mem_append_left _ hx
     refine⟨t1++t2,u2++u1,⟨by rw[a2.met,a1.met,List.append_assoc],by rw[a2.left,a1.left,List.append_assoc],List.perm_append_comm.trans (a1.perm.append a2.perm),a2.inv,fun x hx=> ?_,fun p hp m hm hT=> ?_⟩,fun m hm hT=> ?_⟩
     ·rcases List.mem_append.1 hx with hx|hx
      ·rcases a1.pred x hx with rfl|⟨p,hp,h⟩
       ·exact .inl (by simp)
       ·exact .inr ⟨p,List.mem_append_left _ hp,h⟩
      ·rcases a2.pred x hx with h|⟨p,hp,h⟩
       ·exact .inl (by simp[h])
       ·exact .inr ⟨p,List.mem_append_right _ hp,h⟩
     ·rcases List.mem_append.1 hp with hp|hp
      ·exact sub _ (a1.clos p hp m hm hT)
      ·exact a2.clos p hp m hm hT
     ·rcases List.mem_cons.1 hm with rfl|hm
      ·exact sub _ (b1 hT)
      ·exact b2 m hm hT
   have hroom:=hi.room hT hM
   obtain⟨t,u,a,c⟩:=fold (nx b.toNat) (s.1++ [b],s.2) (hi.more hT hM) (by simp;omega)
   rw[iM hT hM]
   refine⟨b::t,b::u,⟨by simp only;rw[a.met];simp,by simp only;rw[a.left];rfl,a.perm.cons b,a.inv,fun x hx=> ?_,fun p hp n hn hTn=> ?_⟩,fun _=>by simp only;rw[a.met];simp⟩
   ·rcases List.mem_cons.1 hx with rfl|hx
    ·exact .inl rfl
    ·rcases a.pred x hx with h|⟨p,hp,h⟩
     ·exact .inr ⟨b,by simp,h⟩
     ·exact .inr ⟨p,by simp[hp],h⟩
   ·rcases List.mem_cons.1 hp with rfl|hp
    ·exact c n hn hTn
    ·exact a.clos p hp n hn hTn
def jD(N:Nat)(met:List Int)(l:List Int):Option Int:=l.find? fun n=>decide (There N n∧n∉met)
inductive Runs(N:Nat)(to_:Nat→List Int):List Int→List Int→List Int→List Int→Prop
 |done (met F:List Int):Runs N to_ [] met F F
 |push {b n:Int} {way met left F:List Int}:jD N met (to_ b.toNat)=some n→Runs N to_ (n::b::way) (met++ [n]) left F→Runs N to_ (b::way) met left F
 |pop {b:Int} {way met left F:List Int}:jD N met (to_ b.toNat)=none→Runs N to_ way met (left++ [b]) F→Runs N to_ (b::way) met left F
theorem uM:∀ (k:Nat) (s:List Int×List Int) (b:Int) (way F:List Int),Inv N s.1→N-s.1.length<k→There N b→b∉s.1→Runs N nx way (bf N nx k s b).1 (bf N nx k s b).2.reverse F→Runs N nx (b::way) (s.1++ [b]) s.2.reverse F
 |0,s,b,_,_,_,h,_,_,_=>absurd h (by omega)
 |k+1,s,b,way,F,hi,hk,hT,hM,hr=>by
  rw[iM hT hM]at hr
  have scan:∀ (l pre:List Int) (s:List Int×List Int),nx b.toNat=pre++l→(∀x∈pre,¬There N x∨x∈s.1)→Inv N s.1→N-s.1.length<k→Runs N nx way (l.foldl (bf N nx k) s).1 (b::(l.foldl (bf N nx k) s).2).reverse F→Runs N nx (b::way) s.1 s.2.reverse F:=by
   intro l
   induction l with
   |nil=>
    intro pre s hp hpre hi hk hr
    refine .pop ?_ (by simpa using hr)
    unfold jD
    rw[List.find?_eq_none]
    intro x hx
    rw[hp,List.append_nil]at hx
    have:=hpre x hx
    simp only[decide_eq_true_eq]
    intro h
    rcases this with h'|h'
    ·exact h' h.1
    ·exact h.2 h'
   |cons n l ih=>
    intro pre s hp hpre hi hk hr
    rw[List.foldl_cons]at hr
    by_cases h:¬ There N n∨n∈s.1
    ·rw[bR h]at hr
     exact ih (pre++ [n]) s (by rw[hp];simp) (fun x hx=>by
      rcases List.mem_append.1 hx with hx|hx
      ·exact hpre x hx
      ·simp at hx;subst hx;exact h) hi hk hr
    ·have hTn:There N n:=Classical.byContradiction fun h'=>h (.inl h')
     have hMn:n∉s.1:=fun h'=>h (.inr h')
     obtain⟨t,u,a,c⟩:=mZ (nx:=nx) k s n hi hk
     refine .push (n:=n) ?_ ?_
     ·unfold jD
      rw[hp,List.find?_append,List.find?_eq_none.2,Option.none_or,List.find?_cons_of_pos]
      ·simp[hTn,hMn]
      ·intro x hx
       have:=hpre x hx
       simp only[decide_eq_true_eq]
       intro h
       rcases this with h'|h'
       ·exact h' h.1
       ·exact h.2 h'
     ·refine uM k s n (b::way) F hi hk hTn hMn ?_
      refine ih (pre++ [n]) (bf N nx k s n) (by rw[hp];simp) (fun x hx=> ?_) a.inv (by rw[a.met,List.length_append];omega) hr
      rcases List.mem_append.1 hx with hx|hx
      ·rcases hpre x hx with h'|h'
       ·exact .inl h'
       ·exact .inr (yP h')
      ·simp at hx;subst hx;exact .inr (c hTn)
  have hroom:=hi.room hT hM
  exact scan (nx b.toNat) [] (s.1++ [b],s.2) rfl (fun x hx=>by simp at hx) (hi.more hT hM) (by simp;omega) hr
end
def kM(f:ak):List Int×List Int:=bf f.blocks.length (nxF f) (f.blocks.length+1) ([],[]) 0
def aD(f:ak):List Int:=(kM f).2
theorem FM(f:ak)(h:0<f.blocks.length):Runs f.blocks.length (toF f) [0] [0] [] (aD f).reverse:=by
 have hw:kM f=bf f.blocks.length (toF f) (f.blocks.length+1) ([],[]) 0:=(uE f _ _ _ _).symm
 have:=uM (N:=f.blocks.length) (nx:=toF f) (f.blocks.length+1) ([],[]) 0 [] (aD f).reverse Inv.nil (by simp) ⟨Int.le_refl _,by omega⟩ (by simp) (by unfold aD;rw[hw];exact .done _ _)
 simpa using this
structure Ordered(f:ak)(L:List Int):Prop where
 nodup:L.Nodup
 there:∀ x∈L,There f.blocks.length x
 pred:∀ x∈L,x=0∨∃ p∈L,x∈nxF f p.toNat
 clos:∀ p∈L,∀n∈nxF f p.toNat,There f.blocks.length n→n∈L
theorem fI(f:ak):Ordered f (aD f):=by
 obtain⟨t,u,a,c⟩:=mZ (N:=f.blocks.length) (nx:=nxF f) (f.blocks.length+1) ([],[]) 0 Inv.nil (by simp)
 have h1:(kM f).1=t:=by have:=a.met;simpa [kM]using this
 have h2:aD f=u:=by have:=a.left;simpa [aD,kM]using this
 have hinv:Inv f.blocks.length t:=by rw[←h1];exact a.inv
 rw[h2]
 refine⟨a.perm.nodup_iff.2 hinv.1,fun x hx=>hinv.2 x (a.perm.mem_iff.1 hx),fun x hx=> ?_,fun p hp n hn hT=> ?_⟩
 ·rcases a.pred x (a.perm.mem_iff.1 hx)with h|⟨p,hp,h⟩
  ·exact .inl h
  ·exact .inr ⟨p,a.perm.mem_iff.2 hp,h⟩
 ·have:=a.clos p (a.perm.mem_iff.1 hp) n hn hT
  exact a.perm.mem_iff.2 (by rw[←h1];exact this)
theorem Dm{f:ak}(h:f.blocks.length=0):aD f=[]:=by
 have hT:¬ There f.blocks.length 0:=fun hT=>by have:=hT.2;omega
 unfold aD kM
 rw[bR (.inl hT)]
theorem rH{f:ak}(h:0<f.blocks.length):∃ r,aD f=0::r:=by
 unfold aD kM
 rw[iM ⟨Int.le_refl _,by omega⟩ (by simp)]
 exact⟨_,rfl⟩
theorem dZ(f:ak):(aD f).length≤f.blocks.length:=by
 have h:=fI f
 exact Inv.len ⟨h.nodup,h.there⟩
theorem dP{L:List Int}{i:Nat}{z:Int}(h:i<L.length)(x:Nat):nth (L.set i z) x=if x=i then z else nth L x:=by
 unfold nth
 rw[List.getD_eq_getElem?_getD,List.getD_eq_getElem?_getD,List.getElem?_set]
 by_cases e:x=i
 ·subst e;rw[if_pos rfl,if_pos rfl,if_pos h];rfl
 ·rw[if_neg (fun e'=>e e'.symm),if_neg e]
section
variable {N : Nat} {nx : Nat → List Int}
theorem nat_of{N:Nat}{z:Int}(h:There N z):∃ k:Nat,z=k∧k<N:=⟨z.toNat,by have:=h.1;omega,by have:=h.1;have:=h.2;omega⟩
end
def ahL(f:ak)(k:Nat)(b:Int):List Int:=((List.range k).filter fun i=>decide (b∈nxF f i)).map Int.ofNat
theorem GV(f:ak)(k:Nat)(b:Int):ahL f (k+1) b=ahL f k b++(if b∈nxF f k then [(k:Int)]else []):=by
 unfold ahL
 rw[List.range_succ,List.filter_append,List.map_append]
 congr 1
 by_cases h:b∈nxF f k<;>simp[h]
theorem yj(f:ak)(k:Nat)(b:Int):(ahL f k b).length≤k:=by
 unfold ahL
 rw[List.length_map]
 exact Nat.le_trans (List.length_filter_le _ _) (by simp)
theorem ahL_mem{f:ak}{k:Nat}{b x:Int}:x∈ahL f k b↔There k x∧b∈nxF f x.toNat:=by
 unfold ahL There
 simp only[List.mem_map,List.mem_filter,List.mem_range,decide_eq_true_eq]
 constructor
 ·rintro ⟨i,⟨h1,h2⟩,rfl⟩
  exact⟨⟨by simp,by simp;omega⟩,by simpa using h2⟩
 ·rintro ⟨⟨h1,h2⟩,h3⟩
  exact⟨x.toNat,⟨by omega,h3⟩,by simp;omega⟩
theorem A8(e:mV):(iQ e).Nodup:=by
 unfold iQ
 split
 ·simp
 ·split
  ·split
   ·simp
   ·rename_i h;simp[h]
  ·simp
def dR(f:ak)(i j:Nat):List (List Int):=(List.range f.blocks.length).map fun(b:Nat)=>ahL f i b++(if(b:Int)∈(nxF f i).take j then [(i:Int)]else [])
theorem EU(f:ak)(i j:Nat):(dR f i j).length=f.blocks.length:=by simp[dR]
theorem ig{f:ak}{i j b:Nat}(h:b<(dR f i j).length):(dR f i j)[b]=ahL f i b++(if(b:Int)∈(nxF f i).take j then [(i:Int)]else []):=by simp[dR]
theorem Ca(f:ak):dR f 0 0=List.replicate f.blocks.length []:=by
 apply List.ext_getElem
 ·simp[dR]
 ·intro b h1 h2
  rw[ig]
  simp[ahL]
theorem ES{f:ak}{i j b:Nat}(hj:j<(nxF f i).length)(hb:(nxF f i)[j]=(b:Int))(h:b<(dR f i j).length):(dR f i j).set b ((dR f i j)[b]++ [(i:Int)])=dR f i (j+1)∧(dR f i j)[b]=ahL f i b:=by
 have hn:(b:Int)∉(nxF f i).take j:=by
  intro h'
  obtain⟨k,hk,e⟩:=List.getElem_of_mem h'
  simp only[List.length_take]at hk
  rw[List.getElem_take]at e
  exact List.pairwise_iff_getElem.1 (A8 (aN f i)) k j (show k<(nxF f i).length by omega) hj (by omega) (e.trans hb.symm)
 refine⟨?_,by rw[ig,if_neg hn,List.append_nil]⟩
 apply List.ext_getElem
 ·simp[dR]
 ·intro c h1 h2
  rw[List.getElem_set]
  rw[ig h2,List.take_succ_eq_append_getElem hj,hb]
  split
  ·rename_i e
   subst e
   rw[ig h,if_neg hn,if_pos (by simp)]
   simp
  ·rename_i e
   rw[ig]
   congr 1
   have e':¬ ((c:Int)=(b:Int)):=fun h'=>e (by omega)
   simp[e']
theorem Cc{f:ak}{i j:Nat}(hj:j<(nxF f i).length)(hb:¬ There f.blocks.length (nxF f i)[j]):dR f i j=dR f i (j+1):=by
 apply List.ext_getElem
 ·simp[dR]
 ·intro c h1 h2
  have e':¬ ((c:Int)=(nxF f i)[j]):=fun h'=>hb (by rw[←h'];simp[EU]at h1;exact⟨by omega,by omega⟩)
  have e2:((c:Int)∈(nxF f i).take (j+1))↔((c:Int)∈(nxF f i).take j):=by
   rw[List.take_succ_eq_append_getElem hj,List.mem_append,List.mem_singleton]
   exact⟨fun h=>h.resolve_right e',.inl⟩
  rw[ig h1,ig h2]
  simp only[e2]
theorem Cb(f:ak)(i:Nat){j:Nat}(hj:j=(nxF f i).length):dR f i j=dR f (i+1) 0:=by
 subst hj
 apply List.ext_getElem
 ·simp[dR]
 ·intro c h1 h2
  rw[ig h1,ig h2,GV,List.take_length]
  simp
def lH{α:Type}(f:α→Nat):List α→Nat
 | []=>0
 |x::r=>f x+lH f r
theorem uL{α:Type}(f:α→Nat):∀ (xs:List α) (x:α),lH f (xs++ [x])=lH f xs+f x
 | [],x=>by simp[lH]
 |y::xs,x=>by simp only[List.cons_append,lH,uL f xs x];omega
theorem jG{α:Type}(f:α→Nat){xs:List α}{i:Nat}(h:i<xs.length):lH f (xs.take (i+1))=lH f (xs.take i)+f xs[i]:=by
 rw[List.take_succ_eq_append_getElem h,uL]
def pSig(y:wC):Nat:=y.params.length
def pCls(y:iE):Nat:=y.fields.length+y.methods.length
def pOp(o:OpD):Nat:=o.L.length+o.S.size/8
def oI(b:dD):Nat:=b.params.length+b.ops.length+b.fin.L.length+b.fin.M.length+lH pOp b.ops
def uV(f:ak):Nat:=f.blocks.length+lH oI f.blocks
def zh(P:aB):Nat:=P.sigs.length+P.classes.length+P.funcs.length+lH pSig P.sigs+lH pCls P.classes+lH uV P.funcs
end Go.Proofs.YthjdeoppajlcoaaGreatDoor

namespace Go.Proofs.YthjdeoppajlcoaaGreatDoor
set_option linter.unusedSimpArgs false
set_option linter.unusedVariables false
set_option maxRecDepth 100000
open Go.RowKit
attribute [local go_sem] Oper.semAt_some
open Go.Lib (hid)
def fP(n:Nat)(z:Int):Bool:=decide (There n z)
theorem pQ(r:Int)(a:Option Addr)(n c:Nat)(z:Int)(w:World)(hn:n≤140737488355328):
 Calls Tryz.prog 125 #[.agg #[.int .i64 r,.slice a n c],.int .i64 z] w fun e w'=>e=.returned (.bool (fP n z))∧w'=w.alloc (.cells #[.int .i64 r,.slice a n c] 36):=by
 by_cases h0:0≤z
 ·by_cases h1:z<(n:Int)
  ·have HT:Hid (fP n z=true):=hid (by unfold fP;exact decide_eq_true ⟨h0,h1⟩)
   go_enter Tryz.func125,Tryz.ntmps125
   go_wp2_with fail
   go_ret
   exact⟨by rw[HT.out];rfl,rfl⟩
  ·have HT:Hid (fP n z=false):=hid (by unfold fP;exact decide_eq_false (by unfold There;omega))
   go_enter Tryz.func125,Tryz.ntmps125
   go_wp2_with fail
   go_ret
   exact⟨by rw[HT.out];rfl,rfl⟩
 ·have HT:Hid (fP n z=false):=hid (by unfold fP;exact decide_eq_false (by unfold There;omega))
  have h0':z<0:=by omega
  go_enter Tryz.func125,Tryz.ntmps125
  go_wp2_with fail
  go_ret
  exact⟨by rw[HT.out];rfl,rfl⟩
theorem mr(K A T E:Int)(la:Option Addr)(ln lc:Nat)(ma:Option Addr)(mn mc:Nat)(w:World):
 Calls Tryz.prog 126 #[.agg #[.int .i64 K,.int .i64 A,.int .i64 T,.int .i64 E,.slice la ln lc,.slice ma mn mc]] w fun e w'=>e=.returned (.func (.func 152) #[] #[.pointer (some ⟨w.heap.size,0,none⟩)])∧w'=w.alloc (.cells #[.int .i64 K,.int .i64 A,.int .i64 T,.int .i64 E,.slice la ln lc,.slice ma mn mc] 49):=by
 go_enter Tryz.func126,Tryz.ntmps126
 go_wp2_with fail
 go_ret
 exact⟨rfl,rfl⟩
abbrev TgV:=Int×Option Addr×Nat×Nat
def tgV(K T E:Int)(la:Option Addr)(ln lc:Nat)(ma:Option Addr)(mn mc:Nat):List TgV:=if K=0 then [(T,la,ln,lc)]else if K=1 then [(T,la,ln,lc),(E,ma,mn,mc)]else []
theorem xg(K T E:Int)(la:Option Addr)(ln lc:Nat)(ma:Option Addr)(mn mc:Nat):(tgV K T E la ln lc ma mn mc).length≤2:=by
 unfold tgV
 repeat' split
 all_goals simp
theorem wZ(e:mV)(la:Option Addr)(ln lc:Nat)(ma:Option Addr)(mn mc:Nat):(tgV e.K e.To e.Else la ln lc ma mn mc).map (·.1)=tos e:=by
 unfold tgV tos pU
 repeat' split
 all_goals simp_all
abbrev encT(x:TgV):Array Value:=#[.agg #[.int .i64 x.1,.slice x.2.1 x.2.2.1 x.2.2.2]]
structure fC(b:Nat)(W W':World):Prop where
 walks:KeepsWalks W W'
 cells:∀ j,W'.cell? ⟨b,j,none⟩=W.cell? ⟨b,j,none⟩
theorem fC.refl(b:Nat)(W:World):fC b W W:=⟨KeepsWalks.refl W,fun _=>rfl⟩
theorem fC.trans{b:Nat}{A B C:World}(h:fC b A B)(k:fC b B C):fC b A C:=⟨h.walks.trans k.walks,fun j=>(k.cells j).trans (h.cells j)⟩
theorem kW{b n0:Nat}(h1:b<n0)(W:World)(l:Nat)(o o':Obj)(hl:n0≤l)(ho:W.heap[l]? =some o)(_:o.isCells=false)(hw:o.isWalk=false):fC b W (W.putObj l o'):=
 ⟨KeepsWalks.putObj _ ho hw,fun j=>by simp only[World.cell?,World.putObj_heap_other (show b≠l by omega)]⟩
set_option maxHeartbeats 2000000 in
theorem yU(K A T E:Int)(la:Option Addr)(ln lc:Nat)(ma:Option Addr)(mn mc:Nat)(b n:Nat)(w:World)(hb:∀ j,w.cell? ⟨b,j,none⟩=(#[.int .i64 K,.int .i64 A,.int .i64 T,.int .i64 E,.slice la ln lc,.slice ma mn mc]:Array Value)[j]?):
 SeqStopsK Fence.wide n Tryz.prog 152 #[.pointer (some ⟨b,0,none⟩)] encT (fC b) (fun xs=>xs=tgV K T E la ln lc ma mn mc) (fun pre=>∃ q,pre=(tgV K T E la ln lc ma mn mc).take q) (tgV K T E la ln lc ma mn mc).length w:=by
 intro l J Jx W hW hJ hJx hY h0
 have hlt:b<w.heap.size:=World.block_lt_of_cell? (a:=⟨b,0,none⟩) _ (hb 0)
 have HB:Hid (∀u,fC b W u→∀ j,u.cell? ⟨b,j,none⟩=(#[.int .i64 K,.int .i64 A,.int .i64 T,.int .i64 E,.slice la ln lc,.slice ma mn mc]:Array Value)[j]?):=hid fun u hu j=>(hu.cells j).trans ((hW.cell (p:=⟨b,j,none⟩) hlt).trans (hb j))
 have c0:=HB.out W (fC.refl b W) 0
 have c2:=HB.out W (fC.refl b W) 2
 have c4:=HB.out W (fC.refl b W) 4
 clear hb hlt hW
 refine callsIn_of_wp Tryz.func152 rfl trivial ?_ rfl
 simp only[Tryz.ntmps152,List.size_toArray,List.length_cons,List.length_nil,Nat.reduceAdd,Nat.reduceSub,Array.replicate_succ,Array.replicate_zero,List.push_toArray,List.append_toArray,List.nil_append,List.cons_append]
 by_cases hK0:K=0
 ·have hk:(K==0)=true:=by rw[hK0];rfl
  have HT:Hid (tgV K T E la ln lc ma mn mc=[(T,la,ln,lc)]):=hid (by unfold tgV;rw[if_pos hK0])
  clear hK0
  have hy0:=hY [] (T,la,ln,lc) W h0 (by rw[HT.out];simp)
  unfold encT at hy0
  obtain⟨fn,tmps,assign,body,hy,hR⟩:=hy0
  clear hY
  gi_wp2
  refine⟨(fun h=>(nomatch h)),hR.mono ?_⟩
  rintro e W3 (⟨rfl,hJ3,hk3⟩|⟨rfl,hJx3⟩)
  ·gi_wp2
   go_end0
   exact⟨⟨_,rfl⟩,.inl ⟨_,HT.out.symm,hJ3⟩⟩
  ·gi_wp2
   go_end0
   exact⟨⟨_,rfl⟩,.inr ⟨_,⟨1,by rw[HT.out];rfl⟩,hJx3⟩⟩
 ·have hk:(K==0)=false:=by simpa using hK0
  by_cases hK1:K=1
  ·have hk1:(K==1)=true:=by rw[hK1];rfl
   have HT:Hid (tgV K T E la ln lc ma mn mc=[(T,la,ln,lc),(E,ma,mn,mc)]):=hid (by unfold tgV;rw[if_neg hK0,if_pos hK1])
   clear hK0 hK1
   have hy0:=hY [] (T,la,ln,lc) W h0 (by rw[HT.out];simp)
   have HY1:=hid fun W1 h=>hY [(T,la,ln,lc)] (E,ma,mn,mc) W1 h (by rw[HT.out];simp)
   unfold encT at hy0 HY1
   obtain⟨fn,tmps,assign,body,hy,hR⟩:=hy0
   clear hY
   gi_wp2
   refine⟨(fun h=>(nomatch h)),hR.mono ?_⟩
   rintro e W3 (⟨rfl,hJ3,hk3⟩|⟨rfl,hJx3⟩)
   ·have d3:=HB.out W3 hk3 3
    have d5:=HB.out W3 hk3 5
    obtain⟨fn2,tmps2,assign2,body2,hy2,hR2⟩:=HY1.out W3 hJ3
    clear hJ3 hk3 hy hR c0 c2 c4
    gi_wp2
    refine⟨(fun h=>(nomatch h)),hR2.mono ?_⟩
    rintro e W4 (⟨rfl,hJ4,hk4⟩|⟨rfl,hJx4⟩)
    ·gi_wp2
     go_end0
     exact⟨⟨_,rfl⟩,.inl ⟨_,HT.out.symm,hJ4⟩⟩
    ·gi_wp2
     go_end0
     exact⟨⟨_,rfl⟩,.inr ⟨_,⟨2,by rw[HT.out];rfl⟩,hJx4⟩⟩
   ·gi_wp2
    go_end0
    exact⟨⟨_,rfl⟩,.inr ⟨_,⟨1,by rw[HT.out];rfl⟩,hJx3⟩⟩
  ·have hk1:(K==1)=false:=by simpa using hK1
   have HT:Hid (tgV K T E la ln lc ma mn mc=[]):=hid (by unfold tgV;rw[if_neg hK0,if_neg hK1])
   clear hK0 hK1 hY
   gi_wp2
   go_end0
   exact⟨⟨_,rfl⟩,.inl ⟨_,HT.out.symm,h0⟩⟩
end Go.Proofs.YthjdeoppajlcoaaGreatDoor

namespace Go.Proofs.YthjdeoppajlcoaaGreatDoor
set_option linter.unusedSimpArgs false
set_option linter.unusedVariables false
open Go.RowKit (wrap64 intOf Below)
structure Off(X:Nat→Prop)(w w':World):Prop where
 os:w'.os=w.os
 tape:w'.tape=w.tape
 output:w'.output=w.output
 size:w.heap.size≤w'.heap.size
 block:∀ k,k<w.heap.size→¬ X k→w'.heap[k]? =w.heap[k]?
section
variable {X Y : Nat → Prop} {a b c w w' : World}
theorem Off.refl(X:Nat→Prop)(w:World):Off X w w:=⟨rfl,rfl,rfl,Nat.le_refl _,fun _ _ _=>rfl⟩
theorem Off.trans(h:Off X a b)(k:Off X b c):Off X a c:=
 ⟨k.os.trans h.os,k.tape.trans h.tape,k.output.trans h.output,Nat.le_trans h.size k.size,fun i hi hx=>(k.block i (Nat.lt_of_lt_of_le hi h.size) hx).trans (h.block i hi hx)⟩
theorem Off.trans_new(h:Off X a b)(k:Off Y b c)(hY:∀ i,Y i→X i∨a.heap.size≤i):Off X a c:=
 ⟨k.os.trans h.os,k.tape.trans h.tape,k.output.trans h.output,Nat.le_trans h.size k.size,fun i hi hx=>(k.block i (Nat.lt_of_lt_of_le hi h.size) (fun hy=>by rcases hY i hy with h'|h'<;>first|exact hx h'|omega)).trans (h.block i hi hx)⟩
theorem Off.mono(h:Off X a b)(hY:∀ i,i<a.heap.size→X i→Y i):Off Y a b:=
 ⟨h.os,h.tape,h.output,h.size,fun i hi hy=>h.block i hi (fun hx=>hy (hY i hi hx))⟩
theorem Off.of_below{B:Nat}(h:Below B a b)(hB:∀ i,B≤i→i<a.heap.size→X i):Off X a b:=
 ⟨h.os,h.tape,h.output,h.size,fun i hi hx=>h.block i (Nat.lt_of_not_le fun h'=>hx (hB i h' hi))⟩
theorem Off.since(h:Below a.heap.size a b):Off X a b:=Off.of_below h (fun i h1 h2=>absurd h2 (by omega))
theorem Off.below{B:Nat}(h:Off X a b)(hB:B≤a.heap.size)(hX:∀ i,X i→B≤i):Below B a b:=
 ⟨h.os,h.tape,h.output,h.size,fun i hi=>h.block i (by omega) (fun hx=>by have:=hX i hx;omega)⟩
theorem Off.drew(h:Off X a b):Off X a b.drew:=⟨h.os,h.tape,h.output,h.size,h.block⟩
theorem Off.alloc(h:Off X a b)(o:Obj):Off X a (b.alloc o):=h.trans (Off.since ((Below.refl _ _).alloc (Nat.le_refl _) o))
theorem Off.setCell(h:Off X a b){p:Addr}(hp:X p.block∨a.heap.size≤p.block)(u:Value):Off X a (b.setCell p u):=
 ⟨h.os,h.tape,h.output,by simp only[World.setCell,Array.size_modify];exact h.size,fun k hk hx=>(Below.heap_setCell _ _ _ _ (fun e=>by subst e;rcases hp with h'|h'<;>first|exact hx h'|omega)).trans (h.block k hk hx)⟩
theorem Off.grown{row:Option Nat}(h:Off X a b)(hg:b.grownBy c row)(hr:∀ k,row=some k→X k∨a.heap.size≤k):Off X a c:=
 h.trans_new (Y:=fun k=>row=some k) ⟨hg.os,hg.tape,hg.output,hg.size,fun k hk hx=>hg.block k hk (fun e=>hx e.symm)⟩ (fun i hi=>hr i hi)
theorem Off.cell(h:Off X a b){p:Addr}(hp:p.block<a.heap.size)(hx:¬ X p.block):b.cell? p=a.cell? p:=World.cell?_of_block (h.block _ hp hx)
theorem Off.frozen(h:Off X a b){p:Addr}(hp:p.block<a.heap.size)(hx:¬ X p.block):b.frozen? p=a.frozen? p:=World.frozen?_of_block (h.block _ hp hx)
end
theorem aP{w:World}{p:Addr}{v:Value}(h:w.cell? p=some v):w.setCell p v=w:=by
 have hh:(w.setCell p v).heap=w.heap:=by
  apply Array.ext
  ·simp[World.setCell]
  ·intro i h1 h2
   simp only[World.setCell,Array.getElem_modify]
   split
   ·rename_i he
    subst he
    unfold World.cell? at h
    rw[Array.getElem?_eq_getElem h2]at h
    revert h
    split
    ·rename_i c e f hc
     intro h
     simp only[Option.some.injEq]at hc
     rw[hc]
     split at h
     ·cases h
     ·rename_i hs
      simp only[hs,if_false,Bool.false_eq_true]
      congr 1
      obtain⟨hlt,rfl⟩:=Array.getElem?_eq_some_iff.1 h
      rw[Array.setIfInBounds_def,dif_pos hlt,Array.set_getElem_self]
    ·intro h;cases h
   ·rfl
 cases w
 simp only[World.setCell]at hh⊢
 rw[hh]
def dm(w:World)(g off:Nat)(cs:List Value):Prop:=
 ∃cur T,w.heap[g]? =some (.cells cur T (0,0))∧∀ j (h:j<cs.length),cur[off+j]? =some cs[j]
section
variable {w w' : World} {g off : Nat} {cs : List Value}
theorem dm.cell(h:dm w g off cs){j:Nat}(hj:j<cs.length):w.cell? ⟨g,off+j,none⟩=some cs[j]:=by
 obtain⟨cur,T,hg,hc⟩:=h
 simp only[World.cell?,hg,Option.isSome_none,Bool.false_eq_true,if_false]
 exact hc j hj
theorem dm.free(h:dm w g off cs)(o:Nat):w.frozen? ⟨g,o,none⟩=false:=by
 obtain⟨cur,T,hg,hc⟩:=h
 simp[World.frozen?,hg]
theorem dm.lt(h:dm w g off cs):g<w.heap.size:=by
 obtain⟨cur,T,hg,hc⟩:=h
 exact(Array.getElem?_eq_some_iff.1 hg).1
theorem dm.kept(h:dm w g off cs)(hb:w'.heap[g]? =w.heap[g]?):dm w' g off cs:=by
 obtain⟨cur,T,hg,hc⟩:=h
 exact⟨cur,T,hb.trans hg,hc⟩
theorem dm.stays{X:Nat→Prop}(h:dm w g off cs)(ho:Off X w w')(hx:¬ X g):dm w' g off cs:=h.kept (ho.block g h.lt hx)
theorem dm.part(h:dm w g off cs)(k n:Nat)(hk:k+n≤cs.length):dm w g (off+k) ((cs.drop k).take n):=by
 obtain⟨cur,T,hg,hc⟩:=h
 refine⟨cur,T,hg,fun j hj=> ?_⟩
 simp only[List.length_take,List.length_drop]at hj
 rw[Nat.add_assoc,hc (k+j) (by omega)]
 simp
end
theorem rR{α:Type}{k:Nat}:∀ (css:List (List α)),(∀cs∈css,cs.length=k)→∀ i (hi:i<css.length) j (hj:j<css[i].length),css.flatten[i*k+j]? =some css[i][j]
 | [],_,i,hi,_,_=>by simp at hi
 |cs::css,hk,0,hi,j,hj=>by
  simp only[List.getElem_cons_zero]at hj
  simp only[List.flatten_cons,Nat.zero_mul,Nat.zero_add,List.getElem_cons_zero]
  rw[List.getElem?_append_left hj,List.getElem?_eq_getElem hj]
 |cs::css,hk,i+1,hi,j,hj=>by
  have h0:cs.length=k:=hk cs (by simp)
  simp only[List.getElem_cons_succ]at hj
  have ih:=rR css (fun c hc=>hk c (by simp[hc])) i (by simpa using hi) j hj
  simp only[List.flatten_cons,List.getElem_cons_succ]
  rw[List.getElem?_append_right (by rw[h0,Nat.succ_mul];omega),h0,show(i+1)*k+j-k=i*k+j by rw[Nat.succ_mul];omega]
  exact ih
theorem xI{w:World}{base:Nat}{e:TypeId}{k:Nat}{v:Value}{n:Nat}{css:List (List Value)}(h:w.ownsRow base e k v n css.flatten)(hk:∀ cs∈css,cs.length=k){g:Nat}(hg:v.ownBlock=some g){i:Nat}(hi:i<css.length):dm w g (i*k) css[i]:=by
 rcases h.2 with⟨rfl,_⟩|⟨g',cap,cur,rfl,_,hgg,_,_,_,htake⟩
 ·simp[Value.ownBlock]at hg
 ·simp[Value.ownBlock]at hg
  subst hg
  refine⟨cur,e,hgg,fun j hj=> ?_⟩
  have hlen:css[i].length=k:=hk _ (List.getElem_mem hi)
  have hfl:=rR css hk i hi j hj
  rw[←htake,List.getElem?_take]at hfl
  split at hfl
  ·simpa using hfl
  ·cases hfl
def eH(w:World)(S:Nat→Prop)(v:Value)(Z:List Int):Prop:=
 aj w 0 3 v Z∧(∀b,v.ownBlock=some b→S b)∧Z.length*8≤140737488351232∧∀ z∈Z,InR z
def gW{α:Type}(T k:Nat)(Q:World→(Nat→Prop)→List Value→α→Prop)(w:World)(S:Nat→Prop)(v:Value)(xs:List α):Prop:=
 ∃css:List (List Value),w.ownsRow 0 T k v xs.length css.flatten∧css.length=xs.length∧(∀cs∈css,cs.length=k)∧(∀b,v.ownBlock=some b→S b)∧xs.length≤140737488351232∧
  ∀i (h:i<xs.length) (h':i<css.length),Q w (fun b=>S b∧v.ownBlock≠some b) css[i] xs[i]
def OpO(w:World)(S:Nat→Prop)(cs:List Value)(x:OpD):Prop:=
 ∃l,cs=[.int .i64 x.K,.int .i64 x.A,.int .i64 x.B,.int .i64 x.C,.int .i64 x.N,.string x.S,l,.bool x.T]∧InR x.K∧InR x.A∧InR x.B∧InR x.C∧InR x.N∧x.S.size≤140737488351232∧eH w S l x.L
def Hf(w:World)(S:Nat→Prop)(cs:List Value)(x:mV):Prop:=
 ∃l m,cs=[.int .i64 x.K,.int .i64 x.A,.int .i64 x.To,.int .i64 x.Else,l,m]∧InR x.K∧InR x.A∧InR x.To∧InR x.Else∧eH w S l x.L∧eH w S m x.M
def fU(w:World)(S:Nat→Prop)(cs:List Value)(x:dD):Prop:=
 ∃p o es,cs=p::o::es∧eH w S p x.params∧gW 64 8 OpO w S o x.ops∧Hf w S es x.fin
def jS(w:World)(S:Nat→Prop)(cs:List Value)(x:ak):Prop:=∃ b,cs=[.int .i64 x.ret,b]∧InR x.ret∧gW 51 8 fU w S b x.blocks
def qK(w:World)(S:Nat→Prop)(cs:List Value)(x:wC):Prop:=∃ p,cs=[p,.int .i64 x.ret]∧eH w S p x.params∧InR x.ret
def fD(w:World)(S:Nat→Prop)(cs:List Value)(x:iE):Prop:=∃ f m,cs=[f,m]∧eH w S f x.fields∧eH w S m x.methods
def yw(w:World)(S:Nat→Prop)(cs:List Value)(x:aB):Prop:=∃ s c f,cs=[s,c,f]∧gW 60 2 qK w S s x.sigs∧gW 62 2 fD w S c x.classes∧gW 36 2 jS w S f x.funcs
def Holds{α:Type}(Q:World→(Nat→Prop)→List Value→α→Prop):Prop:=
 ∀(w w':World) (S S':Nat→Prop) (cs:List Value) (x:α),(∀b,b<w.heap.size→S b→w'.heap[b]? =w.heap[b]? ∧S' b)→Q w S cs x→Q w' S' cs x
theorem jw{w w':World}{base e k:Nat}{v:Value}{n:Nat}{xs:List Value}(h:w.ownsRow base e k v n xs)(hb:∀ b,v.ownBlock=some b→b<w.heap.size→w'.heap[b]? =w.heap[b]?):w'.ownsRow base e k v n xs:=by
 refine⟨h.1, ?_⟩
 rcases h.2 with hn|⟨g,cap,cur,rfl,hg,hh,rest⟩
 ·exact .inl hn
 ·exact .inr ⟨g,cap,cur,rfl,hg,by rw[hb g rfl (Array.getElem?_eq_some_iff.1 hh).1];exact hh,rest⟩
theorem eH.holds{w w':World}{S S':Nat→Prop}{v:Value}{Z:List Int}(hb:∀ b,b<w.heap.size→S b→w'.heap[b]? =w.heap[b]? ∧S' b)(h:eH w S v Z):eH w' S' v Z:=by
 obtain⟨h1,h2,h3⟩:=h
 exact⟨jw h1 (fun b hv hlt=>(hb b hlt (h2 b hv)).1),fun b hv=>(hb b (h1.lt b hv).2 (h2 b hv)).2,h3⟩
theorem gW.holds{α:Type}{T k:Nat}{Q:World→(Nat→Prop)→List Value→α→Prop}(hQ:Holds Q){w w':World}{S S':Nat→Prop}{v:Value}{xs:List α}(hb:∀ b,b<w.heap.size→S b→w'.heap[b]? =w.heap[b]? ∧S' b)(h:gW T k Q w S v xs):gW T k Q w' S' v xs:=by
 obtain⟨css,h1,h2,h3,h4,h5,h6⟩:=h
 exact⟨css,jw h1 (fun b hv hlt=>(hb b hlt (h4 b hv)).1),h2,h3,fun b hv=>(hb b (h1.lt b hv).2 (h4 b hv)).2,h5,fun i hi hi'=>hQ _ _ _ _ _ _ (fun b hlt hs=>⟨(hb b hlt hs.1).1,(hb b hlt hs.1).2,hs.2⟩) (h6 i hi hi')⟩
theorem OpO.holds:Holds OpO:=fun _ _ _ _ _ _ hb ⟨l,e,h1,h2,h3,h4,h5,h6,h⟩=>⟨l,e,h1,h2,h3,h4,h5,h6,h.holds hb⟩
theorem Hf.holds:Holds Hf:=fun _ _ _ _ _ _ hb ⟨l,m,e,h1,h2,h3,h4,h,h'⟩=>⟨l,m,e,h1,h2,h3,h4,h.holds hb,h'.holds hb⟩
theorem fU.holds:Holds fU:=fun _ _ _ _ _ _ hb ⟨p,o,es,e,h1,h2,h3⟩=>⟨p,o,es,e,h1.holds hb,h2.holds OpO.holds hb,Hf.holds _ _ _ _ _ _ hb h3⟩
theorem jS.holds:Holds jS:=fun _ _ _ _ _ _ hb ⟨b,e,h1,h2⟩=>⟨b,e,h1,h2.holds fU.holds hb⟩
theorem qK.holds:Holds qK:=fun _ _ _ _ _ _ hb ⟨p,e,h1,h2⟩=>⟨p,e,h1.holds hb,h2⟩
theorem fD.holds:Holds fD:=fun _ _ _ _ _ _ hb ⟨f,m,e,h1,h2⟩=>⟨f,m,e,h1.holds hb,h2.holds hb⟩
theorem yw.holds:Holds yw:=fun _ _ _ _ _ _ hb ⟨s,c,f,e,h1,h2,h3⟩=>⟨s,c,f,e,h1.holds qK.holds hb,h2.holds fD.holds hb,h3.holds jS.holds hb⟩
theorem Holds.off{α:Type}{Q:World→(Nat→Prop)→List Value→α→Prop}(hQ:Holds Q){X:Nat→Prop}{w w':World}{S:Nat→Prop}{cs:List Value}{x:α}(h:Q w S cs x)(ho:Off X w w')(hx:∀ b,S b→¬ X b):Q w' S cs x:=
 hQ _ _ _ _ _ _ (fun b hlt hs=>⟨ho.block b hlt (hx b hs),hs⟩) h
theorem Holds.wider{α:Type}{Q:World→(Nat→Prop)→List Value→α→Prop}(hQ:Holds Q){w:World}{S S':Nat→Prop}{cs:List Value}{x:α}(h:Q w S cs x)(hs:∀ b,b<w.heap.size→S b→S' b):Q w S' cs x:=
 hQ _ _ _ _ _ _ (fun b hlt hh=>⟨rfl,hs b hlt hh⟩) h
theorem eH.off{X:Nat→Prop}{w w':World}{S:Nat→Prop}{v:Value}{Z:List Int}(h:eH w S v Z)(ho:Off X w w')(hx:∀ b,S b→¬ X b):eH w' S v Z:=
 h.holds (fun b hlt hs=>⟨ho.block b hlt (hx b hs),hs⟩)
theorem eH.wider{w:World}{S S':Nat→Prop}{v:Value}{Z:List Int}(h:eH w S v Z)(hs:∀ b,b<w.heap.size→S b→S' b):eH w S' v Z:=
 h.holds (fun b hlt hh=>⟨rfl,hs b hlt hh⟩)
theorem gW.off{α:Type}{T k:Nat}{Q:World→(Nat→Prop)→List Value→α→Prop}(hQ:Holds Q){X:Nat→Prop}{w w':World}{S:Nat→Prop}{v:Value}{xs:List α}(h:gW T k Q w S v xs)(ho:Off X w w')(hx:∀ b,S b→¬ X b):gW T k Q w' S v xs:=
 h.holds hQ (fun b hlt hs=>⟨ho.block b hlt (hx b hs),hs⟩)
theorem gW.wider{α:Type}{T k:Nat}{Q:World→(Nat→Prop)→List Value→α→Prop}(hQ:Holds Q){w:World}{S S':Nat→Prop}{v:Value}{xs:List α}(h:gW T k Q w S v xs)(hs:∀ b,b<w.heap.size→S b→S' b):gW T k Q w S' v xs:=
 h.holds hQ (fun b hlt hh=>⟨rfl,hs b hlt hh⟩)
theorem gG.cells{α:Type}{Q:World→List Value→α→Prop}{k:Nat}{w:World}{v:Value}{xs:List α}(h:gG Q k w v xs):
 ∃(a:Option Addr) (c g off:Nat),v=.slice a xs.length c∧(a=none→c=0)∧xs.length≤140737488351232∧(0<xs.length→a=some ⟨g,off,none⟩∧g<w.heap.size∧
  ∀i (h:i<xs.length),∃cs:List Value,cs.length=k∧(∀j (hj:j<cs.length),w.cell? ⟨g,off+i*k+j,none⟩=some cs[j])∧Q w cs xs[i]):=by
 obtain⟨a,n,c,rfl,hl,hnil,hcap,hpos⟩:=h
 subst hl
 by_cases h0:0<xs.length
 ·obtain⟨g,off,e1,e2,e3⟩:=hpos h0
  exact⟨a,c,g,off,rfl,hnil,hcap,fun _=>⟨e1,e2,e3⟩⟩
 ·exact⟨a,c,0,0,rfl,hnil,hcap,fun h=>absurd h h0⟩
def From(B:Nat):Nat→Prop:=fun b=>B≤b
theorem oJ{w:World}{base base' e k:Nat}{v:Value}{n:Nat}{xs:List Value}(h:w.ownsRow base e k v n xs)(hb:∀ b,v.ownBlock=some b→base'≤b):w.ownsRow base' e k v n xs:=by
 refine⟨h.1, ?_⟩
 rcases h.2 with hn|⟨g,cap,cur,rfl,hg,rest⟩
 ·exact .inl hn
 ·exact .inr ⟨g,cap,cur,rfl,hb g rfl,rest⟩
theorem gW.none{α:Type}{T k:Nat}{Q:World→(Nat→Prop)→List Value→α→Prop}(w:World)(S:Nat→Prop):gW T k Q w S (.slice none 0 0) ([]:List α):=
 ⟨[],World.ownsRow_nil _ _ _ _,rfl,(fun cs h=>by cases h),(fun b h=>by cases h),Nat.zero_le _,fun i h _=>absurd h (by simp)⟩
theorem gW.own{α:Type}{T k:Nat}{Q:World→(Nat→Prop)→List Value→α→Prop}{w:World}{S:Nat→Prop}{v:Value}{xs:List α}(h:gW T k Q w S v xs){b:Nat}(hb:v.ownBlock=some b):S b∧b<w.heap.size:=by
 obtain⟨css,h1,h2,h3,h4,h5,h6⟩:=h
 exact⟨h4 b hb,(h1.lt b hb).2⟩
theorem cO{P:Program}(w:World){ops:Array Oper}{rest:List Oper}{o:Oper}{a:Act}{Q':Exit→Act→World→Prop}(hgd:o.guard=none)(s x:Operand)(t:TypeId)
 (ho:o.op=.call {callee:=.builtin .append,args:=#[s,x],argTypes:=#[t,t]})(e:TypeId)(ht:P.underlying t=some (.slice e))(z:Value)(k bytes:Nat)
 (hinfo:(P.info? e).map (fun i=>(i.zero,i.size,i.bytes))=some (some z,k,bytes))(hzs:z.cells.size=k)(hk:0<k)(hby:bytes≤1000)
 {α:Type}{Q:World→(Nat→Prop)→List Value→α→Prop}(hQ:Holds Q)(B:Nat)(v:Value)(xs:List α)(hs:a.eval s=v)(hrow:gW e k Q w (From B) v xs)(hB:B≤w.heap.size)
 (C:Array Value)(c g:Nat)(hx:a.eval x=.slice (some ⟨g,0,none⟩) 1 c)(hg:g=w.heap.size)(hC:C.size=k)(h1:∀ u∈C.toList,u.oneCell'=true)
 (y:α)(B':Nat)(hy:Q w (From B') C.toList y)(hBB:B≤B')(hfar:∀ b,v.ownBlock=some b→b<B')(hn:xs.length≤100000)
 (h:∀ va vn vc w',gW e k Q w' (From B) (.slice va vn vc) (xs++ [y])→Below B w w'→wpList P ops Q' rest (a.put o.dst (.slice va vn vc)) w'):wpList P ops Q' (o::rest) a (w.alloc (.cells C e)):=by
 obtain⟨i0,hi,hz0,hz1,hz2⟩:=info_parts hinfo
 subst hg
 have hrow':=hrow
 obtain⟨css,r1,r2,r3,r4,r5,r6⟩:=hrow
 have hown:=oJ r1 (base':=B) (fun b hb=>r4 b hb)
 refine wpList_append_lies _ hgd s x t ho B e i0 z k bytes ht hi hz0 hz1 hz2 hzs hk v xs.length css.flatten hs (World.ownsRow.alloc hown _) ⟨w.heap.size,0,none⟩ 1 c C.toList hx (by simp[hC]) (World.news_of_block (heap_alloc_new w _)) h1 (by omega) (by unfold maxLen;omega) (Nat.le_trans (Nat.mul_le_mul (show xs.length+1≤100001 by omega) hby) (by decide)) (by simp;omega) (w.heap.size+1) (by simp) ?_
 intro g' cap w' hown' hgrow hat hlt
 have hkeep:∀ b,b<w.heap.size→v.ownBlock≠some b→w'.heap[b]? =w.heap[b]? :=fun b hb hne=>(hgrow.block b (by simp;omega) (fun e=>hne e.symm)).trans (heap_alloc_old w _ hb)
 have hne':∀ b,b<w.heap.size→v.ownBlock≠some b→g'≠b:=fun b hb hne e=>by
  subst e
  rcases hat with h'|h'
  ·exact hne h'
  ·omega
 have hgB:B≤g':=by
  rcases hat with h'|h'
  ·exact r4 g' h'
  ·omega
 refine h _ _ _ w' ⟨css++ [C.toList], ?_,by simp[r2], ?_, ?_,by simp;omega, ?_⟩ ?_
 ·rw[List.flatten_append,List.length_append]
  simpa using oJ hown' (base':=0) (fun _ _=>Nat.zero_le _)
 ·intro cs hcs
  rcases List.mem_append.1 hcs with h'|h'
  ·exact r3 cs h'
  ·simp only[List.mem_singleton]at h';subst h';simpa using hC
 ·intro b hb
  simp only[Value.ownBlock,Option.some.injEq]at hb
  subst hb
  exact hgB
 ·intro i hi1 hi2
  by_cases hii:i<xs.length
  ·have hic:i<css.length:=by omega
   rw[List.getElem_append_left hic,List.getElem_append_left hii]
   exact hQ _ _ _ _ _ _ (fun b hb hS=>⟨hkeep b hb hS.2,hS.1,by simp only[Value.ownBlock,ne_eq,Option.some.injEq];exact hne' b hb hS.2⟩) (r6 i hii hic)
  ·have hie:i=xs.length:=by simp at hi1;omega
   subst hie
   rw[List.getElem_append_right (by omega),List.getElem_append_right (by omega)]
   simp only[r2,Nat.sub_self,List.getElem_cons_zero]
   refine hQ _ _ _ _ _ _ (fun b hb hS=> ?_) hy
   have hnb:v.ownBlock≠some b:=fun e=>by have:=hfar b e;have h2:B'≤b:=hS;omega
   exact⟨hkeep b hb hnb,Nat.le_trans hBB hS,by simp only[Value.ownBlock,ne_eq,Option.some.injEq];exact hne' b hb hnb⟩
 ·exact Below.grown ((Below.refl B w).alloc hB _) hgrow (by simp;omega) (fun k hk=>r4 k hk)
theorem mD{α:Type}{Q:World→List Value→α→Prop}{k:Nat}{W:World}{a:Option Addr}{n c:Nat}{xs:List α}(h:gG Q k W (.slice a n c) xs)(hn:0<n):
 ∃g off,a=some ⟨g,off,none⟩∧g<W.heap.size∧∀ i (h:i<xs.length),∃cs,cs.length=k∧(∀j (hj:j<cs.length),W.cell? ⟨g,off+i*k+j,none⟩=some cs[j])∧Q W cs xs[i]:=by
 obtain⟨a',n',c',e,_,_,_,h⟩:=h
 cases e
 exact h hn
theorem aM.form{W:World}{cs:List Value}{y:dD}(h:aM W cs y):
 ∃pa pn pc oa on oc la ln lc ma mn mc,cs=[.slice pa pn pc,.slice oa on oc,.int .i64 y.fin.K,.int .i64 y.fin.A,.int .i64 y.fin.To,.int .i64 y.fin.Else,.slice la ln lc,.slice ma mn mc]∧y.ops.length=on:=by
 obtain⟨pv,ov,es,rfl,⟨pa,pn,pc,rfl,_⟩,⟨oa,on,oc,rfl,hl,_⟩,l1,m1,rfl,r1,r2,r3,r4,⟨la,ln',lc,rfl,_⟩,⟨ma,mn,mc,rfl,_⟩⟩:=h
 exact⟨_,_,_,_,_,_,_,_,_,_,_,_,rfl,hl⟩
theorem aM.params{W:World}{pa oa la ma:Option Addr}{pn pc on oc ln lc mn mc:Nat}{k x t l:Int}{y:dD}(h:aM W [.slice pa pn pc,.slice oa on oc,.int .i64 k,.int .i64 x,.int .i64 t,.int .i64 l,.slice la ln lc,.slice ma mn mc] y):ai W pa pn y.params∧pn≤140737488355328:=by
 obtain⟨pv,ov,es,he,⟨_,_,_,hp0,hp1,hp2,hp3,hp4⟩,_⟩:=h
 simp only[List.cons.injEq]at he
 obtain⟨rfl,_⟩:=he
 cases hp0
 exact⟨hp1,by omega⟩
theorem aM.ops{W:World}{pa oa la ma:Option Addr}{pn pc on oc ln lc mn mc:Nat}{k x t l:Int}{y:dD}(h:aM W [.slice pa pn pc,.slice oa on oc,.int .i64 k,.int .i64 x,.int .i64 t,.int .i64 l,.slice la ln lc,.slice ma mn mc] y):gG OpQ 8 W (.slice oa on oc) y.ops:=by
 obtain⟨pv,ov,es,he,_,ho,_⟩:=h
 simp only[List.cons.injEq]at he
 obtain⟨_,rfl,_⟩:=he
 exact ho
theorem aM.fin{W:World}{pa oa la ma:Option Addr}{pn pc on oc ln lc mn mc:Nat}{k x t l:Int}{y:dD}(h:aM W [.slice pa pn pc,.slice oa on oc,.int .i64 k,.int .i64 x,.int .i64 t,.int .i64 l,.slice la ln lc,.slice ma mn mc] y):Fj W [.int .i64 k,.int .i64 x,.int .i64 t,.int .i64 l,.slice la ln lc,.slice ma mn mc] y.fin:=by
 obtain⟨pv,ov,es,he,_,_,hf⟩:=h
 simp only[List.cons.injEq]at he
 obtain⟨_,_,rfl⟩:=he
 exact hf
theorem l9{P:Program}(w:World){ops:Array Oper}{rest:List Oper}{o:Oper}{a:Act}{Q:Exit→Act→World→Prop}(hgd:o.guard=none)(s x:Operand)(t:TypeId)
 (ho:o.op=.call {callee:=.builtin .append,args:=#[s,x],argTypes:=#[t,t]})(e:TypeId)(ht:P.underlying t=some (.slice e))
 (hinfo:(P.info? e).map (fun i=>(i.zero,i.size,i.bytes))=some (some (.int .i64 0),1,8))
 (B:Nat)(v:Value)(Z:List Int)(hs:a.eval s=v)(hown:aj w B e v Z)(hB:B≤w.heap.size)
 (xa:Option Addr)(m c:Nat)(news:List Int)(hx:a.eval x=.slice xa m c)(hnil:xa=none→c=0)(hat:ai w xa m news)
 (hlen:(Z.length+m)*8≤140737488355328)
 (h:∀ va vn vc w',aj w' B e (.slice va vn vc) (Z++news)→w.grownBy w' v.ownBlock→(∀k,(Value.slice va vn vc).ownBlock=some k→v.ownBlock=some k∨w.heap.size≤k)→wpList P ops Q rest (a.put o.dst (.slice va vn vc)) w'):wpList P ops Q (o::rest) a w:=by
 obtain⟨i0,hi,hz0,hz1,hz2⟩:=info_parts hinfo
 have h1:=hat.1
 cases xa with
 |none=>
  have hm:m=0:=by
   by_cases h0:0<m
   ·obtain⟨g,off,he,_⟩:=hat.2 h0;cases he
   ·omega
  have hc:c=0:=hnil rfl
  subst hm hc
  have h0:news=[]:=List.eq_nil_of_length_eq_zero h1
  subst h0
  refine wpList_append_own_none hgd s x t ho B e i0 1 ht hi v Z.length (Z.map dN) hs hown hx ?_
  obtain⟨va,vn,vc,rfl,hat⟩:=hown.nums
  exact h va vn vc w (by rw[List.append_nil];exact hown) (World.grownBy.refl _ _) (fun k hk=>.inl hk)
 |some ad=>
  subst h1
  refine wpList_append_own_at _ hgd s x t ho B e i0 (.int .i64 0) 1 8 ht hi hz0 hz1 hz2 rfl (by decide) v Z.length (Z.map dN) hs hown ad news.length c (news.map dN) hx (by simp) (fun j u hu=> ?_) (fun u hu=>by obtain⟨z,_,rfl⟩:=List.mem_map.1 hu;rfl) (by unfold maxLen;omega) hlen hB ?_
  ·rw[List.getElem?_map]at hu
   obtain⟨z,hz,rfl⟩:=Option.map_eq_some_iff.1 hu
   obtain⟨hj,rfl⟩:=List.getElem?_eq_some_iff.1 hz
   obtain⟨ad',he,hcell⟩:=hat.at (by omega)
   cases he
   exact hcell j hj
  ·intro v' w' hown' hgrow _ hwh
   have hown2:aj w' B e v' (Z++news):=by
    show w'.ownsRow B e 1 v' (Z++news).length ((Z++news).map dN)
    rw[List.map_append,List.length_append]
    exact hown'
   obtain⟨va,vn,vc,rfl,hat⟩:=hown2.nums
   exact h va vn vc w' hown2 hgrow (fun k hk=>by
    rcases hwh with e'|e'
    ·exact .inl (e'▸hk)
    ·rw[e']at hk;cases hk;simp)
theorem aj.besides{W W':World}{B:Nat}{e:TypeId}{v:Value}{Z:List Int}{row:Option Nat}(h:aj W B e v Z)(hg:W.grownBy W' row)(hk:∀ k,v.ownBlock=some k→row≠some k):aj W' B e v Z:=by
 refine⟨h.1, ?_⟩
 rcases h.2 with hn|⟨g,cap,cur,rfl,hB,hh,rest⟩
 ·exact .inl hn
 ·refine .inr ⟨g,cap,cur,rfl,hB, ?_,rest⟩
  rw[hg.block g (Array.getElem?_eq_some_iff.1 hh).1 (Ne.symm (hk g rfl))]
  exact hh
end Go.Proofs.YthjdeoppajlcoaaGreatDoor

namespace Go.Proofs.YthjdeoppajlcoaaGreatDoor
set_option linter.unusedVariables false
open Go.RowKit
theorem aj.grownRow{W W':World}{B:Nat}{e:TypeId}{v:Value}{Z:List Int}{row:Option Nat}(h:aj W B e v Z)(hg:W.grownBy W' row)(hr:∀ r,row=some r→∃ o:Obj,W.heap[r]? =some o∧o.isCells=false):aj W' B e v Z:=by
 refine World.ownsRow.kept h hg ?_
 rcases h.2 with⟨he,_⟩|⟨g,cap,cur,he,_,hgb,_⟩
 ·exact .inl (by rw[he];rfl)
 ·refine .inr fun e'=> ?_
  obtain⟨o,ho,hc⟩:=hr g (by rw[←e',he];rfl)
  rw[hgb]at ho;cases ho;cases hc
theorem Boxed.grownRow{W W':World}{B:Nat}{t:TypeId}{v:Value}{row:Option Nat}(h:Boxed W B t v)(hg:W.grownBy W' row)(hr:∀ r,row=some r→∃ o:Obj,W.heap[r]? =some o∧o.isCells=false):Boxed W' B t v:=by
 refine h.kept hg fun e=> ?_
 obtain⟨o,ho,hc⟩:=hr B e.symm
 have h':W.heap[B]? =_:=h
 rw[h']at ho;cases ho;cases hc
theorem qR{W W':World}{B:Nat}{C:Array Value}{t:TypeId}{m:Nat×Nat}{row:Option Nat}(h:W.heap[B]? =some (.cells C t m))(hg:W.grownBy W' row)(hr:∀ r,row=some r→∃ o:Obj,W.heap[r]? =some o∧o.isCells=false):W'.heap[B]? =some (.cells C t m):=by
 refine(hg.block B (Array.getElem?_eq_some_iff.1 h).1 fun e=> ?_).trans h
 obtain⟨o,ho,hc⟩:=hr B e.symm
 rw[h]at ho;cases ho;cases hc
theorem KeepsOthers.of_off{X:Nat→Prop}{W W':World}(h:Off X W W')(hX:∀ i,X i→∀ o,W.heap[i]? =some o→o.isCells=true):KeepsOthers W W':=
 ⟨h.size,fun k o hk ho=>by
  by_cases hx:X k
  ·rw[hX k hx o hk]at ho;cases ho
  ·exact(h.block k (Array.getElem?_eq_some_iff.1 hk).1 hx).trans hk⟩
theorem aj.isCells{W:World}{B:Nat}{e:TypeId}{v:Value}{Z:List Int}(h:aj W B e v Z){i:Nat}(hi:v.ownBlock=some i){o:Obj}(ho:W.heap[i]? =some o):o.isCells=true:=by
 rcases h.2 with⟨he,_⟩|⟨g,cap,cur,he,_,hgb,_⟩
 ·subst he;simp[Value.ownBlock]at hi
 ·subst he
  obtain rfl:g=i:=by simpa [Value.ownBlock]using hi
  rw[hgb]at ho;cases ho;rfl
def tX(B:Nat)(v:Value)(i:Nat):Prop:=i=B∨v.ownBlock=some i
theorem zf{W U w1:World}{B B0:Nat}{t e:TypeId}{v v':Value}{Z:List Int}{z:Int}(hbx:Boxed W B t v)(hown:aj W B0 e v Z)(hBB:B<B0)(hU:Below W.heap.size W U)(ho:aj w1 B0 e v' (Z++ [z]))(hg:U.grownBy w1 v.ownBlock):
 Boxed w1 B t v∧Boxed (w1.setCell ⟨B,0,none⟩ v') B t v'∧aj (w1.setCell ⟨B,0,none⟩ v') B0 e v' (Z++ [z])∧KeepsOthers W (w1.setCell ⟨B,0,none⟩ v')∧Off (tX B v) W (w1.setCell ⟨B,0,none⟩ v'):=by
 have hlt:B<W.heap.size:=hbx.lt
 have hoff1:Off (tX B v) W w1:=(Off.since hU).grown hg fun k hk=>.inl (.inr hk)
 have hneq:v.ownBlock≠some B:=fun e=>by have:=(hown.lt B e).1;omega
 have hbU:Boxed U B t v:=(hU.block B hlt).trans hbx
 have hb1:Boxed w1 B t v:=hbU.kept hg (fun e=>hneq e.symm)
 have hoff:Off (tX B v) W (w1.setCell ⟨B,0,none⟩ v'):=hoff1.setCell (.inl (.inl rfl)) v'
 refine⟨hb1,hb1.set v',ho.setCell _ _ hBB,KeepsOthers.of_off hoff fun i hi o hio=> ?_,hoff⟩
 rcases hi with rfl|hi
 ·have h':W.heap[i]? =_:=hbx
  rw[h']at hio;cases hio;rfl
 ·exact hown.isCells hi hio
theorem mg{F:Fence}{n:Nat}{P:Program}(w:World){ops:Array Oper}{rest:List Oper}{o:Oper}{a:Act}{Q:Exit→Act→World→Prop}(hgd:o.guard=none)(s x:Operand)(t:TypeId)
 (ho:o.op=.call {callee:=.builtin .append,args:=#[s,x],argTypes:=#[t,t]})(e:TypeId)(ht:P.underlying t=some (.slice e))
 (hinfo:(P.info? e).map (fun i=>(i.zero,i.size,i.bytes))=some (some (.int .i64 0),1,8))
 (B:Nat)(v:Value)(Z:List Int)(hs:a.eval s=v)(hown:aj w B e v Z)(hB:B≤w.heap.size)
 (C:Array Value)(c g:Nat)(z:Int)(hx:a.eval x=.slice (some ⟨g,0,none⟩) 1 c)(hg:g=w.heap.size)(hC:C=#[.int .i64 z])
 (hlen:(Z.length+1)*8≤140737488355328)
 (h:∀ va vn vc w',aj w' B e (.slice va vn vc) (Z++ [z])→(w.alloc (.cells C e)).grownBy w' v.ownBlock→wpListIn F n P ops Q rest (a.put o.dst (.slice va vn vc)) w'):wpListIn F n P ops Q (o::rest) a (w.alloc (.cells C e)):=by
 obtain⟨i0,hi,hz0,hz1,hz2⟩:=info_parts hinfo
 subst hC hg
 refine wpListIn_append_own _ hgd s x t ho B e i0 (.int .i64 0) 1 8 ht hi hz0 hz1 hz2 rfl (by decide) v Z.length (Z.map dN) hs (World.ownsRow.alloc hown _) ⟨w.heap.size,0,none⟩ 1 c [.int .i64 z] hx rfl (fun j u hu=> ?_) (by intro u hu;simp at hu;subst hu;rfl) (by unfold maxLen;omega) hlen (by simp;omega) ?_
 ·rw[aU,Nat.zero_add,World.cell?_alloc_mark]
  simpa using hu
 ·intro v' w' hown' hgrow _
  have hown2:aj w' B e v' (Z++ [z]):=by
   show w'.ownsRow B e 1 v' (Z++ [z]).length ((Z++ [z]).map dN)
   rw[List.map_append,List.length_append]
   exact hown'
  obtain⟨va,vn,vc,rfl,_⟩:=hown2.nums
  exact h va vn vc w' hown2 hgrow
def dS(B:Nat)(t:TypeId)(W:World)(i:Nat):Prop:=i=B∨∃ v,Boxed W B t v∧v.ownBlock=some i
def oQ(B:Nat)(t:TypeId)(W:World):Prop:=∀ i,dS B t W i→∃ o:Obj,W.heap[i]? =some o∧o.isCells=true
theorem oQ.lt{B:Nat}{t:TypeId}{W:World}(h:oQ B t W){i:Nat}(hi:dS B t W i):i<W.heap.size:=by
 obtain⟨o,ho,_⟩:=h i hi
 exact(Array.getElem?_eq_some_iff.1 ho).1
theorem oQ.not{B:Nat}{t:TypeId}{W:World}(h:oQ B t W){i:Nat}{o:Obj}(hi:W.heap[i]? =some o)(ho:o.isCells=false):¬ dS B t W i:=fun hx=>by
 obtain⟨o',ho',hc⟩:=h i hx
 rw[hi]at ho';cases ho';rw[ho]at hc;cases hc
theorem dS.congr{B:Nat}{t:TypeId}{W W':World}(h:W'.heap[B]? =W.heap[B]?)(i:Nat):dS B t W' i↔dS B t W i:=by
 unfold dS Boxed
 rw[h]
structure ou(B:Nat)(t:TypeId)(W W':World):Prop where
 size:W.heap.size≤W'.heap.size
 same:∀ i,i<W.heap.size→¬ dS B t W i→W'.heap[i]? =W.heap[i]?
 new:∀ i,dS B t W' i→i<W.heap.size→dS B t W i
theorem ou.refl(B:Nat)(t:TypeId)(W:World):ou B t W W:=⟨Nat.le_refl _,fun _ _ _=>rfl,fun _ h _=>h⟩
theorem ou.trans{B:Nat}{t:TypeId}{X Y Z:World}(h:ou B t X Y)(k:ou B t Y Z):ou B t X Z:=
 ⟨Nat.le_trans h.size k.size,fun i hi hn=>(k.same i (Nat.lt_of_lt_of_le hi h.size) (fun hy=>hn (h.new i hy hi))).trans (h.same i hi hn),fun i hz hi=>h.new i (k.new i hz (Nat.lt_of_lt_of_le hi h.size)) hi⟩
def cZ{β:Type}(n B:Nat)(t:TypeId)(J:β→World→Prop):Prop:=
 ∀s W W' row,J s W→W.grownBy W' row→(∀r,row=some r→n≤r∧¬ dS B t W r)→J s W'
theorem cZ.alloc{β:Type}{n B:Nat}{t:TypeId}{J:β→World→Prop}(h:cZ n B t J){s:β}{W:World}(o:Obj)(hs:J s W):J s (W.alloc o):=
 h s W _ none hs (World.grownBy_alloc W o none) (fun r e=>by cases e)
theorem cZ.putObj{β:Type}{n B:Nat}{t:TypeId}{J:β→World→Prop}(h:cZ n B t J){s:β}{W:World}{l:Nat}(o':Obj)(hs:J s W)(hl:n≤l)(hn:¬ dS B t W l):J s (W.putObj l o'):=
 h s W _ (some l) hs (grownBy_putObj' W l o') (fun r e=>by cases e;exact⟨hl,hn⟩)
theorem cZ.setCell{β:Type}{n B:Nat}{t:TypeId}{J:β→World→Prop}(h:cZ n B t J){s:β}{W:World}{b:Nat}(v:Value)(hs:J s W)(hl:n≤b)(hn:¬ dS B t W b):J s (W.setCell ⟨b,0,none⟩ v):=
 h s W _ (some b) hs (grownBy_setCell' W b v) (fun r e=>by cases e;exact⟨hl,hn⟩)
def SeqX{α:Type}(F:Fence)(n:Nat)(P:Program)(g:Nat)(lb:Array Value)(encs:α→Array Value)(B:Nat)(t:TypeId)(S:List α→Prop)(V:α→Prop)(N:Nat)(w:World):Prop:=
 ∀(l:Nat) (J:List α→World→Prop) (W:World),Below w.heap.size w W→oQ B t W→cZ W.heap.size B t J→
  (∀pre x W1,J pre W1→V x→pre.length<N→YieldAt F (n-1) P l (encs x) W1 fun e W'=>e=.returned (.bool true)∧J (pre++ [x]) W'∧ou B t W1 W'∧oQ B t W')→
  J [] W→
  CallsIn F n P g (#[.func (.yield l) #[] #[]]++lb) W fun e W'=>(∃v,e=.returned v)∧∃ xs,S xs∧J xs W'
def postX{α:Type}(B:Nat)(t:TypeId)(I:List α→World→Prop)(xs:List α)(W:World):Exit→Act→World→Prop
 | .normal,_,W'=>ou B t W W'∧I xs W'
 |_,_,_=>False
theorem kz{F:Fence}{n:Nat}{P:Program}{α:Type}{g:Operand}{ps:Array Tmp}{assign body:Code}{Q:Exit→Act→World→Prop}{a:Act}{w:World}
 (hro:F.round=none)(h1:1≤n){gf:Nat}{lb:Array Value}(hg:a.eval g=.func (.func gf) #[] lb)(hFg:F.fn gf)(eg:∀ args w,(callFunc gf args).run P w=.ok (.enter gf args) w)
 {encs:α→Array Value}{B:Nat}{t:TypeId}{S:List α→Prop}{V:α→Prop}{N:Nat}{w0:World}(hseq:SeqX F (n-1) P gf lb encs B t S V N w0)(hb0:Below w0.heap.size w0 w)(hps:∀ x,(encs x).size=ps.size)
 (I:List α→World→Prop)(hL:∀ s W,I s W→oQ B t W)(hI:cZ w.heap.size B t I)(h0:I [] w)
 (Ax:α→Act→World→Prop)(hAx:∀ x a',cZ w.heap.size B t (fun(_:Unit) W=>Ax x a' W))
 (hassign:∀ (l:Nat) (pre:List α) (x:α) (W:World) (K:Act→World→Prop),I pre W→(∀a' W',ou B t W W'→I pre W'→Ax x a' W'→K a' W')→
   assign.wpIn (F.inRound l) (n-1-1) P (Exit.then K (fun _ _ _=>False)) {tmps:=(ps.zip (encs x)).foldl (fun t (p,v)=>t.setIfInBounds p v) a.tmps,defers:=[]} W)
 (hbody:∀ (l:Nat) (pre:List α) (x:α) (a':Act) (W:World),w.heap.size≤l→(∃r,W.heap[l]? =some (.loop r))→I pre W→Ax x a' W→V x→pre.length<N→body.wpIn (F.inRound l) (n-1-1) P (postX B t I (pre++ [x]) W) a' W)
 (hdone:∀ (D:Nat) (xs:List α) (W:World),w.heap.size≤D→S xs→I xs W→W.heap[D]? =some (.deferred (some []))→Q .normal {a with defers:={target:=.collected D,args:=#[]}::a.defers} W):
 (Code.rangeFunc g ps assign body).wpIn F n P Q a w:=by
 refine wpIn_rangeFunc ?_
 intro fn hfn
 rw[hro]
 obtain⟨rc,hrc⟩:∃ rc:LoopState→Loop,rc=fun st=>{state:=st,pending:=none,fn,tmps:=a.tmps,params:=ps,assign,body,defers:=w.heap.size}:=⟨_,rfl⟩
 have e1:((w.alloc (.deferred (some []))).alloc (.loop (rc .ready))).heap[w.heap.size+1]? =some (.loop (rc .ready)):=by
  have:=World.alloc_heap_new (w.alloc (.deferred (some []))) (.loop (rc .ready))
  rwa [World.size_alloc]at this
 have e2:((w.alloc (.deferred (some []))).alloc (.loop (rc .ready))).heap[w.heap.size]? =some (.deferred (some [])):=
  (Below.heap_alloc _ _ _ (by simp)).trans (World.alloc_heap_new w _)
 have e3:w.heap.size+2=((w.alloc (.deferred (some []))).alloc (.loop (rc .ready))).heap.size:=by simp
 have e4:Below w0.heap.size w0 ((w.alloc (.deferred (some []))).alloc (.loop (rc .ready))):=
  hb0.trans ((((Below.refl _ w).alloc (Nat.le_refl _) _).alloc (by simp) _).mono hb0.size)
 have e5:I [] ((w.alloc (.deferred (some []))).alloc (.loop (rc .ready))):=hI.alloc _ (hI.alloc _ h0)
 have hen:=run_enterLoop_outer (P:=P) (w:=w) fn a.tmps ps assign body
 rw[show(Loop.mk .ready none fn a.tmps ps assign body w.heap.size)=rc .ready by rw[hrc]]at hen
 generalize (w.alloc (.deferred (some []))).alloc (.loop (rc .ready))=W1 at hen e1 e2 e3 e4 e5
 refine⟨w.heap.size+1,[{target:=.collected w.heap.size,args:=#[]}],W1,{target:=.fn (.func gf) lb,args:=#[.func (.yield (w.heap.size+1)) #[] #[]]},W1,gf,
  #[.func (.yield (w.heap.size+1)) #[] #[]]++lb,W1,hen, ?_, ?_, ?_,fun _=>h1, ?_⟩
 ·simp only[resolve,hg]
  simp[go_sem]
 ·intro f' hf';simp[Target.leads]at hf';subst hf';exact hFg
 ·simp[invoke,go_sem,eg]
 have book:∀ {X Y:World} {row:Option Nat} {k:Nat} {o:Obj},k<W1.heap.size→X.heap[k]? =some o→X.grownBy Y row→(∀r,row=some r→W1.heap.size≤r∧¬ dS B t X r)→Y.heap[k]? =some o:=by
  intro X Y row k o hk ho hg hr
  refine(hg.block k (Array.getElem?_eq_some_iff.1 ho).1 (fun e=> ?_)).trans ho
  have:=(hr k e.symm).1
  omega
 refine(hseq (w.heap.size+1) (fun pre W=>I pre W∧W.heap[w.heap.size+1]? =some (.loop (rc .ready))∧W.heap[w.heap.size]? =some (.deferred (some []))) W1 e4 (hL _ _ e5)
  (fun s X Y row hs hg hr=>⟨hI s X Y row hs.1 hg (fun r e=>⟨by have:=(hr r e).1;omega,(hr r e).2⟩),book (by omega) hs.2.1 hg hr,book (by omega) hs.2.2 hg hr⟩) ?_ ⟨e5,e1,e2⟩).mono ?_
 ·rintro pre x W ⟨hi,hl,hk⟩ hvx hlen
  have hy:=run_yield (P:=P) (args:=encs x) hl (by rw[hrc];exact hps x)
  rw[hrc]at hy
  refine⟨fn,_,assign,body,hy,roundIn_of_wpIn hfn (hassign _ pre x W _ hi ?_)⟩
  clear hy
  intro a' Wa hka hia hax
  have hn1:=(hL _ _ hi).not hl rfl
  have hn2:=(hL _ _ hi).not hk rfl
  have hla:Wa.heap[w.heap.size+1]? =some (.loop (rc .ready)):=(hka.same _ (Array.getElem?_eq_some_iff.1 hl).1 hn1).trans hl
  have hka2:Wa.heap[w.heap.size]? =some (.deferred (some [])):=(hka.same _ (Array.getElem?_eq_some_iff.1 hk).1 hn2).trans hk
  have hm1:=(hL _ _ hia).not hla rfl
  have hm2:=(hL _ _ hia).not hka2 rfl
  have hlta:w.heap.size+1<Wa.heap.size:=(Array.getElem?_eq_some_iff.1 hla).1
  refine⟨_,run_beginRound hla (by rw[hrc]), ?_⟩
  obtain⟨Wb,hWb⟩:∃ Wb,Wa.putObj (w.heap.size+1) (.loop {rc .ready with state:=.busy})=Wb:=⟨_,rfl⟩
  have hlb:Wb.heap[w.heap.size+1]? =some (.loop {rc .ready with state:=.busy}):=by rw[←hWb];exact World.putObj_heap_same hlta
  have hob:∀ k,k≠w.heap.size+1→Wb.heap[k]? =Wa.heap[k]? :=fun k hk=>by rw[←hWb];exact World.putObj_heap_other hk
  have hsb:Wb.heap.size=Wa.heap.size:=by rw[←hWb];simp
  have hib:I pre Wb:=by rw[←hWb];exact hI.putObj _ hia (by omega) hm1
  have haxb:Ax x a' Wb:=by rw[←hWb];exact(hAx x a').putObj (s:=()) _ hax (by omega) hm1
  have hBne:B≠w.heap.size+1:=fun e=>hm1 (.inl e.symm)
  have howb:∀ i,dS B t Wb i↔dS B t Wa i:=dS.congr (hob B hBne)
  rw[hWb]
  refine wpIn_mono (hbody _ pre x a' Wb (by omega) ⟨_,hlb⟩ hib haxb hvx hlen) ?_
  rintro e a3 W3 hp
  cases e with
  |normal=>
   obtain⟨hk3,hi3⟩:=hp
   have hl3:W3.heap[w.heap.size+1]? =some (.loop {rc .ready with state:=.busy}):=(hk3.same _ (by omega) (fun h=>hm1 ((howb _).1 h))).trans hlb
   have hkd3:W3.heap[w.heap.size]? =some (.deferred (some [])):=(hk3.same _ (by omega) (fun h=>hm2 ((howb _).1 h))).trans ((hob _ (by omega)).trans hka2)
   have hn3:=(hL _ _ hi3).not hl3 rfl
   have hlt3:=(Array.getElem?_eq_some_iff.1 hl3).1
   have hen3:=run_endRound (P:=P) none hl3
   have hB3:B≠w.heap.size+1:=fun e=>hn3 (.inl e.symm)
   have how3:∀ i,dS B t (W3.putObj (w.heap.size+1) (.loop (rc .ready))) i↔dS B t W3 i:=dS.congr (World.putObj_heap_other hB3)
   refine⟨_,W3.putObj (w.heap.size+1) (.loop (rc .ready)),by rw[hrc]at hen3 ⊢;exact hen3,rfl,⟨hI.putObj _ hi3 (by omega) hn3,World.putObj_heap_same hlt3,(World.putObj_heap_other (by omega)).trans hkd3⟩, ?_, ?_⟩
   ·refine hka.trans ⟨by have:=hk3.size;simp;omega,fun i hi hn=> ?_,fun i ho hi=> ?_⟩
    ·by_cases e:i=w.heap.size+1
     ·subst e;exact(World.putObj_heap_same hlt3).trans hla.symm
     ·exact(World.putObj_heap_other e).trans ((hk3.same i (by omega) (fun h=>hn ((howb i).1 h))).trans (hob i e))
    ·exact(howb i).1 (hk3.new i ((how3 i).1 ho) (by omega))
   ·intro i ho
    obtain⟨o,h1,h2⟩:=hL _ _ hi3 i ((how3 i).1 ho)
    refine⟨o,(World.putObj_heap_other (fun e=> ?_)).trans h1,h2⟩
    subst e;rw[hl3]at h1;cases h1;cases h2
  |ret=>exact hp.elim
  |exit id=>exact hp.elim
  |goto t=>exact hp.elim
  |panic ch=>exact hp.elim
  |outgrown=>exact hp.elim
 ·rintro e W2 ⟨⟨v,rfl⟩,xs,hS,hi,hl,hk⟩
  have hn2:=(hL _ _ hi).not hl rfl
  have hend:(Instr.endLoop (w.heap.size+1)).run P W2=.ok none (W2.putObj (w.heap.size+1) (.loop (rc .exhausted))):=by
   have:=run_endLoop (P:=P) hl (by rw[hrc];simp)
   rw[hrc]at this⊢
   exact this
  exact⟨none,_,hend,hdone _ xs _ (Nat.le_refl _) hS (hI.putObj _ hi (by omega) hn2) ((World.putObj_heap_other (by omega)).trans hk)⟩
theorem oO{P:Program}{w w':World}{B:Nat}{t ty e:TypeId}{i0:TypeInfo}(ht:P.underlying t=some (.slice e))(hi:P.info? e=some i0)(hz0:i0.zero=some (.int .i64 0))(hz1:i0.size=1)(hz2:i0.bytes=8)
 {v v':Value}{Z:List Int}(hown:aj w B e v Z){g c:Nat}{z:Int}(hnew:w.cell? ⟨g,0,none⟩=some (.int .i64 z))(hlen:(Z.length+1)*8≤140737488355328)
 (hrun:(Builtin.append_ #[t,t] ty #[v,.slice (some ⟨g,0,none⟩) 1 c]).run P w=.ok v' w'):∀ i,v'.ownBlock=some i→v.ownBlock=some i∨w.heap.size≤i:=by
 have hnews:∀ (j:Nat) (u:Value),([.int .i64 z]:List Value)[j]? =some u→w.cell? ((⟨g,0,none⟩:Addr).add j)=some u:=by
  intro j u hu
  obtain⟨hj,rfl⟩:=List.getElem?_eq_some_iff.1 hu
  simp only[List.length_cons,List.length_nil]at hj
  obtain rfl:j=0:=by omega
  simpa [Addr.add]using hnew
 have h1:∀ u∈([.int .i64 z]:List Value),u.oneCell'=true:=by intro u hu;simp at hu;subst hu;rfl
 intro i hiv
 have hown0:w.ownsRow B e 1 v Z.length (Z.map dN):=hown
 rcases hown0.2 with⟨rfl,h0⟩|⟨g0,cap,cur,rfl,hB,hh,hn,hcap,hsz,htk⟩
 ·obtain⟨v2,w2,hr,ho,_⟩:=run_append_own (P:=P) w w.heap.size t ty e i0 (.int .i64 0) 1 8 ht hi hz0 hz1 hz2 rfl (by decide) (.slice none 0 0) 0 [] (World.ownsRow_nil _ _ _ 1) ⟨g,0,none⟩ 1 c [.int .i64 z] rfl hnews h1 (by unfold maxLen;omega) (by omega) (Nat.le_refl _)
  rw[hrun]at hr
  cases hr
  exact .inr (ho.lt i hiv).1
 ·by_cases hf:Z.length+1≤cap
  ·obtain⟨w2,hr,_,_⟩:=run_append_fits (P:=P) w B t ty e i0 1 ht hi hz1 g0 Z.length cap (Z.map dN) hown0 ⟨g,0,none⟩ 1 c [.int .i64 z] rfl hnews h1 hf
   rw[hrun]at hr
   cases hr
   exact .inl hiv
  ·have hr:=run_append_grow (P:=P) (w:=w) t ty e i0 (.int .i64 0) ht hi hz0 ⟨g0,0,none⟩ Z.length cap (Z.map dN) (by rw[hz1];simp) (fun j u hj=>World.ownsRow.cells hown0 rfl j u hj) ⟨g,0,none⟩ 1 c [.int .i64 z] (by rw[hz1];rfl) hnews (by omega) (by omega) (by rw[hz2];exact growslice_fits (by omega) (by omega))
   rw[hrun]at hr
   cases hr
   simp only[Value.ownBlock,Option.some.injEq]at hiv
   exact .inr (by omega)
theorem iI{F:Fence}{n:Nat}{P:Program}(w:World){ops:Array Oper}{rest:List Oper}{o:Oper}{a:Act}{Q:Exit→Act→World→Prop}(hgd:o.guard=none)(s x:Operand)(t:TypeId)
 (ho:o.op=.call {callee:=.builtin .append,args:=#[s,x],argTypes:=#[t,t]})(e:TypeId)(ht:P.underlying t=some (.slice e))
 (hinfo:(P.info? e).map (fun i=>(i.zero,i.size,i.bytes))=some (some (.int .i64 0),1,8))
 (B:Nat)(v:Value)(Z:List Int)(hs:a.eval s=v)(hown:aj w B e v Z)(hB:B≤w.heap.size)
 (C:Array Value)(c g:Nat)(z:Int)(hx:a.eval x=.slice (some ⟨g,0,none⟩) 1 c)(hg:g=w.heap.size)(hC:C=#[.int .i64 z])
 (hlen:(Z.length+1)*8≤140737488355328)
 (h:∀ va vn vc w',aj w' B e (.slice va vn vc) (Z++ [z])→(w.alloc (.cells C e)).grownBy w' v.ownBlock→(∀i,(Value.slice va vn vc).ownBlock=some i→v.ownBlock=some i∨w.heap.size≤i)→wpListIn F n P ops Q rest (a.put o.dst (.slice va vn vc)) w'):wpListIn F n P ops Q (o::rest) a (w.alloc (.cells C e)):=by
 obtain⟨i0,hi,hz0,hz1,hz2⟩:=info_parts hinfo
 subst hC hg
 have hcell:(w.alloc (.cells #[.int .i64 z] e)).cell? ⟨w.heap.size,0,none⟩=some (.int .i64 z):=by rw[World.cell?_alloc_mark];rfl
 have hown1:aj (w.alloc (.cells #[.int .i64 z] e)) B e v Z:=World.ownsRow.alloc hown _
 refine wpListIn_plain hgd fun K hK'=> ?_
 obtain⟨v',w',hrun,r1,r2,_⟩:=run_append_own (P:=P) (w.alloc (.cells #[.int .i64 z] e)) B t o.type e i0 (.int .i64 0) 1 8 ht hi hz0 hz1 hz2 rfl (by decide) v Z.length (Z.map dN) hown1 ⟨w.heap.size,0,none⟩ 1 c [.int .i64 z] rfl (fun j u hu=>by
  obtain⟨hj,rfl⟩:=List.getElem?_eq_some_iff.1 hu
  simp only[List.length_cons,List.length_nil]at hj
  obtain rfl:j=0:=by omega
  simp[Addr.add]) (by intro u hu;simp at hu;subst hu;rfl) (by unfold maxLen;omega) hlen (by simp;omega)
 have hwh:=oO ht hi hz0 hz1 hz2 hown1 hcell hlen hrun
 have hown2:aj w' B e v' (Z++ [z]):=by
  show w'.ownsRow B e 1 v' (Z++ [z]).length ((Z++ [z]).map dN)
  rw[List.map_append,List.length_append]
  exact r1
 obtain⟨va,vn,vc,rfl,_⟩:=hown2.nums
 unfold Oper.wpIn
 refine⟨?_, ?_⟩
 ·simp[Oper.about,ho,resolve,Target.leads,Sem.run_pure]
 ·rw[Oper.semAt_plain F _ _ (by rw[ho];intro c hc';cases hc')]
  simp[execOp,ho,resolve,invoke,builtin,hs,hx,hrun,Result.andThen]
  exact hK' _ _ (h va vn vc w' hown2 r2 (fun i hi'=>(hwh i hi').imp id (fun h'=>by simp at h';omega)))
structure jl(W:World)(B:Nat)(s e:TypeId)(v:Value)(vs:List Value)(Zs:List (List Int)):Prop where
 row:W.ownsRow B s 1 v vs.length vs
 len:vs.length=Zs.length
 own:∀ i (h1:i<vs.length) (h2:i<Zs.length),aj W B e vs[i] Zs[i]
 apart:∀ i j (h1:i<vs.length) (h2:j<vs.length),i≠j→∀ k,vs[i].ownBlock=some k→vs[j].ownBlock≠some k
theorem bL{W:World}{B:Nat}{e:TypeId}{v:Value}{Z:List Int}(h:aj W B e v Z){i:Nat}(hi:v.ownBlock=some i):∃ cur,W.heap[i]? =some (.cells cur e (0,0))∧B≤i:=by
 rcases h.2 with⟨e,_⟩|⟨g,cap,cur,e,hb,hh,_⟩
 ·subst e;cases hi
 ·subst e;cases hi;exact⟨cur,hh,hb⟩
theorem dG{W:World}{B k n:Nat}{e:TypeId}{v:Value}{xs:List Value}(h:W.ownsRow B e k v n xs){i:Nat}(hi:v.ownBlock=some i):∃ cur,W.heap[i]? =some (.cells cur e (0,0))∧B≤i:=by
 rcases h.2 with⟨e,_⟩|⟨g,cap,cur,e,hb,hh,_⟩
 ·subst e;cases hi
 ·subst e;cases hi;exact⟨cur,hh,hb⟩
theorem jl.kept{W W':World}{B:Nat}{s e:TypeId}{v:Value}{vs:List Value}{Zs:List (List Int)}(h:jl W B s e v vs Zs){X:Nat→Prop}(hb:Off X W W')(hX:∀ i,X i→i<B∨∀ C (t:TypeId),(t=s∨t=e)→W.heap[i]? ≠some (.cells C t (0,0))):jl W' B s e v vs Zs:=by
 refine⟨?_,h.len,fun i h1 h2=> ?_,h.apart⟩
 ·refine⟨h.row.1, ?_⟩
  rcases h.row.2 with hn|⟨g,cap,cur,rfl,hB,hg,rest⟩
  ·exact .inl hn
  ·refine .inr ⟨g,cap,cur,rfl,hB, ?_,rest⟩
   rw[hb.block g (Array.getElem?_eq_some_iff.1 hg).1 (fun hx=>by
    rcases hX g hx with h'|h'
    ·omega
    ·exact h' cur s (.inl rfl) hg)]
   exact hg
 ·have ho:=h.own i h1 h2
  refine⟨ho.1, ?_⟩
  rcases ho.2 with hn|⟨g,cap,cur,he,hB,hg,rest⟩
  ·exact .inl hn
  ·refine .inr ⟨g,cap,cur,he,hB, ?_,rest⟩
   rw[hb.block g (Array.getElem?_eq_some_iff.1 hg).1 (fun hx=>by
    rcases hX g hx with h'|h'
    ·omega
    ·exact h' cur e (.inr rfl) hg)]
   exact hg
theorem jl.since{W W':World}{B:Nat}{s e:TypeId}{v:Value}{vs:List Value}{Zs:List (List Int)}(h:jl W B s e v vs Zs)(hb:Below W.heap.size W W'):jl W' B s e v vs Zs:=
 h.kept (X:=fun _=>False) (Off.since hb) (fun i hi=>hi.elim)
theorem jl.mono{W:World}{B B':Nat}{s e:TypeId}{v:Value}{vs:List Value}{Zs:List (List Int)}(h:jl W B s e v vs Zs)(hB:B'≤B):jl W B' s e v vs Zs:=by
 refine⟨⟨h.row.1, ?_⟩,h.len,fun i h1 h2=>(h.own i h1 h2).mono hB,h.apart⟩
 rcases h.row.2 with hn|⟨g,cap,cur,rfl,hg,rest⟩
 ·exact .inl hn
 ·exact .inr ⟨g,cap,cur,rfl,Nat.le_trans hB hg,rest⟩
theorem jl.push{W U w1:World}{B g n cap i:Nat}{s e:TypeId}{vs:List Value}{Zs:List (List Int)}{v':Value}{Z':List Int}(h:jl W B s e (.slice (some ⟨g,0,none⟩) n cap) vs Zs)(hse:s≠e)(hn:n=vs.length)(hi:i<vs.length)
 (hU:Below W.heap.size W U)(hg:U.grownBy w1 (vs[i]).ownBlock)(ho:aj w1 B e v' Z')(hw:∀ k,v'.ownBlock=some k→(vs[i]).ownBlock=some k∨W.heap.size≤k):
 jl (w1.setCell ⟨g,i,none⟩ v') B s e (.slice (some ⟨g,0,none⟩) n cap) (vs.set i v') (Zs.set i Z')∧Below B W (w1.setCell ⟨g,i,none⟩ v')∧Off (fun k=>(vs[i]).ownBlock=some k∨k=g) W (w1.setCell ⟨g,i,none⟩ v')∧Off (fun k=>(vs[i]).ownBlock=some k) W w1∧(vs[i]).ownBlock≠some g:=by
 subst hn
 have hiZ:i<Zs.length:=by rw[←h.len];exact hi
 obtain⟨cur,hgb,hBg⟩:=dG h.row (i:=g) rfl
 have hgl:g<W.heap.size:=(Array.getElem?_eq_some_iff.1 hgb).1
 have hne:(vs[i]).ownBlock≠some g:=fun e'=>by
  obtain⟨c2,h2,_⟩:=bL (h.own i hi hiZ) e'
  rw[hgb]at h2;cases h2;exact hse rfl
 have hvlt:∀ k,(vs[i]).ownBlock=some k→k<W.heap.size∧B≤k:=fun k hk=>by
  obtain⟨c2,h2,h3⟩:=bL (h.own i hi hiZ) hk
  exact⟨(Array.getElem?_eq_some_iff.1 h2).1,h3⟩
 have hBW:B≤W.heap.size:=by omega
 have hoff:Off (fun k=>(vs[i]).ownBlock=some k) W w1:=(Off.since hU).grown hg (fun k hk=>.inl hk)
 have hrow1:w1.ownsRow B s 1 (.slice (some ⟨g,0,none⟩) vs.length cap) vs.length vs:=by
  refine⟨h.row.1, ?_⟩
  rcases h.row.2 with⟨e',_⟩|⟨g',cap',cur',e',hB,hg',rest⟩
  ·cases e'
  ·cases e'
   exact .inr ⟨g,cap,cur',rfl,hB,(hoff.block g hgl hne).trans hg',rest⟩
 have hst:=World.ownsRow.stored hrow1 i v'
 have hoff2:Off (fun k=>(vs[i]).ownBlock=some k∨k=g) W (w1.setCell ⟨g,i,none⟩ v'):=(hoff.mono (fun k _ hk=>.inl hk)).setCell (.inl (.inr rfl)) v'
 have hng:∀ k,v'.ownBlock=some k→k≠g:=fun k hk e'=>by
  subst e'
  rcases hw k hk with h'|h'
  ·exact hne h'
  ·omega
 have keepOwn:∀ {u:Value} {Z:List Int},aj w1 B e u Z→(∀k,u.ownBlock=some k→k≠g)→aj (w1.setCell ⟨g,i,none⟩ v') B e u Z:=by
  intro u Z hu hk
  refine World.ownsRow.kept hu hst.2 ?_
  by_cases e':u.ownBlock=none
  ·exact .inl e'
  ·exact .inr fun h'=>hk g h' rfl
 refine⟨⟨by simpa using hst.1,by simp[h.len],fun j h1 h2=> ?_,fun j k h1 h2 hjk b hb=> ?_⟩, ?_⟩
 ·simp only[List.getElem_set]
  by_cases hij:i=j
  ·subst hij
   simp only[if_true]
   exact keepOwn ho hng
  ·rw[if_neg hij,if_neg hij]
   have h1':j<vs.length:=by simpa using h1
   have h2':j<Zs.length:=by simpa using h2
   have hoj:=h.own j h1' h2'
   have hoj1:aj w1 B e vs[j] Zs[j]:=by
    refine⟨hoj.1, ?_⟩
    rcases hoj.2 with hn|⟨g',cap',cur',e',hB,hg',rest⟩
    ·exact .inl hn
    ·refine .inr ⟨g',cap',cur',e',hB, ?_,rest⟩
     rw[hoff.block g' (Array.getElem?_eq_some_iff.1 hg').1 (fun hx=>h.apart i j hi h1' hij g' hx (by rw[e'];rfl))]
     exact hg'
   refine keepOwn hoj1 fun k hk e'=> ?_
   subst e'
   obtain⟨c2,h2,_⟩:=bL hoj hk
   rw[hgb]at h2;cases h2;exact hse rfl
 ·simp only[List.length_set]at h1 h2
  simp only[List.getElem_set]at hb⊢
  by_cases hij:i=j
  ·rw[if_pos hij]at hb
   have hik:i≠k:=fun e'=>hjk (hij▸e')
   rw[if_neg hik]
   rcases hw b hb with h'|h'
   ·exact h.apart i k hi h2 hik b h'
   ·intro e'
    obtain⟨c2,h3,_⟩:=bL (h.own k h2 (by rw[←h.len];exact h2)) e'
    have:=(Array.getElem?_eq_some_iff.1 h3).1
    omega
  ·rw[if_neg hij]at hb
   by_cases hik:i=k
   ·rw[if_pos hik]
    intro e'
    rcases hw b e' with h'|h'
    ·exact h.apart i j hi h1 hij b h' hb
    ·obtain⟨c2,h3,_⟩:=bL (h.own j h1 (by rw[←h.len];exact h1)) hb
     have:=(Array.getElem?_eq_some_iff.1 h3).1
     omega
   ·rw[if_neg hik]
    exact h.apart j k h1 h2 hjk b hb
 ·exact⟨hoff2.below hBW (fun k hk=>by
   rcases hk with hk|rfl
   ·exact(hvlt k hk).2
   ·exact hBg),hoff2,hoff,hne⟩
theorem jl.cell{W:World}{B g n cap i:Nat}{s e:TypeId}{vs:List Value}{Zs:List (List Int)}(h:jl W B s e (.slice (some ⟨g,0,none⟩) n cap) vs Zs)(hi:i<vs.length):W.cell? ⟨g,i,none⟩=some vs[i]:=by
 have:=World.ownsRow.cells h.row rfl i _ (List.getElem?_eq_getElem hi)
 rwa [aU,Nat.zero_add]at this
theorem jl.free{W:World}{B g n cap i:Nat}{s e:TypeId}{vs:List Value}{Zs:List (List Int)}(h:jl W B s e (.slice (some ⟨g,0,none⟩) n cap) vs Zs)(hn:n=vs.length):W.frozen? ⟨g,i,none⟩=false:=by
 subst hn
 exact World.ownsRow.frozenAt h.row i
theorem DK(n:Nat):(madeCells #[Value.slice none 0 0] n).toList=List.replicate n (.slice none 0 0):=by
 apply List.ext_getElem
 ·simp[madeCells]
 ·intro i h1 h2
  simp[madeCells,Nat.mod_one]
theorem jl.made{w:World}{B n:Nat}{s e:TypeId}(hB:B≤w.heap.size)(hn:n≤maxLen):
 jl (w.alloc (.cells (madeCells #[Value.slice none 0 0] n) s)) B s e (.slice (some ⟨w.heap.size,0,none⟩) n n) (List.replicate n (.slice none 0 0)) (List.replicate n []):=by
 refine⟨?_,by simp,fun i h1 h2=> ?_,fun i j h1 h2 _ k hk=> ?_⟩
 ·refine⟨by simp,.inr ⟨w.heap.size,n,_,by simp,hB,World.alloc_heap_new w _,by simp,hn,by simp[size_madeCells],by rw[DK];simp⟩⟩
 ·simp only[List.getElem_replicate]
  exact World.ownsRow_nil _ _ _ 1
 ·simp only[List.getElem_replicate]at hk
  cases hk
end Go.Proofs.YthjdeoppajlcoaaGreatDoor

namespace Go.Proofs.YthjdeoppajlcoaaGreatDoor
set_option linter.unusedSimpArgs false
set_option linter.unusedVariables false
set_option maxRecDepth 100000
open Go.RowKit
attribute [local go_sem] Oper.semAt_some
open Go.Lib (hid)
def inL(Z:List Int)(z:Int):Bool:=decide (z∈Z)
def Fa(Z:List Int)(z:Int)(w:World)(e:Ending)(w':World):Prop:=∃ k:Int,e=.returned (.int .i64 k)∧(decide (0≤k)=inL Z z)∧ -1≤k∧k≤140737488355328∧w=w'
theorem yV{Z:List Int}{z:Int}{i:Nat}(h:i<Z.length)(h1:z∉Z.take i)(h2:Z[i]≠z):z∉Z.take (i+1):=by
 rw[List.take_succ_eq_append_getElem h,List.mem_append,List.mem_singleton]
 intro h'
 rcases h' with h'|h'
 ·exact h1 h'
 ·exact h2 h'.symm
theorem Ec(a:Option Addr)(n c:Nat)(Z:List Int)(z:Int)(w:World)(hat:ai w a n Z)(hn:n≤140737488355328):
 Calls Tryz.prog 171 #[.slice a n c,.int .i64 z] w (Fa Z z w):=by
 have HL:=hid hat.1
 have HA:=hid hat
 clear hat
 go_enter Tryz.func171,Tryz.ntmps171
 go_wp2_with fail
 go_loop [8] (fun iv=>∃ i:Nat,i≤n∧Hid (z∉Z.take i)∧iv=.int .i64 (i:Int)) (fun iv=>n-(intOf iv).toNat)
 case atStart=>exact⟨0,Nat.zero_le _,hid (by simp),rfl⟩
 case round=>
  obtain⟨i,hi,HU,rfl⟩:=hrel
  by_cases hlt:i<n
  ·have hi1:i<Z.length:=by rw[HL.out];exact hlt
   obtain⟨g,off,rfl,hg,hc⟩:=HA.out.2 (by omega)
   have hcell:=hc i (by omega)
   obtain⟨y,hy⟩:∃ y,y=Z[i]:=⟨_,rfl⟩
   rw[←hy]at hcell
   unfold dN at hcell
   have HY:=hid hy
   clear hc hy
   by_cases he:z=y
   ·have het:(z==y)=true:=by rw[he];simp
    have HIN:Hid (inL Z z=true):=hid (by unfold inL;exact decide_eq_true (by rw[he,HY.out];exact List.getElem_mem _))
    clear he
    go_wp2_with fail
    go_ret
    exact⟨_,rfl,by rw[HIN.out];simp,by omega,by omega,rfl⟩
   ·have hef:(z==y)=false:=by simpa using he
    have HNE:=hid he
    clear he
    go_wp2_with fail
    go_round
    case rel=>exact⟨i+1,by omega,hid (yV hi1 HU.out (by rw[←HY.out];exact fun h=>HNE.out h.symm)),by go_num⟩
    case measure=>simp[intOf];omega
  ·obtain rfl:i=n:=by omega
   have HIN:Hid (inL Z z=false):=hid (by unfold inL;refine decide_eq_false ?_;have:=HU.out;rwa [List.take_of_length_le (by rw[HL.out];exact Nat.le_refl _)]at this)
   go_wp2_with fail
   go_ret
   exact⟨_,rfl,by rw[HIN.out];decide,by omega,by omega,rfl⟩
theorem vT(a:Option Addr)(n c:Nat)(Z:List Int)(z:Int)(w:World)(hat:ai w a n Z)(hn:n≤140737488355328):
 Calls Tryz.prog 165 #[.slice a n c,.int .i64 z] w fun e w'=>e=.returned (.bool (inL Z z))∧w=w':=by
 have CI:=hid (Ec a n c Z z w hat hn)
 clear hat
 go_enter Tryz.func165,Tryz.ntmps165
 go_wp2_with fail
 refine CI.out.mono ?_
 rintro e w' ⟨k,rfl,hk,hk0,hk1,rfl⟩
 have HK:=hid hk
 clear hk
 go_wp2_with fail
 go_ret
 exact⟨by rw[←HK.out];rfl,rfl⟩
theorem tN(a:Option Addr)(n c:Nat)(Z:List Int)(z:Int)(w:World)(hat:ai w a n Z)(hn:n≤140737488355328):
 Calls Tryz.prog 39 #[.slice a n c,.int .i64 z] w fun e w'=>e=.returned (.bool (inL Z z))∧w=w':=by
 have HL:=hid hat.1
 have HA:=hid hat
 clear hat
 go_enter Tryz.func39,Tryz.ntmps39
 go_wp2_with fail
 go_loop [5] (fun iv=>∃ i:Nat,i≤n∧Hid (z∉Z.take i)∧iv=.int .i64 (i:Int)) (fun iv=>n-(intOf iv).toNat)
 case atStart=>exact⟨0,Nat.zero_le _,hid (by simp),rfl⟩
 case round=>
  obtain⟨i,hi,HU,rfl⟩:=hrel
  by_cases hlt:i<n
  ·have hi1:i<Z.length:=by rw[HL.out];exact hlt
   obtain⟨g,off,rfl,hg,hc⟩:=HA.out.2 (by omega)
   have hcell:=hc i (by omega)
   obtain⟨y,hy⟩:∃ y,y=Z[i]:=⟨_,rfl⟩
   rw[←hy]at hcell
   unfold dN at hcell
   have HY:=hid hy
   clear hc hy
   by_cases he:y=z
   ·have het:(y==z)=true:=by rw[he];simp
    have HIN:Hid (inL Z z=true):=hid (by unfold inL;exact decide_eq_true (by rw[←he,HY.out];exact List.getElem_mem _))
    clear he
    go_wp2_with fail
    go_ret
    exact⟨by rw[HIN.out];rfl,rfl⟩
   ·have hef:(y==z)=false:=by simpa using he
    have HNE:=hid he
    clear he
    go_wp2_with fail
    go_round
    case rel=>exact⟨i+1,by omega,hid (yV hi1 HU.out (by rw[←HY.out];exact HNE.out)),by go_num⟩
    case measure=>simp[intOf];omega
  ·obtain rfl:i=n:=by omega
   have HIN:Hid (inL Z z=false):=hid (by unfold inL;refine decide_eq_false ?_;have:=HU.out;rwa [List.take_of_length_le (by rw[HL.out];exact Nat.le_refl _)]at this)
   go_wp2_with fail
   go_ret
   exact⟨by rw[HIN.out];rfl,rfl⟩
def addN(Z:List Int)(z:Int):List Int:=if inL Z z then Z else Z++ [z]
def bY(l:List Int):List Int:=l.foldl addN []
theorem qH(l:List Int)(z:Int):bY (l++ [z])=addN (bY l) z:=by simp[bY]
theorem rY(e:mV):bY (tos e)=iQ e:=by
 unfold tos pU iQ
 split
 ·simp[bY,addN,inL]
 ·split
  ·split
   ·rename_i h;simp[bY,addN,inL,h]
   ·rename_i h;have h':¬ e.Else=e.To:=fun h'=>h h'.symm;simp[bY,addN,inL,h']
  ·rfl
theorem rZ(l:List Int):(bY l).length≤l.length:=by
 have key:∀ (l Z:List Int),(l.foldl addN Z).length≤Z.length+l.length:=by
  intro l
  induction l with
  |nil=>intro Z;simp
  |cons z l ih=>
   intro Z
   have h1:=ih (addN Z z)
   have h2:(addN Z z).length≤Z.length+1:=by unfold addN;split<;>simp
   simp only[List.foldl_cons,List.length_cons]
   omega
 have:=key l []
 simpa [bY]using this
structure oP(w W:World)(v:Value)(Z:List Int):Prop where
 box:Boxed W (w.heap.size+1) 40 v
 own:aj W (w.heap.size+3) 3 v Z
 bel:Below w.heap.size w W
 siz:w.heap.size+3≤W.heap.size
theorem oP.grown{w W W':World}{v:Value}{Z:List Int}{row:Option Nat}(h:oP w W v Z)(hg:W.grownBy W' row)(hr:∀ r,row=some r→w.heap.size+3≤r∧∃ o:Obj,W.heap[r]? =some o∧o.isCells=false):oP w W' v Z:=by
 have hb:Below (w.heap.size+3) W W':=Below.grown (Below.refl _ W) hg h.siz (fun k e=>(hr k e).1)
 exact⟨Boxed.grownRow h.box hg (fun r e=>(hr r e).2),h.own.grownRow hg (fun r e=>(hr r e).2),h.bel.trans (hb.mono (by omega)),Nat.le_trans h.siz hb.size⟩
theorem oP.alloc{w W:World}{v:Value}{Z:List Int}(h:oP w W v Z)(o:Obj):oP w (W.alloc o) v Z:=h.grown (World.grownBy_alloc W o none) (fun r e=>by cases e)
def yo(B0 p:Nat)(x:TgV)(W:World):Prop:=B0≤p∧W.heap[p]? =some (.cells #[.int .i64 x.1,.slice x.2.1 x.2.2.1 x.2.2.2] 142 (0,0))
theorem yo.grown{B0 p:Nat}{x:TgV}{W W':World}{row:Option Nat}(h:yo B0 p x W)(hg:W.grownBy W' row)(hr:∀ r,row=some r→∃ o:Obj,W.heap[r]? =some o∧o.isCells=false):yo B0 p x W':=⟨h.1,qR h.2 hg hr⟩
theorem fC.off{b:Nat}{X:Nat→Prop}{W W':World}(h:Off X W W')(hk:KeepsOthers W W')(hb:b<W.heap.size)(hx:¬ X b):fC b W W':=⟨hk.walks,fun j=>h.cell (p:=⟨b,j,none⟩) hb hx⟩
theorem fC.alloc{b:Nat}{W:World}(o:Obj)(hb:b<W.heap.size):fC b W (W.alloc o):=fC.off (X:=fun _=>False) (Off.since ((Below.refl _ W).alloc (Nat.le_refl _) o)) (KeepsOthers.alloc W o) hb (fun h=>h)
set_option maxHeartbeats 4000000 in
theorem F8(pa:Option Addr)(pn pc:Nat)(oa:Option Addr)(on oc:Nat)(A:Int)(la:Option Addr)(ln lc:Nat)(ma:Option Addr)(mn mc:Nat)(e:mV)(w:World):
 Calls Tryz.prog 156 #[.agg #[.slice pa pn pc,.slice oa on oc,.int .i64 e.K,.int .i64 A,.int .i64 e.To,.int .i64 e.Else,.slice la ln lc,.slice ma mn mc]] w
  fun e' w'=>∃ va vn vc,e'=.returned (.slice va vn vc)∧aj w' w.heap.size 3 (.slice va vn vc) (iQ e)∧Below w.heap.size w w':=by
 refine(callsIn_wide (n:=9)).1 ?_
 refine callsIn_of_wp_marks Tryz.func156 rfl trivial ?_ rfl
 simp only[Tryz.ntmps156,List.size_toArray,List.length_cons,List.length_nil,Nat.reduceAdd,Nat.reduceSub,Array.replicate_succ,Array.replicate_zero,List.push_toArray,List.append_toArray,List.nil_append,List.cons_append]
 have HFST:Hid ((tgV e.K e.To e.Else la ln lc ma mn mc).map (·.1)=tos e):=hid (wZ e la ln lc ma mn mc)
 have HTL:=hid (xg e.K e.To e.Else la ln lc ma mn mc)
 have HNX:=hid (rY e)
 generalize e.K=K at*
 generalize e.To=T at*
 generalize e.Else=E at*
 gi_wp2_with (refine⟨trivial, ?_⟩;gi_at_call 126;refine(callsIn_wide.2 (mr K A T E la ln lc ma mn mc _)).mono ?_;rintro e w' ⟨rfl,rfl⟩)
 obtain⟨W0,hW0⟩:∃ W0,(((w.alloc (.cells #[.slice pa pn pc,.slice oa on oc,.int .i64 K,.int .i64 A,.int .i64 T,.int .i64 E,.slice la ln lc,.slice ma mn mc] 51)).alloc (.cells #[.slice none 0 0] 40)).alloc (.cells #[.int .i64 K,.int .i64 A,.int .i64 T,.int .i64 E,.slice la ln lc,.slice ma mn mc] 49))=W0:=⟨_,rfl⟩
 have HS0:Hid (oP w W0 (.slice none 0 0) []):=hid (by
  rw[←hW0]
  refine⟨?_,World.ownsRow_nil _ _ _ 1,(((Below.refl w.heap.size w).alloc (Nat.le_refl _) _).alloc (by simp) _).alloc (by simp<;>omega) _,by simp⟩
  have h:=(Boxed.new (w.alloc (.cells #[.slice pa pn pc,.slice oa on oc,.int .i64 K,.int .i64 A,.int .i64 T,.int .i64 E,.slice la ln lc,.slice ma mn mc] 51)) 40 (.slice none 0 0)).alloc (.cells #[.int .i64 K,.int .i64 A,.int .i64 T,.int .i64 E,.slice la ln lc,.slice ma mn mc] 49)
  rw[World.size_alloc]at h
  exact h)
 have hcB:∀ j,W0.cell? ⟨w.heap.size+1+1,j,none⟩=(#[.int .i64 K,.int .i64 A,.int .i64 T,.int .i64 E,.slice la ln lc,.slice ma mn mc]:Array Value)[j]? :=by
  intro j
  rw[←hW0,show w.heap.size+1+1=((w.alloc (.cells #[.slice pa pn pc,.slice oa on oc,.int .i64 K,.int .i64 A,.int .i64 T,.int .i64 E,.slice la ln lc,.slice ma mn mc] 51)).alloc (.cells #[.slice none 0 0] 40)).heap.size by simp]
  exact World.cell?_alloc_mark _ _ _ _ _
 have hz0:W0.heap.size=w.heap.size+3:=by rw[←hW0];simp
 rw[hW0]
 clear hW0
 have hst:=yU K A T E la ln lc ma mn mc (w.heap.size+1+1) 8 W0 hcB
 clear hcB
 refine wpIn_rangeFunc_ownH rfl (by omega) (gf:=152) (lb:=#[.pointer (some ⟨w.heap.size+1+1,0,none⟩)]) rfl trivial (enters_of Tryz.func152 (by kernel_rfl) rfl) hst fC.trans ?hKb (Below.refl _ _) (fun _=>rfl)
  (fun pre W=>∃ v,oP w W v (bY (pre.map (·.1)))∧pre.length≤2)
  (fun _ _ _=>False) ?hI (fun _ _ _ _ _ hs _ _=>hs) ⟨_,HS0.out,by simp⟩
  (fun x a' W=>∃ p,yo (w.heap.size+3) p x W∧a'={tmps:=#[.agg #[.slice pa pn pc,.slice oa on oc,.int .i64 K,.int .i64 A,.int .i64 T,.int .i64 E,.slice la ln lc,.slice ma mn mc],.pointer (some ⟨w.heap.size,0,none⟩),.slice none 0 0,.pointer (some ⟨w.heap.size+1,0,none⟩),.pointer (some ⟨p,0,none⟩),.pointer (some ⟨w.heap.size,2,none⟩),
    .agg #[.int .i64 K,.int .i64 A,.int .i64 T,.int .i64 E,.slice la ln lc,.slice ma mn mc],.func (.func 152) #[] #[.pointer (some ⟨w.heap.size+1+1,0,none⟩)],.agg #[.int .i64 x.1,.slice x.2.1 x.2.2.1 x.2.2.2],undef,undef,undef,undef,undef,undef,undef,undef,undef,undef,undef],defers:=[]})
  ?hAx ?assign ?body ?done ?stop
 case hKb=>exact kW (n0:=W0.heap.size) (by omega)
 case hI=>rintro pre W W' row ⟨v,hS,hl⟩ hg hr;exact⟨v,hS.grown hg (fun r e=>by rw[←hz0];exact hr r e),hl⟩
 case hAx=>rintro x a' _ W W' row ⟨p,hp,rfl⟩ hg hr;exact⟨p,hp.grown hg (fun r e=>(hr r e).2),rfl⟩
 case assign=>
  rintro l pre x W K' ⟨v,hS,hl⟩ hK
  have HS:=hid hS
  clear hS
  gi_wp2
  refine hK _ _ (KeepsOthers.alloc _ _ |>.from _) (fC.alloc _ (by have:=HS.out.siz;omega)) ⟨v,HS.out.alloc _,hl⟩ ⟨_,⟨HS.out.siz,heap_alloc_new W _⟩,rfl⟩
 case body=>
  rintro l pre x a' W hl0 _ ⟨v,hS,hl⟩ ⟨p,hp,rfl⟩ hlen
  have HS:=hid hS
  have HL2:Hid (pre.length<2):=hid (by have:=HTL.out;omega)
  have hv:=Boxed.cell hS.box
  have hvf:=Boxed.frozen hS.box
  obtain⟨va0,vn0,vc0,hve,hnu⟩:=hS.own.nums
  have hln:vn0≤2:=by have:=hnu.1;have h2:=rZ (pre.map (·.1));rw[List.length_map]at h2;omega
  have hpc:W.cell? ⟨p,0,none⟩=some (.int .i64 x.1):=by simp[World.cell?,hp.2]
  obtain⟨t,ta,tn,tc⟩:=x
  dsimp only at hpc hp⊢
  have HP:=hid hp
  have HNX2:Hid (bY ((pre++ [(t,ta,tn,tc)]).map (·.1))=addN (bY (pre.map (·.1))) t):=hid (by rw[List.map_append,List.map_cons,List.map_nil,qH])
  have HCN:Hid (CallsIn (Fence.wide.inRound l) 6 Tryz.prog 165 #[v,.int .i64 t] W fun e w'=>e=.returned (.bool (inL (bY (pre.map (·.1))) t))∧W=w'):=hid (CallsIn.inRound l (callsIn_wide.2 (by rw[hve];exact vT va0 vn0 vc0 _ t W hnu (by omega))))
  have HLN:Hid (((bY (pre.map (·.1))).length+1)*8≤140737488355328):=hid (by have:=hnu.1;omega)
  have HSZ:=hid hS.siz
  have HOW:=hid hS.own
  clear hS hp hnu hve hln
  cases hin:inL (bY (pre.map (·.1))) t with
  |true=>
   have HSN:Hid (addN (bY (pre.map (·.1))) t=bY (pre.map (·.1))):=hid (by unfold addN;rw[if_pos hin])
   rw[hin]at HCN
   clear hin
   gi_wp2_with (refine⟨trivial, ?_⟩;gi_at_call 165;refine HCN.out.mono ?_;rintro e w' ⟨rfl,rfl⟩)
   exact⟨KeepsFrom.refl _ _,fC.refl _ _,v,by rw[HNX2.out,HSN.out];exact HS.out,by simp;have:=HL2.out;omega⟩
  |false=>
   have HSN:Hid (addN (bY (pre.map (·.1))) t=bY (pre.map (·.1))++ [t]):=hid (by unfold addN;rw[if_neg (by rw[hin];decide)])
   rw[hin]at HCN
   clear hin
   gi_wp2_with (first|(refine⟨trivial, ?_⟩;gi_at_call 165;refine HCN.out.mono ?_;rintro e w' ⟨rfl,rfl⟩)|(gi_at_builtin;refine mg W rfl _ _ 40 rfl 3 Tryz.underlying40 aT (w.heap.size+3) v (bY (pre.map (·.1))) rfl HOW.out HSZ.out _ 1 _ t rfl rfl rfl HLN.out ?_;intro va vn vc w1 hown1 hgrow1;obtain⟨hb1,hb2,ho2,hk2,hoff2⟩:=zf HS.out.box HS.out.own (by omega) ((Below.refl W.heap.size W).alloc (Nat.le_refl _) _) hown1 hgrow1;have hc1:=hb1.cell;have hf1:=hb1.frozen;have hk3:=hid hk2;have hoff3:=hid hoff2;have hb3:=hid hb2;have ho3:=hid ho2;clear hb1 hb2 ho2 hk2 hoff2 hown1 hgrow1))
   have hge:∀ i,tX (w.heap.size+1) v i→w.heap.size≤i:=fun i hi=>by
    rcases hi with rfl|hi
    ·omega
    ·have:=(HOW.out.lt i hi).1;omega
   refine⟨hk3.out.from _,fC.off hoff3.out hk3.out (by have:=HSZ.out;omega) (fun hi=> ?_),_,⟨hb3.out,by rw[HNX2.out,HSN.out];exact ho3.out,HS.out.bel.trans (hoff3.out.below (by have:=HSZ.out;omega) hge),Nat.le_trans HSZ.out hoff3.out.size⟩,by simp;have:=HL2.out;omega⟩
   rcases hi with hi|hi
   ·omega
   ·have:=(HOW.out.lt _ hi).1;omega
 case done=>
  rintro D ys W hD rfl ⟨v,hS,hl⟩ hK
  have hv:=Boxed.cell hS.box
  have hvf:=Boxed.frozen hS.box
  obtain⟨va,vn,vc,rfl,hnu⟩:=hS.own.nums
  have HS:=hid hS
  clear hS hnu
  gi_wp2
  refine⟨by simp,.inl ⟨_,_,rfl,run_takeDeferred hK, ?_⟩⟩
  have hg:=HS.out.grown (grownBy_putObj' W D (.deferred none)) (fun r e'=>by cases e';exact⟨by omega,_,hK,rfl⟩)
  rw[HFST.out,HNX.out]at hg
  exact⟨_,results_tmp rfl _ _ _,va,vn,vc,rfl,hg.own.mono (by omega),hg.bel⟩
 case stop=>
  rintro D c pre W _ _ h _
  exact h.elim
end Go.Proofs.YthjdeoppajlcoaaGreatDoor

namespace Go.Proofs.YthjdeoppajlcoaaGreatDoor
set_option linter.unusedVariables false
open Go.RowKit (wrap64 intOf Below Hid)
open Go.Lib (hid)
def FT(w:World):Prop:=∀ k:Nat,k<26→w.cell? ⟨0,k,none⟩=some (.string (mk (av (k:Int))))
theorem FT.lt{w:World}(h:FT w):0<w.heap.size:=World.block_lt_of_cell? _ _ (h 0 (by omega))
theorem FT.below{w w':World}{B:Nat}(h:FT w)(hb:Below B w w')(hB:0<B):FT w':=fun k hk=>by
 rw[hb.cell (p:=⟨0,k,none⟩) hB];exact h k hk
theorem FT.since{w w':World}(h:FT w)(hb:Below w.heap.size w w'):FT w':=h.below hb h.lt
set_option maxRecDepth 100000 in
theorem mH(K:Int)(w:World)(hft:FT w):
 Calls Tryz.prog 128 #[.int .i64 K] w fun e w'=>e=.returned (.string (mk (av K)))∧w=w':=by
 by_cases h0:K<0
 ·have HF:=hid (gV (K:=K) (.inl h0))
  clear hft
  go_enter Tryz.func128,Tryz.ntmps128
  go_wp2
  go_ret
  exact⟨by rw[HF.out];rfl,rfl⟩
 ·by_cases h1:25<K
  ·have HF:=hid (gV (K:=K) (.inr h1))
   have h0':0≤K:=by omega
   have h1':26≤K:=by omega
   clear hft h0
   go_enter Tryz.func128,Tryz.ntmps128
   go_wp2
   go_ret
   exact⟨by rw[HF.out];rfl,rfl⟩
  ·obtain⟨k,rfl⟩:=Int.eq_ofNat_of_zero_le (show 0≤K by omega)
   have hk:k<26:=by omega
   have hcell:=hft k hk
   have h0':¬ ((k:Int)<0):=by omega
   have h1':¬ (26≤(k:Int)):=by omega
   clear hft h0 h1
   go_enter Tryz.func128,Tryz.ntmps128
   go_wp2
   go_ret
   exact⟨rfl,rfl⟩
theorem mJ:(Tryz.prog.info? 5).map (fun i=>(i.zero,i.size,i.bytes))=some (some (.int .u8 0),1,1):=by kernel_rfl
def jU(B:Nat)(L:List UInt8)(w:World)(e:Ending)(w':World):Prop:=
 ∃va vn vc,e=.returned (.slice va vn vc)∧eG w' B 5 (.slice va vn vc) L∧Below B w w'
theorem eG.read{w:World}{B:Nat}{e:TypeId}{a:Option Addr}{n c:Nat}{l:List UInt8}(h:eG w B e (.slice a n c) l):BytesAt w a n c l:=by
 obtain⟨a',n',c',he,hat⟩:=h.at
 cases he
 exact hat
theorem wh(a:Option Addr)(n c:Nat)(L:List UInt8)(room:Nat)(w:World)(hat:BytesAt w a n c L)(hn:n+room≤140737488355328):
 Calls Tryz.prog 193 #[.slice a n c,.int .i64 (room:Int)] w (jU w.heap.size L w):=by
 obtain⟨i0,hi,hz0,hz1,hz2⟩:=info_parts mJ
 have hmk:∀ u:World,(Instr.makeSlice 53 (.int .i64 0) (.int .i64 ((n:Int)+(room:Int)))).run Tryz.prog u=
  .ok (.slice (some ⟨u.heap.size,0,none⟩) 0 (n+room)) (u.alloc (.cells (madeCells #[.int .u8 0] (n+room)) 5)):=fun u=>by
  have h:=run_make (P:=Tryz.prog) u 53 5 i0 (.int .u8 0) Tryz.underlying53 hi hz0 .i64 .i64 0 ((n:Int)+(room:Int)) (by omega) (by omega) (by rw[hz2];omega) (by omega)
  have e:((n:Int)+(room:Int)).toNat=n+room:=by omega
  rw[e]at h
  simpa [hz1,Value.cells]using h
 clear hz0 hz1 hz2 hi
 go_enter Tryz.func193,Tryz.ntmps193
 go_wp2_with(at_builtin;refine mW _ rfl _ _ 53 rfl 5 Tryz.underlying53 mJ w.heap.size _ [] rfl (eG.made _ _ (Nat.le_refl _) (by unfold maxLen;omega) (by simp[size_madeCells])) (by simp) a n c L rfl (hat.below ((Below.refl w.heap.size w).alloc (Nat.le_refl _) _) (Nat.le_refl _)) (by simp;omega) ?_;intro va vn vc w2 hown2 hat2 hb2)
 go_ret
 exact⟨va,vn,vc,rfl,hown2,((Below.refl w.heap.size w).alloc (Nat.le_refl _) _).trans hb2⟩
theorem uH(n:Int)(w:World)(h0: -9223372036854775808≤n)(h1:n≤9223372036854775807):
 Calls Tryz.prog 194 #[.int .i64 n] w fun e w'=>e=.returned (.int .u64 (zz n:Int))∧w=w':=by
 by_cases hn:n<0
 ·have hz:2*(-1-n)+1=(zz n:Int):=by unfold zz;rw[if_pos hn];omega
  go_enter Tryz.func194,Tryz.ntmps194
  go_wp2
  go_ret
  exact⟨rfl,rfl⟩
 ·have hz:2*n=(zz n:Int):=by unfold zz;rw[if_neg hn];omega
  go_enter Tryz.func194,Tryz.ntmps194
  go_wp2
  go_ret
  exact⟨rfl,rfl⟩
def goOn(y:Nat):UInt8:=UInt8.ofNat (y%128+128)
theorem goOn_or(y:Nat):bits BinOp.or IntKind.u8 ((y:Int)%256) 128=((goOn y).toNat:Int):=by
 have H:∀ k:Fin 256,bits BinOp.or IntKind.u8 (k.val:Int) 128=((k.val%128+128:Nat):Int):=by decide+kernel
 have h:=H ⟨y%256,by omega⟩
 have e1:((y:Int)%256)=(((y%256:Nat)):Int):=by omega
 have e2:y%256%128=y%128:=by omega
 rw[e1,h]
 unfold goOn
 rw[GN _ (by omega)]
 simp only
 rw[e2]
def Room(f y:Nat):Prop:=f≤9∧y*128^(9-f)<18446744073709551616
theorem Room.start{n:Int}(h0: -9223372036854775808≤n)(h1:n≤9223372036854775807):Room 9 (zz n):=⟨Nat.le_refl _,by have:=zz_lt h0 h1;simpa using this⟩
theorem Room.more{f y:Nat}(h:Room f y)(hy:128≤y):∃ g,f=g+1∧wG f y=goOn y::wG g (y/128)∧Room g (y/128):=by
 obtain⟨h1,h2⟩:=h
 cases f with
 |zero=>rw[show 9-0=9 from rfl,pow9]at h2;omega
 |succ g=>
  refine⟨g,rfl, ?_,by omega, ?_⟩
  ·conv=>lhs;unfold wG
   rw[if_neg (by omega)]
   rfl
  ·have:=Dc y (128^(9-(g+1)))
   have e:9-g=9-(g+1)+1:=by omega
   rw[e,Nat.pow_succ]
   omega
theorem Room.last{f y:Nat}(hy:y<128):wG f y=[UInt8.ofNat y]:=by
 cases f with
 |zero=>rfl
 |succ f=>unfold wG;rw[if_pos hy]
set_option maxRecDepth 100000 in
theorem vJ(B:Nat)(v:Value)(l:List UInt8)(n:Int)(w:World)(hown:eG w B 5 v l)(hB:B≤w.heap.size)(hl:l.length+10≤140737488355328)(h0: -9223372036854775808≤n)(h1:n≤9223372036854775807):
 Calls Tryz.prog 192 #[v,.int .i64 n] w (jU B (l++dU n) w):=by
 have HO:=hid hown
 clear hown
 go_enter Tryz.func192,Tryz.ntmps192
 go_wp2_with(go_at_call 194;(with_reducible refine(uH n _ h0 h1).mono ?_);rintro e w' ⟨rfl,rfl⟩)
 go_loopw[0,5] (fun bv zv wr=>∃ (f y:Nat) (pre:List UInt8),zv=.int .u64 (y:Int)∧pre.length≤9-f∧Hid (Room f y)∧Hid (pre++wG f y=dU n)∧Hid (eG wr B 5 bv (l++pre))∧Hid (Below B w wr)) (fun _ zv _=>(intOf zv).toNat)
 case atStart=>exact⟨9,zz n,[],rfl,Nat.zero_le _,hid (Room.start h0 h1),hid rfl,hid (by rw[List.append_nil];exact HO.out),hid (Below.refl _ _)⟩
 case round=>
  obtain⟨f,y,pre,rfl,hpl,HR,HP,HW,HB⟩:=hrel
  have hsz:=HB.out.size
  by_cases hlt:128≤y
  ·obtain⟨g,rfl,hput,hroom⟩:=HR.out.more hlt
   have hg:g+1≤9:=HR.out.1
   have hor:=goOn_or y
   have HQ:Hid ((pre++ [goOn y])++wG g (y/128)=dU n):=hid (by rw[←HP.out,hput,List.append_assoc];rfl)
   have HM:=hid hroom
   have HL:Hid ((l++pre).length+1≤140737488355328):=hid (by rw[List.length_append];omega)
   clear hput hroom
   go_wp2_with(at_builtin;refine iV _ rfl _ _ 53 rfl 5 Tryz.underlying53 mJ B _ (l++pre) rfl HW.out (by omega) _ 1 1 _ [goOn y] rfl (by simp) rfl rfl HL.out ?_;intro v2 w2 hown2 hb2 hz2)
   have HW2:Hid (eG w2 B 5 v2 (l++(pre++ [goOn y]))):=hid (by rw[←List.append_assoc];exact hown2)
   have HB2:=hid (HB.out.trans hb2)
   clear hown2 hb2 hz2 hor
   go_wp2
   go_roundw
   case rel=>exact⟨g,y/128,pre++ [goOn y],by go_num,by simp;omega,HM,HQ,HW2,HB2⟩
   case measure=>simp[intOf];omega
  ·have hlast:wG f y=[UInt8.ofNat y]:=Room.last (by omega)
   have HQ:Hid (pre++ [UInt8.ofNat y]=dU n):=hid (by rw[←HP.out,hlast])
   have HL:Hid ((l++pre).length+1≤140737488355328):=hid (by rw[List.length_append];omega)
   have HC:Hid (#[Value.int .u8 (y:Int)]=([UInt8.ofNat y].map ko).toArray):=hid (by simp[ko];omega)
   clear hlast
   go_wp2_with(at_builtin;refine iV _ rfl _ _ 53 rfl 5 Tryz.underlying53 mJ B _ (l++pre) rfl HW.out (by omega) _ 1 1 _ [UInt8.ofNat y] rfl (by simp) HC.out rfl HL.out ?_;intro v2 w2 hown2 hb2 hz2)
   rw[List.append_assoc,HQ.out]at hown2
   obtain⟨va,vn,vc,rfl,hat⟩:=hown2.at
   have HB2:=hid (HB.out.trans hb2)
   go_ret
   exact⟨va,vn,vc,rfl,hown2,HB2.out⟩
theorem EQ(a:Option Addr)(n c:Nat)(L:List UInt8)(w:World)(hat:BytesAt w a n c L)(hn:n+10≤140737488355328):
 Calls Tryz.prog 193 #[.slice a n c,.int .i64 10] w (jU w.heap.size L w):=wh a n c L 10 w hat hn
theorem put_any(a:Option Addr)(n c:Nat)(L:List UInt8)(m:Int)(w:World)(hat:BytesAt w a n c L)(hn:n+10≤140737488355328)(h0: -9223372036854775808≤m)(h1:m≤9223372036854775807):
 Calls Tryz.prog 190 #[.slice a n c,.int .i64 m] w (jU w.heap.size (L++dU m) w):=by
 have HL:L.length+10≤140737488355328:=by rw[hat.1];exact hn
 have HA:=hid hat
 clear hat
 go_enter Tryz.func190,Tryz.ntmps190
 go_wp2_with(go_at_call 193;(with_reducible refine(EQ a n c L _ HA.out hn).mono ?_);rintro e w1 ⟨va,vn,vc,rfl,hown1,hb1⟩;have HB1:=hid hb1;have HO1:=hid hown1;clear hb1 hown1)
 have hz:=HB1.out.size
 refine(vJ w.heap.size _ L m w1 HO1.out hz HL h0 h1).mono ?_
 rintro e w2 ⟨va2,vn2,vc2,rfl,hown2,hb2⟩
 have HB2:=hid (HB1.out.trans hb2)
 have HO2:=hid hown2
 clear hb2 hown2
 go_wp2
 go_ret
 exact⟨va2,vn2,vc2,rfl,HO2.out,HB2.out⟩
end Go.Proofs.YthjdeoppajlcoaaGreatDoor

namespace Go.Proofs.YthjdeoppajlcoaaGreatDoor
set_option linter.unusedVariables false
open Go.RowKit (wrap64 intOf Below)
theorem eG.len{w:World}{B:Nat}{e:TypeId}{a:Option Addr}{n c:Nat}{l:List UInt8}(h:eG w B e (.slice a n c) l):l.length=n:=h.read.1
theorem kH{w u w':World}(h1:Below w.heap.size w u)(h2:Below u.heap.size u w'):Below w.heap.size w w':=h1.trans (h2.mono h1.size)
end Go.Proofs.YthjdeoppajlcoaaGreatDoor

namespace Go.Proofs.YthjdeoppajlcoaaGreatDoor
set_option linter.unusedVariables false
open Go.RowKit (wrap64 intOf Below Hid)
open Go.Lib (hid)
theorem wpList_append_text{P:Program}(w:World){ops:Array Oper}{rest:List Oper}{o:Oper}{a:Act}{Q:Exit→Act→World→Prop}(hgd:o.guard=none)(sl x:Operand)(t u:TypeId)
 (ho:o.op=.call {callee:=.builtin .append,args:=#[sl,x],argTypes:=#[t,u]})(e:TypeId)(ht:P.underlying t=some (.slice e))(hu:P.underlying u=some .string)
 (hinfo:(P.info? e).map (fun i=>(i.zero,i.size,i.bytes))=some (some (.int .u8 0),1,1))
 (B:Nat)(v:Value)(l:List UInt8)(hs:a.eval sl=v)(hown:eG w B e v l)(hB:B≤w.heap.size)(s:ByteArray)(hx:a.eval x=.string s)
 (hlen:l.length+s.size≤140737488355328)
 (h:∀ va vn vc w',eG w' B e (.slice va vn vc) (l++s.data.toList)→Below B w w'→wpList P ops Q rest (a.put o.dst (.slice va vn vc)) w'):wpList P ops Q (o::rest) a w:=by
 obtain⟨i0,hi,hz0,hz1,hz2⟩:=info_parts hinfo
 refine Lib.wpList_append_own_string w hgd sl x t u ho B e i0 ht hu hi hz0 hz1 hz2 v l.length (l.map ko) hs hown s hx (by unfold maxLen;omega) hlen hB ?_
 intro v' w' hown' hgrow _
 have hown2:eG w' B e v' (l++s.data.toList):=by
  show w'.ownsRow B e 1 v' (l++s.data.toList).length ((l++s.data.toList).map ko)
  rw[List.map_append,List.length_append,nG]
  exact hown'
 obtain⟨va,vn,vc,rfl,_⟩:=hown2.at
 exact h va vn vc w' hown2 (Below.grown (Below.refl B w) hgrow hB (fun k hk=>(hown.lt k hk).1))
def putT(s:ByteArray):List UInt8:=dU (s.size:Int)++s.data.toList
theorem FU(a:Option Addr)(n c:Nat)(L:List UInt8)(s:ByteArray)(w:World)(hat:BytesAt w a n c L)(hn:n+(10+s.size)≤140737488355328):
 Calls Tryz.prog 191 #[.slice a n c,.string s] w (jU w.heap.size (L++putT s) w):=by
 have C1:∀ w,BytesAt w a n c L→Calls Tryz.prog 193 #[.slice a n c,.int .i64 (10+(s.size:Int))] w (jU w.heap.size L w):=fun w h=>wh a n c L (10+s.size) w h hn
 have C1:=hid C1
 have HA:=hid hat
 have hl:=hat.1
 have HL:Hid (L.length+10≤140737488355328):=hid (by rw[hl];omega)
 have HL2:Hid ((L++dU (s.size:Int)).length+s.size≤140737488355328):=hid (by rw[List.length_append,hl];have:=dn (s.size:Int);omega)
 clear hat hl
 go_enter Tryz.func191,Tryz.ntmps191
 go_wp2_with fail
 refine(C1.out _ HA.out).mono ?_
 rintro e w1 ⟨va,vn,vc,rfl,hown1,hb1⟩
 have HB1:=hid hb1
 have HO1:=hid hown1
 clear hb1 hown1
 go_wp2_with fail
 refine(vJ w.heap.size _ L (s.size:Int) _ HO1.out HB1.out.size HL.out (by omega) (by omega)).mono ?_
 rintro e w2 ⟨va2,vn2,vc2,rfl,hown2,hb2⟩
 have HB2:=hid (HB1.out.trans hb2)
 have HO2:=hid hown2
 clear hb2 hown2
 go_wp2_with(at_builtin;refine wpList_append_text _ rfl _ _ 53 9 rfl 5 Tryz.underlying53 Tryz.underlying9 mJ w.heap.size _ _ rfl HO2.out HB2.out.size s rfl HL2.out ?_;intro va3 vn3 vc3 w3 hown3 hb3)
 rw[List.append_assoc]at hown3
 go_ret
 exact⟨va3,vn3,vc3,rfl,hown3,HB2.out.trans hb3⟩
end Go.Proofs.YthjdeoppajlcoaaGreatDoor
