/- Layer 7: the state of the walk that tells blocks as they are left: which were met, and the way, in memory of its own, beside a consumer; its steps. -/
import Derived.Test.YthjdeoppajlcoaaGreatDoorYT0
import Derived.WalkSmall
namespace Go.Proofs.YthjdeoppajlcoaaGreatDoor
set_option linter.unusedSimpArgs false
set_option linter.unusedVariables false
open Go.RowKit
theorem dS.step{B:Nat}{t:TypeId}{W W':World}{row:Option Nat}(hg:W.grownBy W' row)(hl:oQ B t W)(hr:∀ r,row=some r→¬ dS B t W r):(∀i,dS B t W' i↔dS B t W i)∧oQ B t W':=by
 have hB:B<W.heap.size:=hl.lt (.inl rfl)
 have h1:W'.heap[B]? =W.heap[B]? :=hg.block B hB (fun e=>hr B e.symm (.inl rfl))
 have h2:=fun i=>dS.congr (t:=t) h1 i
 refine⟨h2,fun i hi=> ?_⟩
 have hi':=(h2 i).1 hi
 obtain⟨o,ho,hc⟩:=hl i hi'
 exact⟨o,(hg.block i (hl.lt hi') (fun e=>hr i e.symm hi')).trans ho,hc⟩
theorem dS.new{B:Nat}{t:TypeId}{W:World}(hl:oQ B t W){k:Nat}(hk:W.heap.size≤k):¬ dS B t W k:=fun h=>by have:=hl.lt h;omega
def eu(N:Nat)(met:List Int):List Value:=(List.range N).map fun(i:Nat)=>Value.bool (decide ((i:Int)∈met))
theorem lN{N:Nat}{met:List Int}{j:Nat}(hj:j<N):(eu N met)[j]? =some (.bool (decide ((j:Int)∈met))):=by simp[eu,hj]
theorem kV{N:Nat}{met:List Int}{j:Nat}(hj:j<N):(eu N met).set j (.bool true)=eu N (met++ [(j:Int)]):=by
 apply List.ext_getElem
 ·simp[eu]
 ·intro i h1 h2
  simp only[eu,List.getElem_set,List.getElem_map,List.getElem_range,List.mem_append,List.mem_singleton]
  by_cases e:j=i
  ·subst e;simp
  ·have:¬ (i:Int)=(j:Int):=by omega
   simp[e,this]
theorem oK(N:Nat):(madeCells #[Value.bool false] N).toList=eu N []:=by
 apply List.ext_getElem
 ·simp[eu,madeCells]
 ·intro i h1 h2
  simp[eu,madeCells,Nat.mod_one]
structure bA(w0:World)(X:Nat→Prop)(B:Nat)(t:TypeId)(n0 bm bw q N:Nat)(W:World)(vw:Value)(met way:List Int):Prop where
 lies:oQ B t W
 boxM:Boxed W bm 111 (.slice (some ⟨q,0,none⟩) N N)
 boxW:Boxed W bw 40 vw
 rowM:W.ownsRow n0 4 1 (.slice (some ⟨q,0,none⟩) N N) N (eu N met)
 rowW:aj W n0 3 vw way
 geM:n0≤bm
 geW:n0≤bw
 freeM:¬ dS B t W bm
 freeW:¬ dS B t W bw
 freeQ:¬ dS B t W q
 freeV:∀ i,vw.ownBlock=some i→¬ dS B t W i
 came:∀ i,X i→i<n0∧¬ dS B t W i∧W.heap[i]? =w0.heap[i]? ∧i<W.heap.size
section
variable {w0 : World} {X : Nat → Prop} {B : Nat} {t : TypeId} {n0 bm bw q N : Nat} {W W' : World} {vw : Value} {met way : List Int}
theorem jP{w0 W W':World}{X:Nat→Prop}{B n0:Nat}{t:TypeId}(h:∀ i,X i→i<n0∧¬ dS B t W i∧W.heap[i]? =w0.heap[i]? ∧i<W.heap.size){row:Option Nat}(hg:W.grownBy W' row)(ho:∀ i,dS B t W' i↔dS B t W i)(hr:∀ r,row=some r→¬ X r):∀ i,X i→i<n0∧¬ dS B t W' i∧W'.heap[i]? =w0.heap[i]? ∧i<W'.heap.size:=by
 intro i hi
 obtain⟨h1,h2,h3,h4⟩:=h i hi
 exact⟨h1,fun e=>h2 ((ho i).1 e),(hg.block i h4 (fun e=>hr i e.symm hi)).trans h3,Nat.lt_of_lt_of_le h4 hg.size⟩
theorem gY(h:W.ownsRow n0 4 1 (.slice (some ⟨q,0,none⟩) N N) N (eu N met)):∃ cur,W.heap[q]? =some (.cells cur 4 (0,0))∧n0≤q:=by
 rcases h.2 with⟨e,_⟩|⟨g,cap,cur,e,hb,hh,_⟩
 ·cases e
 ·cases e;exact⟨cur,hh,hb⟩
theorem eT{n0:Nat}{e:TypeId}{way:List Int}(h:aj W n0 e vw way){i:Nat}(hi:vw.ownBlock=some i):∃ cur,W.heap[i]? =some (.cells cur e (0,0))∧n0≤i:=by
 rcases h.2 with⟨e,_⟩|⟨g,cap,cur,e,hb,hh,_⟩
 ·subst e;cases hi
 ·subst e;cases hi;exact⟨cur,hh,hb⟩
theorem bA.qm(h:bA w0 X B t n0 bm bw q N W vw met way):q≠bm:=fun e=>by
 obtain⟨cur,hc,_⟩:=gY h.rowM
 have:=h.boxM
 unfold Boxed at this
 rw[←e,hc]at this
 simp at this
theorem bA.qw(h:bA w0 X B t n0 bm bw q N W vw met way):q≠bw:=fun e=>by
 obtain⟨cur,hc,_⟩:=gY h.rowM
 have:=h.boxW
 unfold Boxed at this
 rw[←e,hc]at this
 simp at this
theorem bA.mw(h:bA w0 X B t n0 bm bw q N W vw met way):bm≠bw:=fun e=>by
 have h1:=h.boxM
 have h2:=h.boxW
 unfold Boxed at h1 h2
 rw[e,h2]at h1
 simp at h1
theorem bA.vm(h:bA w0 X B t n0 bm bw q N W vw met way):vw.ownBlock≠some bm:=fun e=>by
 obtain⟨cur,hc,_⟩:=eT h.rowW e
 have h2:=h.boxM
 unfold Boxed at h2
 rw[hc]at h2
 simp at h2
theorem bA.vw'(h:bA w0 X B t n0 bm bw q N W vw met way):vw.ownBlock≠some bw:=fun e=>by
 obtain⟨cur,hc,_⟩:=eT h.rowW e
 have h2:=h.boxW
 unfold Boxed at h2
 rw[hc]at h2
 simp at h2
theorem bA.vq(h:bA w0 X B t n0 bm bw q N W vw met way):vw.ownBlock≠some q:=fun e=>by
 obtain⟨cur,hc,_⟩:=eT h.rowW e
 obtain⟨cur',hc',_⟩:=gY h.rowM
 rw[hc]at hc'
 simp at hc'
theorem p8{v:Value}{row:Option Nat}(h:∀ r,row=some r→v.ownBlock≠some r):v.ownBlock=none∨v.ownBlock≠row:=by
 cases hv:v.ownBlock with
 |none=>exact .inl rfl
 |some i=>exact .inr fun e=>h i e.symm hv
theorem bA.kept(h:bA w0 X B t n0 bm bw q N W vw met way){row:Option Nat}(hg:W.grownBy W' row)(hr:∀ r,row=some r→¬ dS B t W r∧r≠bm∧r≠bw∧r≠q∧vw.ownBlock≠some r∧¬ X r):bA w0 X B t n0 bm bw q N W' vw met way:=by
 obtain⟨h1,h2⟩:=dS.step hg h.lies (fun r e=>(hr r e).1)
 exact⟨h2,h.boxM.kept hg (fun e=>(hr bm e.symm).2.1 rfl),h.boxW.kept hg (fun e=>(hr bw e.symm).2.2.1 rfl),
  World.ownsRow.kept h.rowM hg (.inr fun e=>(hr q e.symm).2.2.2.1 rfl),
  World.ownsRow.kept h.rowW hg (p8 fun r e hv=>(hr r e).2.2.2.2.1 hv),
  h.geM,h.geW,fun e=>h.freeM ((h1 _).1 e),fun e=>h.freeW ((h1 _).1 e),fun e=>h.freeQ ((h1 _).1 e),fun i hi e=>h.freeV i hi ((h1 _).1 e),jP h.came hg h1 (fun r e=>(hr r e).2.2.2.2.2)⟩
theorem bA.alloc(h:bA w0 X B t n0 bm bw q N W vw met way)(o:Obj):bA w0 X B t n0 bm bw q N (W.alloc o) vw met way:=h.kept (World.grownBy_alloc W o none) (fun r e=>by cases e)
theorem bA.meet(h:bA w0 X B t n0 bm bw q N W vw met way){j:Nat}(hj:j<N):bA w0 X B t n0 bm bw q N (W.setCell ⟨q,j,none⟩ (.bool true)) vw (met++ [(j:Int)]) way∧W.grownBy (W.setCell ⟨q,j,none⟩ (.bool true)) (some q):=by
 obtain⟨hr,hg⟩:=World.ownsRow.stored h.rowM j (.bool true)
 rw[kV hj]at hr
 obtain⟨h1,h2⟩:=dS.step hg h.lies (fun r e=>by cases e;exact h.freeQ)
 exact⟨⟨h2,h.boxM.kept hg (fun e=>by cases e;exact h.qm rfl),h.boxW.kept hg (fun e=>by cases e;exact h.qw rfl),hr,World.ownsRow.kept h.rowW hg (p8 fun r e hv=>by cases e;exact h.vq hv),
  h.geM,h.geW,fun e=>h.freeM ((h1 _).1 e),fun e=>h.freeW ((h1 _).1 e),fun e=>h.freeQ ((h1 _).1 e),fun i hi e=>h.freeV i hi ((h1 _).1 e),jP h.came hg h1 (fun r e hx=>by cases e;obtain⟨_,_,hq⟩:=gY h.rowM;have:=(h.came _ hx).1;omega)⟩,hg⟩
theorem bA.turn(h:bA w0 X B t n0 bm bw q N W vw met way){v':Value}{way':List Int}(ho:aj W n0 3 v' way')(hv:∀ i,v'.ownBlock=some i→¬ dS B t W i):bA w0 X B t n0 bm bw q N (W.setCell ⟨bw,0,none⟩ v') v' met way':=by
 have hg:=grownBy_setCell' W bw v'
 obtain⟨h1,h2⟩:=dS.step hg h.lies (fun r e=>by cases e;exact h.freeW)
 have hvb:v'.ownBlock≠some bw:=fun e=>by
  obtain⟨cur,hc,_⟩:=eT ho e
  have h2:=h.boxW
  unfold Boxed at h2
  rw[hc]at h2
  simp at h2
 exact⟨h2,h.boxM.kept hg (fun e=>by cases e;exact h.mw rfl),h.boxW.set v',World.ownsRow.kept h.rowM hg (.inr fun e=>by cases e;exact h.qw rfl),World.ownsRow.kept ho hg (p8 fun r e hv=>by cases e;exact hvb hv),
  h.geM,h.geW,fun e=>h.freeM ((h1 _).1 e),fun e=>h.freeW ((h1 _).1 e),fun e=>h.freeQ ((h1 _).1 e),fun i hi e=>hv i hi ((h1 _).1 e),jP h.came hg h1 (fun r e hx=>by cases e;have:=(h.came _ hx).1;have:=h.geW;omega)⟩
theorem bA.push(h:bA w0 X B t n0 bm bw q N W vw met way){C:Array Value}{et:TypeId}{w1:World}{v':Value}{z:Int}(hg:(W.alloc (.cells C et)).grownBy w1 vw.ownBlock)(ho:aj w1 n0 3 v' (way++ [z]))
 (hwh:∀ i,v'.ownBlock=some i→vw.ownBlock=some i∨W.heap.size≤i):
 Boxed w1 bw 40 vw∧bA w0 X B t n0 bm bw q N (w1.setCell ⟨bw,0,none⟩ v') v' met (way++ [z])∧(∀(β:Type) (J:β→World→Prop) (s:β),cZ n0 B t J→J s W→J s (w1.setCell ⟨bw,0,none⟩ v')):=by
 have hU:=h.alloc (.cells C et)
 have hge:∀ i,vw.ownBlock=some i→n0≤i:=fun i hi=>by obtain⟨_,_,h'⟩:=eT h.rowW hi;exact h'
 obtain⟨h1,h2⟩:=dS.step hg hU.lies (fun r e=>hU.freeV r e)
 have hbW:Boxed w1 bw 40 vw:=hU.boxW.kept hg (fun e=>hU.vw' e.symm)
 have hbM:Boxed w1 bm 111 (.slice (some ⟨q,0,none⟩) N N):=hU.boxM.kept hg (fun e=>hU.vm e.symm)
 have hrM:=World.ownsRow.kept hU.rowM hg (.inr fun e=>hU.vq e.symm)
 have hg2:=grownBy_setCell' w1 bw v'
 have hfW1:¬ dS B t w1 bw:=fun e=>hU.freeW ((h1 _).1 e)
 obtain⟨k1,k2⟩:=dS.step hg2 h2 (fun r e=>by cases e;exact hfW1)
 have hvb:v'.ownBlock≠some bw:=fun e=>by
  obtain⟨cur,hc,_⟩:=eT ho e
  have h2:=hbW
  unfold Boxed at h2
  rw[hc]at h2
  simp at h2
 have hfv:∀ i,v'.ownBlock=some i→¬ dS B t w1 i:=fun i hi e=>by
  have e':=(h1 _).1 e
  rcases hwh i hi with hx|hx
  ·exact hU.freeV i hx e'
  ·have:=(dS.step (World.grownBy_alloc W (.cells C et) none) h.lies (fun r e=>by cases e)).1 i
   exact dS.new h.lies hx (this.1 e')
 refine⟨hbW,⟨k2,hbM.kept hg2 (fun e=>by cases e;exact h.mw rfl),hbW.set v',World.ownsRow.kept hrM hg2 (.inr fun e=>by cases e;exact h.qw rfl),World.ownsRow.kept ho hg2 (p8 fun r e hv=>by cases e;exact hvb hv),
  h.geM,h.geW,fun e=>hU.freeM ((h1 _).1 ((k1 _).1 e)),fun e=>hU.freeW ((h1 _).1 ((k1 _).1 e)),fun e=>hU.freeQ ((h1 _).1 ((k1 _).1 e)),fun i hi e=>hfv i hi ((k1 _).1 e),jP (jP hU.came hg h1 (fun r e hx=>by have:=(h.came _ hx).1;have:=hge r e;omega)) hg2 k1 (fun r e hx=>by cases e;have:=(h.came _ hx).1;have:=h.geW;omega)⟩,fun β J s hJ hs=> ?_⟩
 exact hJ.setCell _ (hJ s _ _ _ (hJ.alloc _ hs) hg (fun r e=>⟨hge r e,hU.freeV r e⟩)) h.geW hfW1
theorem bA.since(h:bA w0 X B t n0 bm bw q N W vw met way)(hk:ou B t W W')(hl:oQ B t W'):bA w0 X B t n0 bm bw q N W' vw met way:=by
 have hqlt:q<W.heap.size:=by obtain⟨cur,hc,_⟩:=gY h.rowM;exact(Array.getElem?_eq_some_iff.1 hc).1
 have hvlt:∀ i,vw.ownBlock=some i→i<W.heap.size:=fun i hi=>by obtain⟨cur,hc,_⟩:=eT h.rowW hi;exact(Array.getElem?_eq_some_iff.1 hc).1
 have row:∀ {e:TypeId} {v:Value} {k:Nat} {xs:List Value},W.ownsRow n0 e 1 v k xs→(∀i,v.ownBlock=some i→¬ dS B t W i)→W'.ownsRow n0 e 1 v k xs:=by
  intro e v k xs ho hv
  refine⟨ho.1, ?_⟩
  rcases ho.2 with h'|⟨g,cap,cur,rfl,hg,hh,rest⟩
  ·exact .inl h'
  ·exact .inr ⟨g,cap,cur,rfl,hg,(hk.same g (Array.getElem?_eq_some_iff.1 hh).1 (hv g rfl)).trans hh,rest⟩
 exact⟨hl,(hk.same bm h.boxM.lt h.freeM).trans h.boxM,(hk.same bw h.boxW.lt h.freeW).trans h.boxW,row h.rowM (fun i hi=>by cases hi;exact h.freeQ),row h.rowW h.freeV,
  h.geM,h.geW,fun e=>h.freeM (hk.new _ e h.boxM.lt),fun e=>h.freeW (hk.new _ e h.boxW.lt),fun e=>h.freeQ (hk.new _ e hqlt),fun i hi e=>h.freeV i hi (hk.new _ e (hvlt i hi)),fun i hi=>by obtain⟨c1,c2,c3,c4⟩:=h.came i hi;exact⟨c1,fun e=>c2 (hk.new _ e c4),(hk.same i c4 c2).trans c3,Nat.lt_of_lt_of_le c4 hk.size⟩⟩
def Marks(n0:Nat)(W:World)(Ds:List Nat):Prop:=Ds.Nodup∧∀ D∈Ds,W.heap[D]? =some (.deferred (some []))∧n0≤D
def Hq(D:Nat):Deferred:={target:=.collected D,args:=#[]}
theorem Marks.kept{n0:Nat}{W W':World}{Ds:List Nat}{row:Option Nat}(h:Marks n0 W Ds)(hg:W.grownBy W' row)(hr:∀ r,row=some r→r∉Ds):Marks n0 W' Ds:=
 ⟨h.1,fun D hD=>by
  obtain⟨h1,h2⟩:=h.2 D hD
  exact⟨(hg.block D (Array.getElem?_eq_some_iff.1 h1).1 (fun e=>hr D e.symm hD)).trans h1,h2⟩⟩
theorem Marks.cells{n0:Nat}{W:World}{Ds:List Nat}(h:Marks n0 W Ds){i:Nat}{o:Obj}(hi:W.heap[i]? =some o)(ho:o.isCells=true):i∉Ds:=fun hm=>by
 rw[(h.2 i hm).1]at hi;cases hi;cases ho
theorem Marks.since{B n0:Nat}{t:TypeId}{W W':World}{Ds:List Nat}(h:Marks n0 W Ds)(hk:ou B t W W')(hl:oQ B t W):Marks n0 W' Ds:=
 ⟨h.1,fun D hD=>by
  obtain⟨h1,h2⟩:=h.2 D hD
  exact⟨(hk.same D (Array.getElem?_eq_some_iff.1 h1).1 (hl.not h1 rfl)).trans h1,h2⟩⟩
theorem Marks.lt{n0:Nat}{W:World}{Ds:List Nat}(h:Marks n0 W Ds){D:Nat}(hD:D∈Ds):D<W.heap.size:=(Array.getElem?_eq_some_iff.1 (h.2 D hD).1).1
theorem bA.push_rest(h:bA w0 X B t n0 bm bw q N W vw met way){Ds:List Nat}(hm:Marks n0 W Ds){C:Array Value}{et:TypeId}{w1:World}(hg:(W.alloc (.cells C et)).grownBy w1 vw.ownBlock)(v':Value):
 Marks n0 (w1.setCell ⟨bw,0,none⟩ v') Ds∧KeepsOthers W (w1.setCell ⟨bw,0,none⟩ v'):=by
 have hU:=h.alloc (.cells C et)
 have hmU:Marks n0 (W.alloc (.cells C et)) Ds:=hm.kept (World.grownBy_alloc W _ none) (fun r e=>by cases e)
 have hbW:Boxed w1 bw 40 vw:=hU.boxW.kept hg (fun e=>hU.vw' e.symm)
 have hm1:Marks n0 w1 Ds:=hmU.kept hg (fun r e=>by obtain⟨cur,hc,_⟩:=eT hU.rowW e;exact hmU.cells hc rfl)
 refine⟨hm1.kept (grownBy_setCell' w1 bw v') (fun r e=>by cases e;exact hm1.cells hbW rfl),((KeepsOthers.alloc W _).trans (KeepsOthers.of_grownBy hg fun j o ej hj=> ?_)).trans (KeepsOthers.setCell _ _ _)⟩
 obtain⟨cur,hc,_⟩:=eT hU.rowW ej
 rw[hc]at hj;cases hj;rfl
theorem bA.meet_rest(h:bA w0 X B t n0 bm bw q N W vw met way){Ds:List Nat}(hm:Marks n0 W Ds){j:Nat}(hj:j<N):Marks n0 (W.setCell ⟨q,j,none⟩ (.bool true)) Ds:=
 hm.kept (h.meet hj).2 (fun r e=>by cases e;obtain⟨cur,hc,_⟩:=gY h.rowM;exact hm.cells hc rfl)
theorem oL{F:Fence}{n:Nat}{P:Program}{fn:Func}{tmps:Array Value}{R:Ending→World→Prop}{n0 B:Nat}{t:TypeId}{β:Type}{J:β→World→Prop}{s:β}(hJ:cZ n0 B t J)
 (hR:∀ W,J s W→LeavesIn F n P fn tmps R [] .returning W):∀ (Ds:List Nat) (W:World),oQ B t W→Marks n0 W Ds→J s W→LeavesInM F n P fn tmps R (Ds.map Hq) .returning W
 | [],W,_,_,hs=>hR W hs
 |D::Ds,W,hl,hm,hs=>by
  obtain⟨h1,h2⟩:=hm.2 D (by simp)
  have hnd:=List.nodup_cons.1 hm.1
  have hfree:=hl.not h1 rfl
  refine⟨by simp,.inl ⟨D,W.putObj D (.deferred none),rfl,run_takeDeferred h1, ?_⟩⟩
  refine oL hJ hR Ds _ (dS.step (grownBy_putObj' W D _) hl (fun r e=>by cases e;exact hfree)).2 ?_ (hJ.putObj _ hs h2 hfree)
  exact Marks.kept ⟨hnd.2,fun D' h'=>hm.2 D' (List.mem_cons_of_mem _ h')⟩ (grownBy_putObj' W D _) (fun r e=>by cases e;exact hnd.1)
end
end Go.Proofs.YthjdeoppajlcoaaGreatDoor
