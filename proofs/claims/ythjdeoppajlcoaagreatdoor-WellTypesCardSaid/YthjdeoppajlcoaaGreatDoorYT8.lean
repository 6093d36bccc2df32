/- Layer 5: what is given up by panic comes back as an error (code.through): with a writer. -/
import Derived.Test.YthjdeoppajlcoaaGreatDoorYCodeWp
import Derived.Test.YthjdeoppajlcoaaGreatDoorYT6
import Derived.Defers
import Derived.Recover
namespace Go.Proofs.YthjdeoppajlcoaaGreatDoor
set_option linter.unusedSimpArgs false
set_option linter.unusedVariables false
open Go.RowKit (wrap64 intOf Below Hid)
open Go.Lib (hid)
theorem vZ(er:Int)(w:World):(Instr.typeAssert (.iface 30 (.int .i64 er)) 20 30 false).run Tryz.prog w=.ok (.int .i64 er) w:=by kernel_rfl
theorem yh(p:Addr)(z er:Int)(w:World)(hc:w.cell? p=some (.int .i64 z))(hz:w.frozen? p=false):
 CallsD Tryz.prog 76 #[.pointer (some p)] (.panicking [{v:=.iface 30 (.int .i64 er),recovered:=false}]) w fun e u' w'=>
  e=.returned (.tuple #[])∧u'=.panicking [{v:=.iface 30 (.int .i64 er),recovered:=true}]∧w'=w.setCell p (.int .i64 er):=by
 refine callsD_of_wpS Tryz.func76 rfl fun c₀ cs hu=> ?_
 apply wpS_seq
 apply wpS_region
 simp[wpOpsS,go_sem,recoverD,hu,Tryz.ntmps76,Exit.thenS]
 apply wpS_seq
 apply wpS_region
 simp[wpOpsS,go_sem,Exit.thenS]
 refine wpS_cond (t:=true) (by simp[Act.eval,Array.replicate]) ?_
 simp only[if_true]
 apply wpS_region
 simp[wpOpsS,go_sem,vZ,hc,hz,bodyPostS,results,Tryz.results76]
theorem BV(p:Addr)(w:World):
 CallsD Tryz.prog 76 #[.pointer (some p)] .returning w fun e u' w'=>e=.returned (.tuple #[])∧u'=.returning∧w'=w:=by
 refine callsD_of_wpS Tryz.func76 rfl fun c₀ cs hu=> ?_
 apply wpS_seq
 apply wpS_region
 simp[wpOpsS,go_sem,recoverD,hu,Tryz.ntmps76,Exit.thenS]
 apply wpS_seq
 apply wpS_region
 simp[wpOpsS,go_sem,Exit.thenS]
 refine wpS_cond (t:=false) (by simp[Act.eval,Array.replicate]) ?_
 simp only[Bool.false_eq_true,if_false]
 refine wpS_of_wp (wp_skip ?_)
 cases c₀
 simp_all[bodyPostS,results,Tryz.results76]
def E8(x B:Nat)(v:Value)(L:List UInt8)(o:Out)(w:World)(e:Ending)(w':World):Prop:=
 (∃l v',o=.ok l∧e=.returned (.int .i64 0)∧cu w' x B v' (L++l)∧Off (WX x v) w w')∨(∃er,o=.no er∧e=.returned (.int .i64 er)∧Off (WX x v) w w')
set_option maxRecDepth 100000 in
set_option maxHeartbeats 2000000 in
theorem Am(x B g off:Nat)(v:Value)(L:List UInt8)(S:Nat→Prop)(cs:List Value)(y:aB)(w:World)(h:cu w x B v L)(hl:L.length+220000000≤140737488355328)(hw:dm w g off cs)(hq:yw w S cs y)(hg:g<B∧g≠x)(hS:∀ b,S b→b<B∧b≠x)(hft:FT w)(hfb:0<B∧0≠x):
 Calls Tryz.prog 45 #[.iface 84 (.pointer (some ⟨x,0,none⟩)),.pointer (some ⟨g,off,none⟩)] w (E8 x B v L (cK y) w):=by
 have hmf:∀ (fn:Fn) (first cap:Array Value) (w:World),(Instr.makeFunc fn first cap).run Tryz.prog w=.ok (.func fn first cap) w:=fun _ _ _ _=>rfl
 have hb1:Below w.heap.size w (w.alloc (.cells #[.int .i64 0] 30)):=(Below.refl _ _).alloc (Nat.le_refl _) _
 have HB:=hid hb1
 have HN0:∀ b,S b→¬ WX x v b:=fun b hb=>h.safe (hS b hb)
 have HN1:=h.safe hg
 have HW:=hid (h.since hb1)
 have HWN:=hid (hw.stays (X:=WX x v) (Off.since hb1) HN1)
 have HQ:=hid (yw.holds.off hq (X:=WX x v) (Off.since hb1) HN0)
 have HF:=hid (hft.since hb1)
 have HG:=hid hg
 have HS:=hid hS
 have HFB:=hid hfb
 have hne:¬ WX x v w.heap.size:=fun hx=>by
  rcases hx with hx|hx
  ·have:=h.lt;omega
  ·have:=(h.own hx).2;omega
 have hx:=h.lt
 have HNE:=hid hne
 have hnew:=heap_alloc_new w (.cells #[.int .i64 0] 30)
 have HNW:=hid hnew
 have HXW:=hid h
 clear h hw hq hg hS hft hfb hb1 HN0 HN1 hne hnew
 go_enter_defers Tryz.func45,Tryz.ntmps45
 go_wp2_with fail
 refine(wk_prog x B g off v L S cs y _ HW.out hl HWN.out HQ.out HG.out HS.out HF.out HFB.out).mono ?_
 rintro e u2 (⟨l,v2,ho,rfl,hW,hO,hN⟩|⟨er,ho,rfl,hO⟩)
 ·have hblk:u2.heap[w.heap.size]? =some (.cells #[.int .i64 0] 30 (0,0)):=(hO.block w.heap.size (by simp) HNE.out).trans HNW.out
  have hcell:u2.cell? ⟨w.heap.size,0,none⟩=some (.int .i64 0):=by simp[World.cell?,hblk]
  have hfree:u2.frozen? ⟨w.heap.size,0,none⟩=false:=by simp[World.frozen?,hblk]
  have HC:=hid hcell
  have HR:Hid (E8 x B v L (cK y) w (.returned (.int .i64 0)) u2):=hid (.inl ⟨l,v2,ho,rfl,hW,(Off.alloc (Off.refl _ _) _).trans hO⟩)
  clear hblk ho hW hO hN
  go_wp2_with fail
  rw[aP HC.out]
  refine leaves_cons (f:=76) (args:=#[.pointer (some ⟨w.heap.size,0,none⟩)]) (by simp) (by simp[go_sem]) ?_
  refine(BV ⟨w.heap.size,0,none⟩ _).mono ?_
  rintro e u' w'' ⟨rfl,rfl,rfl⟩
  simp[Leaves,settle,results,Tryz.results45,go_sem,hcell]
  exact HR.out
 ·have hblk:u2.heap[w.heap.size]? =some (.cells #[.int .i64 0] 30 (0,0)):=(hO.block w.heap.size (by simp) HNE.out).trans HNW.out
  have hcell:u2.cell? ⟨w.heap.size,0,none⟩=some (.int .i64 0):=by simp[World.cell?,hblk]
  have hfree:u2.frozen? ⟨w.heap.size,0,none⟩=false:=by simp[World.frozen?,hblk]
  have HR:Hid (E8 x B v L (cK y) w (.returned (.int .i64 er)) (u2.setCell ⟨w.heap.size,0,none⟩ (.int .i64 er))):=hid (.inr ⟨er,ho,rfl,((Off.alloc (Off.refl _ _) _).trans hO).setCell (.inr (Nat.le_refl _)) _⟩)
  clear hblk ho hO
  go_wp2_with fail
  refine leaves_cons (f:=76) (args:=#[.pointer (some ⟨w.heap.size,0,none⟩)]) (by simp) (by simp[go_sem]) ?_
  refine(yh ⟨w.heap.size,0,none⟩ 0 er _ hcell hfree).mono ?_
  rintro e u' w'' ⟨rfl,rfl,rfl⟩
  simp[Leaves,settle,results,Tryz.results45,go_sem,hcell]
  exact HR.out
def fF(o:Out):Out:=match o with| .no e=>.no e| .ok l=>if 65536<l.length then .no 2 else .ok l
def EncPost(o:Out)(w:World)(e:Ending)(w':World):Prop:=
 (∃l va vn vc,o=.ok l∧e=.returned (.tuple #[.slice va vn vc,.int .i64 0])∧eG w' w.heap.size 5 (.slice va vn vc) l∧Below w.heap.size w w')∨(∃er,o=.no er∧e=.returned (.tuple #[.slice none 0 0,.int .i64 er])∧Below w.heap.size w w')
theorem BL(w:World):Calls Tryz.prog 20 #[.pointer none] w fun e w'=>e=.returned (.tuple #[.slice none 0 0,.int .i64 1])∧w=w':=by
 go_enter Tryz.func20,Tryz.ntmps20
 go_wp2
 go_ret2
 exact⟨rfl,rfl⟩
theorem zl(o:Out):(∃l,o=.ok l)∨∃ er,o=.no er:=by cases o<;>simp
theorem qC{α:Type}{f:α→Out}(hf:∀ x e,f x=.no e→e=2∨e=4):∀ xs:List α,∀e,bT f xs=.no e→e=2∨e=4
 | [],e,h=>by cases h
 |x::xs,e,h=>by
  simp only[bT]at h
  rcases zl (f x)with⟨l,h1⟩|⟨er,h1⟩
  ·rw[h1]at h
   rcases zl (bT f xs)with⟨m,h2⟩|⟨er,h2⟩
   ·rw[h2]at h;cases h
   ·rw[h2]at h;cases h;exact qC hf xs _ h2
  ·rw[h1,Out.no_and]at h;cases h;exact hf x _ h1
theorem bZ{a b:Out}(ha:∀ e,a=.no e→e=2∨e=4)(hb:∀ e,b=.no e→e=2∨e=4):∀ e,a.and b=.no e→e=2∨e=4:=by
 intro e h
 cases a with
 |no x=>rw[Out.no_and]at h;exact ha e h
 |ok l=>cases b with
  |no x=>cases h;exact hb _ rfl
  |ok m=>cases h
theorem gD(z:Int):∀ e,kI z=.no e→e=2∨e=4:=fun e h=>by cases h
theorem tJ(b:Bool)(c:Int)(hc:c=2∨c=4):∀ e,chk b c=.no e→e=2∨e=4:=fun e h=>by
 unfold chk at h
 split at h
 ·cases h
 ·cases h;exact hc
theorem jO{α:Type}{f:α→Out}(most:Nat)(hf:∀ x e,f x=.no e→e=2∨e=4)(xs:List α):∀ e,aH most f xs=.no e→e=2∨e=4:=
 bZ (bZ (gD _) (tJ _ _ (.inl rfl))) (qC hf xs)
theorem iC(most:Nat)(Z:List Int):∀ e,dz most Z=.no e→e=2∨e=4:=jO most (fun z=>gD z) Z
theorem rU(n b:Int):∀ e,eX n b=.no e→e=2∨e=4:=bZ (gD _) (tJ _ _ (.inr rfl))
theorem BJ(o:OpD)(f:UInt8):∀ e,dV o f=.no e→e=2∨e=4:=by
 unfold dV
 repeat' split
 all_goals first|exact gD _|exact iC _ _|exact bZ (tJ _ _ (.inl rfl)) (fun e h=>by cases h)
theorem errs_op(o:OpD):∀ e,nK o=.no e→e=2∨e=4:=bZ (rU _ _) (qC (fun f=>BJ o f) _)
theorem Gu(y:mV):∀ e,kD y=.no e→e=2∨e=4:=by
 refine bZ (rU _ _) ?_
 unfold nY
 repeat' split
 ·exact bZ (gD _) (iC _ _)
 ·exact bZ (gD _) (bZ (gD _) (bZ (iC _ _) (bZ (gD _) (iC _ _))))
 ·exact gD _
theorem BK(y:dD):∀ e,gF y=.no e→e=2∨e=4:=bZ (iC _ _) (bZ (jO _ errs_op _) (Gu _))
theorem Eu(y:ak):∀ e,j6 y=.no e→e=2∨e=4:=bZ (gD _) (jO _ BK _)
theorem Gt(y:wC):∀ e,nJ y=.no e→e=2∨e=4:=bZ (iC _ _) (gD _)
theorem Gv(y:iE):∀ e,ic y=.no e→e=2∨e=4:=bZ (iC _ _) (iC _ _)
theorem vO(y:aB):∀ e,cK y=.no e→e=2∨e=4:=bZ (jO _ Gt _) (bZ (jO _ Gv _) (jO _ Eu _))
set_option maxRecDepth 100000 in
set_option maxHeartbeats 4000000 in
theorem BM(g off:Nat)(s c f:Value)(P:aB)(w:World)(hg:g<w.heap.size)(hc0:w.cell? ⟨g,off,none⟩=some s)(hc1:w.cell? ⟨g,off+1,none⟩=some c)(hc2:w.cell? ⟨g,off+2,none⟩=some f)(h:oZ w [s,c,f] P)(hft:FT w)(hsm:wz P):
 Calls Tryz.prog 20 #[.pointer (some ⟨g,off,none⟩)] w (EncPost (fF (cK (dJ P))) w):=by
 have hb:Below w.heap.size w (w.alloc (.cells #[.slice none 0 0] 86)):=(Below.refl _ _).alloc (Nat.le_refl _) _
 have hz:(w.alloc (.cells #[.slice none 0 0] 86)).heap.size=w.heap.size+1:=by simp
 have hd0:=(hb.cell (p:=⟨g,off,none⟩) hg).trans hc0
 have hd1:=(hb.cell (p:=⟨g,off+1,none⟩) hg).trans hc1
 have hd2:=(hb.cell (p:=⟨g,off+2,none⟩) hg).trans hc2
 have HB:=hid hb
 have HQ:=hid (oZ.lasts _ _ _ _ hb h)
 have HF:=hid (hft.since hb)
 have HFL:=hid hft.lt
 have HS:=hid hsm
 have HNW:=hid (heap_alloc_new w (.cells #[.slice none 0 0] 86))
 have hg1:g<(w.alloc (.cells #[.slice none 0 0] 86)).heap.size:=by rw[hz];omega
 have HD0:=hid hd0
 have HD1:=hid hd1
 have HD2:=hid hd2
 have HG1:=hid hg1
 have HZ:=hid hz
 clear h hft hsm hb hd0 hd1 hd2 hc0 hc1 hc2 hg1 hz
 go_enter Tryz.func20,Tryz.ntmps20
 go_wp2_with fail
 refine(EI g off s c f P _ HG1.out HD0.out HD1.out HD2.out HQ.out HF.out HS.out).mono ?_
 rintro e w1 ⟨b,s',c',f',rfl,hbb,hwin,hpo,hb1⟩
 have hsz:=HZ.out
 rw[hsz]at hbb hpo hb1
 have hx1:w1.heap[w.heap.size]? =some (.cells #[.slice none 0 0] 86 (0,0)):=(hb1.block w.heap.size (by omega)).trans HNW.out
 have hlb:=hwin.lt
 have hwr:cu w1 w.heap.size w1.heap.size (.slice none 0 0) []:=⟨hx1,World.ownsRow_nil _ _ _ 1,by omega,Nat.le_refl _⟩
 have HWR:=hid hwr
 have HWI:=hid hwin
 have HPO:=hid (yw.holds.wider hpo (S':=fun k=>k<w1.heap.size∧k≠w.heap.size) (fun k hk hs=>⟨hk,by have:=hs.1;omega⟩))
 have HF1:=hid (HF.out.below hb1 (by have:=HFL.out;omega))
 have HGB:Hid (b<w1.heap.size∧b≠w.heap.size):=hid ⟨hlb,by omega⟩
 have HGF:Hid (0<w1.heap.size∧0≠w.heap.size):=hid (by have:=HFL.out;constructor<;>omega)
 have HBW:=hid (HB.out.trans (hb1.mono (Nat.le_succ _)))
 clear hsz hx1 hwr hwin hpo hb1
 go_wp2_with fail
 refine(Am w.heap.size w1.heap.size b 0 (.slice none 0 0) [] _ _ (dJ P) w1 HWR.out (by decide) HWI.out HPO.out HGB.out (fun k hk=>hk) HF1.out HGF.out).mono ?_
 rintro e w2 (⟨l,v',ho,rfl,hW,hO⟩|⟨er,ho,rfl,hO⟩)
 ·have hbel:Below w.heap.size w w2:=HBW.out.trans (hO.below (by omega) (fun i hi=>by rcases hi with rfl|hi<;>first|exact Nat.le_refl _|cases hi))
  rw[List.nil_append]at hW
  obtain⟨va,vn,vc,rfl,hat⟩:=hW.2.1.at
  have hvn:l.length=vn:=hat.1
  have hcell:=hW.cell
  have hown:eG w2 w.heap.size 5 (.slice va vn vc) l:=hW.2.1.mono (by omega)
  have hll:l.length≤200000000:=bJ.prog _ l ho
  have HOW:=hid hown
  have HBE:=hid hbel
  have HHO:=hid ho
  clear hat hW hO hown hbel ho
  by_cases hlong:65536<vn
  ·have HR:Hid (fF (cK (dJ P))=.no 2):=hid (by rw[HHO.out];simp only[fF];rw[if_pos (by omega)])
   go_wp2_with fail
   go_ret2
   exact .inr ⟨2,HR.out,rfl,HBE.out⟩
  ·have HR:Hid (fF (cK (dJ P))=.ok l):=hid (by rw[HHO.out];simp only[fF];rw[if_neg (by omega)])
   go_wp2_with fail
   go_ret2
   exact .inl ⟨l,va,vn,vc,HR.out,rfl,HOW.out,HBE.out⟩
 ·have hbel:Below w.heap.size w w2:=HBW.out.trans (hO.below (by omega) (fun i hi=>by rcases hi with rfl|hi<;>first|exact Nat.le_refl _|cases hi))
  have HBE:=hid hbel
  have HR:Hid (fF (cK (dJ P))=.no er):=hid (by rw[ho];rfl)
  have her:=vO _ _ ho
  have hne:(er !=0)=true:=by rw[bne_iff_ne];omega
  clear hO hbel ho her
  go_wp2_with fail
  go_ret2
  exact .inr ⟨er,HR.out,rfl,HBE.out⟩
end Go.Proofs.YthjdeoppajlcoaaGreatDoor

namespace Go.Proofs.YthjdeoppajlcoaaGreatDoor
set_option linter.unusedSimpArgs false
set_option linter.unusedVariables false
open Go.RowKit (wrap64 intOf Below)
def fq(p:Nat→Bool):Nat→Bool
 |0=>true
 |i+1=>fq p i&&p i
theorem tQ{p:Nat→Bool}:∀ {n:Nat},fq p n=true↔∀ i,i<n→p i=true
 |0=>⟨fun _ i h=>absurd h (by omega),fun _=>rfl⟩
 |n+1=>by
  unfold fq
  rw[Bool.and_eq_true,tQ]
  constructor
  ·rintro ⟨h1,h2⟩ i hi
   by_cases e:i<n
   ·exact h1 i e
   ·obtain rfl:i=n:=by omega
    exact h2
  ·intro h
   exact⟨fun i hi=>h i (by omega),h n (by omega)⟩
theorem bX{p:Nat→Bool}{i:Nat}(h:fq p i=true)(hp:p i=true):fq p (i+1)=true:=by unfold fq;rw[h,hp];rfl
theorem dQ{p:Nat→Bool}{n i:Nat}(h:i<n)(hp:p i=false):fq p n=false:=by
 cases hb:fq p n with
 |false=>rfl
 |true=>rw[tQ.1 hb i h]at hp;cases hp
def rC(P:aB)(o:OpD)(ts:List Int):Int×Bool:=ul P o.K o.A o.B o.C o.N o.S o.L ts
def noOp:OpD:=⟨0,0,0,0,0,ByteArray.empty,[],false⟩
def BZ(f:ak)(b:Nat):dD:=match f.blocks[b]? with|some x=>x|none=>⟨[],[],noEnd⟩
theorem zM{f:ak}{b:Nat}(h:b<f.blocks.length):BZ f b=f.blocks[b]:=by unfold BZ;rw[List.getElem?_eq_getElem h]
def nU(f:ak)(b:Nat):List Int:=(BZ f b).params
theorem iZ{f:ak}{b:Nat}(h:b<f.blocks.length):nU f b=f.blocks[b].params:=by unfold nU;rw[zM h]
def opAt(f:ak)(b k:Nat):OpD:=match(BZ f b).ops[k]? with|some o=>o|none=>noOp
theorem xL{f:ak}{b k:Nat}(h:b<f.blocks.length)(hk:k<f.blocks[b].ops.length):opAt f b k=f.blocks[b].ops[k]:=by
 unfold opAt
 have e:(BZ f b).ops[k]? =some (f.blocks[b].ops[k]):=by rw[zM h];exact List.getElem?_eq_getElem hk
 rw[e]
def dI(f:ak):Nat→List Int
 |0=>[]
 |i+1=>dI f i++(nU f i++List.replicate (qP f i) (-1))
theorem jd{f:ak}{i:Nat}(h:i<f.blocks.length):aL f (i+1)=aL f i+((nU f i).length+qP f i):=by rw[gQ h,iZ h,jC h]
theorem nH{f:ak}:∀ {i:Nat},i≤f.blocks.length→(dI f i).length=aL f i
 |0,_=>by simp[dI,mM]
 |i+1,h=>by
  unfold dI
  rw[List.length_append,List.length_append,List.length_replicate,nH (by omega),jd (by omega)]
def aW(P:aB)(f:ak)(b:Nat)(ts:List Int):Nat→List Int
 |0=>ts
 |k+1=>(aW P f b ts k).set (aL f b+(nU f b).length+k) (rC P (opAt f b k) (aW P f b ts k)).1
theorem fT(P:aB)(f:ak)(b:Nat)(ts:List Int):∀ k,(aW P f b ts k).length=ts.length
 |0=>rfl
 |k+1=>by unfold aW;rw[List.length_set,fT P f b ts k]
def aK(P:aB)(f:ak):Nat→List Int
 |0=>dI f f.blocks.length
 |i+1=>aW P f (nth (fu f) i).toNat (aK P f i) (qP f (nth (fu f) i).toNat)
theorem dM(P:aB)(f:ak):∀ i,(aK P f i).length=aV f
 |0=>nH (Nat.le_refl _)
 |i+1=>by unfold aK;rw[fT,dM P f i]
def kP(P:aB)(f:ak):List Int:=aK P f (fu f).length
theorem ru(P:aB)(f:ak):(kP P f).length=aV f:=dM P f _
theorem Al{f:ak}{z:Int}(h:z∈fu f):0≤z∧z<(f.blocks.length:Int):=by
 unfold fu eP at h
 rcases List.mem_append.1 h with h|h
 ·exact(fI f).there z h
 ·obtain⟨k,hk,rfl⟩:=List.mem_map.1 h
  have:=List.mem_range.1 (List.mem_filter.1 hk).1
  exact⟨by omega,by omega⟩
theorem Da{f:ak}{i:Nat}(h:i<(fu f).length):∃ b:Nat,nth (fu f) i=(b:Int)∧b<f.blocks.length:=by
 have h1:nth (fu f) i∈fu f:=by rw[bN h];exact List.getElem_mem h
 have h2:=Al h1
 obtain⟨b,hb⟩:=Int.eq_ofNat_of_zero_le h2.1
 exact⟨b,hb,by have:=h2.2;omega⟩
theorem vX{f:ak}{b k:Nat}(hb:b<f.blocks.length)(hk:k<qP f b):aL f b+(nU f b).length+k<aV f:=by
 have h1:=jd hb
 have h2:=je f (b+1)
 omega
structure wD(P:aB):Prop where
 cls:∀ c∈P.classes,∀z∈c.fields,InR z
 sig:∀ s∈P.sigs,InR s.ret
 fun':∀ f∈P.funcs,InR f.ret
theorem gG.mem{α:Type}{Q:World→List Value→α→Prop}{k:Nat}{W:World}{v:Value}{xs:List α}(h:gG Q k W v xs){x:α}(hx:x∈xs):∃ cs,Q W cs x:=by
 obtain⟨a,n,c,e,hl,_,_,hr⟩:=h
 obtain⟨i,hi,rfl⟩:=List.getElem_of_mem hx
 obtain⟨g,off,_,_,hcs⟩:=hr (by omega)
 obtain⟨cs,_,_,hq⟩:=hcs i hi
 exact⟨cs,hq⟩
theorem aX.r{W:World}{g:Nat}{sa:Option Addr}{sn sc:Nat}{ca:Option Addr}{cn cc:Nat}{fa:Option Addr}{fn fc:Nat}{P:aB}(h:aX W g sa sn sc ca cn cc fa fn fc P):wD P:=by
 refine⟨fun c hc z hz=> ?_,fun s hs=> ?_,fun f hf=> ?_⟩
 ·obtain⟨cs,f,m,_,⟨_,_,_,_,_,_,_,hr⟩,_⟩:=h.c.mem hc
  exact hr z hz
 ·obtain⟨cs,p,_,_,hr⟩:=h.s.mem hs
  exact hr
 ·obtain⟨cs,b,_,hr,_⟩:=h.f.mem hf
  exact hr
theorem eD{z:Int}(h: -9223372036854775808≤z∧z≤9223372036854775807):InR z:=h
theorem Gs{P:aB}(hP:wD P)(t n:Int):InR (bC P t n).1:=by
 unfold bC
 split
 ·split
  ·rename_i h1 h2
   have hm:nth (fieldsOf P (t-6).toNat) n.toNat∈fieldsOf P (t-6).toNat:=by
    rw[bN (by omega)];exact List.getElem_mem _
   unfold fieldsOf at hm
   split at hm
   ·rename_i c hc
    have hmem:=List.mem_of_getElem? hc
    refine hP.cls c hmem _ ?_
    simpa [fieldsOf,hc]using hm
   ·cases hm
  ·exact eD (by simp)
 ·exact eD (by simp)
theorem ite_r{c:Prop}[Decidable c]{x y:Int×Bool}(hx:c→InR x.1)(hy:¬ c→InR y.1):InR (if c then x else y).1:=by
 split
 ·rename_i h;exact hx h
 ·rename_i h;exact hy h
theorem tlV_r(s:Int):InR (tlV s):=by
 unfold tlV
 split
 ·split<;>exact eD ⟨by decide,by decide⟩
 ·exact eD ⟨by decide,by decide⟩
theorem Gn{P:aB}(hP:wD P)(k:Nat):InR (funcOf P k).ret:=by
 unfold funcOf
 split
 ·rename_i F hF
  exact hP.fun' F (List.mem_of_getElem? hF)
 ·exact eD ⟨by decide,by decide⟩
theorem sigOf_r{P:aB}(hP:wD P)(k:Nat):InR (iw P k).ret:=by
 unfold iw
 split
 ·rename_i F hF
  exact hP.sig F (List.mem_of_getElem? hF)
 ·exact eD ⟨by decide,by decide⟩
theorem rowS_r{P:aB}(hP:wD P)(hl:P.classes.length≤140737488355328)(K N:Int)(S:ByteArray)(l:List Int):InR (aC P K N S l).1:=by
 unfold aC
 repeat' first
  |exact Gs hP _ _
  |exact tlV_r _
  |exact Gn hP _
  |exact sigOf_r hP _
  |exact eD ⟨by decide,by decide⟩
  |refine ite_r (fun h=> ?_) (fun h=> ?_)
 all_goals (refine eD ⟨?_, ?_⟩<;>(show _≤_)<;>simp only[]<;>omega)
theorem resO_r{P:aB}(hP:wD P)(hl:P.classes.length≤140737488355328)(o:OpD)(ts:List Int):InR (rC P o ts).1:=by
 unfold rC ul
 split
 ·split
  ·exact rowS_r hP hl _ _ _ _
  ·exact eD (by simp)
 ·exact eD (by simp)
def ParR(f:ak):Prop:=∀ b∈f.blocks,∀z∈b.params,InR z
theorem gG.parR{W:World}{v:Value}{f:ak}(h:gG aM 8 W v f.blocks):ParR f:=fun b hb z hz=>by
 obtain⟨cs,p,o,es,_,⟨_,_,_,_,_,_,_,hr⟩,_⟩:=h.mem hb
 exact hr z hz
theorem D9{f:ak}(hr:ParR f):∀ i,∀z∈dI f i,InR z
 |0,z,h=>by simp[dI]at h
 |i+1,z,h=>by
  unfold dI at h
  rcases List.mem_append.1 h with h|h
  ·exact D9 hr i z h
  ·rcases List.mem_append.1 h with h|h
   ·by_cases hi:i<f.blocks.length
    ·rw[iZ hi]at h;exact hr _ (List.getElem_mem hi) z h
    ·unfold nU BZ at h;rw[List.getElem?_eq_none (by omega)]at h;cases h
   ·obtain rfl:=(List.mem_replicate.1 h).2
    exact eD (by simp)
theorem pF{P:aB}(hP:wD P)(hl:P.classes.length≤140737488355328){f:ak}{b:Nat}{ts:List Int}(h:∀ z∈ts,InR z):∀ k,∀z∈aW P f b ts k,InR z
 |0,z,hz=>h z hz
 |k+1,z,hz=>by
  unfold aW at hz
  rcases List.mem_or_eq_of_mem_set hz with hz|rfl
  ·exact pF hP hl h k z hz
  ·exact resO_r hP hl _ _
theorem pu{P:aB}(hP:wD P)(hl:P.classes.length≤140737488355328){f:ak}(hr:ParR f):∀ i,∀z∈aK P f i,InR z
 |0,z,hz=>D9 hr _ z hz
 |i+1,z,hz=>by unfold aK at hz;exact pF hP hl (pu hP hl hr i) _ z hz
def ja(P:aB)(l:List Int):Bool:=fq (fun i=>Fg P.classes.length (nth l i)) l.length
def qM(P:aB)(t:Int):Bool:=t== -1||Fg P.classes.length t
def sigB(P:aB)(s:wC):Bool:=ja P s.params&&qM P s.ret
def nW(P:aB)(f:ak):Bool:=qM P f.ret&&decide (0<f.blocks.length)&&fq (fun i=>ja P (nU f i)) f.blocks.length
def intsB(l:List Int):Bool:=fq (fun i=>nth l i==0) l.length
def tC(f:ak):Bool:=f.ret==0&&intsB (nU f 0)
def tu(P:aB)(m:Int)(s:wC):Bool:=decide (m<(P.funcs.length:Int))&&(funcOf P m.toNat).ret==s.ret&&aG (nU (funcOf P m.toNat) 0) (5::s.params)
def vz(P:aB)(c:iE)(i:Nat):Bool:=if 0≤nth c.methods i then tu P (nth c.methods i) (iw P i)else true
def kZ(P:aB)(c:iE):Bool:=ja P c.fields&&decide (c.methods.length=P.sigs.length)&&fq (vz P c) c.methods.length
def vU(P:aB)(k:Nat):iE:=match P.classes[k]? with|some c=>c|none=>⟨[],[]⟩
noncomputable def mq(f:ak)(T:List Int)(x k:Nat)(v:Int):Bool:=jV f (x:Int) (k:Int) v&&nth T v.toNat != -1
noncomputable def dK(f:ak)(T:List Int)(x:Nat)(v t:Int):Bool:=mq f T x (qP f x) v&&nth T v.toNat==t
noncomputable def nu(f:ak)(T:List Int)(x:Nat)(t:Int×List Int):Bool:=
 decide (0<t.1∧t.1<(f.blocks.length:Int))&&decide (t.2.length=(nU f t.1.toNat).length)&&fq (fun i=>dK f T x (nth t.2 i) (nth (nU f t.1.toNat) i)) t.2.length
def Hl(e:mV)(i:Nat):Int×List Int:=match(pU e)[i]? with|some t=>t|none=>(0,[])
noncomputable def zH(f:ak)(T:List Int)(x:Nat):Bool:=
 if(aN f x).K=1 then dK f T x (aN f x).A 1 else if(aN f x).K=3 then dK f T x (aN f x).A 0 else
 if(aN f x).K=2 then(if f.ret= -1 then(aN f x).A==0 else dK f T x (aN f x).A f.ret)else true
noncomputable def Gw(f:ak)(T:List Int)(x:Nat):Bool:=zH f T x&&fq (fun i=>nu f T x (Hl (aN f x) i)) (pU (aN f x)).length
def mo(o:OpD):List Int:=aA o.K o.A o.B o.C o.L
noncomputable def xk(P:aB)(f:ak)(T:List Int)(x k:Nat):Bool:=(rC P (opAt f x k) T).2&&fq (fun i=>mq f T x k (nth (mo (opAt f x k)) i)) (mo (opAt f x k)).length
noncomputable def ny(P:aB)(f:ak)(T:List Int)(x:Nat):Bool:=fq (xk P f T x) (qP f x)
noncomputable def oN(P:aB)(f:ak)(T:List Int)(x:Nat):Bool:=inL (aD f) (x:Int)&&ny P f T x&&Gw f T x
noncomputable def vW(P:aB)(f:ak):Bool:=fq (oN P f (kP P f)) f.blocks.length
noncomputable def nA(P:aB):Bool:=
 decide (0<P.funcs.length)&&fq (fun i=>sigB P (iw P i)) P.sigs.length&&fq (fun i=>nW P (funcOf P i)) P.funcs.length&&tC (funcOf P 0)&&fq (fun i=>kZ P (vU P i)) P.classes.length&&fq (fun i=>vW P (funcOf P i)) P.funcs.length
def tF(P:aB):Bool:=fq (fun i=>decide (aV (funcOf P i)≤700)) P.funcs.length
noncomputable def kE(P:aB):Int:=match fF (cK (dJ P))with| .no e=>e| .ok _=>if tF P=true then(if nA P=true then 0 else 4)else 2
def vB:OpD:=⟨0,0,0,0,7,⟨#[]⟩,[],false⟩
def DV:dD:=⟨[],[vB],⟨2,0,0,0,[],[]⟩⟩
def bF:ak:=⟨0,[DV]⟩
def bE:aB:=⟨[],[],[bF]⟩
def DU:List UInt8:=(match cK bE with| .ok l=>l| .no _=>[])
theorem Gb:fF (cK (dJ bE))=.ok DU:=by kernel_rfl
theorem live_sm:wz bE:=by
 refine⟨by decide,by decide,by decide,fun f hf=> ?_⟩
 simp only[bE,List.mem_singleton]at hf
 subst hf
 refine⟨by decide,fun b hb=> ?_⟩
 simp only[bF,List.mem_singleton]at hb
 subst hb
 show [vB].length≤100000
 decide
structure Hz(w W:World):Prop where
 bel:Below w.heap.size w W
 size:W.heap.size=w.heap.size+4
 prog:oZ W [.slice none 0 0,.slice none 0 0,.slice (some ⟨w.heap.size+1+1,0,none⟩) 1 1] bE
 func:bO W [.int .i64 0,.slice (some ⟨w.heap.size+1,0,none⟩) 1 1] bF
 b3:W.heap[w.heap.size+1+1+1]? =some (.cells #[.slice none 0 0,.slice none 0 0,.slice (some ⟨w.heap.size+1+1,0,none⟩) 1 1] 26 (0,0))
 b2:W.heap[w.heap.size+1+1]? =some (.cells #[.int .i64 0,.slice (some ⟨w.heap.size+1,0,none⟩) 1 1] 36 (0,0))
theorem DR(w:World):Hz w ((((w.alloc (.cells #[.int .i64 0,.int .i64 0,.int .i64 0,.int .i64 0,.int .i64 7,.string ⟨#[]⟩,.slice none 0 0,.bool false] 64)).alloc (.cells #[.slice none 0 0,.slice (some ⟨w.heap.size,0,none⟩) 1 1,.int .i64 2,.int .i64 0,.int .i64 0,.int .i64 0,.slice none 0 0,.slice none 0 0] 51)).alloc (.cells #[.int .i64 0,.slice (some ⟨w.heap.size+1,0,none⟩) 1 1] 36)).alloc (.cells #[.slice none 0 0,.slice none 0 0,.slice (some ⟨w.heap.size+1+1,0,none⟩) 1 1] 26)):=by
 have hbel:Below w.heap.size w ((((w.alloc (.cells #[.int .i64 0,.int .i64 0,.int .i64 0,.int .i64 0,.int .i64 7,.string ⟨#[]⟩,.slice none 0 0,.bool false] 64)).alloc (.cells #[.slice none 0 0,.slice (some ⟨w.heap.size,0,none⟩) 1 1,.int .i64 2,.int .i64 0,.int .i64 0,.int .i64 0,.slice none 0 0,.slice none 0 0] 51)).alloc (.cells #[.int .i64 0,.slice (some ⟨w.heap.size+1,0,none⟩) 1 1] 36)).alloc (.cells #[.slice none 0 0,.slice none 0 0,.slice (some ⟨w.heap.size+1+1,0,none⟩) 1 1] 26)):=((((Below.refl _ _).alloc (Nat.le_refl _) _).alloc (by simp) _).alloc (by simp<;>omega) _).alloc (by simp<;>omega) _
 have h3:((((w.alloc (.cells #[.int .i64 0,.int .i64 0,.int .i64 0,.int .i64 0,.int .i64 7,.string ⟨#[]⟩,.slice none 0 0,.bool false] 64)).alloc (.cells #[.slice none 0 0,.slice (some ⟨w.heap.size,0,none⟩) 1 1,.int .i64 2,.int .i64 0,.int .i64 0,.int .i64 0,.slice none 0 0,.slice none 0 0] 51)).alloc (.cells #[.int .i64 0,.slice (some ⟨w.heap.size+1,0,none⟩) 1 1] 36)).alloc (.cells #[.slice none 0 0,.slice none 0 0,.slice (some ⟨w.heap.size+1+1,0,none⟩) 1 1] 26)).heap[w.heap.size+1+1+1]? =some (.cells #[.slice none 0 0,.slice none 0 0,.slice (some ⟨w.heap.size+1+1,0,none⟩) 1 1] 26 (0,0)):=by
  have:=heap_alloc_new (((w.alloc (.cells #[.int .i64 0,.int .i64 0,.int .i64 0,.int .i64 0,.int .i64 7,.string ⟨#[]⟩,.slice none 0 0,.bool false] 64)).alloc (.cells #[.slice none 0 0,.slice (some ⟨w.heap.size,0,none⟩) 1 1,.int .i64 2,.int .i64 0,.int .i64 0,.int .i64 0,.slice none 0 0,.slice none 0 0] 51)).alloc (.cells #[.int .i64 0,.slice (some ⟨w.heap.size+1,0,none⟩) 1 1] 36)) (.cells #[.slice none 0 0,.slice none 0 0,.slice (some ⟨w.heap.size+1+1,0,none⟩) 1 1] 26)
  simpa using this
 generalize hW:((((w.alloc (.cells #[.int .i64 0,.int .i64 0,.int .i64 0,.int .i64 0,.int .i64 7,.string ⟨#[]⟩,.slice none 0 0,.bool false] 64)).alloc (.cells #[.slice none 0 0,.slice (some ⟨w.heap.size,0,none⟩) 1 1,.int .i64 2,.int .i64 0,.int .i64 0,.int .i64 0,.slice none 0 0,.slice none 0 0] 51)).alloc (.cells #[.int .i64 0,.slice (some ⟨w.heap.size+1,0,none⟩) 1 1] 36)).alloc (.cells #[.slice none 0 0,.slice none 0 0,.slice (some ⟨w.heap.size+1+1,0,none⟩) 1 1] 26))=W at hbel h3⊢
 have hs:W.heap.size=w.heap.size+4:=by rw[←hW];simp
 have h0:W.heap[w.heap.size]? =some (.cells #[.int .i64 0,.int .i64 0,.int .i64 0,.int .i64 0,.int .i64 7,.string ⟨#[]⟩,.slice none 0 0,.bool false] 64 (0,0)):=by
  rw[←hW]
  exact(heap_alloc_old _ _ (by simp<;>omega)).trans ((heap_alloc_old _ _ (by simp<;>omega)).trans ((heap_alloc_old _ _ (by simp)).trans (heap_alloc_new w _)))
 have h1:W.heap[w.heap.size+1]? =some (.cells #[.slice none 0 0,.slice (some ⟨w.heap.size,0,none⟩) 1 1,.int .i64 2,.int .i64 0,.int .i64 0,.int .i64 0,.slice none 0 0,.slice none 0 0] 51 (0,0)):=by
  rw[←hW]
  exact(heap_alloc_old _ _ (by simp<;>omega)).trans ((heap_alloc_old _ _ (by simp)).trans (by
   have:=heap_alloc_new (w.alloc (.cells #[.int .i64 0,.int .i64 0,.int .i64 0,.int .i64 0,.int .i64 7,.string ⟨#[]⟩,.slice none 0 0,.bool false] 64)) (.cells #[.slice none 0 0,.slice (some ⟨w.heap.size,0,none⟩) 1 1,.int .i64 2,.int .i64 0,.int .i64 0,.int .i64 0,.slice none 0 0,.slice none 0 0] 51)
   simpa using this))
 have h2:W.heap[w.heap.size+1+1]? =some (.cells #[.int .i64 0,.slice (some ⟨w.heap.size+1,0,none⟩) 1 1] 36 (0,0)):=by
  rw[←hW]
  exact(heap_alloc_old _ _ (by simp)).trans (by
   have:=heap_alloc_new ((w.alloc (.cells #[.int .i64 0,.int .i64 0,.int .i64 0,.int .i64 0,.int .i64 7,.string ⟨#[]⟩,.slice none 0 0,.bool false] 64)).alloc (.cells #[.slice none 0 0,.slice (some ⟨w.heap.size,0,none⟩) 1 1,.int .i64 2,.int .i64 0,.int .i64 0,.int .i64 0,.slice none 0 0,.slice none 0 0] 51)) (.cells #[.int .i64 0,.slice (some ⟨w.heap.size+1,0,none⟩) 1 1] 36)
   simpa using this)
 clear hW
 have nil:∀ (v:Value),v=.slice none 0 0→lm W v []:=fun v hv=>⟨none,0,0,hv,ai.nil _ _,fun _=>rfl,by decide,fun z hz=>(by cases hz)⟩
 have one:∀ {α:Type} {Q:World→List Value→α→Prop} {k b:Nat} {T:TypeId} {cur:Array Value} {x:α},W.heap[b]? =some (.cells cur T (0,0))→cur.size=k→Q W cur.toList x→gG Q k W (.slice (some ⟨b,0,none⟩) 1 1) [x]:=by
  intro α Q k b T cur x hb hk hq
  refine⟨_,1,1,rfl,rfl,fun h=>(by cases h),by decide,fun _=>⟨b,0,rfl,(Array.getElem?_eq_some_iff.1 hb).1,fun i hi=> ?_⟩⟩
  have hi0:i=0:=by simpa using hi
  subst hi0
  refine⟨cur.toList,by simpa using hk,fun j hj=> ?_,hq⟩
  simp only[World.cell?,hb,Nat.zero_mul,Nat.zero_add]
  simp at hj⊢
 have z0:InR 0:=⟨by decide,by decide⟩
 have hf:bO W [.int .i64 0,.slice (some ⟨w.heap.size+1,0,none⟩) 1 1] bF:=by
  refine⟨_,rfl,z0,one h1 rfl ?_⟩
  refine⟨_,_,_,rfl,nil _ rfl,one h0 rfl ?_,_,_,rfl,⟨by decide,by decide⟩,z0,z0,z0,nil _ rfl,nil _ rfl⟩
  exact⟨_,rfl,z0,z0,z0,z0,⟨by decide,by decide⟩,Nat.zero_le _,nil _ rfl⟩
 exact⟨hbel,hs,⟨_,_,_,rfl,⟨none,0,0,rfl,rfl,fun _=>rfl,by decide,fun h=>absurd h (by omega)⟩,⟨none,0,0,rfl,rfl,fun _=>rfl,by decide,fun h=>absurd h (by omega)⟩,one h2 rfl hf⟩,hf,h3,h2⟩
end Go.Proofs.YthjdeoppajlcoaaGreatDoor

namespace Go.Proofs.YthjdeoppajlcoaaGreatDoor
set_option linter.unusedSimpArgs false
set_option linter.unusedVariables false
set_option maxHeartbeats 4000000
set_option maxRecDepth 100000
open Go.RowKit (wrap64 intOf Below Hid)
open Go.Lib (hid)
theorem au.good{w w':World}{b:Bool}(hb:b=true)(h:Below w.heap.size w w'):au b w (.returned (.tuple #[])) w':=⟨.inl ⟨hb,rfl⟩,h⟩
theorem au.bad{w w':World}{b:Bool}(hb:b=false)(h:Below w.heap.size w w'):au b w (.panicked [{v:=.iface 30 (.int .i64 4),recovered:=false}]) w':=⟨.inr ⟨hb,rfl⟩,h⟩
theorem au.split{w w':World}{b:Bool}{e:Ending}(h:au b w e w'):(b=true∧e=.returned (.tuple #[])∧Below w.heap.size w w')∨(b=false∧e=.panicked [{v:=.iface 30 (.int .i64 4),recovered:=false}]∧Below w.heap.size w w'):=by
 rcases h.1 with⟨h1,he⟩|⟨h1,he⟩
 ·exact .inl ⟨h1,he,h.2⟩
 ·exact .inr ⟨h1,he,h.2⟩
theorem tZ.split{w w':World}{b:Bool}{e:Ending}(h:tZ b w e w'):(b=true∧e=.returned (.tuple #[])∧w=w')∨(b=false∧e=.panicked [{v:=.iface 30 (.int .i64 4),recovered:=false}]∧w=w'):=by
 rcases h.1 with⟨h1,he⟩|⟨h1,he⟩
 ·exact .inl ⟨h1,he,h.2.symm⟩
 ·exact .inr ⟨h1,he,h.2.symm⟩
theorem pW(w:World)(g:Nat):Below w.heap.size w (w.alloc (.cells #[.pointer (some ⟨g,0,none⟩)] 68))∧(w.alloc (.cells #[.pointer (some ⟨g,0,none⟩)] 68)).cell? ⟨w.heap.size,0,none⟩=some (.pointer (some ⟨g,0,none⟩))∧(w.alloc (.cells #[.pointer (some ⟨g,0,none⟩)] 68)).heap.size=w.heap.size+1:=
 ⟨(Below.refl _ w).alloc (Nat.le_refl _) _,World.cell?_alloc_mark _ _ _ _ _,by simp⟩
theorem lC(g:Nat){sa:Option Addr}{sn sc:Nat}{ca:Option Addr}{cn cc:Nat}{fa:Option Addr}{fn fc:Nat}{P:aB}(la:Option Addr)(ln lc:Nat)(L:List Int)(w:World)(hP:aX w g sa sn sc ca cn cc fa fn fc P)(hL:ai w la ln L)(hr:∀ z∈L,InR z)(hln:ln≤140737488355328):
 Calls Tryz.prog 50 #[.agg #[.pointer (some ⟨g,0,none⟩)],.slice la ln lc] w (au (ja P L) w):=by
 obtain⟨hb1,hc,hs1⟩:=pW w g
 obtain⟨W1,hW1⟩:∃ U,w.alloc (.cells #[.pointer (some ⟨g,0,none⟩)] 68)=U:=⟨_,rfl⟩
 rw[hW1]at hb1 hc hs1
 have HB:=hid hb1
 have hcl:=hP.c.len
 have CT:Hid (∀z,InR z→Calls Tryz.prog 86 #[.pointer (some ⟨g,0,none⟩),.int .i64 z] W1 fun e w'=>e=.returned (.bool (Fg P.classes.length z))∧W1=w'):=hid fun z hz=>by
  rw[hcl.1]
  exact vD g ca cn cc z W1 (hP.since hb1).c1 hz (by omega)
 have HLN:Hid (L.length=ln):=hid hL.1
 have HN:=hid (hL.since hb1)
 have HR:=hid hr
 have HLL:=hid hln
 clear hb1 hs1 hP hL hr hcl
 go_enter Tryz.func50,Tryz.ntmps50
 go_upto_region 1 with fail
 try rw[hW1]
 clear hW1
 go_upto_region 2 with fail
 go_loopw[8] (fun v8 wr=>∃ i:Nat,i≤ln∧v8=.int .i64 (i:Int)∧wr=W1∧Hid (fq (fun i=>Fg P.classes.length (nth L i)) i=true)) (fun iv _=>ln-(intOf iv).toNat)
 case atStart=>exact⟨0,Nat.zero_le _,rfl,rfl,hid rfl⟩
 case round=>
  obtain⟨i,hi,rfl,rfl,HI⟩:=hrel
  by_cases hlt:i<ln
  ·have hltz:(i:Int)<(ln:Int):=by omega
   have hi0:(0:Int)≤(i:Int):=by omega
   have hil:i<L.length:=by have:=HLN.out;omega
   obtain⟨ga,oa,rfl,hg,hcell⟩:=HN.out.2 (by omega)
   have hz:wr.cell? ⟨ga,oa+i,none⟩=some (.int .i64 (nth L i)):=by rw[hcell i hil,bN hil];rfl
   have HZ:Hid (InR (nth L i)):=hid (HR.out _ (by rw[bN hil];exact List.getElem_mem hil))
   obtain⟨z,hzz⟩:∃ z,z=nth L i:=⟨_,rfl⟩
   have HZZ:=hid hzz
   rw[←hzz]at hz HZ
   have CZ:=hid (CT.out z HZ.out)
   have HIL:=hid hlt
   clear hcell hg hil hzz
   go_wp2_with(first
    |(go_at_call 86;(with_reducible refine CZ.out.mono ?_);rintro e w2 ⟨rfl,rfl⟩)
    |(go_at_call 49;(with_reducible refine(bS _ _).mono ?_);intro e w3 hq;rcases hq.split with⟨hk,rfl,rfl⟩|⟨hk,rfl,rfl⟩;rotate_left;(exact⟨rfl,au.bad (by unfold ja;rw[HLN.out];exact dQ HIL.out (by rw[←HZZ.out];exact hk)) HB.out⟩);have HK:=hid hk;clear hk))
   go_roundw
   case rel=>exact⟨i+1,HIL.out,by go_num,(by first|rfl|trivial),hid (bX HI.out (by rw[←HZZ.out];exact HK.out))⟩
   case measure=>have:=HIL.out;simp[intOf];omega
  ·obtain rfl:i=ln:=by omega
   have hnn:¬ (i:Int)<(i:Int):=by omega
   have HK:Hid (ja P L=true):=hid (by unfold ja;rw[HLN.out];exact HI.out)
   go_wp2_with fail
   go_end0
   exact au.good HK.out HB.out
theorem D6(P:aB)(t:Int):ja P [t]=Fg P.classes.length t:=by simp[ja,fq,nth]
theorem yF(g:Nat){sa:Option Addr}{sn sc:Nat}{ca:Option Addr}{cn cc:Nat}{fa:Option Addr}{fn fc:Nat}{P:aB}(t:Int)(w:World)(hP:aX w g sa sn sc ca cn cc fa fn fc P)(ht:InR t):
 Calls Tryz.prog 51 #[.agg #[.pointer (some ⟨g,0,none⟩)],.int .i64 t] w (au (qM P t) w):=by
 obtain⟨hb1,hc,hs1⟩:=pW w g
 obtain⟨W1,hW1⟩:∃ U,w.alloc (.cells #[.pointer (some ⟨g,0,none⟩)] 68)=U:=⟨_,rfl⟩
 rw[hW1]at hb1 hc hs1
 have HB:=hid hb1
 have HP:=hid (hP.since hb1)
 have HT:=hid ht
 clear hb1 hs1 hP ht
 by_cases h1:t= -1
 ·have HK:Hid (qM P t=true):=hid (by unfold qM;rw[h1];rfl)
  subst h1
  go_enter Tryz.func51,Tryz.ntmps51
  go_upto_region 1 with fail
  try rw[hW1]
  clear hW1
  go_wp2_with fail
  go_end0
  exact au.good HK.out HB.out
 ·have hne:(t != -1)=true:=by rw[bne_iff_ne];exact h1
  have hee:(t== -1)=false:=by rw[beq_eq_false_iff_ne];exact h1
  have HK:Hid (qM P t=ja P [t]):=hid (by unfold qM;rw[hee,D6];rfl)
  have CK:Hid (∀U,Below W1.heap.size W1 U→ai U (some ⟨W1.heap.size,0,none⟩) 1 [t]→Calls Tryz.prog 50 #[.agg #[.pointer (some ⟨g,0,none⟩)],.slice (some ⟨W1.heap.size,0,none⟩) 1 1] U (au (ja P [t]) U)):=hid fun U hU hN=>lC g (some ⟨W1.heap.size,0,none⟩) 1 1 [t] U (HP.out.since hU) hN (fun z hz=>by rw[List.mem_singleton]at hz;subst hz;exact HT.out) (by omega)
  have HU:Hid (Below W1.heap.size W1 (W1.alloc (.cells #[.int .i64 t] 3))∧ai (W1.alloc (.cells #[.int .i64 t] 3)) (some ⟨W1.heap.size,0,none⟩) 1 [t]):=hid ⟨(Below.refl _ _).alloc (Nat.le_refl _) _,rfl,fun _=>⟨W1.heap.size,0,rfl,by simp,fun j hj=>by
   have hj0:j=0:=by simpa using hj
   subst hj0
   exact World.cell?_alloc_mark _ _ _ _ _⟩⟩
  clear h1
  go_enter Tryz.func51,Tryz.ntmps51
  go_upto_region 1 with fail
  try rw[hW1]
  clear hW1
  go_wp2_with(go_at_call 50;(with_reducible refine(CK.out _ HU.out.1 HU.out.2).mono ?_);intro e w3 hq;rcases hq.split with⟨hk,rfl,hb⟩|⟨hk,rfl,hb⟩;rotate_left;(exact⟨rfl,au.bad (by rw[HK.out];exact hk) (HB.out.trans ((HU.out.1.trans (hb.mono HU.out.1.size)).mono HB.out.size))⟩);have HR:Hid (au (qM P t) w (.returned (.tuple #[])) w3):=hid (au.good (by rw[HK.out];exact hk) (HB.out.trans ((HU.out.1.trans (hb.mono HU.out.1.size)).mono HB.out.size)));clear hk hb)
  go_end0
  exact HR.out
theorem lI(w:World)(g:Nat)(C:Array Value)(T:TypeId):Below w.heap.size w ((w.alloc (.cells #[.pointer (some ⟨g,0,none⟩)] 68)).alloc (.cells C T))∧((w.alloc (.cells #[.pointer (some ⟨g,0,none⟩)] 68)).alloc (.cells C T)).cell? ⟨w.heap.size,0,none⟩=some (.pointer (some ⟨g,0,none⟩))∧(∀j,((w.alloc (.cells #[.pointer (some ⟨g,0,none⟩)] 68)).alloc (.cells C T)).cell? ⟨w.heap.size+1,j,none⟩=C[j]?)∧((w.alloc (.cells #[.pointer (some ⟨g,0,none⟩)] 68)).alloc (.cells C T)).heap.size=w.heap.size+2:=by
 have h2:=iN w #[.pointer (some ⟨g,0,none⟩)] C 68 T
 exact⟨((Below.refl _ w).alloc (Nat.le_refl _) _).alloc (by simp) _,h2.1 0,h2.2,by simp⟩
theorem Cu(g:Nat){sa:Option Addr}{sn sc:Nat}{ca:Option Addr}{cn cc:Nat}{fa:Option Addr}{fn fc:Nat}{P:aB}(a:Option Addr)(n c:Nat)(f:ak)(w:World)(hP:aX w g sa sn sc ca cn cc fa fn fc P)(hf:bO w [.int .i64 f.ret,.slice a n c] f):
 Calls Tryz.prog 52 #[.agg #[.pointer (some ⟨g,0,none⟩)],.agg #[.int .i64 f.ret,.slice a n c]] w (au (nW P f) w):=by
 obtain⟨hb1,hc,hd,hs1⟩:=lI w g #[.int .i64 f.ret,.slice a n c] 36
 obtain⟨W1,hW1⟩:∃ U,(w.alloc (.cells #[.pointer (some ⟨g,0,none⟩)] 68)).alloc (.cells #[.int .i64 f.ret,.slice a n c] 36)=U:=⟨_,rfl⟩
 rw[hW1]at hb1 hc hd hs1
 obtain⟨hrow,hlen⟩:=jc hf
 have hn8:=hrow.len.2
 have hr:InR f.ret:=by obtain⟨_,_,h,_⟩:=hf;exact h
 have HB:=hid hb1
 have HP:=hid (hP.since hb1)
 have HROW:=hid (hrow.since aM.lasts hb1)
 have HC:Hid (∀U,Below W1.heap.size W1 U→U.cell? ⟨w.heap.size,0,none⟩=some (.pointer (some ⟨g,0,none⟩))∧U.cell? ⟨w.heap.size+1,0,none⟩=some (.int .i64 f.ret)∧U.cell? ⟨w.heap.size+1,1,none⟩=some (.slice a n c)):=hid fun U hU=>⟨(hU.cell (p:=⟨w.heap.size,0,none⟩) (by simp only[];omega)).trans hc,(hU.cell (p:=⟨w.heap.size+1,0,none⟩) (by simp only[];omega)).trans (hd 0),(hU.cell (p:=⟨w.heap.size+1,1,none⟩) (by simp only[];omega)).trans (hd 1)⟩
 have hd0:=hd 0
 have hd1:=hd 1
 have CR:=hid (yF g f.ret W1 (hP.since hb1) hr)
 have HLEN:=hid hlen
 obtain⟨rt,hrt⟩:∃ t,t=f.ret:=⟨_,rfl⟩
 have HRT:=hid hrt
 rw[←hrt]at hd0 HC CR hW1⊢
 clear hb1 hs1 hP hf hrow hr hd hlen hrt
 go_enter Tryz.func52,Tryz.ntmps52
 go_upto_region 1 with fail
 try rw[hW1]
 clear hW1
 go_upto_region 2 with(go_at_call 51;(with_reducible refine CR.out.mono ?_);intro e w2 hq;rcases hq.split with⟨hk,rfl,hb⟩|⟨hk,rfl,hb⟩;rotate_left;(exact⟨rfl,au.bad (by unfold nW;rw[←HRT.out,hk];rfl) (HB.out.trans (hb.mono HB.out.size))⟩);have HK1:=hid hk;have HB2:=hid hb;obtain⟨x0,x1,x2⟩:=HC.out w2 hb;clear hk hb hd0 hd1 hc)
 go_upto_region 3 with(go_at_call 49;(with_reducible refine(bS _ _).mono ?_);intro e w3 hq;rcases hq.split with⟨hk,rfl,rfl⟩|⟨hk,rfl,rfl⟩;rotate_left;(exact⟨rfl,au.bad (by unfold nW;rw[HLEN.out]at hk;rw[hk];simp) (HB.out.trans (HB2.out.mono HB.out.size))⟩);have HK2:Hid (decide (0<f.blocks.length)=true):=hid (by rw[HLEN.out]at hk;exact hk);clear hk)
 go_upto_region 4 with fail
 go_loopw[18] (fun v18 wr=>∃ i:Nat,i≤n∧v18=.int .i64 (i:Int)∧Hid (fq (fun i=>ja P (nU f i)) i=true∧Below W1.heap.size W1 wr)) (fun iv _=>n-(intOf iv).toNat)
 case atStart=>exact⟨0,Nat.zero_le _,rfl,hid ⟨rfl,HB2.out⟩⟩
 case round=>
  obtain⟨i,hi,rfl,HI⟩:=hrel
  by_cases hlt:i<n
  ·have hltz:(i:Int)<(n:Int):=by omega
   obtain⟨g8,off8,cs,hif,rfl,hl8,hcell,hq⟩:=(HROW.out.since aM.lasts HI.out.2).elem hlt
   obtain⟨X,hX⟩:∃ X,X=f.blocks[i]:=⟨_,rfl⟩
   rw[←hX]at hq
   obtain⟨pv,ov,es,rfl,⟨pa,pn,pc,rfl,hp,hpn0,hpn8,hpr⟩,⟨oa,on,oc,rfl,ho,_⟩,l1,m1,rfl,r1,r2,r3,r4,⟨la,ln,lc,rfl,_⟩,⟨ma,mn,mc,rfl,_⟩⟩:=hq
   have hd0:=hcell 0 (by simp)
   have hd1:=hcell 1 (by simp)
   have hd2:=hcell 2 (by simp)
   have hd3:=hcell 3 (by simp)
   have hd4:=hcell 4 (by simp)
   have hd5:=hcell 5 (by simp)
   have hd6:=hcell 6 (by simp)
   have hd7:=hcell 7 (by simp)
   simp only[Nat.add_zero,List.getElem_cons_zero,List.getElem_cons_succ]at hd0 hd1 hd2 hd3 hd4 hd5 hd6 hd7
   have HPX:Hid (nU f i=X.params):=hid (by rw[iZ hif,hX])
   have HLT:=hid hlt
   have HXR:=hid hpr
   have HXN:=hid hp
   have HX8:Hid (pn≤140737488355328):=hid (by omega)
   obtain⟨x0,x1,x2⟩:=HC.out wr HI.out.2
   clear hcell hp ho hl8 hif hX r1 r2 r3 r4 hpn0 hpn8 hpr
   go_upto_region 6 with fail
   obtain⟨Y,hY⟩:∃ u,u=wr.alloc (.cells #[.slice pa pn pc,.slice oa on oc,.int .i64 X.fin.K,.int .i64 X.fin.A,.int .i64 X.fin.To,.int .i64 X.fin.Else,.slice la ln lc,.slice ma mn mc] 51):=⟨_,rfl⟩
   have hbY:Below wr.heap.size wr Y:=by rw[hY];exact(Below.refl _ wr).alloc (Nat.le_refl _) _
   have hcY:∀ j,Y.cell? ⟨wr.heap.size,j,none⟩=(#[.slice pa pn pc,.slice oa on oc,.int .i64 X.fin.K,.int .i64 X.fin.A,.int .i64 X.fin.To,.int .i64 X.fin.Else,.slice la ln lc,.slice ma mn mc]:Array Value)[j]? :=fun j=>by rw[hY];exact World.cell?_alloc_mark _ _ _ _ _
   have e0:=hcY 0
   rw[←hY]
   have hbW:Below W1.heap.size W1 Y:=HI.out.2.trans (hbY.mono HI.out.2.size)
   have HBW:=hid hbW
   have CK:=hid (lC g pa pn pc X.params Y (HP.out.since hbW) (HXN.out.since hbY) HXR.out HX8.out)
   obtain⟨y0,y1,y2⟩:=HC.out Y hbW
   clear hcY hbY hY hbW hd0 hd1 hd2 hd3 hd4 hd5 hd6 hd7 x0 x1 x2
   go_wp2_with(go_at_call 50;(with_reducible refine CK.out.mono ?_);intro e w5 hq;rcases hq.split with⟨hk,rfl,hb⟩|⟨hk,rfl,hb⟩;rotate_left;(exact⟨rfl,au.bad (by unfold nW;have h0:=dQ (p:=fun i=>ja P (nU f i)) HLT.out (by simp only[HPX.out];exact hk);rw[HLEN.out]at h0;rw[h0];simp) (HB.out.trans ((HBW.out.trans (hb.mono HBW.out.size)).mono HB.out.size))⟩);have HK5:Hid (fq (fun i=>ja P (nU f i)) (i+1)=true∧Below W1.heap.size W1 w5):=hid ⟨bX HI.out.1 (by simp only[HPX.out];exact hk),HBW.out.trans (hb.mono HBW.out.size)⟩;clear hk hb)
   go_roundw
   case rel=>exact⟨i+1,HLT.out,by go_num,HK5⟩
   case measure=>have:=HLT.out;simp[intOf];omega
  ·obtain rfl:i=n:=by omega
   have hnn:¬ (i:Int)<(i:Int):=by omega
   have HK:Hid (nW P f=true):=hid (by unfold nW;have h0:=HI.out.1;rw[HLEN.out]at h0;rw[h0,HK2.out,←HRT.out,HK1.out];rfl)
   go_wp2_with fail
   go_end0
   exact au.good HK.out (HB.out.trans (HI.out.2.mono HB.out.size))
theorem Cr(g:Nat)(a:Option Addr)(n c:Nat)(f:ak)(w:World)(hf:bO w [.int .i64 f.ret,.slice a n c] f)(h0:0<f.blocks.length):
 Calls Tryz.prog 53 #[.agg #[.pointer (some ⟨g,0,none⟩)],.agg #[.int .i64 f.ret,.slice a n c]] w (au (tC f) w):=by
 obtain⟨hb1,hc,hd,hs1⟩:=lI w g #[.int .i64 f.ret,.slice a n c] 36
 obtain⟨W1,hW1⟩:∃ U,(w.alloc (.cells #[.pointer (some ⟨g,0,none⟩)] 68)).alloc (.cells #[.int .i64 f.ret,.slice a n c] 36)=U:=⟨_,rfl⟩
 rw[hW1]at hb1 hc hd hs1
 obtain⟨hrow,hlen⟩:=jc hf
 have HB:=hid hb1
 have hd0:=hd 0
 have hd1:=hd 1
 have hn0:0<n:=by omega
 obtain⟨g8,off8,cs,hif,rfl,hl8,hcell,hq⟩:=(hrow.since aM.lasts hb1).elem hn0
 obtain⟨X,hX⟩:∃ X,X=f.blocks[0]:=⟨_,rfl⟩
 rw[←hX]at hq
 obtain⟨pv,ov,es,rfl,⟨pa,pn,pc,rfl,hp,_⟩,_⟩:=hq
 have hcz:=hcell 0 (by simp)
 simp only[Nat.add_zero,Nat.zero_mul,List.getElem_cons_zero,List.getElem_cons_succ]at hcz
 have HPX:Hid (nU f 0=X.params):=hid (by rw[iZ hif,hX])
 have HXN:=hid hp
 have hnz:(0:Int)<(n:Int):=by omega
 obtain⟨rt,hrt⟩:∃ t,t=f.ret:=⟨_,rfl⟩
 have HRT:=hid hrt
 rw[←hrt]at hd0 hW1⊢
 clear hb1 hs1 hf hrow hd hlen hrt hcell hp hX hif hl8 h0 hc hn0
 go_enter Tryz.func53,Tryz.ntmps53
 go_upto_region 1 with fail
 try rw[hW1]
 clear hW1
 go_upto_region 2 with(go_at_call 49;(with_reducible refine(bS _ _).mono ?_);intro e w3 hq;rcases hq.split with⟨hk,rfl,rfl⟩|⟨hk,rfl,rfl⟩;rotate_left;(exact⟨rfl,au.bad (by unfold tC;rw[←HRT.out,hk];rfl) HB.out⟩);have HK2:=hid hk;clear hk)
 go_upto_region 3 with fail
 go_loopw[16] (fun v16 wr=>∃ i:Nat,i≤pn∧v16=.int .i64 (i:Int)∧wr=W1∧Hid (fq (fun i=>nth X.params i==0) i=true)) (fun iv _=>pn-(intOf iv).toNat)
 case atStart=>exact⟨0,Nat.zero_le _,rfl,rfl,hid rfl⟩
 case round=>
  obtain⟨i,hi,rfl,rfl,HI⟩:=hrel
  by_cases hlt:i<pn
  ·have hltz:(i:Int)<(pn:Int):=by omega
   have hi0:(0:Int)≤(i:Int):=by omega
   have hil:i<X.params.length:=by have:=HXN.out.1;omega
   obtain⟨ga,oa,rfl,hg,hcell⟩:=HXN.out.2 (by omega)
   have hz:wr.cell? ⟨ga,oa+i,none⟩=some (.int .i64 (nth X.params i)):=by rw[hcell i hil,bN hil];rfl
   have HIL:=hid hlt
   obtain⟨z,hzz⟩:∃ z,z=nth X.params i:=⟨_,rfl⟩
   have HZZ:=hid hzz
   rw[←hzz]at hz
   clear hcell hg hil hzz
   go_wp2_with(go_at_call 49;(with_reducible refine(bS _ _).mono ?_);intro e w3 hq;rcases hq.split with⟨hk,rfl,rfl⟩|⟨hk,rfl,rfl⟩;rotate_left;(exact⟨rfl,au.bad (by unfold tC intsB;rw[HPX.out,HXN.out.1,dQ (p:=fun i=>nth X.params i==0) HIL.out (by simp only[←HZZ.out];exact hk)];simp) HB.out⟩);have HK3:Hid (fq (fun i=>nth X.params i==0) (i+1)=true):=hid (bX HI.out (by simp only[←HZZ.out];exact hk));clear hk)
   go_roundw
   case rel=>exact⟨i+1,HIL.out,by go_num,(by first|rfl|trivial),HK3⟩
   case measure=>have:=HIL.out;simp[intOf];omega
  ·obtain rfl:i=pn:=by omega
   have hnn:¬ (i:Int)<(i:Int):=by omega
   have HK:Hid (tC f=true):=hid (by unfold tC intsB;rw[HPX.out,HXN.out.1,HI.out,←HRT.out,HK2.out];rfl)
   go_wp2_with fail
   go_end0
   exact au.good HK.out HB.out
structure l6(W:World)(g:Nat)(sa:Option Addr)(sn sc:Nat)(ca:Option Addr)(cn cc:Nat)(pa:Option Addr)(pn pc:Nat)(P:aB)(a:Option Addr)(n c:Nat)(f:ak)(fa ua:Option Addr)(m:Nat)(UP:List Int)(ta:Option Addr)(tn:Nat)(T:List Int):Prop where
 prog:aX W g sa sn sc ca cn cc pa pn pc P
 scop:fM W a n c f fa ua m UP
 typ:ai W ta tn T
 len:tn=aV f
 rng:∀ z∈T,InR z
 ret:InR f.ret
 ft:FT W
theorem l6.since{W W':World}{g:Nat}{sa:Option Addr}{sn sc:Nat}{ca:Option Addr}{cn cc:Nat}{pa:Option Addr}{pn pc:Nat}{P:aB}{a:Option Addr}{n c:Nat}{f:ak}{fa ua:Option Addr}{m:Nat}{UP:List Int}{ta:Option Addr}{tn:Nat}{T:List Int}(h:l6 W g sa sn sc ca cn cc pa pn pc P a n c f fa ua m UP ta tn T)(hb:Below W.heap.size W W'):l6 W' g sa sn sc ca cn cc pa pn pc P a n c f fa ua m UP ta tn T:=
 ⟨h.prog.since hb,h.scop.since hb,h.typ.since hb,h.len,h.rng,h.ret,h.ft.since hb⟩
theorem nL(w:World)(C:Array Value):Below w.heap.size w (w.alloc (.cells C 98))∧(∀j,(w.alloc (.cells C 98)).cell? ⟨w.heap.size,j,none⟩=C[j]?)∧(w.alloc (.cells C 98)).heap.size=w.heap.size+1:=
 ⟨(Below.refl _ w).alloc (Nat.le_refl _) _,fun j=>World.cell?_alloc_mark _ _ _ _ _,by simp⟩
theorem rA{f:ak}{x a v:Int}(h:jV f x a v=true):∃ u:Nat,v=(u:Int)∧u<aV f:=by
 obtain⟨b,k,u,_,_,e,_,_,hu,_⟩:=sM.1 h
 exact⟨u,e,hu⟩
theorem um{g:Nat}{sa:Option Addr}{sn sc:Nat}{ca:Option Addr}{cn cc:Nat}{pa:Option Addr}{pn pc:Nat}{P:aB}{a:Option Addr}{n c:Nat}{f:ak}{fa ua:Option Addr}{m:Nat}{UP:List Int}{ta:Option Addr}{tn:Nat}{T:List Int}(fc uc tc:Nat)(x k:Nat)(v:Int)(w:World)(h:l6 w g sa sn sc ca cn cc pa pn pc P a n c f fa ua m UP ta tn T):
 Calls Tryz.prog 119 #[.agg #[.pointer (some ⟨g,0,none⟩),.int .i64 f.ret,.slice a n c,.slice fa (n+1) fc,.slice ua n uc,.slice ta tn tc],.int .i64 (x:Int),.int .i64 (k:Int),.int .i64 v] w (au (mq f T x k v) w):=by
 obtain⟨hb1,hd,hs1⟩:=nL w #[.pointer (some ⟨g,0,none⟩),.int .i64 f.ret,.slice a n c,.slice fa (n+1) fc,.slice ua n uc,.slice ta tn tc]
 obtain⟨W1,hW1⟩:∃ U,w.alloc (.cells #[.pointer (some ⟨g,0,none⟩),.int .i64 f.ret,.slice a n c,.slice fa (n+1) fc,.slice ua n uc,.slice ta tn tc] 98)=U:=⟨_,rfl⟩
 rw[hW1]at hb1 hd hs1
 have hB:=h.since hb1
 have HB:=hid hb1
 have HBD:=hid hB
 have hd1:=hd 1
 have hd2:=hd 2
 have hd3:=hd 3
 have hd4:=hd 4
 have CS:=hid (Cm (r:=f.ret) (fc:=fc) (uc:=uc) hB.scop (x:Int) (k:Int) v)
 have HD5:Hid (∀U,Below W1.heap.size W1 U→U.cell? ⟨w.heap.size,5,none⟩=some (.slice ta tn tc)):=hid fun U hU=>(hU.cell (p:=⟨w.heap.size,5,none⟩) (by simp only[];omega)).trans (hd 5)
 obtain⟨rt,hrt⟩:∃ t,t=f.ret:=⟨_,rfl⟩
 rw[←hrt]at hd1 CS hW1⊢
 obtain⟨sb,hsb⟩:∃ b,b=jV f (x:Int) (k:Int) v:=⟨_,rfl⟩
 rw[←hsb]at CS
 have HSB:=hid hsb
 clear hb1 hs1 h hB hd hrt hsb
 go_enter Tryz.func119,Tryz.ntmps119
 go_upto_region 1 with fail
 try rw[hW1]
 clear hW1
 go_upto_region 2 with(first
  |(go_at_call 43;(with_reducible refine CS.out.mono ?_);rintro e w2 ⟨rfl,hb⟩;have HB2:=hid hb;have h5:=HD5.out w2 hb;clear hb)
  |(go_at_call 49;(with_reducible refine(bS _ _).mono ?_);intro e w3 hq;rcases hq.split with⟨hk,rfl,rfl⟩|⟨hk,rfl,rfl⟩;rotate_left;(exact⟨rfl,au.bad (by unfold mq;rw[←HSB.out,hk];rfl) (HB.out.trans (HB2.out.mono HB.out.size))⟩);have HK1:=hid hk;clear hk))
 clear hd1 hd2 hd3 hd4
 have hsee:jV f (x:Int) (k:Int) v=true:=by rw[←HSB.out];exact HK1.out
 obtain⟨u,rfl,hu⟩:=rA hsee
 have HSE:=hid hsee
 have hut:u<T.length:=by rw[HBD.out.typ.1,HBD.out.len];exact hu
 have hutn:u<tn:=by rw[←HBD.out.typ.1];exact hut
 have hu0:(0:Int)≤(u:Int):=by omega
 have huz:(u:Int)<(tn:Int):=by omega
 obtain⟨gt,ot,rfl,_,htc⟩:=(HBD.out.typ.since HB2.out).2 (by omega)
 have htz:w2.cell? ⟨gt,ot+u,none⟩=some (.int .i64 (nth T u)):=by rw[htc u hut,bN hut];rfl
 obtain⟨z,hzz⟩:∃ z,z=nth T u:=⟨_,rfl⟩
 have HZZ:=hid hzz
 rw[←hzz]at htz
 clear htc hut hutn hu hsee hzz
 go_wp2_with(go_at_call 49;(with_reducible refine(bS _ _).mono ?_);intro e w3 hq;rcases hq.split with⟨hk,rfl,rfl⟩|⟨hk,rfl,rfl⟩;rotate_left;(exact⟨rfl,au.bad (by unfold mq;rw[HSE.out,Int.toNat_natCast,←HZZ.out];simpa using hk) (HB.out.trans (HB2.out.mono HB.out.size))⟩);have HR:Hid (au (mq f T x k (u:Int)) w (.returned (.tuple #[])) w2):=hid (au.good (by unfold mq;rw[HSE.out,Int.toNat_natCast,←HZZ.out];simpa using hk) (HB.out.trans (HB2.out.mono HB.out.size)));clear hk)
 go_end0
 exact HR.out
theorem iU{w W1:World}{v0 v1 v2 v3 v4 v5:Value}(hs1:w.heap.size<W1.heap.size)(hd:∀ j,W1.cell? ⟨w.heap.size,j,none⟩=(#[v0,v1,v2,v3,v4,v5]:Array Value)[j]?)(U:World)(hU:Below W1.heap.size W1 U):U.cell? ⟨w.heap.size,0,none⟩=some v0∧U.cell? ⟨w.heap.size,1,none⟩=some v1∧U.cell? ⟨w.heap.size,2,none⟩=some v2∧U.cell? ⟨w.heap.size,3,none⟩=some v3∧U.cell? ⟨w.heap.size,4,none⟩=some v4∧U.cell? ⟨w.heap.size,5,none⟩=some v5:=
 ⟨(hU.cell (p:=⟨w.heap.size,0,none⟩) hs1).trans (hd 0),(hU.cell (p:=⟨w.heap.size,1,none⟩) hs1).trans (hd 1),(hU.cell (p:=⟨w.heap.size,2,none⟩) hs1).trans (hd 2),(hU.cell (p:=⟨w.heap.size,3,none⟩) hs1).trans (hd 3),(hU.cell (p:=⟨w.heap.size,4,none⟩) hs1).trans (hd 4),(hU.cell (p:=⟨w.heap.size,5,none⟩) hs1).trans (hd 5)⟩
theorem qZ{g:Nat}{sa:Option Addr}{sn sc:Nat}{ca:Option Addr}{cn cc:Nat}{pa:Option Addr}{pn pc:Nat}{P:aB}{a:Option Addr}{n c:Nat}{f:ak}{fa ua:Option Addr}{m:Nat}{UP:List Int}{ta:Option Addr}{tn:Nat}{T:List Int}(fc uc tc:Nat)(x:Nat)(v t:Int)(w:World)(h:l6 w g sa sn sc ca cn cc pa pn pc P a n c f fa ua m UP ta tn T)(hx:x<n):
 Calls Tryz.prog 120 #[.agg #[.pointer (some ⟨g,0,none⟩),.int .i64 f.ret,.slice a n c,.slice fa (n+1) fc,.slice ua n uc,.slice ta tn tc],.int .i64 (x:Int),.int .i64 v,.int .i64 t] w (au (dK f T x v t) w):=by
 obtain⟨hb1,hd,hs1⟩:=nL w #[.pointer (some ⟨g,0,none⟩),.int .i64 f.ret,.slice a n c,.slice fa (n+1) fc,.slice ua n uc,.slice ta tn tc]
 obtain⟨W1,hW1⟩:∃ U,w.alloc (.cells #[.pointer (some ⟨g,0,none⟩),.int .i64 f.ret,.slice a n c,.slice fa (n+1) fc,.slice ua n uc,.slice ta tn tc] 98)=U:=⟨_,rfl⟩
 rw[hW1]at hb1 hd hs1
 have hB:=h.since hb1
 have HB:=hid hb1
 have HBD:=hid hB
 have hxl:x<f.blocks.length:=by rw[←hB.scop.len];exact hx
 obtain⟨g8,off8,qa,qc,oa,oc,rfl,hq0,hq1⟩:=hB.scop.block hxl
 have hg8:g8<W1.heap.size:=World.block_lt_of_cell? _ _ hq1
 obtain⟨on,hon⟩:∃ z,z=f.blocks[x].ops.length:=⟨_,rfl⟩
 have hopn:qP f x=on:=by rw[jC hxl,hon]
 rw[←hon]at hq1
 have HON:=hid hopn
 have hsl:w.heap.size<W1.heap.size:=by omega
 have HD5:=hid (fun U hU=>(iU hsl hd U hU).2.2.2.2.2)
 have CU:Hid (∀u,Below W1.heap.size W1 u→Calls Tryz.prog 119 #[.agg #[.pointer (some ⟨g,0,none⟩),.int .i64 f.ret,.slice (some ⟨g8,off8,none⟩) n c,.slice fa (n+1) fc,.slice ua n uc,.slice ta tn tc],.int .i64 (x:Int),.int .i64 (on:Int),.int .i64 v] u (au (mq f T x on v) u)):=hid fun u hu=>um fc uc tc x on v u (hB.since hu)
 obtain⟨rt,hrt⟩:∃ t,t=f.ret:=⟨_,rfl⟩
 rw[←hrt]at hd CU hW1⊢
 have HS0:Hid (∀u,Below W1.heap.size W1 u→u.cell? ⟨w.heap.size,0,none⟩=some (.pointer (some ⟨g,0,none⟩))∧u.cell? ⟨w.heap.size,1,none⟩=some (.int .i64 rt)∧u.cell? ⟨w.heap.size,2,none⟩=some (.slice (some ⟨g8,off8,none⟩) n c)∧u.cell? ⟨w.heap.size,3,none⟩=some (.slice fa (n+1) fc)∧u.cell? ⟨w.heap.size,4,none⟩=some (.slice ua n uc)∧u.cell? ⟨w.heap.size,5,none⟩=some (.slice ta tn tc)∧u.cell? ⟨g8,off8+x*8+1,none⟩=some (.slice oa on oc)):=hid fun u hu=>by
  obtain⟨c0,c1,c2,c3,c4,c5⟩:=iU hsl hd u hu
  exact⟨c0,c1,c2,c3,c4,c5,(hu.cell (p:=⟨g8,off8+x*8+1,none⟩) hg8).trans hq1⟩
 have hxz:(x:Int)<(n:Int):=by omega
 have hx0:(0:Int)≤(x:Int):=by omega
 clear hb1 hs1 h hB hd hrt hq0 hq1 hg8 hon hopn hsl hxl
 go_enter Tryz.func120,Tryz.ntmps120
 go_upto_region 1 with fail
 try rw[hW1]
 clear hW1
 refine bM (S:=(fun u:World=>u.cell? ⟨w.heap.size,0,none⟩=some (.pointer (some ⟨g,0,none⟩))∧u.cell? ⟨w.heap.size,1,none⟩=some (.int .i64 rt)∧u.cell? ⟨w.heap.size,2,none⟩=some (.slice (some ⟨g8,off8,none⟩) n c)∧u.cell? ⟨w.heap.size,3,none⟩=some (.slice fa (n+1) fc)∧u.cell? ⟨w.heap.size,4,none⟩=some (.slice ua n uc)∧u.cell? ⟨w.heap.size,5,none⟩=some (.slice ta tn tc)∧u.cell? ⟨g8,off8+x*8+1,none⟩=some (.slice oa on oc))) 13 (by kernel_rfl) (HS0.out _ ((Below.refl _ W1).drew)) (fun hHeld=> ?_)
 refine zT 0 8 8 ?_
 (try simp only[Act.put,zA,zB,zC])
 refine zW 1 9 ?_
 (try simp only[Act.put,zA,zB,zC])
 refine zW 2 10 ?_
 (try simp only[Act.put,zA,zB,zC])
 refine zW 3 11 ?_
 (try simp only[Act.put,zA,zB,zC])
 refine zW 4 12 ?_
 (try simp only[Act.put,zA,zB,zC])
 refine zT 5 13 8 ?_
 (try simp only[Act.put,zA,zB,zC])
 refine zW 6 14 ?_
 (try simp only[Act.put,zA,zB,zC])
 refine zW 7 15 ?_
 (try simp only[Act.put,zA,zB,zC])
 refine zW 8 16 ?_
 (try simp only[Act.put,zA,zB,zC])
 refine zT 9 17 8 ?_
 (try simp only[Act.put,zA,zB,zC])
 refine zW 10 18 ?_
 (try simp only[Act.put,zA,zB,zC])
 refine zW 11 19 ?_
 (try simp only[Act.put,zA,zB,zC])
 refine aO (i:=12) (by kernel_rfl) rfl (fun K hK=> ?_)
 rw[if_pos (by rfl)]
 go_simp
 (with_reducible refine(CU.out _ ((Below.refl _ W1).drew)).mono ?_)
 intro e w2 hq
 rcases hq.split with⟨hk,rfl,hb⟩|⟨hk,rfl,hb⟩
 rotate_left
 ·exact⟨rfl,au.bad (by unfold dK;rw[HON.out,hk];rfl) (HB.out.trans (((Below.refl _ W1).drew.trans (hb.mono (Nat.le_refl _))).mono HB.out.size))⟩
 have hb2:Below W1.heap.size W1 w2:=(Below.refl _ W1).drew.trans (hb.mono (Nat.le_refl _))
 have HB2:=hid hb2
 have HK1:=hid hk
 clear hk hb hb2
 refine hK.out _ _ (HS0.out _ HB2.out) (fun hHeld=> ?_)
 clear hK K
 (try simp only[Act.put,zA,zB,zC])
 refine bH (by kernel_rfl) ?_
 have hsee:jV f (x:Int) ((qP f x:Nat):Int) v=true:=by
  have h1:=HK1.out
  unfold mq at h1
  rw[←HON.out]at h1
  exact(Bool.and_eq_true_iff.1 h1).1
 obtain⟨u,rfl,hu⟩:=rA hsee
 have hut:u<T.length:=by rw[HBD.out.typ.1,HBD.out.len];exact hu
 have hutn:u<tn:=by rw[←HBD.out.typ.1];exact hut
 have hu0:(0:Int)≤(u:Int):=by omega
 have huz:(u:Int)<(tn:Int):=by omega
 obtain⟨gt,ot,rfl,_,htc⟩:=(HBD.out.typ.since HB2.out).2 (by omega)
 have htz:w2.cell? ⟨gt,ot+u,none⟩=some (.int .i64 (nth T u)):=by rw[htc u hut,bN hut];rfl
 have h5:=HD5.out w2 HB2.out
 obtain⟨z,hzz⟩:∃ z,z=nth T u:=⟨_,rfl⟩
 have HZZ:=hid hzz
 rw[←hzz]at htz
 clear htc hut hutn hu hsee hzz
 go_wp2_with(go_at_call 49;(with_reducible refine(bS _ _).mono ?_);intro e w3 hq;rcases hq.split with⟨hk,rfl,rfl⟩|⟨hk,rfl,rfl⟩;rotate_left;(exact⟨rfl,au.bad (by unfold dK;rw[HON.out,HK1.out,Int.toNat_natCast,←HZZ.out];simpa using hk) (HB.out.trans (HB2.out.mono HB.out.size))⟩);have HR:Hid (au (dK f T x (u:Int) t) w (.returned (.tuple #[])) w2):=hid (au.good (by unfold dK;rw[HON.out,HK1.out,Int.toNat_natCast,←HZZ.out];simpa using hk) (HB.out.trans (HB2.out.mono HB.out.size)));clear hk)
 go_end0
 exact HR.out
theorem wK{g:Nat}{sa:Option Addr}{sn sc:Nat}{ca:Option Addr}{cn cc:Nat}{pa:Option Addr}{pn pc:Nat}{P:aB}{a:Option Addr}{n c:Nat}{f:ak}{fa ua:Option Addr}{m:Nat}{UP:List Int}{ta:Option Addr}{tn:Nat}{T:List Int}(fc uc tc:Nat)(x:Nat)(To:Int)(L:List Int)(la:Option Addr)(ln lc:Nat)(w:World)(h:l6 w g sa sn sc ca cn cc pa pn pc P a n c f fa ua m UP ta tn T)(hx:x<n)(hL:ai w la ln L)(hln:ln≤140737488355328):
 Calls Tryz.prog 122 #[.agg #[.pointer (some ⟨g,0,none⟩),.int .i64 f.ret,.slice a n c,.slice fa (n+1) fc,.slice ua n uc,.slice ta tn tc],.int .i64 (x:Int),.agg #[.int .i64 To,.slice la ln lc]] w (au (nu f T x (To,L)) w):=by
 have h2:=iN w #[.pointer (some ⟨g,0,none⟩),.int .i64 f.ret,.slice a n c,.slice fa (n+1) fc,.slice ua n uc,.slice ta tn tc] #[.int .i64 To,.slice la ln lc] 98 142
 obtain⟨W1,hW1⟩:∃ U,(w.alloc (.cells #[.pointer (some ⟨g,0,none⟩),.int .i64 f.ret,.slice a n c,.slice fa (n+1) fc,.slice ua n uc,.slice ta tn tc] 98)).alloc (.cells #[.int .i64 To,.slice la ln lc] 142)=U:=⟨_,rfl⟩
 have hb1:Below w.heap.size w W1:=by rw[←hW1];exact((Below.refl _ w).alloc (Nat.le_refl _) _).alloc (by simp) _
 have hs1:W1.heap.size=w.heap.size+2:=by rw[←hW1];simp
 rw[hW1]at h2
 obtain⟨hd,he⟩:=h2
 have hB:=h.since hb1
 have HB:=hid hb1
 have HBD:=hid hB
 have HX:=hid hx
 have HL:=hid (hL.since hb1)
 have HLN:Hid (L.length=ln):=hid hL.1
 have hsl:w.heap.size<W1.heap.size:=by omega
 have he0:=he 0
 have he1:=he 1
 have hd2:=hd 2
 have HE1:Hid (∀U,Below W1.heap.size W1 U→U.cell? ⟨w.heap.size+1,1,none⟩=some (.slice la ln lc)):=hid fun U hU=>(hU.cell (p:=⟨w.heap.size+1,1,none⟩) (by simp only[];omega)).trans (he 1)
 have hn8:n≤100000:=hB.scop.small
 have hnl:=hB.scop.len
 by_cases hT0:0<To
 ·obtain⟨k,rfl⟩:=Int.eq_ofNat_of_zero_le (by omega:0≤To)
  by_cases hTn:k<n
  ·have hTz:(k:Int)<(n:Int):=by omega
   have hk0:(0:Int)≤(k:Int):=by omega
   obtain⟨g8,off8,cs,hif,rfl,hl8,hcell,hq⟩:=hB.scop.row.elem hTn
   obtain⟨X,hX⟩:∃ X,X=f.blocks[k]:=⟨_,rfl⟩
   rw[←hX]at hq
   obtain⟨pv,ov,es,rfl,⟨qa,qn,qc,rfl,hq0,_⟩,_⟩:=hq
   have hq1:=hcell 0 (by simp)
   simp only[Nat.add_zero,List.getElem_cons_zero]at hq1
   have hpar:nU f k=X.params:=by rw[iZ hif,hX]
   have HQN:=hid hq0
   have HQL:Hid (X.params.length=qn):=hid hq0.1
   have HTG:Hid (nu f T x ((k:Int),L)=(decide (ln=qn)&&fq (fun i=>dK f T x (nth L i) (nth X.params i)) ln)):=hid (by
    unfold nu
    rw[decide_eq_true (show 0<(k:Int)∧(k:Int)<(f.blocks.length:Int)from⟨hT0,by omega⟩)]
    simp only[Int.toNat_natCast,hpar,hL.1,hq0.1,Bool.true_and])
   have CU:Hid (∀u,Below W1.heap.size W1 u→∀ v t,Calls Tryz.prog 120 #[.agg #[.pointer (some ⟨g,0,none⟩),.int .i64 f.ret,.slice (some ⟨g8,off8,none⟩) n c,.slice fa (n+1) fc,.slice ua n uc,.slice ta tn tc],.int .i64 (x:Int),.int .i64 v,.int .i64 t] u (au (dK f T x v t) u)):=hid fun u hu v t=>qZ fc uc tc x v t u (hB.since hu) hx
   obtain⟨rt,hrt⟩:∃ t,t=f.ret:=⟨_,rfl⟩
   rw[←hrt]at hd CU hW1⊢
   have HS6:Hid (∀u,Below W1.heap.size W1 u→u.cell? ⟨w.heap.size,0,none⟩=some (.pointer (some ⟨g,0,none⟩))∧u.cell? ⟨w.heap.size,1,none⟩=some (.int .i64 rt)∧u.cell? ⟨w.heap.size,2,none⟩=some (.slice (some ⟨g8,off8,none⟩) n c)∧u.cell? ⟨w.heap.size,3,none⟩=some (.slice fa (n+1) fc)∧u.cell? ⟨w.heap.size,4,none⟩=some (.slice ua n uc)∧u.cell? ⟨w.heap.size,5,none⟩=some (.slice ta tn tc)):=hid fun u hu=>iU hsl hd u hu
   obtain⟨bb,hbb1⟩:∃ b,((ln:Int)==(qn:Int))=b:=⟨_,rfl⟩
   have hbb2:(ln==qn)=bb:=by rw[←hbb1,Bool.eq_iff_iff,beq_iff_eq,beq_iff_eq];omega
   have HBB:Hid (decide (ln=qn)=bb):=hid (by rw[←hbb2];rfl)
   have HBQ:Hid (bb=true↔ln=qn):=hid (by rw[←hbb2,beq_iff_eq])
   clear hcell hl8 hX hpar hq0 hb1 hs1 h hB hrt hsl hL hif hx hnl
   go_enter Tryz.func122,Tryz.ntmps122
   go_upto_region 1 with fail
   try rw[hW1]
   clear hW1
   go_upto_region 2 with(go_at_call 49;(with_reducible refine(bS _ _).mono ?_);intro e w3 hq;rcases hq.split with⟨hk,rfl,rfl⟩|⟨hk,rfl,rfl⟩;rotate_left;(exfalso;cases hk);clear hk)
   go_upto_region 4 with(go_at_call 49;(with_reducible refine(bS _ _).mono ?_);intro e w3 hq;rcases hq.split with⟨hk,rfl,rfl⟩|⟨hk,rfl,rfl⟩;rotate_left;(exact⟨rfl,au.bad (by rw[HTG.out,HBB.out,hk];rfl) HB.out⟩);have HK1:=hid hk;clear hk)
   clear hd2 he0 hbb1 hbb2 hd he
   have HLQ:Hid (ln=qn):=hid (HBQ.out.1 HK1.out)
   go_upto_region 5 with fail
   clear he1 hq1
   go_loopw[42] (fun v42 wr=>∃ i:Nat,i≤ln∧v42=.int .i64 (i:Int)∧Hid (fq (fun i=>dK f T x (nth L i) (nth X.params i)) i=true∧Below W1.heap.size W1 wr)) (fun iv _=>ln-(intOf iv).toNat)
   case atStart=>exact⟨0,Nat.zero_le _,rfl,hid ⟨rfl,Below.refl _ _⟩⟩
   case round=>
    obtain⟨i,hi,rfl,HI⟩:=hrel
    by_cases hlt:i<ln
    ·have hltz:(i:Int)<(ln:Int):=by omega
     have hi0:(0:Int)≤(i:Int):=by omega
     have hil:i<L.length:=by have:=HLN.out;omega
     have hiq:i<X.params.length:=by have:=HQL.out;have:=HLQ.out;omega
     have hiqz:(i:Int)<(qn:Int):=by have:=HLQ.out;omega
     obtain⟨ga,oa,rfl,hg,hcell⟩:=(HL.out.since HI.out.2).2 (by omega)
     have hz:wr.cell? ⟨ga,oa+i,none⟩=some (.int .i64 (nth L i)):=by rw[hcell i hil,bN hil];rfl
     obtain⟨gq,oq,rfl,hgq,hcelq⟩:=(HQN.out.since HI.out.2).2 (by have:=HLQ.out;omega)
     have hy:wr.cell? ⟨gq,oq+i,none⟩=some (.int .i64 (nth X.params i)):=by rw[hcelq i hiq,bN hiq];rfl
     obtain⟨z,hzz⟩:∃ z,z=nth L i:=⟨_,rfl⟩
     obtain⟨y,hyy⟩:∃ y,y=nth X.params i:=⟨_,rfl⟩
     have HZY:Hid (dK f T x (nth L i) (nth X.params i)=dK f T x z y):=hid (by rw[hzz,hyy])
     rw[←hzz]at hz
     rw[←hyy]at hy
     have HLT:=hid hlt
     have HXC:Hid (∀u,Below wr.heap.size wr u→(u.cell? ⟨w.heap.size,0,none⟩=some (.pointer (some ⟨g,0,none⟩))∧u.cell? ⟨w.heap.size,1,none⟩=some (.int .i64 rt)∧u.cell? ⟨w.heap.size,2,none⟩=some (.slice (some ⟨g8,off8,none⟩) n c)∧u.cell? ⟨w.heap.size,3,none⟩=some (.slice fa (n+1) fc)∧u.cell? ⟨w.heap.size,4,none⟩=some (.slice ua n uc)∧u.cell? ⟨w.heap.size,5,none⟩=some (.slice ta tn tc))∧u.cell? ⟨gq,oq+i,none⟩=some (.int .i64 y)):=hid fun u hu=>⟨HS6.out u (HI.out.2.trans (hu.mono HI.out.2.size)),(hu.cell (p:=⟨gq,oq+i,none⟩) hgq).trans hy⟩
     clear hcell hg hil hzz hyy hcelq hiq hgq
     go_upto_region 7 with fail
     clear hz hy
     refine bM (S:=(fun u:World=>(u.cell? ⟨w.heap.size,0,none⟩=some (.pointer (some ⟨g,0,none⟩))∧u.cell? ⟨w.heap.size,1,none⟩=some (.int .i64 rt)∧u.cell? ⟨w.heap.size,2,none⟩=some (.slice (some ⟨g8,off8,none⟩) n c)∧u.cell? ⟨w.heap.size,3,none⟩=some (.slice fa (n+1) fc)∧u.cell? ⟨w.heap.size,4,none⟩=some (.slice ua n uc)∧u.cell? ⟨w.heap.size,5,none⟩=some (.slice ta tn tc))∧u.cell? ⟨gq,oq+i,none⟩=some (.int .i64 y))) 8 (by kernel_rfl) (HXC.out _ ((Below.refl _ wr).drew)) (fun hHeld=> ?_)
     refine zT 0 47 8 ?_
     (try simp only[Act.put,zA,zB,zC])
     refine zW 1 48 ?_
     (try simp only[Act.put,zA,zB,zC])
     refine zW 2 49 ?_
     (try simp only[Act.put,zA,zB,zC])
     refine zW 3 50 ?_
     (try simp only[Act.put,zA,zB,zC])
     refine zW 4 51 ?_
     (try simp only[Act.put,zA,zB,zC])
     refine zW 5 52 ?_
     (try simp only[Act.put,zA,zB,zC])
     refine zT 6 53 8 ?_
     (try simp only[Act.put,zA,zB,zC])
     refine aO (i:=7) (by kernel_rfl) rfl (fun K hK=> ?_)
     rw[if_pos (by rfl)]
     go_simp
     (with_reducible refine(CU.out _ (HI.out.2.drew) z y).mono ?_)
     intro e w7 hq
     rcases hq.split with⟨hk,rfl,hb⟩|⟨hk,rfl,hb⟩
     rotate_left
     ·exact⟨rfl,au.bad (by rw[HTG.out,dQ (p:=fun i=>dK f T x (nth L i) (nth X.params i)) HLT.out (by simp only[HZY.out];exact hk)];simp) (HB.out.trans ((HI.out.2.trans (((Below.refl _ wr).drew.trans (hb.mono (Nat.le_refl _))).mono HI.out.2.size)).mono HB.out.size))⟩
     have hb7:Below wr.heap.size wr w7:=(Below.refl _ wr).drew.trans (hb.mono (Nat.le_refl _))
     have HB7:=hid hb7
     have HK5:Hid (fq (fun i=>dK f T x (nth L i) (nth X.params i)) (i+1)=true∧Below W1.heap.size W1 w7):=hid ⟨bX HI.out.1 (by simp only[HZY.out];exact hk),HI.out.2.trans (hb7.mono HI.out.2.size)⟩
     clear hk hb hb7
     refine hK.out _ _ (HXC.out _ HB7.out) (fun hHeld=> ?_)
     clear hK K
     (try simp only[Act.put,zA,zB,zC])
     refine bH (by kernel_rfl) ?_
     go_wp2_with fail
     go_roundw
     case rel=>exact⟨i+1,HLT.out,by go_num,HK5⟩
     case measure=>have:=HLT.out;simp[intOf];omega
    ·obtain rfl:i=ln:=by omega
     have hnn:¬ (i:Int)<(i:Int):=by omega
     have HK:Hid (nu f T x ((k:Int),L)=true):=hid (by rw[HTG.out,HBB.out,HK1.out,HI.out.1];rfl)
     go_wp2_with fail
     go_end0
     exact au.good HK.out (HB.out.trans (HI.out.2.mono HB.out.size))
  ·have HTG:Hid (nu f T x ((k:Int),L)=false):=hid (by
    unfold nu
    rw[decide_eq_false (fun h=>by have:=h.2;omega)]
    rfl)
   have hTz:¬ (k:Int)<(n:Int):=by omega
   clear hb1 hs1 h hB hsl hL hx hd he he1 hnl
   go_enter Tryz.func122,Tryz.ntmps122
   go_upto_region 1 with fail
   try rw[hW1]
   clear hW1
   go_wp2_with(go_at_call 49;(with_reducible refine(bS _ _).mono ?_);intro e w3 hq;rcases hq.split with⟨hk,rfl,rfl⟩|⟨hk,rfl,rfl⟩;(exfalso;cases hk))
   exact⟨rfl,au.bad HTG.out HB.out⟩
 ·have HTG:Hid (nu f T x (To,L)=false):=hid (by
   unfold nu
   rw[decide_eq_false (fun h=>hT0 h.1)]
   rfl)
  clear hb1 hs1 h hB hsl hL hx hd he he1 hd2 hnl
  go_enter Tryz.func122,Tryz.ntmps122
  go_upto_region 1 with fail
  try rw[hW1]
  clear hW1
  go_wp2_with(go_at_call 49;(with_reducible refine(bS _ _).mono ?_);intro e w3 hq;rcases hq.split with⟨hk,rfl,rfl⟩|⟨hk,rfl,rfl⟩;(exfalso;cases hk))
  exact⟨rfl,au.bad HTG.out HB.out⟩
theorem tgAt_at{e:mV}{i:Nat}(h:i<(pU e).length):Hl e i=(pU e)[i]:=by unfold Hl;rw[List.getElem?_eq_getElem h]
theorem Ao{e:mV}{b:Nat}(h1:e.L.length≤b)(h2:e.M.length≤b):∀ t∈pU e,t.2.length≤b:=by
 intro t ht
 unfold pU at ht
 split at ht
 ·simp at ht;subst ht;exact h1
 ·split at ht
  ·simp at ht;rcases ht with rfl|rfl
   ·exact h1
   ·exact h2
  ·cases ht
set_option maxRecDepth 100000 in
set_option maxHeartbeats 8000000 in
theorem Cv{g:Nat}{sa:Option Addr}{sn sc:Nat}{ca:Option Addr}{cn cc:Nat}{pa:Option Addr}{pn pc:Nat}{P:aB}{a:Option Addr}{n c:Nat}{f:ak}{fa ua:Option Addr}{m:Nat}{UP:List Int}{ta:Option Addr}{tn:Nat}{T:List Int}(fc uc tc:Nat)(x:Nat)(w:World)(h:l6 w g sa sn sc ca cn cc pa pn pc P a n c f fa ua m UP ta tn T)(hx:x<n):
 Calls Tryz.prog 89 #[.agg #[.pointer (some ⟨g,0,none⟩),.int .i64 f.ret,.slice a n c,.slice fa (n+1) fc,.slice ua n uc,.slice ta tn tc],.int .i64 (x:Int)] w (au (Gw f T x) w):=by
 obtain⟨hb1,hd,hs1⟩:=nL w #[.pointer (some ⟨g,0,none⟩),.int .i64 f.ret,.slice a n c,.slice fa (n+1) fc,.slice ua n uc,.slice ta tn tc]
 obtain⟨W1,hW1⟩:∃ U,w.alloc (.cells #[.pointer (some ⟨g,0,none⟩),.int .i64 f.ret,.slice a n c,.slice fa (n+1) fc,.slice ua n uc,.slice ta tn tc] 98)=U:=⟨_,rfl⟩
 rw[hW1]at hb1 hd hs1
 have hB:=h.since hb1
 have HB:=hid hb1
 have HBD:=hid hB
 have hd2:=hd 2
 have hsl:w.heap.size<W1.heap.size:=by omega
 have hxl:x<f.blocks.length:=by rw[←hB.scop.len];exact hx
 have hxz:(x:Int)<(n:Int):=by omega
 have hx0:(0:Int)≤(x:Int):=by omega
 obtain⟨g8,off8,cs,hif,rfl,hl8,hcell,hq⟩:=hB.scop.row.elem hx
 obtain⟨X,hX⟩:∃ X,X=f.blocks[x]:=⟨_,rfl⟩
 rw[←hX]at hq
 obtain⟨pv,ov,es,rfl,_,_,l1,m1,rfl,r1,r2,r3,r4,⟨la,ln,lc,rfl,hl,hl0,hln8,_⟩,⟨ma,mn,mc,rfl,hm,hm0,hmn8,_⟩⟩:=hq
 have hq2:=hcell 2 (by simp)
 have hq3:=hcell 3 (by simp)
 have hq4:=hcell 4 (by simp)
 have hq5:=hcell 5 (by simp)
 have hq6:=hcell 6 (by simp)
 have hq7:=hcell 7 (by simp)
 simp only[Nat.add_zero,List.getElem_cons_zero,List.getElem_cons_succ]at hq2 hq3 hq4 hq5 hq6 hq7
 have hE:aN f x=X.fin:=by rw[pR hif,hX]
 obtain⟨K,hK⟩:∃ K,K=X.fin.K:=⟨_,rfl⟩
 have HEB:Hid (Gw f T x=(zH f T x&&fq (fun i=>nu f T x (Hl X.fin i)) (pU X.fin).length)):=hid (by unfold Gw;rw[hE])
 have HF:Hid (zH f T x=(if K=1 then dK f T x X.fin.A 1 else if K=3 then dK f T x X.fin.A 0 else if K=2 then(if f.ret= -1 then X.fin.A==0 else dK f T x X.fin.A f.ret)else true)):=hid (by unfold zH;rw[hE,←hK])
 have HTB:=hid (Ao (e:=X.fin) (b:=17592186044000) (by rw[hl.1];omega) (by rw[hm.1];omega))
 have CT:Hid (∀u,Below W1.heap.size W1 u→Calls Tryz.prog 121 #[.agg #[.int .i64 K,.int .i64 X.fin.A,.int .i64 X.fin.To,.int .i64 X.fin.Else,.slice la ln lc,.slice ma mn mc]] u fun e' w'=>∃ va vn vc l,e'=.returned (.slice va vn vc)∧gK w' u.heap.size (.slice va vn vc) l∧uj w' u.heap.size l (pU X.fin)∧Below u.heap.size u w'):=hid fun u hu=>by
  rw[hK]
  exact vQ X.fin.A la ln lc ma mn mc X.fin u (hl.since hu) hl0 hln8 (hm.since hu) hm0 hmn8
 have CU:Hid (∀u,Below W1.heap.size W1 u→∀ v t,Calls Tryz.prog 120 #[.agg #[.pointer (some ⟨g,0,none⟩),.int .i64 f.ret,.slice (some ⟨g8,off8,none⟩) n c,.slice fa (n+1) fc,.slice ua n uc,.slice ta tn tc],.int .i64 (x:Int),.int .i64 v,.int .i64 t] u (au (dK f T x v t) u)):=hid fun u hu v t=>qZ fc uc tc x v t u (hB.since hu) hx
 have CG:Hid (∀u,Below W1.heap.size W1 u→∀ To L ka kn kc,ai u ka kn L→kn≤140737488355328→Calls Tryz.prog 122 #[.agg #[.pointer (some ⟨g,0,none⟩),.int .i64 f.ret,.slice (some ⟨g8,off8,none⟩) n c,.slice fa (n+1) fc,.slice ua n uc,.slice ta tn tc],.int .i64 (x:Int),.agg #[.int .i64 To,.slice ka kn kc]] u (au (nu f T x (To,L)) u)):=hid fun u hu To L ka kn kc hk hkn=>wK fc uc tc x To L ka kn kc u (hB.since hu) hx hk hkn
 obtain⟨rt,hrt⟩:∃ t,t=f.ret:=⟨_,rfl⟩
 rw[←hrt]at hd CU CG hW1 HF⊢
 have HS6:Hid (∀u,Below W1.heap.size W1 u→u.cell? ⟨w.heap.size,0,none⟩=some (.pointer (some ⟨g,0,none⟩))∧u.cell? ⟨w.heap.size,1,none⟩=some (.int .i64 rt)∧u.cell? ⟨w.heap.size,2,none⟩=some (.slice (some ⟨g8,off8,none⟩) n c)∧u.cell? ⟨w.heap.size,3,none⟩=some (.slice fa (n+1) fc)∧u.cell? ⟨w.heap.size,4,none⟩=some (.slice ua n uc)∧u.cell? ⟨w.heap.size,5,none⟩=some (.slice ta tn tc)):=hid fun u hu=>iU hsl hd u hu
 rw[←hK]at hq2
 clear hb1 hs1 h hB hrt hsl hxl hif hcell hl8 hX hl hl0 hln8 hm hm0 hmn8 r1 r2 r3 r4 hE hK hx hd
 go_enter Tryz.func89,Tryz.ntmps89
 go_upto_region 1 with fail
 try rw[hW1]
 clear hW1
 go_upto_region 2 with fail
 obtain⟨Y,hY⟩:∃ u,u=W1.alloc (.cells #[.int .i64 K,.int .i64 X.fin.A,.int .i64 X.fin.To,.int .i64 X.fin.Else,.slice la ln lc,.slice ma mn mc] 49):=⟨_,rfl⟩
 have hbY:Below W1.heap.size W1 Y:=by rw[hY];exact(Below.refl _ W1).alloc (Nat.le_refl _) _
 have hcY:∀ j,Y.cell? ⟨W1.heap.size,j,none⟩=(#[.int .i64 K,.int .i64 X.fin.A,.int .i64 X.fin.To,.int .i64 X.fin.Else,.slice la ln lc,.slice ma mn mc]:Array Value)[j]? :=fun j=>by rw[hY];exact World.cell?_alloc_mark _ _ _ _ _
 have hpy:W1.heap.size<Y.heap.size:=by rw[hY];simp
 rw[←hY]
 obtain⟨p,hp⟩:∃ p,p=W1.heap.size:=⟨_,rfl⟩
 rw[←hp]at hcY hpy⊢
 have HBY:=hid hbY
 have HYC:Hid (∀u,Below Y.heap.size Y u→(u.cell? ⟨w.heap.size,0,none⟩=some (.pointer (some ⟨g,0,none⟩))∧u.cell? ⟨w.heap.size,1,none⟩=some (.int .i64 rt)∧u.cell? ⟨w.heap.size,2,none⟩=some (.slice (some ⟨g8,off8,none⟩) n c)∧u.cell? ⟨w.heap.size,3,none⟩=some (.slice fa (n+1) fc)∧u.cell? ⟨w.heap.size,4,none⟩=some (.slice ua n uc)∧u.cell? ⟨w.heap.size,5,none⟩=some (.slice ta tn tc))∧u.cell? ⟨p,0,none⟩=some (.int .i64 K)∧u.cell? ⟨p,1,none⟩=some (.int .i64 X.fin.A)∧u.cell? ⟨p,2,none⟩=some (.int .i64 X.fin.To)∧u.cell? ⟨p,3,none⟩=some (.int .i64 X.fin.Else)∧u.cell? ⟨p,4,none⟩=some (.slice la ln lc)∧u.cell? ⟨p,5,none⟩=some (.slice ma mn mc)):=hid fun u hu=>⟨HS6.out u (HBY.out.trans (hu.mono HBY.out.size)),(hu.cell (p:=⟨p,0,none⟩) hpy).trans (hcY 0),(hu.cell (p:=⟨p,1,none⟩) hpy).trans (hcY 1),(hu.cell (p:=⟨p,2,none⟩) hpy).trans (hcY 2),(hu.cell (p:=⟨p,3,none⟩) hpy).trans (hcY 3),(hu.cell (p:=⟨p,4,none⟩) hpy).trans (hcY 4),(hu.cell (p:=⟨p,5,none⟩) hpy).trans (hcY 5)⟩
 clear hcY hY hbY hpy hp hd2 hq2 hq3 hq4 hq5 hq6 hq7
 obtain⟨⟨b0,b1,b2,b3,b4,b5⟩,e0,e1,e2,e3,e4,e5⟩:=HYC.out Y (Below.refl _ _)
 have hcase:K=1∨K=3∨(K=2∧rt= -1)∨(K=2∧rt≠ -1)∨(K≠1∧K≠3∧K≠2):=by omega
 rcases hcase with rfl|rfl|⟨rfl,rfl⟩|⟨rfl,hr⟩|⟨n1,n3,n2⟩
 focus
  have HFF:Hid (zH f T x=dK f T x X.fin.A 1):=hid (by rw[HF.out];rfl)
  clear HF
  go_upto_region 11 with(go_at_call 120;(with_reducible refine(CU.out _ HBY.out X.fin.A 1).mono ?_);intro e w7 hq;rcases hq.split with⟨hk,rfl,hb⟩|⟨hk,rfl,hb⟩;rotate_left;(exact⟨rfl,au.bad (by rw[HEB.out,HFF.out,hk];rfl) (HB.out.trans ((HBY.out.trans (hb.mono HBY.out.size)).mono HB.out.size))⟩);have HB7:=hid hb;have HK7:Hid (zH f T x=true):=hid (by rw[HFF.out];exact hk);clear hk hb)
 rotate_left
 focus
  have HFF:Hid (zH f T x=dK f T x X.fin.A 0):=hid (by rw[HF.out];rfl)
  clear HF
  go_upto_region 11 with(go_at_call 120;(with_reducible refine(CU.out _ HBY.out X.fin.A 0).mono ?_);intro e w7 hq;rcases hq.split with⟨hk,rfl,hb⟩|⟨hk,rfl,hb⟩;rotate_left;(exact⟨rfl,au.bad (by rw[HEB.out,HFF.out,hk];rfl) (HB.out.trans ((HBY.out.trans (hb.mono HBY.out.size)).mono HB.out.size))⟩);have HB7:=hid hb;have HK7:Hid (zH f T x=true):=hid (by rw[HFF.out];exact hk);clear hk hb)
 rotate_left
 focus
  have HFF:Hid (zH f T x=(X.fin.A==0)):=hid (by rw[HF.out];rfl)
  clear HF
  go_upto_region 11 with(go_at_call 49;(with_reducible refine(bS _ _).mono ?_);intro e w7 hq;rcases hq.split with⟨hk,rfl,rfl⟩|⟨hk,rfl,rfl⟩;rotate_left;(exact⟨rfl,au.bad (by rw[HEB.out,HFF.out,hk];rfl) (HB.out.trans (HBY.out.mono HB.out.size))⟩);have HK7:Hid (zH f T x=true):=hid (by rw[HFF.out];exact hk);clear hk)
  obtain⟨w7,hw7⟩:∃ u,u=Y:=⟨_,rfl⟩
  have HB7:Hid (Below Y.heap.size Y w7):=hid (by rw[hw7];exact Below.refl _ _)
  rw[←hw7]
  clear hw7
 rotate_left
 focus
  have HFF:Hid (zH f T x=dK f T x X.fin.A rt):=hid (by rw[HF.out];simp[hr])
  have hne:(rt != -1)=true:=by rw[bne_iff_ne];exact hr
  have hnee:(rt== -1)=false:=by rw[beq_eq_false_iff_ne];exact hr
  clear HF hr
  go_upto_region 11 with(go_at_call 120;(with_reducible refine(CU.out _ HBY.out X.fin.A rt).mono ?_);intro e w7 hq;rcases hq.split with⟨hk,rfl,hb⟩|⟨hk,rfl,hb⟩;rotate_left;(exact⟨rfl,au.bad (by rw[HEB.out,HFF.out,hk];rfl) (HB.out.trans ((HBY.out.trans (hb.mono HBY.out.size)).mono HB.out.size))⟩);have HB7:=hid hb;have HK7:Hid (zH f T x=true):=hid (by rw[HFF.out];exact hk);clear hk hb)
  clear hne hnee
 rotate_left
 focus
  have HK7:Hid (zH f T x=true):=hid (by rw[HF.out,if_neg n1,if_neg n3,if_neg n2])
  have k1:(K==1)=false:=by rw[beq_eq_false_iff_ne];exact n1
  have k2:(K==2)=false:=by rw[beq_eq_false_iff_ne];exact n2
  have k3:(K==3)=false:=by rw[beq_eq_false_iff_ne];exact n3
  clear HF n1 n2 n3
  go_upto_region 11 with fail
  clear k1 k2 k3
  obtain⟨w7,hw7⟩:∃ u,u=Y:=⟨_,rfl⟩
  have HB7:Hid (Below Y.heap.size Y w7):=hid (by rw[hw7];exact Below.refl _ _)
  rw[←hw7]
  clear hw7
 rotate_left
 all_goals
  clear b0 b1 b2 b3 b4 b5 e0 e1 e2 e3 e4 e5
  have HBX:Hid (Below W1.heap.size W1 w7):=hid (HBY.out.trans (HB7.out.mono HBY.out.size))
  obtain⟨⟨b0,b1,b2,b3,b4,b5⟩,e0,e1,e2,e3,e4,e5⟩:=HYC.out w7 HB7.out
  go_upto_region 12 with(go_at_call 121;(with_reducible refine(CT.out _ HBX.out).mono ?_);rintro e w8 ⟨va,vn,vc,l,rfl,ho,hcp,hb⟩;have HO8:=hid ho;have HCP:=hid hcp;have HB8:=hid hb;clear ho hcp hb)
  clear b0 b1 b2 b3 b4 b5 e0 e1 e2 e3 e4 e5 HYC CT
  have hvn:vn=l.length:=HO8.out.read.1
  have hll:l.length=(pU X.fin).length:=HCP.out.len
  have hvb:vn≤2:=by
   rw[hvn,hll]
   unfold pU
   split
   ·simp
   ·split<;>simp
  have HVL:Hid (vn=l.length∧l.length=(pU X.fin).length):=hid ⟨hvn,hll⟩
  have HBZ:Hid (Below W1.heap.size W1 w8):=hid (HBX.out.trans (HB8.out.mono HBX.out.size))
  obtain⟨B8,hB8⟩:∃ B,B=w7.heap.size:=⟨_,rfl⟩
  rw[←hB8]at HO8 HCP
  clear hvn hll hB8 HB8
  go_loopw[54] (fun v54 wr=>∃ i:Nat,i≤vn∧v54=.int .i64 (i:Int)∧Hid (fq (fun i=>nu f T x (Hl X.fin i)) i=true∧Below w8.heap.size w8 wr)) (fun iv _=>vn-(intOf iv).toNat)
  case atStart=>exact⟨0,Nat.zero_le _,rfl,hid ⟨rfl,Below.refl _ _⟩⟩
  case round=>
   obtain⟨i,hi,rfl,HI⟩:=hrel
   by_cases hlt:i<vn
   ·have hltz:(i:Int)<(vn:Int):=by omega
    have hi0:(0:Int)≤(i:Int):=by omega
    have hil:i<l.length:=by have:=HVL.out.1;omega
    have hit:i<(pU X.fin).length:=by have:=HVL.out.2;omega
    obtain⟨hcpt,hown⟩:=HCP.out.at i hil hit
    have hrd:=(gK.below HO8.out HI.out.2).read.2
    obtain⟨gt,rfl,_,hgl,hcel⟩:=hrd (by omega)
    obtain⟨c0,c1⟩:=hcel i hil
    obtain⟨Z,hZ⟩:∃ Z,Z=l[i]:=⟨_,rfl⟩
    rw[←hZ]at hcpt hown c0 c1
    obtain⟨z1,ka,kn,kc⟩:=Z
    simp only[]at hcpt hown c0 c1
    have htg:Hl X.fin i=(z1,(pU X.fin)[i].2):=by rw[tgAt_at hit,hcpt]
    obtain⟨L,hL⟩:∃ L,L=(pU X.fin)[i].2:=⟨_,rfl⟩
    have hLl:L.length≤17592186044000:=by rw[hL];exact HTB.out _ (List.getElem_mem hit)
    rw[←hL]at hown htg
    have HTG:=hid htg
    have HLT:=hid hlt
    have hnum:=(aj.below hown HI.out.2).read
    have hkn:kn≤140737488355328:=by have:=hnum.1;omega
    have HNUM:=hid hnum
    have HKN:=hid hkn
    clear hcpt hown hcel hgl hrd hZ htg hL hLl hnum hkn hil hit
    obtain⟨b0,b1,b2,b3,b4,b5⟩:=HS6.out wr (HBZ.out.trans (HI.out.2.mono HBZ.out.size))
    go_upto_region 14 with fail
    obtain⟨Z,hZ⟩:∃ u,u=wr.alloc (.cells #[.int .i64 z1,.slice ka kn kc] 142):=⟨_,rfl⟩
    have hbZ:Below wr.heap.size wr Z:=by rw[hZ];exact(Below.refl _ wr).alloc (Nat.le_refl _) _
    have hcZ:∀ j,Z.cell? ⟨wr.heap.size,j,none⟩=(#[.int .i64 z1,.slice ka kn kc]:Array Value)[j]? :=fun j=>by rw[hZ];exact World.cell?_alloc_mark _ _ _ _ _
    have y0:=hcZ 0
    have y1:=hcZ 1
    rw[←hZ]
    have HBW:Hid (Below w8.heap.size w8 Z):=hid (HI.out.2.trans (hbZ.mono HI.out.2.size))
    have HBV:Hid (Below W1.heap.size W1 Z):=hid (HBZ.out.trans (HBW.out.mono HBZ.out.size))
    have HNZ:=hid (HNUM.out.since hbZ)
    clear b0 b1 b2 b3 b4 b5 c0 c1 hcZ hZ hbZ
    obtain⟨b0,b1,b2,b3,b4,b5⟩:=HS6.out Z HBV.out
    go_wp2_with(go_at_call 122;(with_reducible refine(CG.out _ HBV.out z1 L ka kn kc HNZ.out HKN.out).mono ?_);intro e w9 hq;rcases hq.split with⟨hk,rfl,hb⟩|⟨hk,rfl,hb⟩;rotate_left;(exact⟨rfl,au.bad (by rw[HEB.out,←HVL.out.2,←HVL.out.1,dQ (p:=fun i=>nu f T x (Hl X.fin i)) HLT.out (by simp only[HTG.out];exact hk)];simp) (HB.out.trans ((HBV.out.trans (hb.mono HBV.out.size)).mono HB.out.size))⟩);have HK5:Hid (fq (fun i=>nu f T x (Hl X.fin i)) (i+1)=true∧Below w8.heap.size w8 w9):=hid ⟨bX HI.out.1 (by simp only[HTG.out];exact hk),HBW.out.trans (hb.mono HBW.out.size)⟩;clear hk hb)
    go_roundw
    case rel=>exact⟨i+1,HLT.out,by go_num,HK5⟩
    case measure=>have:=HLT.out;simp[intOf];omega
   ·obtain rfl:i=vn:=by omega
    have hnn:¬ (i:Int)<(i:Int):=by omega
    have HK:Hid (Gw f T x=true):=hid (by rw[HEB.out,HK7.out,←HVL.out.2,←HVL.out.1,HI.out.1];rfl)
    go_wp2_with fail
    go_end0
    exact au.good HK.out (HB.out.trans ((HBZ.out.trans (HI.out.2.mono HBZ.out.size)).mono HB.out.size))
theorem wY(o:OpD)(b:Nat)(h:o.L.length+3≤b):(mo o).length≤b:=by
 unfold mo aA
 have h1:=dH (hasB o.K 65) o.A
 have h2:=dH (hasB o.K 66) o.B
 have h3:=dH (hasB o.K 67) o.C
 have h4:(dA (hasB o.K 76) o.L).length≤o.L.length:=by unfold dA;split<;>simp
 simp only[List.length_append]
 omega
set_option maxHeartbeats 8000000 in
theorem wT{g:Nat}{sa:Option Addr}{sn sc:Nat}{ca:Option Addr}{cn cc:Nat}{pa:Option Addr}{pn pc:Nat}{P:aB}{a:Option Addr}{n c:Nat}{f:ak}{fa ua:Option Addr}{m:Nat}{UP:List Int}{ta:Option Addr}{tn:Nat}{T:List Int}(fc uc tc:Nat)(x:Nat)(w:World)(h:l6 w g sa sn sc ca cn cc pa pn pc P a n c f fa ua m UP ta tn T)(hx:x<n):
 Calls Tryz.prog 88 #[.agg #[.pointer (some ⟨g,0,none⟩),.int .i64 f.ret,.slice a n c,.slice fa (n+1) fc,.slice ua n uc,.slice ta tn tc],.int .i64 (x:Int)] w (au (ny P f T x) w):=by
 obtain⟨hb1,hd,hs1⟩:=nL w #[.pointer (some ⟨g,0,none⟩),.int .i64 f.ret,.slice a n c,.slice fa (n+1) fc,.slice ua n uc,.slice ta tn tc]
 obtain⟨W1,hW1⟩:∃ U,w.alloc (.cells #[.pointer (some ⟨g,0,none⟩),.int .i64 f.ret,.slice a n c,.slice fa (n+1) fc,.slice ua n uc,.slice ta tn tc] 98)=U:=⟨_,rfl⟩
 rw[hW1]at hb1 hd hs1
 have hB:=h.since hb1
 have HB:=hid hb1
 have HBD:=hid hB
 have hd2:=hd 2
 have hsl:w.heap.size<W1.heap.size:=by omega
 have hxl:x<f.blocks.length:=by rw[←hB.scop.len];exact hx
 have hxz:(x:Int)<(n:Int):=by omega
 have hx0:(0:Int)≤(x:Int):=by omega
 have htn7:tn≤140737488355328:=by rw[hB.len];have:=hB.scop.vals;omega
 obtain⟨g8,off8,cs,hif,rfl,hl8,hcell,hq⟩:=hB.scop.row.elem hx
 obtain⟨X,hX⟩:∃ X,X=f.blocks[x]:=⟨_,rfl⟩
 rw[←hX]at hq
 obtain⟨pv,ov,es,rfl,_,ho,_⟩:=hq
 have hov:=ho
 obtain⟨oa,on,oc,rfl,hol,_,hon8,_⟩:=hov
 have hq1:=hcell 1 (by simp)
 simp only[Nat.add_zero,List.getElem_cons_zero,List.getElem_cons_succ]at hq1
 have HSP:Hid (ny P f T x=fq (xk P f T x) on):=hid (by unfold ny;rw[jC hif,←hX,hol])
 have HOA:Hid (∀k (hk:k<X.ops.length),opAt f x k=X.ops[k]):=hid fun k hk=>by
  have hk':k<f.blocks[x].ops.length:=by rw[←hX];exact hk
  rw[xL hif hk']
  subst hX
  rfl
 have HOPS:=hid ho
 have CU:Hid (∀u,Below W1.heap.size W1 u→∀ (k:Nat) v,Calls Tryz.prog 119 #[.agg #[.pointer (some ⟨g,0,none⟩),.int .i64 f.ret,.slice (some ⟨g8,off8,none⟩) n c,.slice fa (n+1) fc,.slice ua n uc,.slice ta tn tc],.int .i64 (x:Int),.int .i64 (k:Int),.int .i64 v] u (au (mq f T x k v) u)):=hid fun u hu k v=>um fc uc tc x k v u (hB.since hu)
 obtain⟨rt,hrt⟩:∃ t,t=f.ret:=⟨_,rfl⟩
 rw[←hrt]at hd CU hW1⊢
 have HS6:Hid (∀u,Below W1.heap.size W1 u→u.cell? ⟨w.heap.size,0,none⟩=some (.pointer (some ⟨g,0,none⟩))∧u.cell? ⟨w.heap.size,1,none⟩=some (.int .i64 rt)∧u.cell? ⟨w.heap.size,2,none⟩=some (.slice (some ⟨g8,off8,none⟩) n c)∧u.cell? ⟨w.heap.size,3,none⟩=some (.slice fa (n+1) fc)∧u.cell? ⟨w.heap.size,4,none⟩=some (.slice ua n uc)∧u.cell? ⟨w.heap.size,5,none⟩=some (.slice ta tn tc)):=hid fun u hu=>iU hsl hd u hu
 clear hb1 hs1 h hB hrt hsl hxl hif hcell hl8 hX hx hd ho hol
 go_enter Tryz.func88,Tryz.ntmps88
 go_upto_region 1 with fail
 try rw[hW1]
 clear hW1
 go_upto_region 2 with fail
 clear hd2 hq1
 go_loopw[19] (fun v19 wr=>∃ k:Nat,k≤on∧v19=.int .i64 (k:Int)∧Hid (fq (xk P f T x) k=true∧Below W1.heap.size W1 wr)) (fun iv _=>on-(intOf iv).toNat)
 case atStart=>exact⟨0,Nat.zero_le _,rfl,hid ⟨rfl,Below.refl _ _⟩⟩
 case round=>
  obtain⟨k,hk,rfl,HK⟩:=hrel
  by_cases hkl:k<on
  ·have hklz:(k:Int)<(on:Int):=by omega
   obtain⟨g9,off9,cs9,hif9,rfl,hl9,hcell9,hq9⟩:=(HOPS.out.since OpQ.lasts HK.out.2).elem hkl
   obtain⟨O,hO⟩:∃ O,O=X.ops[k]:=⟨_,rfl⟩
   have hOA:opAt f x k=O:=by rw[HOA.out k hif9,hO]
   rw[←hO]at hq9
   obtain⟨lv,rfl,s1,s2,s3,s4,s5,s6,⟨ya,yn,yc,rfl,hy,hy0,hy8,hyr⟩⟩:=hq9
   have hd0:=hcell9 0 (by simp)
   have hd1:=hcell9 1 (by simp)
   have hd2:=hcell9 2 (by simp)
   have hd3:=hcell9 3 (by simp)
   have hd4:=hcell9 4 (by simp)
   have hd5:=hcell9 5 (by simp)
   have hd6:=hcell9 6 (by simp)
   have hd7:=hcell9 7 (by simp)
   simp only[Nat.add_zero,List.getElem_cons_zero,List.getElem_cons_succ]at hd0 hd1 hd2 hd3 hd4 hd5 hd6 hd7
   obtain⟨t1,t2,hres⟩:∃ a b,rC P O T=(a,b):=⟨_,_,rfl⟩
   have HST:Hid (xk P f T x k=(t2&&fq (fun i=>mq f T x k (nth (mo O) i)) (mo O).length)):=hid (by unfold xk;rw[hOA,hres])
   have CR:Hid (∀u,Below wr.heap.size wr u→Calls Tryz.prog 37 #[.pointer (some ⟨g,0,none⟩),.agg #[.int .i64 O.K,.int .i64 O.A,.int .i64 O.B,.int .i64 O.C,.int .i64 O.N,.string O.S,.slice ya yn yc,.bool O.T],.slice ta tn tc] u fun e w'=>e=.returned (.tuple #[.int .i64 t1,.bool t2])∧Below u.heap.size u w'):=hid fun u hu=>by
    have hT:=HBD.out.since (HK.out.2.trans (hu.mono HK.out.2.size))
    have:=qo g O.K O.A O.B O.C O.N O.S ya yn yc O.T O.L ta tn tc T u hT.ft hT.prog (hy.since hu) (by omega) hT.typ htn7 hT.rng s5
    rw[show ul P O.K O.A O.B O.C O.N O.S O.L T=(t1,t2)from hres]at this
    exact this
   have CUS:Hid (∀u,Below wr.heap.size wr u→Calls Tryz.prog 118 #[.agg #[.int .i64 O.K,.int .i64 O.A,.int .i64 O.B,.int .i64 O.C,.int .i64 O.N,.string O.S,.slice ya yn yc,.bool O.T]] u fun e w'=>∃ va vn vc,e=.returned (.slice va vn vc)∧aj w' u.heap.size 3 (.slice va vn vc) (mo O)∧Below u.heap.size u w'):=hid fun u hu=>by
    have hT:=HBD.out.since (HK.out.2.trans (hu.mono HK.out.2.size))
    exact D5 O.K O.A O.B O.C O.N O.S ya yn yc O.T O.L u hT.ft (hy.since hu) hy0 (by omega)
   have HYL:Hid (O.L.length≤17592186044000):=hid (by rw[hy.1];omega)
   have HLT:=hid hkl
   clear hcell9 hl9 hO hOA hres hif9 hy hy0 hy8 hyr s1 s2 s3 s4 s5 s6
   obtain⟨b0,b1,b2,b3,b4,b5⟩:=HS6.out wr HK.out.2
   go_upto_region 4 with fail
   obtain⟨Y,hY⟩:∃ u,u=wr.alloc (.cells #[.int .i64 O.K,.int .i64 O.A,.int .i64 O.B,.int .i64 O.C,.int .i64 O.N,.string O.S,.slice ya yn yc,.bool O.T] 64):=⟨_,rfl⟩
   have hbY:Below wr.heap.size wr Y:=by rw[hY];exact(Below.refl _ wr).alloc (Nat.le_refl _) _
   have hcY:∀ j,Y.cell? ⟨wr.heap.size,j,none⟩=(#[.int .i64 O.K,.int .i64 O.A,.int .i64 O.B,.int .i64 O.C,.int .i64 O.N,.string O.S,.slice ya yn yc,.bool O.T]:Array Value)[j]? :=fun j=>by rw[hY];exact World.cell?_alloc_mark _ _ _ _ _
   have hpy:wr.heap.size<Y.heap.size:=by rw[hY];simp
   rw[←hY]
   obtain⟨p,hp⟩:∃ p,p=wr.heap.size:=⟨_,rfl⟩
   rw[←hp]at hcY hpy⊢
   have HBY:=hid hbY
   have HYC:Hid (∀u,Below Y.heap.size Y u→u.cell? ⟨p,0,none⟩=some (.int .i64 O.K)∧u.cell? ⟨p,1,none⟩=some (.int .i64 O.A)∧u.cell? ⟨p,2,none⟩=some (.int .i64 O.B)∧u.cell? ⟨p,3,none⟩=some (.int .i64 O.C)∧u.cell? ⟨p,4,none⟩=some (.int .i64 O.N)∧u.cell? ⟨p,5,none⟩=some (.string O.S)∧u.cell? ⟨p,6,none⟩=some (.slice ya yn yc)∧u.cell? ⟨p,7,none⟩=some (.bool O.T)):=hid fun u hu=>⟨(hu.cell (p:=⟨p,0,none⟩) hpy).trans (hcY 0),(hu.cell (p:=⟨p,1,none⟩) hpy).trans (hcY 1),(hu.cell (p:=⟨p,2,none⟩) hpy).trans (hcY 2),(hu.cell (p:=⟨p,3,none⟩) hpy).trans (hcY 3),(hu.cell (p:=⟨p,4,none⟩) hpy).trans (hcY 4),(hu.cell (p:=⟨p,5,none⟩) hpy).trans (hcY 5),(hu.cell (p:=⟨p,6,none⟩) hpy).trans (hcY 6),(hu.cell (p:=⟨p,7,none⟩) hpy).trans (hcY 7)⟩
   have HBW:Hid (Below W1.heap.size W1 Y):=hid (HK.out.2.trans (hbY.mono HK.out.2.size))
   clear hcY hY hbY hpy hp hd0 hd1 hd2 hd3 hd4 hd5 hd6 hd7 b0 b1 b2 b3 b4 b5
   obtain⟨b0,b1,b2,b3,b4,b5⟩:=HS6.out Y HBW.out
   obtain⟨e0,e1,e2,e3,e4,e5,e6,e7⟩:=HYC.out Y (Below.refl _ _)
   go_upto_region 5 with(go_at_call 37;(with_reducible refine(CR.out _ HBY.out).mono ?_);rintro e w6 ⟨rfl,hb⟩;have HB6:=hid hb;clear hb)
   clear b0 b1 b2 b3 b4 b5 e0 e1 e2 e3 e4 e5 e6 e7 CR
   have HBV:Hid (Below W1.heap.size W1 w6):=hid (HBW.out.trans (HB6.out.mono HBW.out.size))
   go_upto_region 6 with(go_at_call 49;(with_reducible refine(bS _ _).mono ?_);intro e w7 hq;rcases hq.split with⟨hk,rfl,rfl⟩|⟨hk,rfl,rfl⟩;rotate_left;(exact⟨rfl,au.bad (by rw[HSP.out,dQ HLT.out (by rw[HST.out,hk];rfl)]) (HB.out.trans (HBV.out.mono HB.out.size))⟩);have HK2:=hid hk;clear hk)
   obtain⟨e0,e1,e2,e3,e4,e5,e6,e7⟩:=HYC.out w6 HB6.out
   have HB6Y:Hid (Below wr.heap.size wr w6):=hid (HBY.out.trans (HB6.out.mono HBY.out.size))
   go_upto_region 7 with(go_at_call 118;(with_reducible refine(CUS.out _ HB6Y.out).mono ?_);rintro e w8 ⟨va,vn,vc,rfl,ho,hb⟩;have HO8:=hid ho;have HB8:=hid hb;clear ho hb)
   clear e0 e1 e2 e3 e4 e5 e6 e7 CUS HYC
   have hvn:(mo O).length=vn:=HO8.out.read.1
   have hvb:vn≤140737488355328:=by rw[←hvn];exact wY O _ (by have:=HYL.out;omega)
   have HVL:=hid hvn
   have HBU:Hid (Below W1.heap.size W1 w8):=hid (HBV.out.trans (HB8.out.mono HBV.out.size))
   have HNU:=hid HO8.out.read
   clear hvn HO8
   go_loopw[39] (fun v39 wr2=>∃ j:Nat,j≤vn∧v39=.int .i64 (j:Int)∧Hid (fq (fun i=>mq f T x k (nth (mo O) i)) j=true∧Below w8.heap.size w8 wr2)) (fun iv _=>vn-(intOf iv).toNat)
   case atStart=>exact⟨0,Nat.zero_le _,rfl,hid ⟨rfl,Below.refl _ _⟩⟩
   case round=>
    obtain⟨j,hj,rfl,HJ⟩:=hrel
    by_cases hjl:j<vn
    ·have hjz:(j:Int)<(vn:Int):=by omega
     have hj0:(0:Int)≤(j:Int):=by omega
     have hju:j<(mo O).length:=by rw[HVL.out];exact hjl
     obtain⟨gv,ov2,rfl,_,hcel⟩:=(HNU.out.since HJ.out.2).2 (by omega)
     have hz:wr.cell? ⟨gv,ov2+j,none⟩=some (.int .i64 (nth (mo O) j)):=by rw[hcel j hju,bN hju];rfl
     obtain⟨z,hzz⟩:∃ z,z=nth (mo O) j:=⟨_,rfl⟩
     have HZZ:=hid hzz
     rw[←hzz]at hz
     have HJT:=hid hjl
     have HBR:Hid (Below W1.heap.size W1 wr):=hid (HBU.out.trans (HJ.out.2.mono HBU.out.size))
     clear hcel hju hzz
     obtain⟨b0,b1,b2,b3,b4,b5⟩:=HS6.out wr HBR.out
     go_wp2_with(go_at_call 119;(with_reducible refine(CU.out _ HBR.out k z).mono ?_);intro e w9 hq;rcases hq.split with⟨hk,rfl,hb⟩|⟨hk,rfl,hb⟩;rotate_left;(exact⟨rfl,au.bad (by rw[HSP.out,dQ HLT.out (by rw[HST.out,HVL.out,dQ (p:=fun i=>mq f T x k (nth (mo O) i)) HJT.out (by simp only[←HZZ.out];exact hk)];simp)]) (HB.out.trans ((HBR.out.trans (hb.mono HBR.out.size)).mono HB.out.size))⟩);have HJ5:Hid (fq (fun i=>mq f T x k (nth (mo O) i)) (j+1)=true∧Below w8.heap.size w8 w9):=hid ⟨bX HJ.out.1 (by simp only[←HZZ.out];exact hk),HJ.out.2.trans (hb.mono HJ.out.2.size)⟩;clear hk hb)
     go_roundw
     case rel=>exact⟨j+1,HJT.out,by go_num,HJ5⟩
     case measure=>have:=HJT.out;simp[intOf];omega
    ·obtain rfl:j=vn:=by omega
     have hnn:¬ (j:Int)<(j:Int):=by omega
     have HK5:Hid (fq (xk P f T x) (k+1)=true∧Below W1.heap.size W1 wr):=hid ⟨bX HK.out.1 (by rw[HST.out,HK2.out,HVL.out,HJ.out.1];rfl),HBU.out.trans (HJ.out.2.mono HBU.out.size)⟩
     go_wp2_with fail
     go_roundw
     case rel=>exact⟨k+1,HLT.out,by go_num,HK5⟩
     case measure=>have:=HLT.out;simp[intOf];omega
  ·obtain rfl:k=on:=by omega
   have hnn:¬ (k:Int)<(k:Int):=by omega
   have HE:Hid (ny P f T x=true):=hid (by rw[HSP.out];exact HK.out.1)
   go_wp2_with fail
   go_end0
   exact au.good HE.out (HB.out.trans (HK.out.2.mono HB.out.size))
set_option maxHeartbeats 4000000 in
theorem Ag{g:Nat}{sa:Option Addr}{sn sc:Nat}{ca:Option Addr}{cn cc:Nat}{pa:Option Addr}{pn pc:Nat}{P:aB}{a:Option Addr}{n c:Nat}{f:ak}{fa ua:Option Addr}{m:Nat}{UP:List Int}{ta:Option Addr}{tn:Nat}{T:List Int}(fc uc tc:Nat)(w:World)(h:l6 w g sa sn sc ca cn cc pa pn pc P a n c f fa ua m UP ta tn T):
 Calls Tryz.prog 55 #[.agg #[.pointer (some ⟨g,0,none⟩),.int .i64 f.ret,.slice a n c,.slice fa (n+1) fc,.slice ua n uc,.slice ta tn tc]] w (au (fq (oN P f T) f.blocks.length) w):=by
 obtain⟨hb1,hd,hs1⟩:=nL w #[.pointer (some ⟨g,0,none⟩),.int .i64 f.ret,.slice a n c,.slice fa (n+1) fc,.slice ua n uc,.slice ta tn tc]
 obtain⟨W1,hW1⟩:∃ U,w.alloc (.cells #[.pointer (some ⟨g,0,none⟩),.int .i64 f.ret,.slice a n c,.slice fa (n+1) fc,.slice ua n uc,.slice ta tn tc] 98)=U:=⟨_,rfl⟩
 rw[hW1]at hb1 hd hs1
 have hB:=h.since hb1
 have HB:=hid hb1
 have hd1:=hd 1
 have hd2:=hd 2
 have hsl:w.heap.size<W1.heap.size:=by omega
 have hn8:n≤100000:=hB.scop.small
 have HNL:Hid (f.blocks.length=n):=hid hB.scop.len.symm
 have CRE:=hid (p9 f.ret a n c f W1 hB.scop.row (by omega))
 have CS:Hid (∀u,Below W1.heap.size W1 u→∀ x:Nat,x<n→Calls Tryz.prog 88 #[.agg #[.pointer (some ⟨g,0,none⟩),.int .i64 f.ret,.slice a n c,.slice fa (n+1) fc,.slice ua n uc,.slice ta tn tc],.int .i64 (x:Int)] u (au (ny P f T x) u)):=hid fun u hu x hx=>wT fc uc tc x u (hB.since hu) hx
 have CE:Hid (∀u,Below W1.heap.size W1 u→∀ x:Nat,x<n→Calls Tryz.prog 89 #[.agg #[.pointer (some ⟨g,0,none⟩),.int .i64 f.ret,.slice a n c,.slice fa (n+1) fc,.slice ua n uc,.slice ta tn tc],.int .i64 (x:Int)] u (au (Gw f T x) u)):=hid fun u hu x hx=>Cv fc uc tc x u (hB.since hu) hx
 obtain⟨rt,hrt⟩:∃ t,t=f.ret:=⟨_,rfl⟩
 rw[←hrt]at hd hd1 CRE CS CE hW1⊢
 have HS6:Hid (∀u,Below W1.heap.size W1 u→u.cell? ⟨w.heap.size,0,none⟩=some (.pointer (some ⟨g,0,none⟩))∧u.cell? ⟨w.heap.size,1,none⟩=some (.int .i64 rt)∧u.cell? ⟨w.heap.size,2,none⟩=some (.slice a n c)∧u.cell? ⟨w.heap.size,3,none⟩=some (.slice fa (n+1) fc)∧u.cell? ⟨w.heap.size,4,none⟩=some (.slice ua n uc)∧u.cell? ⟨w.heap.size,5,none⟩=some (.slice ta tn tc)):=hid fun u hu=>iU hsl hd u hu
 clear hb1 hs1 h hB hrt hsl hd
 go_enter Tryz.func55,Tryz.ntmps55
 go_upto_region 1 with fail
 try rw[hW1]
 clear hW1
 go_upto_region 2 with(go_at_call 66;(with_reducible refine CRE.out.mono ?_);rintro e w2 ⟨gm,rfl,ho,hb⟩;have HO2:=hid ho;have HB2:=hid hb;clear ho hb)
 have HM2:Hid (gm<w2.heap.size∧∀ j:Nat,j<n→w2.cell? ⟨gm,j,none⟩=some (.bool (inL (aD f) (j:Int)))):=hid ⟨(World.ownsRow.lt HO2.out gm rfl).2,fun j hj=>by
  have h:=World.ownsRow.cells HO2.out (g:=gm) rfl j (.bool (inL (aD f) (j:Int))) (by rw[lN hj];rfl)
  rw[aU,Nat.zero_add]at h
  exact h⟩
 clear hd1 hd2 HO2 CRE
 go_loopw[9] (fun v9 wr=>∃ i:Nat,i≤n∧v9=.int .i64 (i:Int)∧Hid (fq (oN P f T) i=true∧Below w2.heap.size w2 wr)) (fun iv _=>n-(intOf iv).toNat)
 case atStart=>exact⟨0,Nat.zero_le _,rfl,hid ⟨rfl,Below.refl _ _⟩⟩
 case round=>
  obtain⟨i,hi,rfl,HI⟩:=hrel
  have HBR:Hid (Below W1.heap.size W1 wr):=hid (HB2.out.trans (HI.out.2.mono HB2.out.size))
  by_cases hlt:i<n
  ·have hltz:(i:Int)<(n:Int):=by omega
   have hi0:(0:Int)≤(i:Int):=by omega
   have hm:wr.cell? ⟨gm,i,none⟩=some (.bool (inL (aD f) (i:Int))):=(HI.out.2.cell (p:=⟨gm,i,none⟩) HM2.out.1).trans (HM2.out.2 i hlt)
   obtain⟨bm,hbm⟩:∃ b,b=inL (aD f) (i:Int):=⟨_,rfl⟩
   have HBM:Hid (oN P f T i=(bm&&ny P f T i&&Gw f T i)):=hid (by unfold oN;rw[hbm])
   rw[←hbm]at hm
   have HLT:=hid hlt
   clear hbm
   go_upto_region 5 with(go_at_call 49;(with_reducible refine(bS _ _).mono ?_);intro e w7 hq;rcases hq.split with⟨hk,rfl,rfl⟩|⟨hk,rfl,rfl⟩;rotate_left;(exact⟨rfl,au.bad (by rw[HNL.out,dQ HLT.out (by rw[HBM.out,hk];rfl)]) (HB.out.trans (HBR.out.mono HB.out.size))⟩);have HK1:=hid hk;clear hk)
   obtain⟨b0,b1,b2,b3,b4,b5⟩:=HS6.out wr HBR.out
   go_upto_region 6 with(go_at_call 88;(with_reducible refine(CS.out _ HBR.out i HLT.out).mono ?_);intro e w7 hq;rcases hq.split with⟨hk,rfl,hb⟩|⟨hk,rfl,hb⟩;rotate_left;(exact⟨rfl,au.bad (by rw[HNL.out,dQ HLT.out (by rw[HBM.out,HK1.out,hk];rfl)]) (HB.out.trans ((HBR.out.trans (hb.mono HBR.out.size)).mono HB.out.size))⟩);have HK2:=hid hk;have HB7:=hid (HI.out.2.trans (hb.mono HI.out.2.size));clear hk hb)
   clear b0 b1 b2 b3 b4 b5
   have HBS:Hid (Below W1.heap.size W1 w7):=hid (HB2.out.trans (HB7.out.mono HB2.out.size))
   obtain⟨b0,b1,b2,b3,b4,b5⟩:=HS6.out w7 HBS.out
   go_wp2_with(go_at_call 89;(with_reducible refine(CE.out _ HBS.out i HLT.out).mono ?_);intro e w8 hq;rcases hq.split with⟨hk,rfl,hb⟩|⟨hk,rfl,hb⟩;rotate_left;(exact⟨rfl,au.bad (by rw[HNL.out,dQ HLT.out (by rw[HBM.out,HK1.out,HK2.out,hk];rfl)]) (HB.out.trans ((HBS.out.trans (hb.mono HBS.out.size)).mono HB.out.size))⟩);have HK5:Hid (fq (oN P f T) (i+1)=true∧Below w2.heap.size w2 w8):=hid ⟨bX HI.out.1 (by rw[HBM.out,HK1.out,HK2.out,hk];rfl),HB7.out.trans (hb.mono HB7.out.size)⟩;clear hk hb)
   go_roundw
   case rel=>exact⟨i+1,HLT.out,by go_num,HK5⟩
   case measure=>have:=HLT.out;simp[intOf];omega
  ·obtain rfl:i=n:=by omega
   have hnn:¬ (i:Int)<(i:Int):=by omega
   have HE:Hid (fq (oN P f T) f.blocks.length=true):=hid (by rw[HNL.out];exact HI.out.1)
   go_wp2_with fail
   go_end0
   exact au.good HE.out (HB.out.trans (HBR.out.mono HB.out.size))
theorem kX{P:aB}{k:Nat}(h:k<P.funcs.length):funcOf P k=P.funcs[k]:=by unfold funcOf;rw[List.getElem?_eq_getElem h]
theorem yZ{P:aB}{k:Nat}(h:k<P.sigs.length):iw P k=P.sigs[k]:=by unfold iw;rw[List.getElem?_eq_getElem h]
theorem GJ{P:aB}{k:Nat}(h:k<P.classes.length):vU P k=P.classes[k]:=by unfold vU;rw[List.getElem?_eq_getElem h]
theorem wR(g:Nat){sa:Option Addr}{sn sc:Nat}{ca:Option Addr}{cn cc:Nat}{fa:Option Addr}{fn fc:Nat}{P:aB}(m:Int)(hm0:0≤m)(s:wC)(xa:Option Addr)(xn xc:Nat)(w:World)(hP:aX w g sa sn sc ca cn cc fa fn fc P)(hs:lm w (.slice xa xn xc) s.params)(hh:∀ i,i<P.funcs.length→0<(funcOf P i).blocks.length):
 Calls Tryz.prog 87 #[.agg #[.pointer (some ⟨g,0,none⟩)],.int .i64 m,.agg #[.slice xa xn xc,.int .i64 s.ret]] w (au (tu P m s) w):=by
 obtain⟨hb1,hc,hd,hs1⟩:=lI w g #[.slice xa xn xc,.int .i64 s.ret] 60
 obtain⟨W1,hW1⟩:∃ U,(w.alloc (.cells #[.pointer (some ⟨g,0,none⟩)] 68)).alloc (.cells #[.slice xa xn xc,.int .i64 s.ret] 60)=U:=⟨_,rfl⟩
 rw[hW1]at hb1 hc hd hs1
 have hP1:=hP.since hb1
 have HB:=hid hb1
 have HP:=hid hP1
 obtain⟨_,_,_,hxe,hx,hx0,hx8,_⟩:=hs.since hb1
 cases hxe
 have HX:=hid hx
 have HX0:=hid hx0
 have hd0:=hd 0
 have hd1:=hd 1
 have hp2:=hP1.c2
 have hfl:=hP1.f.len
 have HFL:=hid hfl.1
 obtain⟨k,rfl⟩:=Int.eq_ofNat_of_zero_le hm0
 by_cases hk:k<fn
 ·have hkz:(k:Int)<(fn:Int):=by omega
  have hkz0:(0:Int)≤(k:Int):=by omega
  obtain⟨gf,of,cs,hkl,rfl,hl2,hcell,hq⟩:=hP1.f.elem hk
  obtain⟨F,hF⟩:∃ F,F=P.funcs[k]:=⟨_,rfl⟩
  rw[←hF]at hq
  have hFk:funcOf P k=F:=by rw[kX hkl,hF]
  have hbl:=hh k hkl
  rw[hFk]at hbl
  obtain⟨bv,rfl,_,hbr⟩:=hq
  have hbr':=hbr
  obtain⟨ba,bn,bc,rfl,hbln,_⟩:=hbr'
  have hf0:=hcell 0 (by simp)
  have hf1:=hcell 1 (by simp)
  simp only[Nat.add_zero,List.getElem_cons_zero,List.getElem_cons_succ]at hf0 hf1
  have hbn:0<bn:=by omega
  have hbnz:(0:Int)<(bn:Int):=by omega
  obtain⟨gb,ob,cs8,hb0l,rfl,hl8,hcell8,hq8⟩:=hbr.elem hbn
  obtain⟨X,hX⟩:∃ X,X=F.blocks[0]:=⟨_,rfl⟩
  rw[←hX]at hq8
  obtain⟨pv,ov,es,rfl,⟨pa,pn,pc,rfl,hp,hp0,hp8,_⟩,_⟩:=hq8
  have hbc:=hcell8 0 (by simp)
  simp only[Nat.add_zero,Nat.zero_mul,List.getElem_cons_zero]at hbc
  have hpar:nU F 0=X.params:=by rw[iZ hb0l,hX]
  have HM:Hid (tu P (k:Int) s=((F.ret==s.ret)&&aG X.params (5::s.params))):=hid (by
   unfold tu
   rw[Int.toNat_natCast,hFk,hpar,decide_eq_true (by omega:(k:Int)<(P.funcs.length:Int))]
   rfl)
  have HPR:=hid hp
  have hgb:gb<W1.heap.size:=World.block_lt_of_cell? _ _ hbc
  have hpn8:pn≤140737488355328:=by omega
  have hxn8:xn≤17592186043904:=by omega
  obtain⟨rt,hrt⟩:∃ t,t=F.ret:=⟨_,rfl⟩
  obtain⟨st,hst⟩:∃ t,t=s.ret:=⟨_,rfl⟩
  rw[←hrt,←hst]at HM
  rw[←hrt]at hf0
  rw[←hst]at hd1 hW1⊢
  have hpsl:w.heap.size+1<W1.heap.size:=by omega
  have HKF:=hid hk
  have HC:Hid (∀U,Below W1.heap.size W1 U→U.cell? ⟨w.heap.size+1,0,none⟩=some (.slice xa xn xc)∧U.cell? ⟨w.heap.size+1,1,none⟩=some (.int .i64 st)∧U.cell? ⟨gb,ob,none⟩=some (.slice pa pn pc)):=hid fun U hU=>⟨(hU.cell (p:=⟨w.heap.size+1,0,none⟩) hpsl).trans hd0,(hU.cell (p:=⟨w.heap.size+1,1,none⟩) hpsl).trans hd1,(hU.cell (p:=⟨gb,ob,none⟩) hgb).trans hbc⟩
  clear hcell hcell8 hbr hbln hl2 hl8 hX hpar hp hp0 hp8 hFk hF hbl hb0l hkl hs hx hx0 hx8 hP hP1 hh hfl hb1 hs1 hrt hst hgb hpsl hm0 hd hk
  go_enter Tryz.func87,Tryz.ntmps87
  go_upto_region 1 with fail
  try rw[hW1]
  clear hW1
  go_upto_region 2 with(go_at_call 49;(with_reducible refine(bS _ _).mono ?_);intro e w3 hq;rcases hq.split with⟨hk,rfl,rfl⟩|⟨hk,rfl,rfl⟩;rotate_left;(exfalso;first|(cases hk;done)|(rw[decide_eq_true HKF.out]at hk;cases hk)|(simp[HKF.out]at hk));clear hk)
  go_upto_region 3 with fail
  obtain⟨Y,hY⟩:∃ u,u=W1.alloc (.cells #[.int .i64 rt,.slice (some ⟨gb,ob,none⟩) bn bc] 36):=⟨_,rfl⟩
  have hbY:Below W1.heap.size W1 Y:=by rw[hY];exact(Below.refl _ W1).alloc (Nat.le_refl _) _
  have hcY:∀ j,Y.cell? ⟨W1.heap.size,j,none⟩=(#[.int .i64 rt,.slice (some ⟨gb,ob,none⟩) bn bc]:Array Value)[j]? :=fun j=>by rw[hY];exact World.cell?_alloc_mark _ _ _ _ _
  have hpy:W1.heap.size<Y.heap.size:=by rw[hY];simp
  rw[←hY]
  obtain⟨p,hp⟩:∃ p,p=W1.heap.size:=⟨_,rfl⟩
  rw[←hp]at hcY hpy⊢
  have y0:=hcY 0
  have y1:=hcY 1
  obtain⟨z0,z1,z2⟩:=HC.out Y hbY
  have HBY:=hid hbY
  have HYC:Hid (∀U,Below Y.heap.size Y U→U.cell? ⟨p,1,none⟩=some (.slice (some ⟨gb,ob,none⟩) bn bc)∧U.cell? ⟨gb,ob,none⟩=some (.slice pa pn pc)∧U.cell? ⟨w.heap.size+1,0,none⟩=some (.slice xa xn xc)):=hid fun U hU=>by
   obtain⟨q0,_,q2⟩:=HC.out U (HBY.out.trans (hU.mono HBY.out.size))
   exact⟨(hU.cell (p:=⟨p,1,none⟩) hpy).trans y1,q2,q0⟩
  clear hcY hY hbY hpy hf0 hf1 hd0 hd1 hbc hp2 hp
  go_upto_region 4 with(go_at_call 49;(with_reducible refine(bS _ _).mono ?_);intro e w3 hq;rcases hq.split with⟨hk,rfl,rfl⟩|⟨hk,rfl,rfl⟩;rotate_left;(exact⟨rfl,au.bad (by rw[HM.out,hk];rfl) (HB.out.trans (HBY.out.mono HB.out.size))⟩);have HK1:=hid hk;clear hk)
  have HYB1:Hid (∀X,Below Y.heap.size Y (Y.alloc X).drew):=hid fun X=>((Below.refl _ Y).alloc (Nat.le_refl _) X).drew
  have HYB2:Hid (∀X1 X2,Below Y.heap.size Y ((Y.alloc X1).alloc X2).drew):=hid fun X1 X2=>(((Below.refl _ Y).alloc (Nat.le_refl _) X1).alloc (by simp) X2).drew
  have CC:Hid (Calls Tryz.prog 117 #[.slice (some ⟨Y.heap.size+1,0,none⟩) 2 2] ((Y.alloc (.cells #[.int .i64 5] 3)).alloc (.cells #[.slice (some ⟨Y.heap.size,0,none⟩) 1 1,.slice xa xn xc] 40)).drew fun e w'=>∃ va vn vc,e=.returned (.slice va vn vc)∧aj w' (Y.heap.size+2) 3 (.slice va vn vc) (5::s.params)∧Below Y.heap.size Y w'):=hid (by
   have h2:=iN Y #[.int .i64 5] #[.slice (some ⟨Y.heap.size,0,none⟩) 1 1,.slice xa xn xc] 3 40
   have hb2:=HYB2.out (.cells #[.int .i64 5] 3) (.cells #[.slice (some ⟨Y.heap.size,0,none⟩) 1 1,.slice xa xn xc] 40)
   obtain⟨U2,hU2⟩:∃ U,U=((Y.alloc (.cells #[.int .i64 5] 3)).alloc (.cells #[.slice (some ⟨Y.heap.size,0,none⟩) 1 1,.slice xa xn xc] 40)).drew:=⟨_,rfl⟩
   have hsz:U2.heap.size=Y.heap.size+2:=by rw[hU2];simp[World.drew]
   have k0:U2.cell? ⟨Y.heap.size,0,none⟩=some (.int .i64 5):=by rw[hU2];exact h2.1 0
   have k1:U2.cell? ⟨Y.heap.size+1,0,none⟩=some (.slice (some ⟨Y.heap.size,0,none⟩) 1 1):=by rw[hU2];exact h2.2 0
   have k2:U2.cell? ⟨Y.heap.size+1,1,none⟩=some (.slice xa xn xc):=by rw[hU2];exact h2.2 1
   rw[←hU2]at hb2⊢
   clear hU2 h2
   refine(BR (Y.heap.size+1) Y.heap.size 5 xa xn xc s.params U2 (by rw[hsz];omega) k1 k2 ⟨rfl,fun _=>⟨Y.heap.size,0,rfl,by rw[hsz];omega,fun j hj=> ?_⟩⟩ (HX.out.since (HBY.out.trans (hb2.mono HBY.out.size))) HX0.out hxn8).mono ?_
   ·have hj0:j=0:=by simpa using hj
    subst hj0
    exact k0
   ·rintro e w5 ⟨va,vn,vc,rfl,ho,hb⟩
    rw[hsz]at ho
    exact⟨va,vn,vc,rfl,ho,hb2.trans (hb.mono (by rw[hsz];omega))⟩)
  have HPN8:=hid hpn8
  have HXL:Hid (s.params.length≤17592186043904):=hid (by rw[HX.out.1];exact hxn8)
  clear y0 y1 z0 z1 z2 hpn8 hxn8
  refine bM (S:=(fun u:World=>u.cell? ⟨p,1,none⟩=some (.slice (some ⟨gb,ob,none⟩) bn bc)∧u.cell? ⟨gb,ob,none⟩=some (.slice pa pn pc)∧u.cell? ⟨w.heap.size+1,0,none⟩=some (.slice xa xn xc))) 12 (by kernel_rfl) (HYC.out _ (below_drewN 1 (Below.refl _ _))) (fun hHeld=> ?_)
  refine zW 0 30 ?_
  (try simp only[Act.put,zA,zB,zC])
  refine zT 1 31 8 ?_
  (try simp only[Act.put,zA,zB,zC])
  refine zW 2 32 ?_
  (try simp only[Act.put,zA,zB,zC])
  refine zW 3 33 ?_
  (try simp only[Act.put,zA,zB,zC])
  refine zT 4 34 8 ?_
  (try simp only[Act.put,zA,zB,zC])
  refine zW 6 36 ?_
  (try simp only[Act.put,zA,zB,zC])
  refine zT 7 37 8 ?_
  (try simp only[Act.put,zA,zB,zC])
  refine aO (i:=5) (by kernel_rfl) rfl (fun K hK=> ?_)
  rw[if_pos (by rfl)]
  go_simp
  refine hK.out _ _ (HYC.out _ (HYB1.out _)) (fun hHeld=> ?_)
  clear hK K
  (try simp only[Act.put,zA,zB,zC])
  refine aO (i:=8) (by kernel_rfl) rfl (fun K hK=> ?_)
  rw[if_pos (by rfl)]
  go_simp
  refine hK.out _ _ (HYC.out _ (HYB2.out _ _)) (fun hHeld=> ?_)
  clear hK K
  (try simp only[Act.put,zA,zB,zC])
  refine aO (i:=9) (by kernel_rfl) rfl (fun K hK=> ?_)
  rw[if_pos (by rfl)]
  go_simp
  (with_reducible refine CC.out.mono ?_)
  rintro e w5 ⟨va,vn,vc,rfl,ho,hb⟩
  have HO5:=hid ho
  have HVN5:Hid (vn≤140737488355328):=hid (by have h1:=ho.read.1;have h2:=HXL.out;simp at h1;omega)
  have HB5:=hid hb
  clear ho hb
  refine hK.out _ _ (HYC.out _ HB5.out) (fun hHeld=> ?_)
  clear hK K
  (try simp only[Act.put,zA,zB,zC])
  refine aO (i:=10) (by kernel_rfl) rfl (fun K hK=> ?_)
  rw[if_pos (by rfl)]
  go_simp
  (with_reducible refine(Ew pa va pn vn pc vc X.params (5::s.params) w5 (HPR.out.since (HBY.out.trans (HB5.out.mono HBY.out.size))) HO5.out.read HPN8.out HVN5.out).mono ?_)
  rintro e w6 ⟨rfl,q,rfl⟩
  have HB6:Hid (Below Y.heap.size Y (w5.drewN q)):=hid (below_drewN q HB5.out)
  refine hK.out _ _ (HYC.out _ HB6.out) (fun hHeld=> ?_)
  clear hK K
  (try simp only[Act.put,zA,zB,zC])
  refine aO (i:=11) (by kernel_rfl) rfl (fun K hK=> ?_)
  rw[if_pos (by rfl)]
  go_simp
  (with_reducible refine(bS _ _).mono ?_)
  intro e w7 hq
  rcases hq.split with⟨hk,rfl,rfl⟩|⟨hk,rfl,rfl⟩
  rotate_left
  ·exact⟨rfl,au.bad (by rw[HM.out,HK1.out,hk];rfl) (HB.out.trans ((HBY.out.trans (HB6.out.mono HBY.out.size)).mono HB.out.size))⟩
  have HRR:Hid (au (tu P (k:Int) s) w (.returned (.tuple #[])) (w5.drewN q)):=hid (au.good (by rw[HM.out,HK1.out,hk];rfl) (HB.out.trans ((HBY.out.trans (HB6.out.mono HBY.out.size)).mono HB.out.size)))
  clear hk
  refine hK.out _ _ (HYC.out _ HB6.out) (fun hHeld=> ?_)
  clear hK K
  (try simp only[Act.put,zA,zB,zC])
  refine bH (by kernel_rfl) ?_
  go_wp2_with fail
  go_end0
  exact HRR.out
 ·have HM:Hid (tu P (k:Int) s=false):=hid (by
   unfold tu
   rw[decide_eq_false (by omega:¬ (k:Int)<(P.funcs.length:Int))]
   rfl)
  have HKF:=hid hk
  have hkz:¬ (k:Int)<(fn:Int):=by omega
  clear hs hx hx0 hx8 hP hP1 hh hfl hb1 hs1 hm0 hd hk
  go_enter Tryz.func87,Tryz.ntmps87
  go_upto_region 1 with fail
  try rw[hW1]
  clear hW1
  go_wp2_with(go_at_call 49;(with_reducible refine(bS _ _).mono ?_);intro e w3 hq;rcases hq.split with⟨hk,rfl,rfl⟩|⟨hk,rfl,rfl⟩;(exfalso;first|(cases hk;done)|(rw[decide_eq_false HKF.out]at hk;cases hk)|(simp[HKF.out]at hk)))
  exact⟨rfl,au.bad HM.out HB.out⟩
theorem Ae(g:Nat){sa:Option Addr}{sn sc:Nat}{ca:Option Addr}{cn cc:Nat}{fa:Option Addr}{fn fc:Nat}{P:aB}(c:iE)(xa:Option Addr)(xn xc:Nat)(ma:Option Addr)(mn mc:Nat)(w:World)(hP:aX w g sa sn sc ca cn cc fa fn fc P)(hx:lm w (.slice xa xn xc) c.fields)(hm:lm w (.slice ma mn mc) c.methods)(hh:∀ i,i<P.funcs.length→0<(funcOf P i).blocks.length):
 Calls Tryz.prog 54 #[.agg #[.pointer (some ⟨g,0,none⟩)],.agg #[.slice xa xn xc,.slice ma mn mc]] w (au (kZ P c) w):=by
 obtain⟨hb1,hc,hd,hs1⟩:=lI w g #[.slice xa xn xc,.slice ma mn mc] 62
 obtain⟨W1,hW1⟩:∃ U,(w.alloc (.cells #[.pointer (some ⟨g,0,none⟩)] 68)).alloc (.cells #[.slice xa xn xc,.slice ma mn mc] 62)=U:=⟨_,rfl⟩
 rw[hW1]at hb1 hc hd hs1
 have hP1:=hP.since hb1
 have HB:=hid hb1
 have HP:=hid hP1
 obtain⟨_,_,_,hxe,hx1,hx0,hx8,hxr⟩:=hx.since hb1
 cases hxe
 obtain⟨_,_,_,hme,hm1,hm0,hm8,hmr⟩:=hm.since hb1
 cases hme
 have HMN:=hid hm1
 have HMR:=hid hmr
 have HML:Hid (c.methods.length=mn):=hid hm1.1
 have hsl:=hP1.s.len
 have HSL:=hid hsl.1
 have HH:=hid hh
 have hmn8:mn≤140737488351232:=by omega
 have hd0:=hd 0
 have hd1:=hd 1
 have hp0:=hP1.c0
 have hgl:g<W1.heap.size:=World.block_lt_of_cell? _ _ hp0
 have CK:=hid (lC g xa xn xc c.fields W1 hP1 hx1 hxr (by omega))
 have HC:Hid (∀U,Below W1.heap.size W1 U→U.cell? ⟨w.heap.size,0,none⟩=some (.pointer (some ⟨g,0,none⟩))∧U.cell? ⟨w.heap.size+1,1,none⟩=some (.slice ma mn mc)∧U.cell? ⟨g,0,none⟩=some (.slice sa sn sc)):=hid fun U hU=>⟨(hU.cell (p:=⟨w.heap.size,0,none⟩) (by simp only[];omega)).trans hc,(hU.cell (p:=⟨w.heap.size+1,1,none⟩) (by simp only[];omega)).trans hd1,(hU.cell (p:=⟨g,0,none⟩) hgl).trans hp0⟩
 obtain⟨bb,hbb1⟩:∃ b,((mn:Int)==(sn:Int))=b:=⟨_,rfl⟩
 have hbb2:(mn==sn)=bb:=by rw[←hbb1,Bool.eq_iff_iff,beq_iff_eq,beq_iff_eq];omega
 have hbb3:decide (mn=sn)=bb:=by rw[←hbb2];rfl
 have HBB:Hid (bb=true↔mn=sn):=hid (by rw[←hbb2,beq_iff_eq])
 clear hs1 hP hx hm hx1 hx0 hx8 hxr hm1 hm0 hm8 hmr hd hP1 hsl hb1 hgl hh
 go_enter Tryz.func54,Tryz.ntmps54
 go_upto_region 1 with fail
 try rw[hW1]
 clear hW1
 go_upto_region 2 with(go_at_call 50;(with_reducible refine CK.out.mono ?_);intro e w2 hq;rcases hq.split with⟨hk,rfl,hb⟩|⟨hk,rfl,hb⟩;rotate_left;(exact⟨rfl,au.bad (by unfold kZ;rw[hk];rfl) (HB.out.trans (hb.mono HB.out.size))⟩);have HK1:=hid hk;have HB2:=hid hb;clear hk hb)
 clear hd0 hd1 hp0 hc CK
 have HB3:Hid (Below W1.heap.size W1 w2.drew):=hid HB2.out.drew
 refine bM (S:=(fun u:World=>u.cell? ⟨w.heap.size,0,none⟩=some (.pointer (some ⟨g,0,none⟩))∧u.cell? ⟨w.heap.size+1,1,none⟩=some (.slice ma mn mc)∧u.cell? ⟨g,0,none⟩=some (.slice sa sn sc))) 11 (by kernel_rfl) (HC.out _ HB3.out) (fun hHeld=> ?_)
 refine zW 0 10 ?_
 (try simp only[Act.put,zA,zB,zC])
 refine zT 1 11 8 ?_
 (try simp only[Act.put,zA,zB,zC])
 refine zW 2 12 ?_
 (try simp only[Act.put,zA,zB,zC])
 refine zW 3 13 ?_
 (try simp only[Act.put,zA,zB,zC])
 refine zT 4 14 8 ?_
 (try simp only[Act.put,zA,zB,zC])
 refine zW 5 15 ?_
 (try simp only[Act.put,zA,zB,zC])
 refine zW 6 16 ?_
 (try simp only[Act.put,zA,zB,zC])
 refine zT 7 17 8 ?_
 (try simp only[Act.put,zA,zB,zC])
 refine zW 8 18 ?_
 (try simp only[Act.put,zA,zB,zC])
 refine zW 9 19 ?_
 (try simp only[Act.put,zA,zB,zC])
 refine aO (i:=10) (by kernel_rfl) rfl (fun K hK=> ?_)
 rw[if_pos (by rfl)]
 go_simp
 (with_reducible refine(bS _ _).mono ?_)
 intro e w7 hq
 rcases hq.split with⟨hk,rfl,rfl⟩|⟨hk,rfl,rfl⟩
 rotate_left
 ·exact⟨rfl,au.bad (by unfold kZ;rw[decide_eq_false (fun e=>by have h1:=HML.out;have h2:=HSL.out;rw[HBB.out.2 (by omega)]at hk;cases hk)];simp) (HB.out.trans (HB3.out.mono HB.out.size))⟩
 have HMS:Hid (mn=sn):=hid (HBB.out.1 hk)
 clear hk
 refine hK.out _ _ (HC.out _ HB3.out) (fun hHeld=> ?_)
 clear hK K
 (try simp only[Act.put,zA,zB,zC])
 refine bH (by kernel_rfl) ?_
 clear hbb1 hbb2 hbb3
 obtain⟨x0,x1,x2⟩:=HC.out _ HB3.out
 go_upto_region 4 with fail
 clear x0 x1 x2
 go_loopw[24] (fun v24 wr=>∃ i:Nat,i≤mn∧v24=.int .i64 (i:Int)∧Hid (fq (vz P c) i=true∧Below W1.heap.size W1 wr)) (fun iv _=>mn-(intOf iv).toNat)
 case atStart=>exact⟨0,Nat.zero_le _,rfl,hid ⟨rfl,HB3.out⟩⟩
 case round=>
  obtain⟨i,hi,rfl,HI⟩:=hrel
  by_cases hlt:i<mn
  ·have hltz:(i:Int)<(mn:Int):=by omega
   have hi0:(0:Int)≤(i:Int):=by omega
   have hil:i<c.methods.length:=by have:=HML.out;omega
   obtain⟨ga,oa,rfl,hg,hcell⟩:=(HMN.out.since HI.out.2).2 (by omega)
   have hz:wr.cell? ⟨ga,oa+i,none⟩=some (.int .i64 (nth c.methods i)):=by rw[hcell i hil,bN hil];rfl
   obtain⟨z,hzz⟩:∃ z,z=nth c.methods i:=⟨_,rfl⟩
   have HZZ:=hid hzz
   rw[←hzz]at hz
   have HLT:=hid hlt
   clear hcell hg hil hzz
   by_cases h0:0≤z
   ·have HM1:Hid (vz P c i=tu P z (iw P i)):=hid (by unfold vz;rw[←HZZ.out,if_pos h0])
    have hin:i<sn:=by have:=HMS.out;omega
    have hinz:(i:Int)<(sn:Int):=by omega
    have HPI:=HP.out.since HI.out.2
    obtain⟨gs,os,cs,hsl,rfl,hl2,hscell,hq⟩:=HPI.s.elem hin
    obtain⟨X,hX⟩:∃ X,X=P.sigs[i]:=⟨_,rfl⟩
    rw[←hX]at hq
    have hso:iw P i=X:=by rw[yZ hsl,hX]
    obtain⟨pv,rfl,hpv,hpr⟩:=hq
    have hpv':=hpv
    obtain⟨qa,qn,qc,rfl,_⟩:=hpv'
    have f0:=hscell 0 (by simp)
    have f1:=hscell 1 (by simp)
    simp only[Nat.add_zero,List.getElem_cons_zero,List.getElem_cons_succ]at f0 f1
    have hgs:gs<wr.heap.size:=World.block_lt_of_cell? _ _ f0
    have CM:Hid (∀u,Below wr.heap.size wr u→Calls Tryz.prog 87 #[.agg #[.pointer (some ⟨g,0,none⟩)],.int .i64 z,.agg #[.slice qa qn qc,.int .i64 X.ret]] u (au (tu P z (iw P i)) u)):=hid fun u hu=>by
     rw[hso]
     exact wR g z h0 X qa qn qc u (HPI.since hu) (hpv.since hu) HH.out
    obtain⟨x0,x1,x2⟩:=HC.out wr HI.out.2
    have HXC:Hid (∀u,Below wr.heap.size wr u→u.cell? ⟨w.heap.size,0,none⟩=some (.pointer (some ⟨g,0,none⟩))∧u.cell? ⟨g,0,none⟩=some (.slice (some ⟨gs,os,none⟩) sn sc)∧u.cell? ⟨gs,os+i*2,none⟩=some (.slice qa qn qc)∧u.cell? ⟨gs,os+i*2+1,none⟩=some (.int .i64 X.ret)):=hid fun u hu=>by
     obtain⟨q0,_,q2⟩:=HC.out u (HI.out.2.trans (hu.mono HI.out.2.size))
     exact⟨q0,q2,(hu.cell (p:=⟨gs,os+i*2,none⟩) hgs).trans f0,(hu.cell (p:=⟨gs,os+i*2+1,none⟩) hgs).trans f1⟩
    have HZ0:=hid h0
    clear hscell hl2 hX hso hpv hpr f0 f1 hgs HPI hsl x0 x1 x2 hin
    go_upto_region 7 with fail
    refine bM (S:=(fun u:World=>u.cell? ⟨w.heap.size,0,none⟩=some (.pointer (some ⟨g,0,none⟩))∧u.cell? ⟨g,0,none⟩=some (.slice (some ⟨gs,os,none⟩) sn sc)∧u.cell? ⟨gs,os+i*2,none⟩=some (.slice qa qn qc)∧u.cell? ⟨gs,os+i*2+1,none⟩=some (.int .i64 X.ret))) 11 (by kernel_rfl) (HXC.out _ ((Below.refl _ wr).drew)) (fun hHeld=> ?_)
    refine zT 0 31 8 ?_
    (try simp only[Act.put,zA,zB,zC])
    refine zW 1 32 ?_
    (try simp only[Act.put,zA,zB,zC])
    refine zW 2 33 ?_
    (try simp only[Act.put,zA,zB,zC])
    refine zT 3 34 8 ?_
    (try simp only[Act.put,zA,zB,zC])
    refine zW 4 35 ?_
    (try simp only[Act.put,zA,zB,zC])
    refine zW 5 36 ?_
    (try simp only[Act.put,zA,zB,zC])
    refine zT 6 37 8 ?_
    (try simp only[Act.put,zA,zB,zC])
    refine zW 7 38 ?_
    (try simp only[Act.put,zA,zB,zC])
    refine zW 8 39 ?_
    (try simp only[Act.put,zA,zB,zC])
    refine zT 9 40 8 ?_
    (try simp only[Act.put,zA,zB,zC])
    refine aO (i:=10) (by kernel_rfl) rfl (fun K hK=> ?_)
    rw[if_pos (by rfl)]
    go_simp
    (with_reducible refine(CM.out _ ((Below.refl _ wr).drew)).mono ?_)
    intro e w7 hq
    rcases hq.split with⟨hk,rfl,hb⟩|⟨hk,rfl,hb⟩
    rotate_left
    ·exact⟨rfl,au.bad (by unfold kZ;rw[HML.out,dQ HLT.out (by rw[HM1.out];exact hk)];simp) (HB.out.trans ((HI.out.2.trans (((Below.refl _ wr).drew.trans (hb.mono (Nat.le_refl _))).mono HI.out.2.size)).mono HB.out.size))⟩
    have hb7:Below wr.heap.size wr w7:=(Below.refl _ wr).drew.trans (hb.mono (Nat.le_refl _))
    have HB7:=hid hb7
    have HK5:Hid (fq (vz P c) (i+1)=true∧Below W1.heap.size W1 w7):=hid ⟨bX HI.out.1 (by rw[HM1.out];exact hk),HI.out.2.trans (hb7.mono HI.out.2.size)⟩
    clear hk hb hb7
    refine hK.out _ _ (HXC.out _ HB7.out) (fun hHeld=> ?_)
    clear hK K
    (try simp only[Act.put,zA,zB,zC])
    refine bH (by kernel_rfl) ?_
    go_wp2_with fail
    go_roundw
    case rel=>exact⟨i+1,HLT.out,by go_num,HK5⟩
    case measure=>have:=HLT.out;simp[intOf];omega
   ·have HM1:Hid (vz P c i=true):=hid (by unfold vz;rw[←HZZ.out,if_neg h0])
    have HK5:Hid (fq (vz P c) (i+1)=true∧Below W1.heap.size W1 wr):=hid ⟨bX HI.out.1 HM1.out,HI.out.2⟩
    go_wp2_with fail
    go_roundw
    case rel=>exact⟨i+1,HLT.out,by go_num,HK5⟩
    case measure=>have:=HLT.out;simp[intOf];omega
  ·obtain rfl:i=mn:=by omega
   have hnn:¬ (i:Int)<(i:Int):=by omega
   have HK:Hid (kZ P c=true):=hid (by unfold kZ;rw[HK1.out,HML.out,HI.out.1,decide_eq_true (by have:=HSL.out;have:=HMS.out;omega:i=P.sigs.length)];rfl)
   go_wp2_with fail
   go_end0
   exact au.good HK.out (HB.out.trans (HI.out.2.mono HB.out.size))
theorem l8{P:Program}(w:World){ops:Array Oper}{rest:List Oper}{o:Oper}{a:Act}{Q:Exit→Act→World→Prop}(hgd:o.guard=none)(s x:Operand)(t:TypeId)
 (ho:o.op=.call {callee:=.builtin .append,args:=#[s,x],argTypes:=#[t,t]})(e:TypeId)(ht:P.underlying t=some (.slice e))
 (hinfo:(P.info? e).map (fun i=>(i.zero,i.size,i.bytes))=some (some (.int .i64 0),1,8))
 (B:Nat)(v:Value)(Z:List Int)(hs:a.eval s=v)(hown:aj w B e v Z)(hB:B≤w.heap.size)
 (xa:Option Addr)(m c:Nat)(news:List Int)(hx:a.eval x=.slice xa m c)(hnil:xa=none→c=0)(hat:ai w xa m news)
 (hlen:(Z.length+m)*8≤140737488355328)
 (h:∀ va vn vc w',aj w' B e (.slice va vn vc) (Z++news)→w.grownBy w' v.ownBlock→wpList P ops Q rest (a.put o.dst (.slice va vn vc)) w'):wpList P ops Q (o::rest) a w:=by
 obtain⟨i0,hi,hz0,hz1,hz2⟩:=info_parts hinfo
 have h1:=hat.1
 cases xa with
 |none=>
  have hm:m=0:=by
   by_cases h0:0<m
   ·obtain⟨g,off,he,_⟩:=hat.2 h0;cases he
   ·omega
  have hc:c=0:=hnil rfl
  subst hm hc
  have h0:news=[]:=List.eq_nil_of_length_eq_zero h1
  subst h0
  refine wpList_append_own_none hgd s x t ho B e i0 1 ht hi v Z.length (Z.map dN) hs hown hx ?_
  obtain⟨va,vn,vc,rfl,hat⟩:=hown.nums
  exact h va vn vc w (by rw[List.append_nil];exact hown) (World.grownBy.refl _ _)
 |some ad=>
  subst h1
  refine wpList_append_own _ hgd s x t ho B e i0 (.int .i64 0) 1 8 ht hi hz0 hz1 hz2 rfl (by decide) v Z.length (Z.map dN) hs hown ad news.length c (news.map dN) hx (by simp) (fun j u hu=> ?_) (fun u hu=>by obtain⟨z,_,rfl⟩:=List.mem_map.1 hu;rfl) (by unfold maxLen;omega) hlen hB ?_
  ·rw[List.getElem?_map]at hu
   obtain⟨z,hz,rfl⟩:=Option.map_eq_some_iff.1 hu
   obtain⟨hj,rfl⟩:=List.getElem?_eq_some_iff.1 hz
   obtain⟨ad',he,hcell⟩:=hat.at (by omega)
   cases he
   exact hcell j hj
  ·intro v' w' hown' hgrow _
   have hown2:aj w' B e v' (Z++news):=by
    show w'.ownsRow B e 1 v' (Z++news).length ((Z++news).map dN)
    rw[List.map_append,List.length_append]
    exact hown'
   obtain⟨va,vn,vc,rfl,hat⟩:=hown2.nums
   exact h va vn vc w' hown2 hgrow
theorem Ba(n:Nat)(hn:n≤1099511627776)(u:World):(Instr.makeSlice 40 (.int .i64 0) (.int .i64 (n:Int))).run Tryz.prog u=.ok (.slice (some ⟨u.heap.size,0,none⟩) 0 n) (u.alloc (.cells (madeCells #[.int .i64 0] n) 3)):=by
 obtain⟨i0,hi,hz0,hz1,hz2⟩:=info_parts aT
 have h:=run_make (P:=Tryz.prog) u 40 3 i0 (.int .i64 0) Tryz.underlying40 hi hz0 .i64 .i64 0 (n:Int) (by omega) (by omega) (by rw[hz2];omega) (by omega)
 rw[Int.toNat_natCast]at h
 simpa [hz1,Value.cells]using h
structure zO(W1:World)(B2 n:Nat)(f:ak)(va:Option Addr)(vn vc:Nat)(fa:Option Addr)(fc:Nat)(oa:Option Addr)(on oc:Nat)(T:List Int)(wr:World):Prop where
 own:aj wr W1.heap.size 3 (.slice va vn vc) T
 first:aj wr B2 3 (.slice fa (n+1) fc) (jM f)
 ord:aj wr B2 3 (.slice oa on oc) (fu f)
 lt:∀ k,(Value.slice va vn vc).ownBlock=some k→k<B2
 le:B2≤wr.heap.size
 bel:Below W1.heap.size W1 wr
theorem zO.since{W1:World}{B2 n:Nat}{f:ak}{va:Option Addr}{vn vc:Nat}{fa:Option Addr}{fc:Nat}{oa:Option Addr}{on oc:Nat}{T:List Int}{wr w':World}(h:zO W1 B2 n f va vn vc fa fc oa on oc T wr)(hb:Below wr.heap.size wr w'):zO W1 B2 n f va vn vc fa fc oa on oc T w':=
 ⟨aj.below h.own hb,aj.below h.first hb,aj.below h.ord hb,h.lt,Nat.le_trans h.le hb.size,h.bel.trans (hb.mono h.bel.size)⟩
theorem zO.at{W1:World}{B2 n:Nat}{f:ak}{va:Option Addr}{vn vc:Nat}{fa:Option Addr}{fc:Nat}{oa:Option Addr}{on oc:Nat}{T:List Int}{wr:World}(h:zO W1 B2 n f va vn vc fa fc oa on oc T wr){j:Nat}(hj:j<T.length):
 ∃g,va=some ⟨g,0,none⟩∧W1.heap.size≤g∧g<B2∧wr.cell? ⟨g,j,none⟩=some (.int .i64 T[j])∧wr.frozen? ⟨g,j,none⟩=false:=by
 rcases h.own.2 with⟨e,h0⟩|⟨g,cap,cur,e,hB,hh,rest⟩
 ·cases e
  have:=h.own.read.1
  omega
 ·cases e
  refine⟨g,rfl,hB,h.lt g rfl, ?_,by simp[World.frozen?,hh]⟩
  have:=World.ownsRow.cells h.own (g:=g) rfl j (dN T[j]) (by rw[List.getElem?_map,List.getElem?_eq_getElem hj];rfl)
  rwa [aU,Nat.zero_add]at this
theorem zO.put{W1:World}{B2 n:Nat}{f:ak}{g vn vc:Nat}{fa:Option Addr}{fc:Nat}{oa:Option Addr}{on oc:Nat}{T:List Int}{wr:World}(h:zO W1 B2 n f (some ⟨g,0,none⟩) vn vc fa fc oa on oc T wr)(hg:W1.heap.size≤g)(j:Nat)(z:Int):zO W1 B2 n f (some ⟨g,0,none⟩) vn vc fa fc oa on oc (T.set j z) (wr.setCell ⟨g,j,none⟩ (.int .i64 z)):=by
 have hlt:=h.lt g rfl
 refine⟨aj.set h.own j z,h.first.setCell ⟨g,j,none⟩ _ hlt,h.ord.setCell ⟨g,j,none⟩ _ hlt,h.lt,by rw[dB];exact h.le,h.bel.setCell hg _⟩
theorem vC{a b:Nat}(h:a+b≤1099511627776):IntKind.i64.wrap ((a:Int)+(b:Int))=(a:Int)+(b:Int):=wrap_small _ (by omega) (by omega)
theorem mG{a b c:Nat}(h:a+b+c≤1099511627776):IntKind.i64.wrap ((a:Int)+(b:Int)+(c:Int))=((a+b+c:Nat):Int):=by
 rw[wrap_small _ (by omega) (by omega)]
 omega
set_option maxRecDepth 100000 in
set_option maxHeartbeats 4000000 in
theorem nP(
 pg:Nat) {sa:Option Addr} {sn sc:Nat} {ca:Option Addr} {cn cc:Nat} {pa':Option Addr} {pn' pc':Nat} {P:aB} (r:Int) (a:Option Addr) (n c:Nat) (f:ak) (w:World) (hft:FT w) (hP:aX w pg sa sn sc ca cn cc pa' pn' pc' P)
 (hf:bO w [.int .i64 r,.slice a n c] f) (hn:n≤100000) (hv:aV f≤1099511627776):
 Calls Tryz.prog 15 #[.pointer (some ⟨pg,0,none⟩),.agg #[.int .i64 r,.slice a n c]] w fun e w'=>∃ va vn vc,e=.returned (.slice va vn vc)∧aj w' w.heap.size 3 (.slice va vn vc) (kP P f)∧Below w.heap.size w w':=by
 obtain⟨W1,hW1⟩:∃ U,w.alloc (.cells #[.int .i64 r,.slice a n c] 36)=U:=⟨_,rfl⟩
 have hb1:Below w.heap.size w W1:=by rw[←hW1];exact(Below.refl _ w).alloc (Nat.le_refl _) _
 have hs1:W1.heap.size=w.heap.size+1:=by rw[←hW1];simp
 have hc:∀ j,W1.cell? ⟨w.heap.size,j,none⟩=(#[.int .i64 r,.slice a n c]:Array Value)[j]? :=fun j=>by rw[←hW1];exact World.cell?_alloc_mark _ _ _ _ _
 have hc0:=hc 0
 have hc1:=hc 1
 have HC:Hid (∀U,Below W1.heap.size W1 U→U.cell? ⟨w.heap.size,0,none⟩=some (.int .i64 r)∧U.cell? ⟨w.heap.size,1,none⟩=some (.slice a n c)):=hid fun U hU=>⟨(hU.cell (p:=⟨w.heap.size,0,none⟩) (by simp only[];omega)).trans (hc 0),(hU.cell (p:=⟨w.heap.size,1,none⟩) (by simp only[];omega)).trans (hc 1)⟩
 have hrow:=(jc hf).1
 have HL:Hid (f.blocks.length=n):=hid (by obtain⟨_,_,_,e,h,_⟩:=hrow;cases e;exact h)
 have hcn:P.classes.length≤140737488355328:=by have:=hP.c.len;omega
 have HTR:Hid (∀b T k,(∀z∈T,InR z)→∀ z∈aW P f b T k,InR z):=hid fun b T k h=>pF hP.r hcn h k
 have HTK:Hid (∀i,∀z∈aK P f i,InR z):=hid (pu hP.r hcn hrow.parR)
 have HR:=hid (hrow.since aM.lasts hb1)
 have HP:=hid (hP.since hb1)
 have HFT:=hid (hft.since hb1)
 have HB1:=hid hb1
 have HS1:=hid hs1
 have HN:=hid hn
 have HV:=hid hv
 have CV:=hid (qE r a n c f W1 (bO.lasts _ _ _ _ hb1 hf))
 rw[oD f hv]at CV
 have hmk:=Ba (aV f) hv
 obtain⟨N,hN⟩:∃ N,N=aV f:=⟨_,rfl⟩
 rw[←hN]at CV hmk
 have HNV:=hid hN
 clear hrow hf hb1 hc hs1 hP hft hv hcn hN
 go_enter Tryz.func15,Tryz.ntmps15
 go_upto_region 1 with fail
 try rw[hW1]
 clear hW1
 go_upto_region 2 with(go_at_call 25;refine CV.out.mono ?_;rintro e w2 ⟨rfl,hb⟩;have HB2:=hid hb;obtain⟨d0,d1⟩:=HC.out w2 hb;clear hb hc0 hc1)
 obtain⟨W3,hW3⟩:∃ u,w2.alloc (.cells (madeCells #[.int .i64 0] N) 3)=u:=⟨_,rfl⟩
 have hb3:Below W1.heap.size W1 W3:=by rw[←hW3];exact HB2.out.alloc HB2.out.size _
 have HO0:Hid (aj W3 W1.heap.size 3 (.slice (some ⟨w2.heap.size,0,none⟩) 0 N) (dI f 0)∧Below W1.heap.size W1 W3):=hid ⟨by rw[←hW3];exact aj.made _ N HB2.out.size (by have:=HNV.out;have:=HV.out;unfold maxLen;omega) (size_madeCells _ _),hb3⟩
 obtain⟨k0,k1⟩:=HC.out W3 hb3
 rw[hW3]
 clear hW3 hb3 d0 d1 hmk
 go_upto_region 3 with fail
 go_loopw[5,20] (fun v5 v20 wr=>∃ (i:Nat) (va:Option Addr) (vn vc:Nat),i≤n∧v5=.slice va vn vc∧v20=.int .i64 (i:Int)∧Hid (aj wr W1.heap.size 3 (.slice va vn vc) (dI f i)∧Below W1.heap.size W1 wr)) (fun _ iv _=>n-(intOf iv).toNat)
 case atStart=>exact⟨0,_,_,_,Nat.zero_le _,rfl,rfl,HO0⟩
 case round=>
  obtain⟨i,va,vn,vc,hi,rfl,rfl,HI⟩:=hrel
  by_cases hlt:i<n
  ·have hltz:(i:Int)<(n:Int):=by omega
   obtain⟨a',n',c',e,_,hpm,_,hrow⟩:=HR.out.since aM.lasts HI.out.2
   cases e
   obtain⟨g,off,rfl,hg,hcs⟩:=hrow (by omega)
   have hif:i<f.blocks.length:=by rw[HL.out];exact hlt
   obtain⟨cs,hl8,hcell,hq⟩:=hcs i hif
   obtain⟨X,hX⟩:∃ X,X=f.blocks[i]:=⟨_,rfl⟩
   rw[←hX]at hq
   obtain⟨pv,ov,es,rfl,⟨pa,pn,pc,rfl,hp,hpn0,_⟩,⟨oa,on,oc,rfl,ho,_⟩,l1,m1,rfl,r1,r2,r3,r4,⟨la,ln,lc,rfl,_⟩,⟨ma,mn,mc,rfl,_⟩⟩:=hq
   have hd0:=hcell 0 (by simp)
   have hd1:=hcell 1 (by simp)
   have hd2:=hcell 2 (by simp)
   have hd3:=hcell 3 (by simp)
   have hd4:=hcell 4 (by simp)
   have hd5:=hcell 5 (by simp)
   have hd6:=hcell 6 (by simp)
   have hd7:=hcell 7 (by simp)
   simp only[Nat.add_zero,List.getElem_cons_zero,List.getElem_cons_succ]at hd0 hd1 hd2 hd3 hd4 hd5 hd6 hd7
   have hpar:nU f i=X.params:=by rw[iZ hif,hX]
   have hopn:qP f i=on:=by rw[jC hif,←hX];exact ho
   have HIN:Hid ((dI f i).length+pn+on≤1099511627776∧dI f (i+1)=dI f i++(X.params++List.replicate on (-1))):=hid (by
    refine⟨?_,by rw[show dI f (i+1)=dI f i++(nU f i++List.replicate (qP f i) (-1))from rfl,hpar,hopn]⟩
    have h1:=jd hif
    have h2:=je f (i+1)
    have h3:=HV.out
    rw[nH (by omega)]
    rw[hpar,hopn,hp.1]at h1
    omega)
   have HPN:=hid hpn0
   have HPA:=hid hp
   clear hcs hcell hrow hp ho hl8 hif hX hpar hopn hpn0
   go_upto_region 5 with fail
   obtain⟨Y,hY⟩:∃ u,u=wr.alloc (.cells #[.slice pa pn pc,.slice oa on oc,.int .i64 X.fin.K,.int .i64 X.fin.A,.int .i64 X.fin.To,.int .i64 X.fin.Else,.slice la ln lc,.slice ma mn mc] 51):=⟨_,rfl⟩
   have hbY:Below wr.heap.size wr Y:=by rw[hY];exact(Below.refl _ wr).alloc (Nat.le_refl _) _
   have hcY:∀ j,Y.cell? ⟨wr.heap.size,j,none⟩=(#[.slice pa pn pc,.slice oa on oc,.int .i64 X.fin.K,.int .i64 X.fin.A,.int .i64 X.fin.To,.int .i64 X.fin.Else,.slice la ln lc,.slice ma mn mc]:Array Value)[j]? :=fun j=>by rw[hY];exact World.cell?_alloc_mark _ _ _ _ _
   have e0:=hcY 0
   have e1:=hcY 1
   have hpy:wr.heap.size<Y.heap.size:=by rw[hY];simp
   rw[←hY]
   obtain⟨p,hp⟩:∃ p,p=wr.heap.size:=⟨_,rfl⟩
   have HOY:Hid (aj Y W1.heap.size 3 (.slice va vn vc) (dI f i)):=hid (aj.below HI.out.1 hbY)
   have HBY:Hid (Below W1.heap.size W1 Y):=hid (HI.out.2.trans (hbY.mono HI.out.2.size))
   have HNB:Hid (∀U,Y.grownBy U (Value.slice va vn vc).ownBlock→Below W1.heap.size W1 U∧U.cell? ⟨p,1,none⟩=some (.slice oa on oc)):=hid fun U hU=>by
    refine⟨HBY.out.grown hU HBY.out.size (fun k hk=>(HI.out.1.lt k hk).1), ?_⟩
    rw[hp]
    exact hU.cell (a:=⟨wr.heap.size,1,none⟩) e1 (fun e'=>by have:=(HI.out.1.lt wr.heap.size e'.symm).2;omega)
   have HPY:Hid (ai Y pa pn X.params):=hid (HPA.out.since hbY)
   rw[←hp]at e0 e1 hpy⊢
   clear hcY hbY hY hp hd0 hd1 hd2 hd3 hd4 hd5 hd6 hd7 r1 r2 r3 r4
   go_upto_region 6 with(at_builtin;(with_reducible refine l8 _ rfl _ _ 40 rfl 3 Tryz.underlying40 aT W1.heap.size (.slice va vn vc) (dI f i) ?_ ?_ ?_ pa pn pc X.params ?_ ?_ ?_ ?_ ?_);(next=>rfl);(next=>exact HOY.out);(next=>exact HBY.out.size);(next=>rfl);(next=>exact HPN.out);(next=>exact HPY.out);(next=>have:=HIN.out.1;omega);intro xa xn xc w4 ho4 hg4;have HO4:=hid ho4;obtain⟨hb4,q1⟩:=HNB.out w4 hg4;have HB4:=hid hb4;clear ho4 hg4 hb4)
   go_upto_region 7 with fail
   go_loopw[5,31] (fun v5 v31 wr2=>∃ (k:Nat) (ya:Option Addr) (yn yc:Nat),k≤on∧v5=.slice ya yn yc∧v31=.int .i64 (k:Int)∧Hid (aj wr2 W1.heap.size 3 (.slice ya yn yc) (dI f i++(X.params++List.replicate k (-1)))∧Below W1.heap.size W1 wr2)) (fun _ iv _=>on-(intOf iv).toNat)
   case atStart=>exact⟨0,_,_,_,Nat.zero_le _,rfl,rfl,hid ⟨by simpa using HO4.out,HB4.out⟩⟩
   case round=>
    obtain⟨k,ya,yn,yc,hk,rfl,rfl,HK⟩:=hrel
    by_cases hkl:k<on
    ·have hklz:(k:Int)<(on:Int):=by omega
     have HLN:Hid (((dI f i++(X.params++List.replicate k (-1))).length+1)*8≤140737488355328):=hid (by
      have h1:=HIN.out.1
      have h2:=HPA.out.1
      simp only[List.length_append,List.length_replicate]
      omega)
     go_wp2_with((with_reducible refine jo _ rfl _ _ 40 rfl 3 Tryz.underlying40 aT W1.heap.size (.slice ya yn yc) (dI f i++(X.params++List.replicate k (-1))) ?_ ?_ ?_ _ 1 wr.heap.size (-1) ?_ ?_ ?_ ?_ ?_);(next=>rfl);(next=>exact HK.out.1);(next=>exact HK.out.2.size);(next=>rfl);(next=>rfl);(next=>rfl);(next=>exact HLN.out);intro za zn zc w5 ho5 hg5;have HX5:Hid (aj w5 W1.heap.size 3 (.slice za zn zc) (dI f i++(X.params++List.replicate (k+1) (-1)))∧Below W1.heap.size W1 w5):=hid ⟨by rw[List.replicate_succ',←List.append_assoc X.params,←List.append_assoc];exact ho5,(HK.out.2.alloc HK.out.2.size _).grown hg5 (by have:=HK.out.2.size;simp;omega) (fun b hb=>(HK.out.1.lt b hb).1)⟩;clear ho5 hg5)
     go_roundw
     case rel=>exact⟨k+1,_,_,_,hkl,rfl,by go_num,HX5⟩
     case measure=>simp[intOf];omega
    ·obtain rfl:k=on:=by omega
     have hnn:¬ (k:Int)<(k:Int):=by omega
     have HX6:Hid (aj wr W1.heap.size 3 (.slice ya yn yc) (dI f (i+1))∧Below W1.heap.size W1 wr):=hid ⟨by rw[HIN.out.2];exact HK.out.1,HK.out.2⟩
     clear HIN
     go_wp2_with fail
     go_roundw
     case rel=>exact⟨i+1,_,_,_,hlt,rfl,by go_num,HX6⟩
     case measure=>simp[intOf];omega
  ·obtain rfl:i=n:=by omega
   have hnn:¬ (i:Int)<(i:Int):=by omega
   have HI0:Hid (aj wr W1.heap.size 3 (.slice va vn vc) (aK P f 0)∧Below W1.heap.size W1 wr):=hid ⟨by rw[show aK P f 0=dI f f.blocks.length from rfl,HL.out];exact HI.out.1,HI.out.2⟩
   have hvn:vn=aV f:=by have:=HI0.out.1.read.1;rw[dM]at this;omega
   have HVN:=hid hvn
   obtain⟨d0,d1⟩:=HC.out wr HI0.out.2
   have CFS:=hid (pK r a i c f wr (HR.out.since aM.lasts HI0.out.2) HN.out HV.out)
   clear HI hvn
   go_upto_region 12 with(go_at_call 35;(with_reducible refine CFS.out.mono ?_);rintro e w5 ⟨fa,fc,rfl,ho,hb⟩;have HO5:=hid ho;have HB5:=hid hb;obtain⟨k0,k1⟩:=HC.out w5 (HI0.out.2.trans (hb.mono HI0.out.2.size));clear ho hb d0 d1)
   have CTH:=hid (uq r a i c f w5 (HR.out.since aM.lasts (HI0.out.2.trans (HB5.out.mono HI0.out.2.size))) HN.out)
   go_upto_region 13 with(go_at_call 36;(with_reducible refine CTH.out.mono ?_);rintro e w6 ⟨oa,on,oc,rfl,ho,hb⟩;have HO6:=hid ho;have HB6:=hid hb;clear ho hb k0 k1)
   have HT0:Hid (zO W1 wr.heap.size i f va vn vc fa fc oa on oc (aK P f 0) w6):=hid (by
    have hbb:=HB5.out.trans (HB6.out.mono HB5.out.size)
    exact⟨aj.below HI0.out.1 hbb,aj.below HO5.out HB6.out,HO6.out.mono HB5.out.size,fun k hk=>(HI0.out.1.lt k hk).2,hbb.size,HI0.out.2.trans (hbb.mono HI0.out.2.size)⟩)
   have hon:on=(fu f).length:=HO6.out.read.1.symm
   have HON:=hid hon
   have hon2:on≤200000:=by
    have h1:=nk f f.blocks.length
    have h2:=dZ f
    have h3:=HL.out
    rw[hon]
    unfold fu
    omega
   obtain⟨B2,hB2⟩:∃ B,B=wr.heap.size:=⟨_,rfl⟩
   rw[←hB2]at HT0
   clear HI0 HO5 HB5 HO6 HB6 CFS CTH hon hB2
   go_loopw[43] (fun v43 w7=>∃ q:Nat,q≤on∧v43=.int .i64 (q:Int)∧Hid (zO W1 B2 i f va vn vc fa fc oa on oc (aK P f q) w7)) (fun iv _=>on-(intOf iv).toNat)
   case atStart=>exact⟨0,Nat.zero_le _,rfl,HT0⟩
   case round=>
    obtain⟨q,hq,rfl,HQ⟩:=hrel
    by_cases hql:q<on
    ·have hqlz:(q:Int)<(on:Int):=by omega
     have hq0:(0:Int)≤(q:Int):=by omega
     have hqt:q<(fu f).length:=by rw[←HON.out];exact hql
     obtain⟨b,hbe,hbl⟩:=Da hqt
     obtain⟨_,hog⟩:=HQ.out.ord.read
     obtain⟨go,oo,rfl,_,hocell⟩:=hog (by omega)
     have hoc:wr.cell? ⟨go,oo+q,none⟩=some (.int .i64 (b:Int)):=by rw[hocell q hqt,←hbe,bN hqt];rfl
     have hbn:b<i:=by rw[←HL.out];exact hbl
     have hbz:(b:Int)<(i:Int):=by omega
     have hb0:(0:Int)≤(b:Int):=by omega
     obtain⟨k0,k1⟩:=HC.out wr HQ.out.bel
     obtain⟨g8,off8,cs,hif,rfl,hl8,hcell,hqq⟩:=HR.out.elem hbn
     obtain⟨X,hX⟩:∃ X,X=f.blocks[b]:=⟨_,rfl⟩
     rw[←hX]at hqq
     obtain⟨pv,ov,es,rfl,⟨pa,pn,pc,rfl,hp,hpn0,hpn8,hpr⟩,ho,l1,m1,rfl,r1,r2,r3,r4,⟨la,ln,lc,rfl,_⟩,⟨ma,mn,mc,rfl,_⟩⟩:=hqq
     have hov:=ho
     obtain⟨xa,xn,xc,rfl,hxl,_⟩:=hov
     have hlift:∀ (j:Nat) (v:Value),W1.cell? ⟨g8,off8+b*8+j,none⟩=some v→wr.cell? ⟨g8,off8+b*8+j,none⟩=some v:=fun j v hv=>(HQ.out.bel.cell (p:=⟨g8,off8+b*8+j,none⟩) (World.block_lt_of_cell? _ _ hv)).trans hv
     have hd0:=hlift _ _ (hcell 0 (by simp))
     have hd1:=hlift _ _ (hcell 1 (by simp))
     have hd2:=hlift _ _ (hcell 2 (by simp))
     have hd3:=hlift _ _ (hcell 3 (by simp))
     have hd4:=hlift _ _ (hcell 4 (by simp))
     have hd5:=hlift _ _ (hcell 5 (by simp))
     have hd6:=hlift _ _ (hcell 6 (by simp))
     have hd7:=hlift _ _ (hcell 7 (by simp))
     simp only[Nat.add_zero,List.getElem_cons_zero,List.getElem_cons_succ]at hd0 hd1 hd2 hd3 hd4 hd5 hd6 hd7
     have HOPS:=hid ho
     have hpar:nU f b=X.params:=by rw[iZ hif,hX]
     have hopn:qP f b=xn:=by rw[jC hif,←hX];exact hxl
     have HTQ:Hid (aK P f (q+1)=aW P f b (aK P f q) xn):=hid (by
      show aW P f (nth (fu f) q).toNat (aK P f q) (qP f (nth (fu f) q).toNat)=_
      rw[hbe,Int.toNat_natCast,hopn])
     have HBK:Hid (∀k (hk:k<X.ops.length),aW P f b (aK P f q) (k+1)=(aW P f b (aK P f q) k).set (aL f b+pn+k) (rC P X.ops[k] (aW P f b (aK P f q) k)).1):=hid fun k hk=>by
      show(aW P f b (aK P f q) k).set (aL f b+(nU f b).length+k) (rC P (opAt f b k) (aW P f b (aK P f q) k)).1=_
      have hk':k<f.blocks[b].ops.length:=by rw[←hX];exact hk
      rw[hpar,hp.1,xL hif hk']
      subst hX
      rfl
     have HRM:Hid (∀k,k<xn→aL f b+pn+k<vn):=hid fun k hk=>by
      have:=vX hbl (k:=k) (by rw[hopn];exact hk)
      rw[hpar,hp.1]at this
      rw[HVN.out]
      exact this
     have HXL:=hid hxl
     clear hcell hl8 hX hpar hopn hpn0 hpn8 hpr hp hlift ho hxl r1 r2 r3 r4 hocell hbe hqt hog hif hbl
     go_upto_region 16 with fail
     obtain⟨Y,hY⟩:∃ u,u=wr.alloc (.cells #[.slice pa pn pc,.slice xa xn xc,.int .i64 X.fin.K,.int .i64 X.fin.A,.int .i64 X.fin.To,.int .i64 X.fin.Else,.slice la ln lc,.slice ma mn mc] 51):=⟨_,rfl⟩
     have hbY:Below wr.heap.size wr Y:=by rw[hY];exact(Below.refl _ wr).alloc (Nat.le_refl _) _
     have hcY:∀ j,Y.cell? ⟨wr.heap.size,j,none⟩=(#[.slice pa pn pc,.slice xa xn xc,.int .i64 X.fin.K,.int .i64 X.fin.A,.int .i64 X.fin.To,.int .i64 X.fin.Else,.slice la ln lc,.slice ma mn mc]:Array Value)[j]? :=fun j=>by rw[hY];exact World.cell?_alloc_mark _ _ _ _ _
     have e0:=hcY 0
     have e1:=hcY 1
     have hpy:wr.heap.size<Y.heap.size:=by rw[hY];simp
     rw[←hY]
     obtain⟨p,hp⟩:∃ p,p=wr.heap.size:=⟨_,rfl⟩
     have HPB:Hid (B2≤p):=hid (by rw[hp];exact HQ.out.le)
     have HY:Hid (zO W1 B2 i f va vn vc fa fc (some ⟨go,oo,none⟩) on oc (aW P f b (aK P f q) 0) Y∧Y.cell? ⟨p,0,none⟩=some (.slice pa pn pc)∧p<Y.heap.size):=hid ⟨HQ.out.since hbY,by rw[hp];exact e0,by rw[hp];exact hpy⟩
     rw[←hp]at e0 e1 hpy⊢
     clear hcY hbY hY hp hd0 hd1 hd2 hd3 hd4 hd5 hd6 hd7 hoc
     go_upto_region 17 with fail
     clear HQ k0 k1 e0 e1 hpy
     go_loopw[55] (fun v55 w8=>∃ k:Nat,k≤xn∧v55=.int .i64 (k:Int)∧Hid (zO W1 B2 i f va vn vc fa fc (some ⟨go,oo,none⟩) on oc (aW P f b (aK P f q) k) w8∧w8.cell? ⟨p,0,none⟩=some (.slice pa pn pc)∧p<w8.heap.size)) (fun iv _=>xn-(intOf iv).toNat)
     case atStart=>exact⟨0,Nat.zero_le _,rfl,HY⟩
     case round=>
      obtain⟨k,hk,rfl,HK⟩:=hrel
      by_cases hkl:k<xn
      ·have hklz:(k:Int)<(xn:Int):=by omega
       obtain⟨g9,off9,cs9,hif9,rfl,hl9,hcell9,hq9⟩:=(HOPS.out.since OpQ.lasts HK.out.1.bel).elem hkl
       obtain⟨O,hO⟩:∃ O,O=X.ops[k]:=⟨_,rfl⟩
       rw[←hO]at hq9
       obtain⟨lv,rfl,s1,s2,s3,s4,s5,s6,⟨ya,yn,yc,rfl,hy,hy0,hy8,hyr⟩⟩:=hq9
       have hd0:=hcell9 0 (by simp)
       have hd1:=hcell9 1 (by simp)
       have hd2:=hcell9 2 (by simp)
       have hd3:=hcell9 3 (by simp)
       have hd4:=hcell9 4 (by simp)
       have hd5:=hcell9 5 (by simp)
       have hd6:=hcell9 6 (by simp)
       have hd7:=hcell9 7 (by simp)
       simp only[Nat.add_zero,List.getElem_cons_zero,List.getElem_cons_succ]at hd0 hd1 hd2 hd3 hd4 hd5 hd6 hd7
       have HBE:Hid (aW P f b (aK P f q) (k+1)=(aW P f b (aK P f q) k).set (aL f b+pn+k) (rC P O (aW P f b (aK P f q) k)).1):=hid (by rw[hO];exact HBK.out k hif9)
       have hroom:=HRM.out k hkl
       clear hcell9 hl9 hO
       go_upto_region 19 with fail
       obtain⟨Z,hZ⟩:∃ u,u=wr.alloc (.cells #[.int .i64 O.K,.int .i64 O.A,.int .i64 O.B,.int .i64 O.C,.int .i64 O.N,.string O.S,.slice ya yn yc,.bool O.T] 64):=⟨_,rfl⟩
       have hbZ:Below wr.heap.size wr Z:=by rw[hZ];exact(Below.refl _ wr).alloc (Nat.le_refl _) _
       have hcZ:∀ j,Z.cell? ⟨wr.heap.size,j,none⟩=(#[.int .i64 O.K,.int .i64 O.A,.int .i64 O.B,.int .i64 O.C,.int .i64 O.N,.string O.S,.slice ya yn yc,.bool O.T]:Array Value)[j]? :=fun j=>by rw[hZ];exact World.cell?_alloc_mark _ _ _ _ _
       have hpz:wr.heap.size<Z.heap.size:=by rw[hZ];simp
       have HTZ:=hid (HK.out.1.since hbZ)
       have hcp:Z.cell? ⟨p,0,none⟩=some (.slice pa pn pc):=(hbZ.cell (p:=⟨p,0,none⟩) HK.out.2.2).trans HK.out.2.1
       have hpp:p<Z.heap.size:=Nat.lt_of_lt_of_le HK.out.2.2 hbZ.size
       rw[←hZ]
       obtain⟨p2,hp2⟩:∃ p,p=wr.heap.size:=⟨_,rfl⟩
       rw[←hp2]at hcZ hpz⊢
       obtain⟨_,hfg⟩:=HTZ.out.first.read
       obtain⟨gf,of,rfl,hgf,hfc⟩:=hfg (by omega)
       have hfb:b<(jM f).length:=by rw[BD];have:=HL.out;omega
       obtain⟨z0,hz0⟩:∃ z,z=aL f b:=⟨_,rfl⟩
       have hf0:Z.cell? ⟨gf,of+b,none⟩=some (.int .i64 (z0:Int)):=by rw[hfc b hfb,qA,hz0];rfl
       obtain⟨j,hj⟩:∃ j,j=z0+pn+k:=⟨_,rfl⟩
       have hjn:j<vn:=by rw[hj,hz0];exact hroom
       have hjt:j<(aW P f b (aK P f q) k).length:=by rw[fT,dM,←HVN.out];exact hjn
       obtain⟨gt,rfl,hgB,hgl,hxx1,hxx2⟩:=HTZ.out.at hjt
       have hv40:vn≤1099511627776:=by rw[HVN.out];exact HV.out
       have hq1:z0+pn≤1099511627776:=by omega
       have hq2:z0+pn+k≤1099511627776:=by omega
       have hyn:yn≤17592186044000:=by omega
       have hvn7:vn≤140737488355328:=by omega
       have hbz1:(b:Int)<((i+1:Nat):Int):=by omega
       have hbz2:(b:Int)<(i:Int)+1:=by omega
       have hj0:(0:Int)≤(j:Int):=by omega
       have hjv:(j:Int)<(vn:Int):=by omega
       have HJ:Hid (aL f b+pn+k=j):=hid (by rw[hj,hz0])
       have HGP:Hid (W1.heap.size≤gt∧gt<B2∧j<vn):=hid ⟨hgB,hgl,hjn⟩
       have HS0:Hid (∀u,Below Z.heap.size Z u→u.cell? ⟨gf,of+b,none⟩=some (.int .i64 (z0:Int))∧u.cell? ⟨p,0,none⟩=some (.slice pa pn pc)∧u.cell? ⟨p2,0,none⟩=some (.int .i64 O.K)∧u.cell? ⟨p2,1,none⟩=some (.int .i64 O.A)∧u.cell? ⟨p2,2,none⟩=some (.int .i64 O.B)∧u.cell? ⟨p2,3,none⟩=some (.int .i64 O.C)∧u.cell? ⟨p2,4,none⟩=some (.int .i64 O.N)∧u.cell? ⟨p2,5,none⟩=some (.string O.S)∧u.cell? ⟨p2,6,none⟩=some (.slice ya yn yc)∧u.cell? ⟨p2,7,none⟩=some (.bool O.T)):=hid fun u hu=>⟨(hu.cell (p:=⟨gf,of+b,none⟩) hgf).trans hf0,(hu.cell (p:=⟨p,0,none⟩) hpp).trans hcp,(hu.cell (p:=⟨p2,0,none⟩) hpz).trans (hcZ 0),(hu.cell (p:=⟨p2,1,none⟩) hpz).trans (hcZ 1),(hu.cell (p:=⟨p2,2,none⟩) hpz).trans (hcZ 2),(hu.cell (p:=⟨p2,3,none⟩) hpz).trans (hcZ 3),(hu.cell (p:=⟨p2,4,none⟩) hpz).trans (hcZ 4),(hu.cell (p:=⟨p2,5,none⟩) hpz).trans (hcZ 5),(hu.cell (p:=⟨p2,6,none⟩) hpz).trans (hcZ 6),(hu.cell (p:=⟨p2,7,none⟩) hpz).trans (hcZ 7)⟩
       have CKR:Hid (∀u,Below Z.heap.size Z u→Calls Tryz.prog 37 #[.pointer (some ⟨pg,0,none⟩),.agg #[.int .i64 O.K,.int .i64 O.A,.int .i64 O.B,.int .i64 O.C,.int .i64 O.N,.string O.S,.slice ya yn yc,.bool O.T],.slice (some ⟨gt,0,none⟩) vn vc] u (yu (rC P O (aW P f b (aK P f q) k)) u)):=hid fun u hu=>by
        have hT:=HTZ.out.since hu
        have hyu:=(hy.since hbZ).since hu
        exact qo pg O.K O.A O.B O.C O.N O.S ya yn yc O.T O.L (some ⟨gt,0,none⟩) vn vc (aW P f b (aK P f q) k) u (HFT.out.below hT.bel HFT.out.lt) (HP.out.since hT.bel) hyu hyn hT.own.read hvn7 (HTR.out b (aK P f q) k (HTK.out q)) s5
       have HPLT:=hid hpp
       have HCP:=hid hcp
       have hw1:wrap64 ((z0:Int)+(pn:Int))=((z0+pn:Nat):Int):=lq hq1
       have hw2:wrap64 (((z0+pn:Nat):Int)+(k:Int))=(j:Int):=by rw[hj];exact lq hq2
       have hw3:wrap64 ((z0:Int)+(pn:Int)+(k:Int))=(j:Int):=by rw[hj];exact kL hq2
       have hv1:IntKind.i64.wrap ((z0:Int)+(pn:Int))=(z0:Int)+(pn:Int):=vC hq1
       have hv2:IntKind.i64.wrap ((z0:Int)+(pn:Int)+(k:Int))=(j:Int):=by rw[hj];exact mG hq2
       clear hxx1 hxx2 hcZ hbZ hZ hpz hp2 hf0 hcp hpp hfg hgf hfc hfb hz0 hj hjn hjt hgB hgl hy hy0 hy8 hyr hd0 hd1 hd2 hd3 hd4 hd5 hd6 hd7 s1 s2 s3 s4 s5 s6 hroom hv40 hq1 hq2 hyn hvn7
       refine bM (S:=(fun u:World=>u.cell? ⟨gf,of+b,none⟩=some (.int .i64 (z0:Int))∧u.cell? ⟨p,0,none⟩=some (.slice pa pn pc)∧u.cell? ⟨p2,0,none⟩=some (.int .i64 O.K)∧u.cell? ⟨p2,1,none⟩=some (.int .i64 O.A)∧u.cell? ⟨p2,2,none⟩=some (.int .i64 O.B)∧u.cell? ⟨p2,3,none⟩=some (.int .i64 O.C)∧u.cell? ⟨p2,4,none⟩=some (.int .i64 O.N)∧u.cell? ⟨p2,5,none⟩=some (.string O.S)∧u.cell? ⟨p2,6,none⟩=some (.slice ya yn yc)∧u.cell? ⟨p2,7,none⟩=some (.bool O.T))) 19 (by kernel_rfl) (HS0.out _ (below_drewN 1 (Below.refl _ _))) (fun hHeld=> ?_)
       refine zW 0 61 ?_
       (try simp only[Act.put,zA,zB,zC])
       refine zW 1 62 ?_
       (try simp only[Act.put,zA,zB,zC])
       refine zW 2 63 ?_
       (try simp only[Act.put,zA,zB,zC])
       refine zW 3 64 ?_
       (try simp only[Act.put,zA,zB,zC])
       refine zT 4 65 8 ?_
       (try simp only[Act.put,zA,zB,zC])
       refine zW 5 66 ?_
       (try simp only[Act.put,zA,zB,zC])
       refine zT 6 67 8 ?_
       (try simp only[Act.put,zA,zB,zC])
       refine zW 7 68 ?_
       (try simp only[Act.put,zA,zB,zC])
       refine zW 8 69 ?_
       (try simp only[Act.put,zA,zB,zC])
       refine zW 9 70 ?_
       (try simp only[Act.put,zA,zB,zC])
       refine zW 10 71 ?_
       (try simp only[Act.put,zA,zB,zC])
       refine zW 11 72 ?_
       (try simp only[Act.put,zA,zB,zC])
       refine zT 12 73 8 ?_
       (try simp only[Act.put,zA,zB,zC])
       refine zW 13 74 ?_
       (try simp only[Act.put,zA,zB,zC])
       refine aO (i:=14) (by kernel_rfl) rfl (fun K hK=> ?_)
       rw[if_pos (by rfl)]
       go_simp
       (with_reducible refine(CKR.out _ ((Below.refl _ Z).drew)).mono ?_)
       rintro e w6 ⟨rfl,hb⟩
       have hb6:Below Z.heap.size Z w6:=(below_drewN 1 (Below.refl _ Z)).trans (hb.mono (Nat.le_refl _))
       have HB6:=hid hb6
       have HT6:=hid (HTZ.out.since hb6)
       obtain⟨gt2,hge,_,_,h6c,h6f⟩:=HT6.out.at (j:=j) (by rw[fT,dM,←HVN.out];exact HGP.out.2.2)
       cases hge
       obtain⟨rt,hrt⟩:∃ t,t=(rC P O (aW P f b (aK P f q) k)).1:=⟨_,rfl⟩
       obtain⟨rb,hrb⟩:∃ t,t=(rC P O (aW P f b (aK P f q) k)).2:=⟨_,rfl⟩
       have HX6:Hid (zO W1 B2 i f (some ⟨gt,0,none⟩) vn vc (some ⟨gf,of,none⟩) fc (some ⟨go,oo,none⟩) on oc (aW P f b (aK P f q) (k+1)) (w6.setCell ⟨gt,j,none⟩ (.int .i64 rt))∧(w6.setCell ⟨gt,j,none⟩ (.int .i64 rt)).cell? ⟨p,0,none⟩=some (.slice pa pn pc)∧p<(w6.setCell ⟨gt,j,none⟩ (.int .i64 rt)).heap.size):=hid ⟨by rw[HBE.out,HJ.out,hrt];exact HT6.out.put HGP.out.1 j _,(World.cell?_setCell_other _ _ _ _ (fun e=>by cases e;have h1:=HGP.out.2.1;have h2:=HPB.out;omega)).trans ((hb6.cell (p:=⟨p,0,none⟩) HPLT.out).trans HCP.out),by rw[dB];exact Nat.lt_of_lt_of_le HPLT.out hb6.size⟩
       rw[←hrt,←hrb]
       clear hb hb6 hrt hrb
       refine hK.out _ _ (HS0.out _ HB6.out) (fun hHeld=> ?_)
       clear hK K
       (try simp only[Act.put,zA,zB,zC])
       refine zW 15 60 ?_
       (try simp only[Act.put,zA,zB,zC])
       refine zW 16 76 ?_
       (try simp only[Act.put,zA,zB,zC])
       refine zW 17 77 ?_
       (try simp only[Act.put,zA,zB,zC])
       refine zW 18 78 ?_
       (try simp only[Act.put,zA,zB,zC])
       refine jE (i:=19) (by kernel_rfl) (by kernel_rfl) rfl (fun K hK=> ?_)
       rw[if_pos (by rfl)]
       go_simp
       refine hK.out _ _ ?_
       clear hK K
       (try simp only[Act.put,zA,zB,zC])
       refine bH (by kernel_rfl) ?_
       go_wp2_with fail
       go_roundw
       case rel=>exact⟨k+1,hkl,by go_num,HX6⟩
       case measure=>simp[intOf];omega
      ·obtain rfl:k=xn:=by omega
       have hnn:¬ (k:Int)<(k:Int):=by omega
       have HX7:Hid (zO W1 B2 i f va vn vc fa fc (some ⟨go,oo,none⟩) on oc (aK P f (q+1)) wr):=hid (by rw[HTQ.out];exact HK.out.1)
       clear HTQ HBK HRM
       go_wp2_with fail
       go_roundw
       case rel=>exact⟨q+1,hql,by go_num,HX7⟩
       case measure=>simp[intOf];omega
    ·obtain rfl:q=on:=by omega
     have hnn:¬ (q:Int)<(q:Int):=by omega
     have HE:Hid (aK P f q=kP P f):=hid (by unfold kP;rw[←HON.out])
     go_wp2_with fail
     go_ret
     exact⟨va,vn,vc,rfl,by rw[←HE.out];exact HQ.out.own.mono (by have:=HS1.out;omega),HB1.out.trans (HQ.out.bel.mono HB1.out.size)⟩
def zQ(P:aB):Prop:=∀ f∈P.funcs,f.blocks.length≤100000∧aV f≤1099511627776
set_option maxRecDepth 100000 in
set_option maxHeartbeats 8000000 in
theorem zU(
 g:Nat) {sa:Option Addr} {sn sc:Nat} {ca:Option Addr} {cn cc:Nat} {fa:Option Addr} {fn fc:Nat} {P:aB} (w:World) (hP:aX w g sa sn sc ca cn cc fa fn fc P) (hft:FT w) (hsz:zQ P):
 Calls Tryz.prog 26 #[.agg #[.pointer (some ⟨g,0,none⟩)]] w (au (nA P) w):=by
 obtain⟨hb1,hc,hs1⟩:=pW w g
 obtain⟨W1,hW1⟩:∃ U,w.alloc (.cells #[.pointer (some ⟨g,0,none⟩)] 68)=U:=⟨_,rfl⟩
 rw[hW1]at hb1 hc hs1
 have hP1:=hP.since hb1
 have HB:=hid hb1
 have HP:=hid hP1
 have HFT:=hid (hft.since hb1)
 have HSZ:=hid hsz
 have hgl:g<W1.heap.size:=World.block_lt_of_cell? _ _ hP1.c0
 have hsl8:=hP1.s.len
 have hcl8:=hP1.c.len
 have hfl8:=hP1.f.len
 have HSL:=hid hsl8.1
 have HCL:=hid hcl8.1
 have HFL:=hid hfl8.1
 have hsn8:=hsl8.2
 have hcn8:=hcl8.2
 have hfn8:=hfl8.2
 have HC:Hid (∀U,Below W1.heap.size W1 U→U.cell? ⟨w.heap.size,0,none⟩=some (.pointer (some ⟨g,0,none⟩))∧U.cell? ⟨g,0,none⟩=some (.slice sa sn sc)∧U.cell? ⟨g,1,none⟩=some (.slice ca cn cc)∧U.cell? ⟨g,2,none⟩=some (.slice fa fn fc)):=hid fun U hU=>⟨(hU.cell (p:=⟨w.heap.size,0,none⟩) (by simp only[];omega)).trans hc,(hU.cell (p:=⟨g,0,none⟩) hgl).trans hP1.c0,(hU.cell (p:=⟨g,1,none⟩) hgl).trans hP1.c1,(hU.cell (p:=⟨g,2,none⟩) hgl).trans hP1.c2⟩
 have HR:Hid (nA P=(decide (0<fn)&&fq (fun i=>sigB P (iw P i)) sn&&fq (fun i=>nW P (funcOf P i)) fn&&tC (funcOf P 0)&&fq (fun i=>kZ P (vU P i)) cn&&fq (fun i=>vW P (funcOf P i)) fn)):=hid (by unfold nA;rw[hsl8.1,hcl8.1,hfl8.1])
 clear hP hft hsz hgl hs1 hsl8 hcl8 hfl8
 have p0:=hP1.c0
 have p1:=hP1.c1
 have p2:=hP1.c2
 clear hP1 hb1
 go_enter Tryz.func26,Tryz.ntmps26
 go_upto_region 1 with fail
 try rw[hW1]
 clear hW1
 go_upto_region 2 with(go_at_call 49;(with_reducible refine(bS _ _).mono ?_);intro e w3 hq;rcases hq.split with⟨hk,rfl,rfl⟩|⟨hk,rfl,rfl⟩;rotate_left;(exact⟨rfl,au.bad (by rw[HR.out,hk];rfl) HB.out⟩);have HK0:=hid hk;clear hk)
 have HF0:Hid (0<fn):=hid (of_decide_eq_true HK0.out)
 go_upto_region 3 with fail
 clear p0 p1 p2 hc
 go_loopw[24] (fun v24 wr=>∃ i:Nat,i≤sn∧v24=.int .i64 (i:Int)∧Hid (fq (fun i=>sigB P (iw P i)) i=true∧Below W1.heap.size W1 wr)) (fun iv _=>sn-(intOf iv).toNat)
 case atStart=>exact⟨0,Nat.zero_le _,rfl,hid ⟨rfl,Below.refl _ _⟩⟩
 case round=>
  obtain⟨i,hi,rfl,HI⟩:=hrel
  by_cases hlt:i<sn
  ·have hltz:(i:Int)<(sn:Int):=by omega
   have hPI:=HP.out.since HI.out.2
   obtain⟨gs,os,cs,hsl,rfl,hl2,hscell,hq⟩:=hPI.s.elem hlt
   obtain⟨X,hX⟩:∃ X,X=P.sigs[i]:=⟨_,rfl⟩
   rw[←hX]at hq
   have hso:iw P i=X:=by rw[yZ hsl,hX]
   obtain⟨pv,rfl,⟨qa,qn,qc,rfl,hqn,hq0,hq8,hqr⟩,hpr⟩:=hq
   have f0:=hscell 0 (by simp)
   have f1:=hscell 1 (by simp)
   simp only[Nat.add_zero,List.getElem_cons_zero,List.getElem_cons_succ]at f0 f1
   have HSB:Hid (sigB P (iw P i)=(ja P X.params&&qM P X.ret)):=hid (by rw[hso];rfl)
   have HLT:=hid hlt
   obtain⟨x0,x1,x2,x3⟩:=HC.out wr HI.out.2
   clear hX hso
   go_upto_region 5 with fail
   obtain⟨Y,hY⟩:∃ u,u=wr.alloc (.cells #[.slice qa qn qc,.int .i64 X.ret] 60):=⟨_,rfl⟩
   have hbY:Below wr.heap.size wr Y:=by rw[hY];exact(Below.refl _ wr).alloc (Nat.le_refl _) _
   have hcY:∀ j,Y.cell? ⟨wr.heap.size,j,none⟩=(#[.slice qa qn qc,.int .i64 X.ret]:Array Value)[j]? :=fun j=>by rw[hY];exact World.cell?_alloc_mark _ _ _ _ _
   have hpy:wr.heap.size<Y.heap.size:=by rw[hY];simp
   rw[←hY]
   obtain⟨p,hp⟩:∃ p,p=wr.heap.size:=⟨_,rfl⟩
   rw[←hp]at hcY hpy⊢
   have hbW:Below W1.heap.size W1 Y:=HI.out.2.trans (hbY.mono HI.out.2.size)
   have HBW:=hid hbW
   have CK:=hid (lC g qa qn qc X.params Y (hPI.since hbY) (hqn.since hbY) hqr (by omega))
   have CRT:Hid (∀u,Below W1.heap.size W1 u→Calls Tryz.prog 51 #[.agg #[.pointer (some ⟨g,0,none⟩)],.int .i64 X.ret] u (au (qM P X.ret) u)):=hid fun u hu=>yF g X.ret u (HP.out.since hu) hpr
   have HYC:Hid (∀u,Below Y.heap.size Y u→u.cell? ⟨p,0,none⟩=some (.slice qa qn qc)∧u.cell? ⟨p,1,none⟩=some (.int .i64 X.ret)):=hid fun u hu=>⟨(hu.cell (p:=⟨p,0,none⟩) hpy).trans (hcY 0),(hu.cell (p:=⟨p,1,none⟩) hpy).trans (hcY 1)⟩
   clear hcY hY hbY hpy hp hbW x0 x1 x2 x3 f0 f1 hscell hl2 hsl hqn hq0 hq8 hqr hpr hPI
   obtain⟨x0,x1,x2,x3⟩:=HC.out Y HBW.out
   obtain⟨y0,y1⟩:=HYC.out Y (Below.refl _ _)
   go_upto_region 6 with(go_at_call 50;(with_reducible refine CK.out.mono ?_);intro e w5 hq;rcases hq.split with⟨hk,rfl,hb⟩|⟨hk,rfl,hb⟩;rotate_left;(exact⟨rfl,au.bad (by rw[HR.out,dQ (p:=fun i=>sigB P (iw P i)) HLT.out (by simp only[HSB.out,hk,Bool.false_and])];simp) (HB.out.trans ((HBW.out.trans (hb.mono HBW.out.size)).mono HB.out.size))⟩);have HK1:=hid hk;have HB5:=hid hb;clear hk hb)
   clear x0 x1 x2 x3 y0 y1
   have HBX:Hid (Below W1.heap.size W1 w5):=hid (HBW.out.trans (HB5.out.mono HBW.out.size))
   obtain⟨x0,x1,x2,x3⟩:=HC.out w5 HBX.out
   obtain⟨y0,y1⟩:=HYC.out w5 HB5.out
   go_wp2_with(go_at_call 51;(with_reducible refine(CRT.out _ HBX.out).mono ?_);intro e w6 hq;rcases hq.split with⟨hk,rfl,hb⟩|⟨hk,rfl,hb⟩;rotate_left;(exact⟨rfl,au.bad (by rw[HR.out,dQ (p:=fun i=>sigB P (iw P i)) HLT.out (by simp only[HSB.out,hk,Bool.and_false])];simp) (HB.out.trans ((HBX.out.trans (hb.mono HBX.out.size)).mono HB.out.size))⟩);have HK5:Hid (fq (fun i=>sigB P (iw P i)) (i+1)=true∧Below W1.heap.size W1 w6):=hid ⟨bX HI.out.1 (by simp only[HSB.out,HK1.out,hk];rfl),HBX.out.trans (hb.mono HBX.out.size)⟩;clear hk hb)
   go_roundw
   case rel=>exact⟨i+1,HLT.out,by go_num,HK5⟩
   case measure=>have:=HLT.out;simp[intOf];omega
  ·obtain rfl:i=sn:=by omega
   have hnn:¬ (i:Int)<(i:Int):=by omega
   have HKS:=hid HI.out.1
   have HBS:=hid HI.out.2
   obtain⟨x0,x1,x2,x3⟩:=HC.out wr HI.out.2
   clear HI hi
   go_upto_region 9 with fail
   clear x0 x1 x2 x3 hnn
   go_loopw[43] (fun v43 w4=>∃ k:Nat,k≤fn∧v43=.int .i64 (k:Int)∧Hid (fq (fun i=>nW P (funcOf P i)) k=true∧Below W1.heap.size W1 w4)) (fun iv _=>fn-(intOf iv).toNat)
   case atStart=>exact⟨0,Nat.zero_le _,rfl,hid ⟨rfl,HBS.out⟩⟩
   case round=>
    obtain⟨k,hk,rfl,HI⟩:=hrel
    by_cases hlt:k<fn
    ·have hltz:(k:Int)<(fn:Int):=by omega
     have hPI:=HP.out.since HI.out.2
     obtain⟨gs,os,cs,hsl,rfl,hl2,hscell,hq⟩:=hPI.f.elem hlt
     obtain⟨X,hX⟩:∃ X,X=P.funcs[k]:=⟨_,rfl⟩
     rw[←hX]at hq
     have hso:funcOf P k=X:=by rw[kX hsl,hX]
     obtain⟨bv,rfl,hrr,hbr⟩:=hq
     have hbr':=hbr
     obtain⟨ba,bn,bc,rfl,_⟩:=hbr'
     have f0:=hscell 0 (by simp)
     have f1:=hscell 1 (by simp)
     simp only[Nat.add_zero,List.getElem_cons_zero,List.getElem_cons_succ]at f0 f1
     have HLT:=hid hlt
     have HSO:=hid hso
     have HFQ:Hid (bO wr [.int .i64 X.ret,.slice ba bn bc] X):=hid ⟨_,rfl,hrr,hbr⟩
     obtain⟨x0,x1,x2,x3⟩:=HC.out wr HI.out.2
     clear hX hso
     go_upto_region 11 with fail
     obtain⟨Y,hY⟩:∃ u,u=wr.alloc (.cells #[.int .i64 X.ret,.slice ba bn bc] 36):=⟨_,rfl⟩
     have hbY:Below wr.heap.size wr Y:=by rw[hY];exact(Below.refl _ wr).alloc (Nat.le_refl _) _
     have hcY:∀ j,Y.cell? ⟨wr.heap.size,j,none⟩=(#[.int .i64 X.ret,.slice ba bn bc]:Array Value)[j]? :=fun j=>by rw[hY];exact World.cell?_alloc_mark _ _ _ _ _
     rw[←hY]
     have y0:=hcY 0
     have y1:=hcY 1
     have hbW:Below W1.heap.size W1 Y:=HI.out.2.trans (hbY.mono HI.out.2.size)
     have HBW:=hid hbW
     have CH:=hid (Cu g ba bn bc X Y (hPI.since hbY) (bO.lasts _ _ _ _ hbY HFQ.out))
     clear hcY hY hbY hbW x0 x1 x2 x3 f0 f1 hscell hl2 hsl hrr hbr hPI HFQ
     obtain⟨x0,x1,x2,x3⟩:=HC.out Y HBW.out
     go_wp2_with(go_at_call 52;(with_reducible refine CH.out.mono ?_);intro e w6 hq;rcases hq.split with⟨hk,rfl,hb⟩|⟨hk,rfl,hb⟩;rotate_left;(exact⟨rfl,au.bad (by rw[HR.out,dQ (p:=fun i=>nW P (funcOf P i)) HLT.out (by simp only[HSO.out];exact hk)];simp) (HB.out.trans ((HBW.out.trans (hb.mono HBW.out.size)).mono HB.out.size))⟩);have HK5:Hid (fq (fun i=>nW P (funcOf P i)) (k+1)=true∧Below W1.heap.size W1 w6):=hid ⟨bX HI.out.1 (by simp only[HSO.out];exact hk),HBW.out.trans (hb.mono HBW.out.size)⟩;clear hk hb)
     go_roundw
     case rel=>exact⟨k+1,HLT.out,by go_num,HK5⟩
     case measure=>have:=HLT.out;simp[intOf];omega
    ·obtain rfl:k=fn:=by omega
     have hnn:¬ (k:Int)<(k:Int):=by omega
     have HKH:=hid HI.out.1
     have HBH:=hid HI.out.2
     have HHB:Hid (∀i,i<P.funcs.length→0<(funcOf P i).blocks.length):=hid fun i hi=>by
      have h:=tQ.1 HKH.out i (by rw[←HFL.out];exact hi)
      simp only[nW,Bool.and_eq_true_iff]at h
      exact of_decide_eq_true h.1.2
     clear HI hk
     go_upto_region 13 with fail
     clear hnn
     have hPI:=HP.out.since HBH.out
     obtain⟨gf,of,cs,hsl,rfl,hl2,hscell,hq⟩:=hPI.f.elem HF0.out
     obtain⟨X0,hX⟩:∃ X,X=P.funcs[0]:=⟨_,rfl⟩
     rw[←hX]at hq
     have hso:funcOf P 0=X0:=by rw[kX hsl,hX]
     obtain⟨bv,rfl,hrr,hbr⟩:=hq
     have hbr':=hbr
     obtain⟨ba0,bn0,bc0,rfl,_⟩:=hbr'
     have f0:=hscell 0 (by simp)
     have f1:=hscell 1 (by simp)
     simp only[Nat.add_zero,Nat.zero_mul,List.getElem_cons_zero,List.getElem_cons_succ]at f0 f1
     have hgf:gf<wr.heap.size:=World.block_lt_of_cell? _ _ f0
     have HSO0:=hid hso
     have hX0b:0<X0.blocks.length:=by rw[←hso];exact HHB.out 0 hsl
     have CM:Hid (∀u,Below wr.heap.size wr u→Calls Tryz.prog 53 #[.agg #[.pointer (some ⟨g,0,none⟩)],.agg #[.int .i64 X0.ret,.slice ba0 bn0 bc0]] u (au (tC X0) u)):=hid fun u hu=>Cr g ba0 bn0 bc0 X0 u (bO.lasts _ _ _ _ hu ⟨_,rfl,hrr,hbr⟩) hX0b
     have hfz:(0:Int)<(k:Int):=by have:=HF0.out;omega
     have hfz2:0<k:=HF0.out
     have HXC:Hid (∀u,Below wr.heap.size wr u→u.cell? ⟨w.heap.size,0,none⟩=some (.pointer (some ⟨g,0,none⟩))∧u.cell? ⟨g,2,none⟩=some (.slice (some ⟨gf,of,none⟩) k fc)∧u.cell? ⟨gf,of,none⟩=some (.int .i64 X0.ret)∧u.cell? ⟨gf,of+1,none⟩=some (.slice ba0 bn0 bc0)):=hid fun u hu=>by
      obtain⟨q0,_,_,q3⟩:=HC.out u (HBH.out.trans (hu.mono HBH.out.size))
      exact⟨q0,q3,(hu.cell (p:=⟨gf,of,none⟩) hgf).trans f0,(hu.cell (p:=⟨gf,of+1,none⟩) hgf).trans f1⟩
     clear hscell hl2 hX hso hsl hrr hbr hPI f0 f1 hgf hX0b
     refine bM (S:=(fun u:World=>u.cell? ⟨w.heap.size,0,none⟩=some (.pointer (some ⟨g,0,none⟩))∧u.cell? ⟨g,2,none⟩=some (.slice (some ⟨gf,of,none⟩) k fc)∧u.cell? ⟨gf,of,none⟩=some (.int .i64 X0.ret)∧u.cell? ⟨gf,of+1,none⟩=some (.slice ba0 bn0 bc0))) 9 (by kernel_rfl) (HXC.out _ ((Below.refl _ wr).drew)) (fun hHeld=> ?_)
     refine zT 0 51 8 ?_
     (try simp only[Act.put,zA,zB,zC])
     refine zW 1 52 ?_
     (try simp only[Act.put,zA,zB,zC])
     refine zT 2 53 8 ?_
     (try simp only[Act.put,zA,zB,zC])
     refine zW 3 54 ?_
     (try simp only[Act.put,zA,zB,zC])
     refine zW 4 55 ?_
     (try simp only[Act.put,zA,zB,zC])
     refine zT 5 56 8 ?_
     (try simp only[Act.put,zA,zB,zC])
     refine zW 6 57 ?_
     (try simp only[Act.put,zA,zB,zC])
     refine zT 7 58 8 ?_
     (try simp only[Act.put,zA,zB,zC])
     refine aO (i:=8) (by kernel_rfl) rfl (fun K hK=> ?_)
     rw[if_pos (by rfl)]
     go_simp
     (with_reducible refine(CM.out _ ((Below.refl _ wr).drew)).mono ?_)
     intro e w6 hq
     rcases hq.split with⟨hk,rfl,hb⟩|⟨hk,rfl,hb⟩
     rotate_left
     ·exact⟨rfl,au.bad (by rw[HR.out,HSO0.out,hk];simp) (HB.out.trans ((HBH.out.trans (((Below.refl _ wr).drew.trans (hb.mono (Nat.le_refl _))).mono HBH.out.size)).mono HB.out.size))⟩
     have hb6:Below wr.heap.size wr w6:=(Below.refl _ wr).drew.trans (hb.mono (Nat.le_refl _))
     have HBQ:=hid hb6
     have HB6:Hid (Below W1.heap.size W1 w6):=hid (HBH.out.trans (hb6.mono HBH.out.size))
     have HKM:=hid hk
     clear hk hb hb6
     refine hK.out _ _ (HXC.out _ HBQ.out) (fun hHeld=> ?_)
     clear hK K
     (try simp only[Act.put,zA,zB,zC])
     refine bH (by kernel_rfl) ?_
     clear hfz hfz2
     obtain⟨x0,x1,x2,x3⟩:=HC.out w6 HB6.out
     go_upto_region 15 with fail
     clear x0 x1 x2 x3
     go_loopw[66] (fun v66 w7=>∃ q:Nat,q≤cn∧v66=.int .i64 (q:Int)∧Hid (fq (fun i=>kZ P (vU P i)) q=true∧Below W1.heap.size W1 w7)) (fun iv _=>cn-(intOf iv).toNat)
     case atStart=>exact⟨0,Nat.zero_le _,rfl,hid ⟨rfl,HB6.out⟩⟩
     case round=>
      obtain⟨q,hq,rfl,HI⟩:=hrel
      by_cases hlt:q<cn
      ·have hltz:(q:Int)<(cn:Int):=by omega
       have hPI:=HP.out.since HI.out.2
       obtain⟨gs,os,cs,hsl,rfl,hl2,hscell,hqq⟩:=hPI.c.elem hlt
       obtain⟨X,hX⟩:∃ X,X=P.classes[q]:=⟨_,rfl⟩
       rw[←hX]at hqq
       have hso:vU P q=X:=by rw[GJ hsl,hX]
       obtain⟨xv,mv,rfl,hxv,hmv⟩:=hqq
       have hxv':=hxv
       have hmv':=hmv
       obtain⟨xa,xn,xc,rfl,_⟩:=hxv'
       obtain⟨ma,mn,mc,rfl,_⟩:=hmv'
       have f0:=hscell 0 (by simp)
       have f1:=hscell 1 (by simp)
       simp only[Nat.add_zero,List.getElem_cons_zero,List.getElem_cons_succ]at f0 f1
       have HLT:=hid hlt
       have HSO:=hid hso
       obtain⟨x0,x1,x2,x3⟩:=HC.out wr HI.out.2
       clear hX hso
       go_upto_region 17 with fail
       obtain⟨Y,hY⟩:∃ u,u=wr.alloc (.cells #[.slice xa xn xc,.slice ma mn mc] 62):=⟨_,rfl⟩
       have hbY:Below wr.heap.size wr Y:=by rw[hY];exact(Below.refl _ wr).alloc (Nat.le_refl _) _
       have hcY:∀ j,Y.cell? ⟨wr.heap.size,j,none⟩=(#[.slice xa xn xc,.slice ma mn mc]:Array Value)[j]? :=fun j=>by rw[hY];exact World.cell?_alloc_mark _ _ _ _ _
       rw[←hY]
       have y0:=hcY 0
       have y1:=hcY 1
       have hbW:Below W1.heap.size W1 Y:=HI.out.2.trans (hbY.mono HI.out.2.size)
       have HBW:=hid hbW
       have CH:=hid (Ae g X xa xn xc ma mn mc Y (hPI.since hbY) (hxv.since hbY) (hmv.since hbY) HHB.out)
       clear hcY hY hbY hbW x0 x1 x2 x3 f0 f1 hscell hl2 hsl hxv hmv hPI
       obtain⟨x0,x1,x2,x3⟩:=HC.out Y HBW.out
       go_wp2_with(go_at_call 54;(with_reducible refine CH.out.mono ?_);intro e w8 hq;rcases hq.split with⟨hk,rfl,hb⟩|⟨hk,rfl,hb⟩;rotate_left;(exact⟨rfl,au.bad (by rw[HR.out,dQ (p:=fun i=>kZ P (vU P i)) HLT.out (by simp only[HSO.out];exact hk)];simp) (HB.out.trans ((HBW.out.trans (hb.mono HBW.out.size)).mono HB.out.size))⟩);have HK5:Hid (fq (fun i=>kZ P (vU P i)) (q+1)=true∧Below W1.heap.size W1 w8):=hid ⟨bX HI.out.1 (by simp only[HSO.out];exact hk),HBW.out.trans (hb.mono HBW.out.size)⟩;clear hk hb)
       go_roundw
       case rel=>exact⟨q+1,HLT.out,by go_num,HK5⟩
       case measure=>have:=HLT.out;simp[intOf];omega
      ·obtain rfl:q=cn:=by omega
       have hnn:¬ (q:Int)<(q:Int):=by omega
       have HKC:=hid HI.out.1
       have HBC:=hid HI.out.2
       obtain⟨x0,x1,x2,x3⟩:=HC.out wr HI.out.2
       clear HI hq
       go_upto_region 20 with fail
       clear x0 x1 x2 x3 hnn
       go_loopw[80] (fun v80 w9=>∃ b:Nat,b≤k∧v80=.int .i64 (b:Int)∧Hid (fq (fun i=>vW P (funcOf P i)) b=true∧Below W1.heap.size W1 w9)) (fun iv _=>k-(intOf iv).toNat)
       case atStart=>exact⟨0,Nat.zero_le _,rfl,hid ⟨rfl,HBC.out⟩⟩
       case round=>
        obtain⟨b,hb9,rfl,HI⟩:=hrel
        by_cases hlt:b<k
        ·have hltz:(b:Int)<(k:Int):=by omega
         have hPI:=HP.out.since HI.out.2
         obtain⟨gs,os,cs,hsl,hse,hl2,hscell,hqq⟩:=hPI.f.elem hlt
         cases hse
         obtain⟨X,hX⟩:∃ X,X=P.funcs[b]:=⟨_,rfl⟩
         rw[←hX]at hqq
         have hso:funcOf P b=X:=by rw[kX hsl,hX]
         have hXs:=HSZ.out X (by rw[hX];exact List.getElem_mem hsl)
         obtain⟨bv,rfl,hrr,hbr⟩:=hqq
         have hbr':=hbr
         obtain⟨ba,bn,bc,rfl,hbl,_⟩:=hbr'
         have f0:=hscell 0 (by simp)
         have f1:=hscell 1 (by simp)
         simp only[Nat.add_zero,List.getElem_cons_zero,List.getElem_cons_succ]at f0 f1
         have HLT:=hid hlt
         have HSO:=hid hso
         have HXS:=hid hXs
         have HXB:Hid (bn≤100000):=hid (by have:=hXs.1;omega)
         have HFQ:Hid (bO wr [.int .i64 X.ret,.slice ba bn bc] X):=hid ⟨_,rfl,hrr,hbr⟩
         have HRR:=hid hrr
         obtain⟨x0,x1,x2,x3⟩:=HC.out wr HI.out.2
         clear hX hso hXs
         go_upto_region 22 with fail
         obtain⟨Y,hY⟩:∃ u,u=wr.alloc (.cells #[.int .i64 X.ret,.slice ba bn bc] 36):=⟨_,rfl⟩
         have hbY:Below wr.heap.size wr Y:=by rw[hY];exact(Below.refl _ wr).alloc (Nat.le_refl _) _
         have hcY:∀ j,Y.cell? ⟨wr.heap.size,j,none⟩=(#[.int .i64 X.ret,.slice ba bn bc]:Array Value)[j]? :=fun j=>by rw[hY];exact World.cell?_alloc_mark _ _ _ _ _
         have hpy:wr.heap.size<Y.heap.size:=by rw[hY];simp
         rw[←hY]
         obtain⟨p,hp⟩:∃ p,p=wr.heap.size:=⟨_,rfl⟩
         rw[←hp]at hcY hpy⊢
         have hbW:Below W1.heap.size W1 Y:=HI.out.2.trans (hbY.mono HI.out.2.size)
         have HBW:=hid hbW
         have HFY:Hid (bO Y [.int .i64 X.ret,.slice ba bn bc] X):=hid (bO.lasts _ _ _ _ hbY HFQ.out)
         have HPY:=hid (hPI.since hbY)
         have HFTY:Hid (FT Y):=hid (HFT.out.since hbW)
         have HYC:Hid (∀u,Below Y.heap.size Y u→u.cell? ⟨w.heap.size,0,none⟩=some (.pointer (some ⟨g,0,none⟩))∧u.cell? ⟨p,0,none⟩=some (.int .i64 X.ret)∧u.cell? ⟨p,1,none⟩=some (.slice ba bn bc)):=hid fun u hu=>⟨(HC.out u (HBW.out.trans (hu.mono HBW.out.size))).1,(hu.cell (p:=⟨p,0,none⟩) hpy).trans (hcY 0),(hu.cell (p:=⟨p,1,none⟩) hpy).trans (hcY 1)⟩
         clear hcY hY hbY hbW hpy hp x0 x1 x2 x3 f0 f1 hscell hl2 hsl hrr hbr hbl hPI HFQ
         refine bM (S:=(fun u:World=>u.cell? ⟨w.heap.size,0,none⟩=some (.pointer (some ⟨g,0,none⟩))∧u.cell? ⟨p,0,none⟩=some (.int .i64 X.ret)∧u.cell? ⟨p,1,none⟩=some (.slice ba bn bc))) 9 (by kernel_rfl) (HYC.out _ ((Below.refl _ Y).drew)) (fun hHeld=> ?_)
         refine zT 0 84 8 ?_
         (try simp only[Act.put,zA,zB,zC])
         refine zT 1 85 8 ?_
         (try simp only[Act.put,zA,zB,zC])
         refine zW 3 87 ?_
         (try simp only[Act.put,zA,zB,zC])
         refine zT 4 88 8 ?_
         (try simp only[Act.put,zA,zB,zC])
         refine zT 5 89 8 ?_
         (try simp only[Act.put,zA,zB,zC])
         refine aO (i:=2) (by kernel_rfl) rfl (fun K hK=> ?_)
         rw[if_pos (by rfl)]
         go_simp
         (with_reducible refine(wM X.ret ba bn bc X _ ((jc HFY.out).1.since aM.lasts ((Below.refl _ Y).drew)) HXB.out HXS.out.2).mono ?_)
         rintro e w2 ⟨va,vc,ua,uc,mm,UP,rfl,hsc,hb⟩
         have hb2:Below Y.heap.size Y w2:=(Below.refl _ Y).drew.trans (hb.mono (Nat.le_refl _))
         have HB2:=hid hb2
         have HSC:=hid hsc
         have HF2:=hid (bO.lasts _ _ _ _ hb2 HFY.out)
         clear hb hb2 hsc
         refine hK.out _ _ (HYC.out _ HB2.out) (fun hHeld=> ?_)
         clear hK K
         (try simp only[Act.put,zA,zB,zC])
         refine aO (i:=6) (by kernel_rfl) rfl (fun K hK=> ?_)
         rw[if_pos (by rfl)]
         go_simp
         (with_reducible refine(nP g X.ret ba bn bc X w2 (HFTY.out.since HB2.out) (HPY.out.since HB2.out) HF2.out HXB.out HXS.out.2).mono ?_)
         rintro e w3 ⟨ta,tn,tc,rfl,hot,hb⟩
         have hb3:Below Y.heap.size Y w3:=HB2.out.trans (hb.mono HB2.out.size)
         have HB3:=hid hb3
         have hl8:P.classes.length≤140737488355328:=by have:=HPY.out.c.len;omega
         have HBA:Hid (l6 w3 g _ _ _ _ _ _ _ _ _ P ba bn bc X va ua mm UP ta tn (kP P X)):=hid ⟨HPY.out.since hb3,HSC.out.since hb,hot.read,by have:=hot.read.1;rw[ru]at this;omega,pu HPY.out.r hl8 ((jc HFY.out).1).parR _,HRR.out,HFTY.out.since hb3⟩
         clear hb hb3 hot hl8
         refine hK.out _ _ (HYC.out _ HB3.out) (fun hHeld=> ?_)
         clear hK K
         (try simp only[Act.put,zA,zB,zC])
         refine zW 7 91 ?_
         (try simp only[Act.put,zA,zB,zC])
         refine aO (i:=8) (by kernel_rfl) rfl (fun K hK=> ?_)
         rw[if_pos (by rfl)]
         go_simp
         (with_reducible refine(Ag vc uc tc w3 HBA.out).mono ?_)
         intro e w6 hq
         rcases hq.split with⟨hk,rfl,hb⟩|⟨hk,rfl,hb⟩
         rotate_left
         ·exact⟨rfl,au.bad (by rw[HR.out,dQ (p:=fun i=>vW P (funcOf P i)) HLT.out (by simp only[HSO.out];exact hk)];simp) (HB.out.trans ((HBW.out.trans ((HB3.out.trans (hb.mono HB3.out.size)).mono HBW.out.size)).mono HB.out.size))⟩
         have hb6:Below Y.heap.size Y w6:=HB3.out.trans (hb.mono HB3.out.size)
         have HB6Y:=hid hb6
         have HK5:Hid (fq (fun i=>vW P (funcOf P i)) (b+1)=true∧Below W1.heap.size W1 w6):=hid ⟨bX HI.out.1 (by simp only[HSO.out];exact hk),HBW.out.trans (hb6.mono HBW.out.size)⟩
         clear hk hb hb6
         refine hK.out _ _ (HYC.out _ HB6Y.out) (fun hHeld=> ?_)
         clear hK K
         (try simp only[Act.put,zA,zB,zC])
         refine bH (by kernel_rfl) ?_
         go_wp2_with fail
         go_roundw
         case rel=>exact⟨b+1,HLT.out,by go_num,HK5⟩
         case measure=>have:=HLT.out;simp[intOf];omega
        ·obtain rfl:b=k:=by omega
         have hnn:¬ (b:Int)<(b:Int):=by omega
         have HE:Hid (nA P=true):=hid (by rw[HR.out,HK0.out,HKS.out,HKH.out,HSO0.out,HKM.out,HKC.out,HI.out.1];rfl)
         go_wp2_with fail
         go_end0
         exact au.good HE.out (HB.out.trans (HI.out.2.mono HB.out.size))
theorem sF(er:Int)(w:World):(Instr.typeAssert (.iface 30 (.int .i64 er)) 20 30 false).run Tryz.prog w=.ok (.int .i64 er) w:=by kernel_rfl
theorem jq(p:Addr)(z er:Int)(w:World)(hc:w.cell? p=some (.int .i64 z))(hz:w.frozen? p=false):
 CallsD Tryz.prog 23 #[.pointer (some p)] (.panicking [{v:=.iface 30 (.int .i64 er),recovered:=false}]) w fun e u' w'=>
  e=.returned (.tuple #[])∧u'=.panicking [{v:=.iface 30 (.int .i64 er),recovered:=true}]∧w'=w.setCell p (.int .i64 er):=by
 refine callsD_of_wpS Tryz.func23 rfl fun c₀ cs hu=> ?_
 apply wpS_seq
 apply wpS_region
 simp[wpOpsS,go_sem,recoverD,hu,Tryz.ntmps23,Exit.thenS]
 apply wpS_seq
 apply wpS_region
 simp[wpOpsS,go_sem,Exit.thenS]
 refine wpS_cond (t:=true) (by simp[Act.eval,Array.replicate]) ?_
 simp only[if_true]
 apply wpS_region
 simp[wpOpsS,go_sem,sF,hc,hz,bodyPostS,results,Tryz.results23]
theorem wS(p:Addr)(w:World):
 CallsD Tryz.prog 23 #[.pointer (some p)] .returning w fun e u' w'=>e=.returned (.tuple #[])∧u'=.returning∧w'=w:=by
 refine callsD_of_wpS Tryz.func23 rfl fun c₀ cs hu=> ?_
 apply wpS_seq
 apply wpS_region
 simp[wpOpsS,go_sem,recoverD,hu,Tryz.ntmps23,Exit.thenS]
 apply wpS_seq
 apply wpS_region
 simp[wpOpsS,go_sem,Exit.thenS]
 refine wpS_cond (t:=false) (by simp[Act.eval,Array.replicate]) ?_
 simp only[Bool.false_eq_true,if_false]
 refine wpS_of_wp (wp_skip ?_)
 cases c₀
 simp_all[bodyPostS,results,Tryz.results23]
theorem FY{P:aB}{er:Int}(h:fF (cK (dJ P))=.no er):er=2∨er=4:=by
 rcases zl (cK (dJ P))with⟨l,hl⟩|⟨e,he⟩
 ·rw[hl]at h
  simp only[fF]at h
  split at h
  ·cases h;exact .inl rfl
  ·cases h
 ·rw[he]at h
  cases h
  exact vO _ _ he
theorem Ev(w:World)(z:Int){U:World}(hU:w.alloc (.cells #[.int .i64 z] 30)=U):Below w.heap.size w U∧U.heap.size=w.heap.size+1∧U.heap[w.heap.size]? =some (.cells #[.int .i64 z] 30 (0,0)):=by
 rw[←hU]
 exact⟨(Below.refl _ w).alloc (Nat.le_refl _) _,by simp,heap_alloc_new w _⟩
theorem jQ{W:World}{b:Nat}{z:Int}{t:TypeId}(h:W.heap[b]? =some (.cells #[.int .i64 z] t (0,0))):W.cell? ⟨b,0,none⟩=some (.int .i64 z)∧W.frozen? ⟨b,0,none⟩=false:=⟨by simp[World.cell?,h],by simp[World.frozen?,h]⟩
theorem EP{W:World}{b:Nat}{z y:Int}{t:TypeId}(h:W.heap[b]? =some (.cells #[.int .i64 z] t (0,0))):(W.setCell ⟨b,0,none⟩ (.int .i64 y)).heap[b]? =some (.cells #[.int .i64 y] t (0,0)):=by
 have:=(show Boxed W b t (.int .i64 z)from h).set (.int .i64 y)
 exact this
theorem Af(w:World):Calls Tryz.prog 10 #[.pointer none] w fun e w'=>e=.returned (.int .i64 1)∧Below w.heap.size w w':=by
 have hmf:∀ (fn:Fn) (first cap:Array Value) (w:World),(Instr.makeFunc fn first cap).run Tryz.prog w=.ok (.func fn first cap) w:=fun _ _ _ _=>rfl
 obtain⟨W1,hW1⟩:∃ U,w.alloc (.cells #[.int .i64 0] 30)=U:=⟨_,rfl⟩
 obtain⟨hb,hs,hh⟩:=Ev w 0 hW1
 obtain⟨hc0,hf0⟩:=jQ hh
 have hh2:=EP (y:=1) hh
 obtain⟨hc2,hf2⟩:=jQ hh2
 have HB:=hid hb
 have HC2:=hid hc2
 have HF2:=hid hf2
 clear hb hs hh hh2 hc2 hf2
 go_enter_defers Tryz.func10,Tryz.ntmps10
 go_upto_region 3 with(go_at_call 20;(with_reducible refine(BL _).mono ?_);rintro e u ⟨rfl,rfl⟩)
 clear hc0 hf0
 have hc2:=HC2.out
 go_wp2_with(go_at_call 24;(with_reducible refine(sZ 1 _).mono ?_);rintro e u ⟨he,rfl⟩;unfold qy at he;subst he)
 have hr:((W1.setCell ⟨w.heap.size,0,none⟩ (.int .i64 1)).setCell ⟨w.heap.size,0,none⟩ (.int .i64 1)).cell? ⟨w.heap.size,0,none⟩=some (.int .i64 1):=World.cell?_setCell_same _ _ _ hc2
 have HP:Hid (Below w.heap.size w ((W1.setCell ⟨w.heap.size,0,none⟩ (.int .i64 1)).setCell ⟨w.heap.size,0,none⟩ (.int .i64 1))):=hid ((HB.out.setCell (p:=⟨w.heap.size,0,none⟩) (Nat.le_refl _) _).setCell (p:=⟨w.heap.size,0,none⟩) (Nat.le_refl _) _)
 refine leaves_cons (f:=23) (args:=#[.pointer (some ⟨w.heap.size,0,none⟩)]) (by simp) (by simp[go_sem]) ?_
 refine(jq ⟨w.heap.size,0,none⟩ 1 1 _ hc2 HF2.out).mono ?_
 rintro e u' w'' ⟨rfl,rfl,rfl⟩
 simp[Leaves,settle,results,Tryz.results10,go_sem,hr]
 exact HP.out
theorem zq(b:Bool)(er:Int)(w:World):Calls Tryz.prog 24 #[.bool b,.int .i64 er] w fun e w'=>(b=true∧e=.returned (.tuple #[])∧w=w')∨(b=false∧e=.panicked [{v:=.iface 30 (.int .i64 er),recovered:=false}]∧w=w'):=by
 cases b with
 |true=>refine(Dx er w).mono ?_;rintro e u ⟨rfl,rfl⟩;exact .inl ⟨rfl,rfl,rfl⟩
 |false=>refine(sZ er w).mono ?_;rintro e u ⟨rfl,rfl⟩;exact .inr ⟨rfl,rfl,rfl⟩
theorem tK{w W:World}{z:Int}(h:W.heap[w.heap.size]? =some (.cells #[.int .i64 z] 30 (0,0)))(hb:Below w.heap.size w W)(er:Int):
 W.cell? ⟨w.heap.size,0,none⟩=some (.int .i64 z)∧W.frozen? ⟨w.heap.size,0,none⟩=false∧(W.setCell ⟨w.heap.size,0,none⟩ (.int .i64 er)).cell? ⟨w.heap.size,0,none⟩=some (.int .i64 er)∧Below w.heap.size w (W.setCell ⟨w.heap.size,0,none⟩ (.int .i64 er)):=
 ⟨(jQ h).1,(jQ h).2,World.cell?_setCell_same _ _ _ (jQ h).1,hb.setCell (p:=⟨w.heap.size,0,none⟩) (Nat.le_refl _) _⟩
def jT(r:Int)(w:World)(e:Ending)(w':World):Prop:=e=.returned (.int .i64 r)∧Below w.heap.size w w'
theorem q8(g:Nat){sa:Option Addr}{sn sc:Nat}{ca:Option Addr}{cn cc:Nat}{fa:Option Addr}{fn fc:Nat}{P:aB}(w:World)(hP:aX w g sa sn sc ca cn cc fa fn fc P)(hft:FT w)(hsz:zQ P)(hsm:wz P):
 Calls Tryz.prog 10 #[.pointer (some ⟨g,0,none⟩)] w (jT (kE P) w):=by
 have hmf:∀ (fn:Fn) (first cap:Array Value) (w:World),(Instr.makeFunc fn first cap).run Tryz.prog w=.ok (.func fn first cap) w:=fun _ _ _ _=>rfl
 obtain⟨W1,hW1⟩:∃ U,w.alloc (.cells #[.int .i64 0] 30)=U:=⟨_,rfl⟩
 obtain⟨hb,hs,hh⟩:=Ev w 0 hW1
 have hP1:=hP.since hb
 have hft1:=hft.since hb
 have hgl:g<W1.heap.size:=World.block_lt_of_cell? _ _ hP1.c0
 have CE:=hid (BM g 0 _ _ _ P W1 hgl hP1.c0 hP1.c1 hP1.c2 ⟨_,_,_,rfl,hP1.s,hP1.c,hP1.f⟩ hft1 hsm)
 have HH1:=hid hh
 have HS1:=hid hs
 have HB:=hid hb
 have HP:=hid hP1
 have HFT:=hid hft1
 have HSZ:=hid hsz
 have HFL:=hid hP1.f.len.1
 have hfn8:=hP1.f.len.2
 have HC2:Hid (∀U,Below W1.heap.size W1 U→U.cell? ⟨g,2,none⟩=some (.slice fa fn fc)):=hid fun U hU=>(hU.cell (p:=⟨g,2,none⟩) hgl).trans hP1.c2
 have HBX:Hid (∀U,Below W1.heap.size W1 U→U.heap[w.heap.size]? =some (.cells #[.int .i64 0] 30 (0,0))):=hid fun U hU=>by rw[hU.block _ (by omega)];exact hh
 clear hP hft hsz hb hs hP1 hft1 hgl hsm hh
 rcases zl (fF (cK (dJ P)))with⟨l,ho⟩|⟨er,ho⟩
 ·have HO:=hid ho
  rw[ho]at CE
  clear ho
  go_enter_defers Tryz.func10,Tryz.ntmps10
  obtain⟨hc0,hf0⟩:=jQ HH1.out
  clear hc0 hf0
  go_upto_region 3 with(go_at_call 20;(with_reducible refine CE.out.mono ?_);rintro e w2 (⟨l',va,vn,vc,ho,rfl,_,hb⟩|⟨er',ho,_⟩);rotate_left;(exfalso;cases ho);cases ho;have HB2:=hid hb;have hc:=(jQ (HBX.out _ hb)).1;have hf:=(jQ (HBX.out _ hb)).2;clear hb)
  rw[aP hc]
  go_upto_region 4 with(go_at_call 24;(with_reducible refine(zq _ _ _).mono ?_);intro e u hq;rcases hq with⟨_,rfl,rfl⟩|⟨hk,_⟩;rotate_left;(exfalso;cases hk))
  clear hc hf
  have p2:=HC2.out _ HB2.out
  go_upto_region 5 with fail
  clear p2
  have HCI:Hid (kE P=if tF P=true then(if nA P=true then 0 else 4)else 2):=hid (by unfold kE;rw[HO.out])
  go_loopw[20] (fun v20 wr=>∃ i:Nat,i≤fn∧v20=.int .i64 (i:Int)∧Hid (fq (fun i=>decide (aV (funcOf P i)≤700)) i=true∧Below W1.heap.size W1 wr)) (fun iv _=>fn-(intOf iv).toNat)
  case atStart=>exact⟨0,Nat.zero_le _,rfl,hid ⟨rfl,HB2.out⟩⟩
  case round=>
   obtain⟨i,hi,rfl,HI⟩:=hrel
   by_cases hlt:i<fn
   ·have hltz:(i:Int)<(fn:Int):=by omega
    have hPI:=HP.out.since HI.out.2
    obtain⟨gs,os,cs,hsl,rfl,hl2,hscell,hq⟩:=hPI.f.elem hlt
    obtain⟨X,hX⟩:∃ X,X=P.funcs[i]:=⟨_,rfl⟩
    rw[←hX]at hq
    have hso:funcOf P i=X:=by rw[kX hsl,hX]
    have hXs:=HSZ.out X (by rw[hX];exact List.getElem_mem hsl)
    obtain⟨bv,rfl,hrr,hbr⟩:=hq
    have hbr':=hbr
    obtain⟨ba,bn,bc,rfl,_⟩:=hbr'
    have f0:=hscell 0 (by simp)
    have f1:=hscell 1 (by simp)
    simp only[Nat.add_zero,List.getElem_cons_zero,List.getElem_cons_succ]at f0 f1
    have HLT:=hid hlt
    have HSO:=hid hso
    have HFQ:Hid (bO wr [.int .i64 X.ret,.slice ba bn bc] X):=hid ⟨_,rfl,hrr,hbr⟩
    obtain⟨N,hN⟩:∃ N,N=aV X:=⟨_,rfl⟩
    have HNV:=hid hN
    have HVX:Hid (valuesOf X=(N:Int)):=hid (by rw[oD X hXs.2,hN])
    clear hX hso hXs hN
    go_upto_region 7 with fail
    obtain⟨Y,hY⟩:∃ u,u=wr.alloc (.cells #[.int .i64 X.ret,.slice ba bn bc] 36):=⟨_,rfl⟩
    have hbY:Below wr.heap.size wr Y:=by rw[hY];exact(Below.refl _ wr).alloc (Nat.le_refl _) _
    have hcY:∀ j,Y.cell? ⟨wr.heap.size,j,none⟩=(#[.int .i64 X.ret,.slice ba bn bc]:Array Value)[j]? :=fun j=>by rw[hY];exact World.cell?_alloc_mark _ _ _ _ _
    rw[←hY]
    have y0:=hcY 0
    have y1:=hcY 1
    have hbW:Below W1.heap.size W1 Y:=HI.out.2.trans (hbY.mono HI.out.2.size)
    have HBW:=hid hbW
    have CV:=hid (qE X.ret ba bn bc X Y (bO.lasts _ _ _ _ hbY HFQ.out))
    rw[HVX.out]at CV
    obtain⟨bb,hbb1⟩:∃ b,decide ((N:Int)≤700)=b:=⟨_,rfl⟩
    have hbb2:decide (N≤700)=bb:=by rw[←hbb1];exact decide_eq_decide.2 (by omega)
    have HBB:=hid hbb2
    clear hcY hY hbY hbW f0 f1 hscell hl2 hsl hrr hbr hPI HFQ
    go_wp2_with(first
     |(go_at_call 25;(with_reducible refine CV.out.mono ?_);rintro e w6 ⟨rfl,hb⟩;have HB6:=hid (HBW.out.trans (hb.mono HBW.out.size));clear hb)
     |(go_at_call 24;(with_reducible refine(zq _ _ _).mono ?_);intro e u hq;rcases hq with⟨hk,rfl,rfl⟩|⟨hk,rfl,rfl⟩;rotate_left;(have HE:kE P=2:=(by rw[HCI.out];have hlo:tF P=false:=(by unfold tF;rw[HFL.out];exact dQ HLT.out (by simp only[HSO.out,←HNV.out,HBB.out];exact hk));rw[hlo];rfl);obtain⟨q0,q1,q2,q3⟩:=tK (HBX.out _ HB6.out) (HB.out.trans (HB6.out.mono HB.out.size)) 2;refine leaves_cons (f:=23) (args:=#[.pointer (some ⟨w.heap.size,0,none⟩)]) (by simp) (by simp[go_sem]) ?_;refine(jq ⟨w.heap.size,0,none⟩ 0 2 _ q0 q1).mono ?_;rintro e u' w'' ⟨rfl,rfl,rfl⟩;have HQ3:=hid q3;clear q3;simp[Leaves,settle,results,Tryz.results10,go_sem,q2,jT,HE];exact HQ3.out);have HK5:Hid (fq (fun i=>decide (aV (funcOf P i)≤700)) (i+1)=true∧Below W1.heap.size W1 w6):=hid ⟨bX HI.out.1 (by simp only[HSO.out,←HNV.out,HBB.out];exact hk),HB6.out⟩;clear hk))
    go_roundw
    case rel=>exact⟨i+1,HLT.out,by go_num,HK5⟩
    case measure=>have:=HLT.out;simp[intOf];omega
   ·obtain rfl:i=fn:=by omega
    have hnn:¬ (i:Int)<(i:Int):=by omega
    have HLO:Hid (tF P=true):=hid (by unfold tF;rw[HFL.out];exact HI.out.1)
    have CH:=hid (zU g wr (HP.out.since HI.out.2) (HFT.out.since HI.out.2) HSZ.out)
    go_upto_region 10 with(go_at_call 26;(with_reducible refine CH.out.mono ?_);intro e w7 hq;rcases hq.split with⟨hk,rfl,hb⟩|⟨hk,rfl,hb⟩;rotate_left;(have HB7:=hid (HI.out.2.trans (hb.mono HI.out.2.size));have HE:kE P=4:=(by rw[HCI.out,HLO.out,hk];rfl);obtain⟨q0,q1,q2,q3⟩:=tK (HBX.out _ HB7.out) (HB.out.trans (HB7.out.mono HB.out.size)) 4;refine leaves_cons (f:=23) (args:=#[.pointer (some ⟨w.heap.size,0,none⟩)]) (by simp) (by simp[go_sem]) ?_;refine(jq ⟨w.heap.size,0,none⟩ 0 4 _ q0 q1).mono ?_;rintro e u' w'' ⟨rfl,rfl,rfl⟩;have HQ3:=hid q3;clear q3;simp[Leaves,settle,results,Tryz.results10,go_sem,q2,jT,HE];exact HQ3.out);have HB7:=hid (HI.out.2.trans (hb.mono HI.out.2.size));have HE:Hid (kE P=0):=hid (by rw[HCI.out,HLO.out,hk];rfl);clear hk hb)
    have hc:=(jQ (HBX.out _ HB7.out)).1
    have hf:=(jQ (HBX.out _ HB7.out)).2
    have HC7:=hid hc
    have HBZ:=hid (HB.out.trans (HB7.out.mono HB.out.size))
    go_wp2_with fail
    rw[aP HC7.out,HE.out]
    refine leaves_cons (f:=23) (args:=#[.pointer (some ⟨w.heap.size,0,none⟩)]) (by simp) (by simp[go_sem]) ?_
    refine(wS ⟨w.heap.size,0,none⟩ _).mono ?_
    rintro e u' w'' ⟨rfl,rfl,rfl⟩
    simp[Leaves,settle,results,Tryz.results10,go_sem,HC7.out,jT]
    exact HBZ.out
 ·have HE:Hid (kE P=er):=hid (by unfold kE;rw[ho])
  have her:(er==0)=false:=by rw[beq_eq_false_iff_ne];rcases FY ho with rfl|rfl<;>omega
  rw[ho]at CE
  clear ho
  go_enter_defers Tryz.func10,Tryz.ntmps10
  go_upto_region 3 with(go_at_call 20;(with_reducible refine CE.out.mono ?_);rintro e w2 (⟨_,_,_,_,ho,_⟩|⟨er',ho,rfl,hb⟩);(exfalso;cases ho);cases ho;have HB2:=hid hb;have hc:=(jQ (HBX.out _ hb)).1;have hf:=(jQ (HBX.out _ hb)).2;clear hb)
  have hset:=EP (y:=er) (HBX.out _ HB2.out)
  have hc3:=(jQ hset).1
  have HST:=hid hset
  clear hc hf hset
  go_wp2_with(go_at_call 24;(with_reducible refine(sZ er _).mono ?_);rintro e u ⟨he,rfl⟩;unfold qy at he;subst he)
  obtain⟨q0,q1,q2,q3⟩:=tK (HST.out) ((HB.out.trans (HB2.out.mono HB.out.size)).setCell (p:=⟨w.heap.size,0,none⟩) (Nat.le_refl _) _) er;refine leaves_cons (f:=23) (args:=#[.pointer (some ⟨w.heap.size,0,none⟩)]) (by simp) (by simp[go_sem]) ?_;refine(jq ⟨w.heap.size,0,none⟩ er er _ q0 q1).mono ?_;rintro e u' w'' ⟨rfl,rfl,rfl⟩;have HQ3:=hid q3;clear q3;simp[Leaves,settle,results,Tryz.results10,go_sem,q2,jT,HE.out];exact HQ3.out
theorem rO:kP bE bF=[0]:=by kernel_rfl
theorem Bd:aD bF=[0]:=by kernel_rfl
theorem lQ:aV bF=1:=by kernel_rfl
theorem DN:jV bF ((0:Nat):Int) ((1:Nat):Int) ((0:Nat):Int)=true:=by
 have hh:uf bF 0 0:=⟨by decide+kernel,by decide+kernel⟩
 rw[y9 (f:=bF) (b:=0) (k:=1) (u:=0) (by decide+kernel) (by decide+kernel) (by rw[lQ];omega) hh]
 decide+kernel
theorem Be:dK bF [0] 0 0 0=true:=by
 unfold dK mq
 have h:=DN
 rw[show qP bF 0=1 from by decide+kernel]
 rw[show((0:Int))=(((0:Nat)):Int)from rfl,h]
 rfl
theorem DT:vW bE bF=true:=by
 unfold vW
 rw[rO]
 rw[show bF.blocks.length=1 from rfl]
 unfold fq oN
 have h1:inL (aD bF) (((0:Nat)):Int)=true:=by rw[Bd];decide
 have h2:ny bE bF [0] 0=true:=by
  unfold ny
  rw[show qP bF 0=1 from by decide+kernel]
  unfold fq xk
  rw[show opAt bF 0 0=vB from rfl,show mo vB=[]from by decide+kernel]
  rw[show(rC bE vB [0]).2=true from by decide+kernel]
  rfl
 have h3:Gw bF [0] 0=true:=by
  unfold Gw zH
  rw[show aN bF 0=⟨2,0,0,0,[],[]⟩from rfl]
  simp only[show bF.ret=0 from rfl]
  simp[Be,pU,fq]
 rw[h1,h2,h3]
 rfl
theorem Bf:kE bE=0:=by
 unfold kE
 rw[Gb]
 have hf:funcOf bE 0=bF:=rfl
 have h1:tF bE=true:=by
  unfold tF
  rw[show bE.funcs.length=1 from rfl]
  unfold fq
  rw[hf,lQ]
  rfl
 have h2:nA bE=true:=by
  unfold nA
  rw[show bE.funcs.length=1 from rfl,show bE.sigs.length=0 from rfl,show bE.classes.length=0 from rfl,hf]
  have a1:fq (fun i=>nW bE (funcOf bE i)) 1=true:=by decide+kernel
  have a2:tC bF=true:=by decide+kernel
  have a3:fq (fun i=>vW bE (funcOf bE i)) 1=true:=by unfold fq;rw[hf,DT];rfl
  rw[a1,a2,a3]
  rfl
 simp only[h1,h2,if_true]
def iD:aB:=⟨[],[],[]⟩
def BN:List UInt8:=(match cK iD with| .ok l=>l| .no _=>[])
theorem Ez:fF (cK (dJ iD))=.ok BN:=by kernel_rfl
theorem xX:kE iD=4:=by
 unfold kE
 rw[Ez]
 have h1:tF iD=true:=rfl
 have h2:nA iD=false:=rfl
 simp[h1,h2]
theorem Bc:zQ bE:=fun f hf=>by
 simp only[bE,List.mem_singleton]at hf
 subst hf
 exact⟨by decide,by rw[lQ];omega⟩
theorem xW:zQ iD:=fun f hf=>by cases hf
theorem Gx:wz iD:=⟨by decide,by decide,by decide,fun f hf=>by cases hf⟩
theorem Gy{W:World}{g:Nat}(h:W.heap[g]? =some (.cells #[.slice none 0 0,.slice none 0 0,.slice none 0 0] 26 (0,0))):aX W g none 0 0 none 0 0 none 0 0 iD:=by
 have hc:∀ j,W.cell? ⟨g,j,none⟩=(#[.slice none 0 0,.slice none 0 0,.slice none 0 0]:Array Value)[j]? :=fun j=>by simp[World.cell?,h]
 refine⟨hc 0,hc 1,hc 2,⟨none,0,0,rfl,rfl,fun _=>rfl,by decide,fun h=>absurd h (by omega)⟩,⟨none,0,0,rfl,rfl,fun _=>rfl,by decide,fun h=>absurd h (by omega)⟩,⟨none,0,0,rfl,rfl,fun _=>rfl,by decide,fun h=>absurd h (by omega)⟩⟩
theorem live_at{w W:World}(h:Hz w W):aX W (w.heap.size+1+1+1) none 0 0 none 0 0 (some ⟨w.heap.size+1+1,0,none⟩) 1 1 bE:=by
 have hc:∀ j,W.cell? ⟨w.heap.size+1+1+1,j,none⟩=(#[.slice none 0 0,.slice none 0 0,.slice (some ⟨w.heap.size+1+1,0,none⟩) 1 1]:Array Value)[j]? :=fun j=>by simp[World.cell?,h.b3]
 obtain⟨s,c,f,he,h1,h2,h3⟩:=h.prog
 simp only[List.cons.injEq,and_true]at he
 obtain⟨rfl,rfl,rfl⟩:=he
 exact⟨hc 0,hc 1,hc 2,h1,h2,h3⟩
set_option maxRecDepth 100000 in
set_option maxHeartbeats 4000000 in
theorem Hr(w:World)(hft:FT w):Calls Tryz.prog 9 #[] w fun e w'=>e=.returned (.bool true)∧Below w.heap.size w w':=by
 have HA:=hid (DR w)
 have HFT:=hid hft
 clear hft
 go_enter Tryz.func9,Tryz.ntmps9
 go_upto_region 2 with fail
 generalize hW:((((w.alloc (.cells #[.int .i64 0,.int .i64 0,.int .i64 0,.int .i64 0,.int .i64 7,.string ⟨#[]⟩,.slice none 0 0,.bool false] 64)).alloc (.cells #[.slice none 0 0,.slice (some ⟨w.heap.size,0,none⟩) 1 1,.int .i64 2,.int .i64 0,.int .i64 0,.int .i64 0,.slice none 0 0,.slice none 0 0] 51)).alloc (.cells #[.int .i64 0,.slice (some ⟨w.heap.size+1,0,none⟩) 1 1] 36)).alloc (.cells #[.slice none 0 0,.slice none 0 0,.slice (some ⟨w.heap.size+1+1,0,none⟩) 1 1] 26))=W at HA⊢
 clear hW
 have HB:=hid HA.out.bel
 have HP:=hid (live_at HA.out)
 have HF1:=hid (HFT.out.below HA.out.bel HFT.out.lt)
 have HFQ:=hid HA.out.func
 have hb2:w.heap.size+1+1<W.heap.size:=by have:=HA.out.size;omega
 have HFC:Hid (∀U,Below W.heap.size W U→U.cell? ⟨w.heap.size+1+1,0,none⟩=some (.int .i64 0)∧U.cell? ⟨w.heap.size+1+1,1,none⟩=some (.slice (some ⟨w.heap.size+1,0,none⟩) 1 1)):=hid fun U hU=>⟨(hU.cell (p:=⟨w.heap.size+1+1,0,none⟩) hb2).trans (by simp[World.cell?,HA.out.b2]),(hU.cell (p:=⟨w.heap.size+1+1,1,none⟩) hb2).trans (by simp[World.cell?,HA.out.b2])⟩
 have CL:Hid (∀U,Below W.heap.size W U→Calls Tryz.prog 10 #[.pointer (some ⟨w.heap.size+1+1+1,0,none⟩)] U (jT 0 U)):=hid fun U hU=>by
  have h:=q8 (w.heap.size+1+1+1) U (HP.out.since hU) (HF1.out.since hU) Bc live_sm
  rw[Bf]at h
  exact h
 have CEM:Hid (∀U,Below W.heap.size W U→Calls Tryz.prog 10 #[.pointer (some ⟨U.heap.size,0,none⟩)] (U.alloc (.cells #[.slice none 0 0,.slice none 0 0,.slice none 0 0] 26)) fun e w'=>e=.returned (.int .i64 4)∧Below W.heap.size W w'):=hid fun U hU=>by
  have hb:Below U.heap.size U (U.alloc (.cells #[.slice none 0 0,.slice none 0 0,.slice none 0 0] 26)):=(Below.refl _ U).alloc (Nat.le_refl _) _
  have hbw:=hU.trans (hb.mono hU.size)
  have h:=q8 U.heap.size (U.alloc (.cells #[.slice none 0 0,.slice none 0 0,.slice none 0 0] 26)) (Gy (heap_alloc_new U _)) (HF1.out.since hbw) xW Gx
  rw[xX]at h
  refine h.mono ?_
  rintro e w' ⟨rfl,hb'⟩
  exact⟨rfl,hbw.trans (hb'.mono hbw.size)⟩
 have CTY:Hid (∀U,Below W.heap.size W U→Calls Tryz.prog 15 #[.pointer (some ⟨w.heap.size+1+1+1,0,none⟩),.agg #[.int .i64 0,.slice (some ⟨w.heap.size+1,0,none⟩) 1 1]] U fun e w'=>∃ va vc,e=.returned (.slice va 1 vc)∧Below W.heap.size W w'):=hid fun U hU=>by
  refine(nP (w.heap.size+1+1+1) 0 (some ⟨w.heap.size+1,0,none⟩) 1 1 bF U (HF1.out.since hU) (HP.out.since hU) (bO.lasts _ _ _ _ hU HFQ.out) (by omega) (by rw[lQ];omega)).mono ?_
  rintro e w' ⟨va,vn,vc,rfl,ho,hb⟩
  have h1:=ho.read.1
  rw[rO]at h1
  obtain rfl:vn=1:=h1.symm
  exact⟨va,vc,rfl,hU.trans (hb.mono hU.size)⟩
 have HPC:Hid (∀U,Below W.heap.size W U→U.cell? ⟨w.heap.size+1+1+1,2,none⟩=some (.slice (some ⟨w.heap.size+1+1,0,none⟩) 1 1)):=hid fun U hU=>(HP.out.since hU).c2
 clear hb2 HA HFT HP HF1 HFQ
 go_wp2_with(first
  |(go_at_call 10;(with_reducible refine(Af _).mono ?_);rintro e w2 ⟨rfl,hb⟩;have HB2:=hid hb;clear hb)
  |(go_at_call 10;(with_reducible refine(CL.out _ HB2.out).mono ?_);rintro e w3 ⟨rfl,hb⟩;have HB3:=hid (HB2.out.trans (hb.mono HB2.out.size));clear hb)
  |(go_at_call 10;(with_reducible refine(CEM.out _ HB3.out).mono ?_);rintro e w4 ⟨rfl,hb⟩;have HB4:=hid hb;have x2:=HPC.out _ hb;obtain⟨y0,y1⟩:=HFC.out _ hb;clear hb)
  |(go_at_call 15;(with_reducible refine(CTY.out _ HB4.out).mono ?_);rintro e w5 ⟨va,vc,rfl,hb⟩;have HB5:=hid hb;clear hb))
 go_ret
 exact⟨rfl,HB.out.trans (HB5.out.mono HB.out.size)⟩
end Go.Proofs.YthjdeoppajlcoaaGreatDoor

namespace Go.Proofs.YthjdeoppajlcoaaGreatDoor
set_option linter.unusedSimpArgs false
set_option linter.unusedVariables false
open Go.RowKit (wrap64 intOf Below)
theorem yY{α:Type}(f:α→Nat):∀ {xs:List α} {x:α},x∈xs→f x≤lH f xs
 |y::xs,x,h=>by
  simp only[lH]
  rcases List.mem_cons.1 h with rfl|h
  ·omega
  ·have:=yY f h;omega
 | [],x,h=>by cases h
theorem oM(f:ak):∀ i,i≤f.blocks.length→aL f i≤lH oI (f.blocks.take i)
 |0,_=>by simp[aL]
 |i+1,h=>by
  have ih:=oM f i (by omega)
  rw[gQ (show i<f.blocks.length from h),jG oI (show i<f.blocks.length from h)]
  have h3:oI f.blocks[i]=f.blocks[i].params.length+f.blocks[i].ops.length+f.blocks[i].fin.L.length+f.blocks[i].fin.M.length+lH pOp f.blocks[i].ops:=rfl
  omega
theorem uG(f:ak):aV f≤uV f∧f.blocks.length≤uV f:=by
 have h:=oM f f.blocks.length (Nat.le_refl _)
 rw[List.take_of_length_le (Nat.le_refl _)]at h
 unfold uV
 exact⟨by unfold aV;omega,by omega⟩
theorem AR{P:aB}{m:Nat}(h:zh P≤m){f:ak}(hf:f∈P.funcs):aV f≤m∧f.blocks.length≤m:=by
 have h1:=yY uV hf
 have h2:=uG f
 unfold zh at h
 exact⟨by omega,by omega⟩
theorem prog_at{W:World}{g:Nat}{sa:Option Addr}{sn sc:Nat}{ca:Option Addr}{cn cc:Nat}{fa:Option Addr}{fn fc:Nat}{P:aB}(hc0:W.cell? ⟨g,0,none⟩=some (.slice sa sn sc))(hc1:W.cell? ⟨g,1,none⟩=some (.slice ca cn cc))(hc2:W.cell? ⟨g,2,none⟩=some (.slice fa fn fc))(hP:oZ W [.slice sa sn sc,.slice ca cn cc,.slice fa fn fc] P):aX W g sa sn sc ca cn cc fa fn fc P:=by
 obtain⟨s,c,f,he,h1,h2,h3⟩:=hP
 simp only[List.cons.injEq,and_true]at he
 obtain⟨rfl,rfl,rfl⟩:=he
 exact⟨hc0,hc1,hc2,h1,h2,h3⟩
theorem aX.q{W:World}{g:Nat}{sa:Option Addr}{sn sc:Nat}{ca:Option Addr}{cn cc:Nat}{fa:Option Addr}{fn fc:Nat}{P:aB}(h:aX W g sa sn sc ca cn cc fa fn fc P):oZ W [.slice sa sn sc,.slice ca cn cc,.slice fa fn fc] P:=⟨_,_,_,rfl,h.s,h.c,h.f⟩
theorem thru_in(f:ak)(i:Nat):inL (eP f i) (i:Int)=inL (aD f) (i:Int):=by
 unfold inL eP
 rw[Bool.eq_iff_iff,decide_eq_true_iff,decide_eq_true_iff,List.mem_append]
 constructor
 ·rintro (h|h)
  ·exact h
  ·obtain⟨k,hk,e⟩:=List.mem_map.1 h
   have h1:=List.mem_range.1 (List.mem_filter.1 hk).1
   omega
 ·exact .inl
structure kK(W1:World)(ov rv:Value)(T O:List Int)(u:World):Prop where
 out:aj u W1.heap.size 3 ov T
 ord:aj u W1.heap.size 3 rv O
 apart:∀ k,ov.ownBlock=some k→rv.ownBlock≠some k
 bel:Below W1.heap.size W1 u
theorem kK.since{W1:World}{ov rv:Value}{T O:List Int}{u u':World}(h:kK W1 ov rv T O u)(hb:Below u.heap.size u u'):kK W1 ov rv T O u':=
 ⟨h.out.below hb,h.ord.below hb,h.apart,h.bel.trans (hb.mono h.bel.size)⟩
theorem kK.outs{W1:World}{ov rv ov':Value}{T O T':List Int}{u u':World}(h:kK W1 ov rv T O u)(ho:aj u' W1.heap.size 3 ov' T')(hg:u.grownBy u' ov.ownBlock)(hw:∀ k,ov'.ownBlock=some k→ov.ownBlock=some k∨u.heap.size≤k):kK W1 ov' rv T' O u':=by
 refine⟨ho,h.ord.besides hg (fun k hk e=>h.apart k e hk),fun k hk e=> ?_,Below.grown h.bel hg h.bel.size (fun k hk=>(h.out.lt k hk).1)⟩
 rcases hw k hk with h1|h1
 ·exact h.apart k h1 e
 ·have:=(h.ord.lt k e).2;omega
theorem kK.laid{W1:World}{ov rv:Value}{T O:List Int}{u:World}(h:kK W1 ov rv T O u)(o:Obj):kK W1 ov rv T O (u.alloc o):=h.since ((Below.refl _ u).alloc (Nat.le_refl _) o)
theorem kK.outsA{W1:World}{ov rv ov':Value}{T O T':List Int}{u u':World}{o:Obj}(h:kK W1 ov rv T O u)(ho:aj u' W1.heap.size 3 ov' T')(hg:(u.alloc o).grownBy u' ov.ownBlock)(hw:∀ k,ov'.ownBlock=some k→ov.ownBlock=some k∨u.heap.size≤k):kK W1 ov' rv T' O u':=by
 have h2:=h.laid o
 refine⟨ho,h2.ord.besides hg (fun k hk e=>h.apart k e hk),fun k hk e=> ?_,Below.grown h2.bel hg h2.bel.size (fun k hk=>(h.out.lt k hk).1)⟩
 rcases hw k hk with h1|h1
 ·exact h.apart k h1 e
 ·have:=(h.ord.lt k e).2;omega
theorem kK.ordsA{W1:World}{ov rv rv':Value}{T O O':List Int}{u u':World}{o:Obj}(h:kK W1 ov rv T O u)(ho:aj u' W1.heap.size 3 rv' O')(hg:(u.alloc o).grownBy u' rv.ownBlock)(hw:∀ k,rv'.ownBlock=some k→rv.ownBlock=some k∨u.heap.size≤k):kK W1 ov rv' T O' u':=by
 have h2:=h.laid o
 refine⟨h2.out.besides hg (fun k hk e=>h.apart k hk e),ho,fun k hk e=> ?_,Below.grown h2.bel hg h2.bel.size (fun k hk=>(h.ord.lt k hk).1)⟩
 rcases hw k e with h1|h1
 ·exact h.apart k hk h1
 ·have:=(h.out.lt k hk).2;omega
theorem kK.put{W1:World}{g n c:Nat}{rv:Value}{T O:List Int}{u:World}(h:kK W1 (.slice (some ⟨g,0,none⟩) n c) rv T O u)(j:Nat)(z:Int):kK W1 (.slice (some ⟨g,0,none⟩) n c) rv (T.set j z) O (u.setCell ⟨g,j,none⟩ (.int .i64 z)):=
 ⟨aj.set h.out j z,h.ord.setOther _ _ (fun k hk e=>h.apart g rfl (by rw[hk];exact congrArg some e.symm)),h.apart,h.bel.setCell (h.out.lt g rfl).1 _⟩
theorem kK.at{W1:World}{va:Option Addr}{vn vc:Nat}{rv:Value}{T O:List Int}{u:World}(h:kK W1 (.slice va vn vc) rv T O u){j:Nat}(hj:j<T.length):∃ g,va=some ⟨g,0,none⟩∧W1.heap.size≤g∧g<u.heap.size∧u.cell? ⟨g,j,none⟩=some (.int .i64 T[j])∧u.frozen? ⟨g,j,none⟩=false:=by
 rcases h.out.2 with⟨e,h0⟩|⟨g,cap,cur,e,hB,hh,rest⟩
 ·cases e
  have:=h.out.read.1
  omega
 ·cases e
  refine⟨g,rfl,hB,(h.out.lt g rfl).2, ?_,by simp[World.frozen?,hh]⟩
  have:=World.ownsRow.cells h.out (g:=g) rfl j (dN T[j]) (by rw[List.getElem?_map,List.getElem?_eq_getElem hj];rfl)
  rwa [aU,Nat.zero_add]at this
theorem vP(W:World)(p:Nat)(v0 v1 v2 v3 v4 v5 v6 v7 u1:Value)(h:W.cell? ⟨p,1,none⟩=some u1):
 ((((((((W.setCell ⟨p,0,none⟩ v0).setCell ⟨p,1,none⟩ v1).setCell ⟨p,2,none⟩ v2).setCell ⟨p,3,none⟩ v3).setCell ⟨p,4,none⟩ v4).setCell ⟨p,5,none⟩ v5).setCell ⟨p,6,none⟩ v6).setCell ⟨p,7,none⟩ v7).cell? ⟨p,1,none⟩=some v1:=by
 have k:∀ (u:World) (i j:Nat) (v:Value),i≠j→(u.setCell ⟨p,i,none⟩ v).cell? ⟨p,j,none⟩=u.cell? ⟨p,j,none⟩:=fun u i j v h=>World.cell?_setCell_other _ _ _ _ (fun e=>h (by cases e;rfl))
 rw[k _ 7 1 _ (by omega),k _ 6 1 _ (by omega),k _ 5 1 _ (by omega),k _ 4 1 _ (by omega),k _ 3 1 _ (by omega),k _ 2 1 _ (by omega)]
 exact World.cell?_setCell_same _ _ _ (by rw[k _ 0 1 _ (by omega)];exact h)
theorem qD{W0 W:World}{m p:Nat}(v0 v1 v2 v3 v4 v5 v6 v7:Value)(h:Below m W0 W)(hp:m≤p):
 Below m W0 ((((((((W.setCell ⟨p,0,none⟩ v0).setCell ⟨p,1,none⟩ v1).setCell ⟨p,2,none⟩ v2).setCell ⟨p,3,none⟩ v3).setCell ⟨p,4,none⟩ v4).setCell ⟨p,5,none⟩ v5).setCell ⟨p,6,none⟩ v6).setCell ⟨p,7,none⟩ v7):=
 (((((((h.setCell hp _).setCell hp _).setCell hp _).setCell hp _).setCell hp _).setCell hp _).setCell hp _).setCell hp _
theorem qG(w:World)(C:Array Value)(T:Nat):(w.alloc (.cells C T)).heap[w.heap.size]? =some (.cells C T (0,0)):=World.alloc_heap_new w _
theorem bU{W:World}{p:Nat}{C:Array Value}{T:Nat}(h:W.heap[p]? =some (.cells C T (0,0)))(j:Nat):W.frozen? ⟨p,j,none⟩=false:=by simp[World.frozen?,h]
end Go.Proofs.YthjdeoppajlcoaaGreatDoor

namespace Go.Proofs.YthjdeoppajlcoaaGreatDoor
set_option linter.unusedSimpArgs false
set_option linter.unusedVariables false
open Go.RowKit (wrap64 intOf Below Hid)
open Go.Lib (hid)
def wu(W:World)(cs:List Value)(x:ak):Prop:=bO W cs x∧∃ r a n c,cs=[r,.slice a n c]∧n≤c∧c≤9223372036854775807
def zJ(f:ak):ak:=⟨f.ret,f.blocks.take 12⟩
theorem Cn{α:Type}{Q:World→List Value→α→Prop}{k:Nat}{W:World}{a:Option Addr}{n c:Nat}{xs:List α}(h:gG Q k W (.slice a n c) xs){m:Nat}(hm:m≤n):gG Q k W (.slice a m c) (xs.take m):=by
 obtain⟨a',n',c',e,hl,h0,h8,hr⟩:=h
 cases e
 refine⟨a,m,c,rfl,by rw[List.length_take];omega,h0,by omega,fun hp=> ?_⟩
 obtain⟨g,off,ha,hg,hcs⟩:=hr (by omega)
 refine⟨g,off,ha,hg,fun i hi=> ?_⟩
 obtain⟨cs,h1,h2,h3⟩:=hcs i (by rw[List.length_take]at hi;omega)
 exact⟨cs,h1,h2,by rw[List.getElem_take];exact h3⟩
theorem Ab{W:World}{r:Int}{a:Option Addr}{n c:Nat}{f:ak}(h:bO W [.int .i64 r,.slice a n c] f)(h12:12<n):bO W [.int .i64 r,.slice a 12 c] (zJ f):=by
 obtain⟨b,he,hr,hb⟩:=h
 simp only[List.cons.injEq,Value.int.injEq,true_and,and_true]at he
 obtain⟨rfl,rfl⟩:=he
 exact⟨_,rfl,hr,Cn hb (by omega)⟩
theorem Ac{W:World}{r:Int}{a:Option Addr}{n c:Nat}{f:ak}(h:bO W [.int .i64 r,.slice a n c] f)(h12:n≤12):bO W [.int .i64 r,.slice a n c] (zJ f):=by
 have hl:=(jc h).2
 obtain⟨b,he,hr,hb⟩:=h
 refine⟨b,he,hr, ?_⟩
 show gG aM 8 W b (f.blocks.take 12)
 rw[List.take_of_length_le (by omega)]
 exact hb
theorem cut_len(f:ak):(zJ f).blocks.length≤12∧(zJ f).blocks.length≤f.blocks.length:=by
 show(f.blocks.take 12).length≤12∧(f.blocks.take 12).length≤f.blocks.length
 rw[List.length_take]
 omega
theorem GI(f:ak):aV (zJ f)≤aV f:=by
 unfold aV
 have h:∀ i,aL (zJ f) i≤aL f i:=fun i=>by
  have h1:aL (zJ f) i=aL f (min i 12):=by unfold aL zJ;rw[List.take_take]
  rw[h1]
  exact gT f (by omega)
 exact Nat.le_trans (h _) (gT f (cut_len f).2)
def G7(P:aB)(w:World)(e:Ending)(w':World):Prop:=
 ((e=.returned (.tuple #[.agg #[.int .i64 0,.slice none 0 0],.bool false]))∨∃ (F:ak) (ba:Option Addr) (m bc:Nat),F∈P.funcs∧e=.returned (.tuple #[.agg #[.int .i64 F.ret,.slice ba m bc],.bool true])∧bO w' [.int .i64 F.ret,.slice ba m bc] (zJ F)∧m≤12)∧Below w.heap.size w w'
theorem rem_nat(a b:Nat):Int.tmod (a:Int) (b:Int)=((a%b:Nat):Int):=by
 exact(Int.ofNat_tmod a b).symm
theorem yE(W:World)(b:Nat)(v0 v1 u0 u1:Value)(h0:W.cell? ⟨b,0,none⟩=some u0)(h1:W.cell? ⟨b,1,none⟩=some u1):((W.setCell ⟨b,0,none⟩ v0).setCell ⟨b,1,none⟩ v1).cell? ⟨b,0,none⟩=some v0∧((W.setCell ⟨b,0,none⟩ v0).setCell ⟨b,1,none⟩ v1).cell? ⟨b,1,none⟩=some v1:=by
 have k:∀ (u:World) (i j:Nat) (v:Value),i≠j→(u.setCell ⟨b,i,none⟩ v).cell? ⟨b,j,none⟩=u.cell? ⟨b,j,none⟩:=fun u i j v h=>World.cell?_setCell_other _ _ _ _ (fun e=>h (by cases e;rfl))
 refine⟨?_,World.cell?_setCell_same _ _ _ (by rw[k _ 0 1 _ (by omega)];exact h1)⟩
 rw[k _ 1 0 _ (by omega)]
 exact World.cell?_setCell_same _ _ _ h0
set_option maxRecDepth 100000 in
set_option maxHeartbeats 4000000 in
theorem Gd(g:Nat){sa:Option Addr}{sn sc:Nat}{ca:Option Addr}{cn cc:Nat}{fa:Option Addr}{fn fc:Nat}{P:aB}(nn:Nat)(hnn:nn≤255)(w:World)(hP:aX w g sa sn sc ca cn cc fa fn fc P)(hcap:gG wu 2 w (.slice fa fn fc) P.funcs):
 Calls Tryz.prog 13 #[.pointer (some ⟨g,0,none⟩),.int .u8 (nn:Int)] w (G7 P w):=by
 have c2:=hP.c2
 have hgl:g<w.heap.size:=World.block_lt_of_cell? _ _ c2
 by_cases h0:fn=0
 ·subst h0
  clear hP hcap
  go_enter Tryz.func13,Tryz.ntmps13
  go_wp2_with fail
  refine bodyPost_ret (v:=.tuple #[.agg #[.int .i64 0,.slice none 0 0],.bool false]) (by simp[results,Tryz.results13,go_sem]) rfl ⟨.inl rfl,(Below.refl _ w).alloc (Nat.le_refl _) _⟩
 ·have hfn8:=hP.f.len.2
  have hpos:0<nn%fn+1:=by omega
  have hkl:nn%fn<fn:=Nat.mod_lt _ (by omega)
  obtain⟨k,hk⟩:∃ k,k=nn%fn:=⟨_,rfl⟩
  rw[←hk]at hkl
  obtain⟨gs,os,cs,hsl,rfl,hl2,hscell,hq,r',ba,bn,bc,rfl,hbc,hbc8⟩:=hcap.elem hkl
  obtain⟨F,hF⟩:∃ F,F=P.funcs[k]:=⟨_,rfl⟩
  rw[←hF]at hq
  have hmem:F∈P.funcs:=by rw[hF];exact List.getElem_mem hsl
  obtain⟨bv,he,hrr,hbr⟩:=hq
  simp only[List.cons.injEq,and_true]at he
  obtain⟨rfl,rfl⟩:=he
  have f0:=hscell 0 (by simp)
  have f1:=hscell 1 (by simp)
  simp only[Nat.add_zero,List.getElem_cons_zero,List.getElem_cons_succ]at f0 f1
  have hgs:gs<w.heap.size:=World.block_lt_of_cell? _ _ f0
  have hfq:bO w [.int .i64 F.ret,.slice ba bn bc] F:=⟨_,rfl,hrr,hbr⟩
  have HFQ:=hid hfq
  have HMEM:=hid hmem
  have hne:(fn==0)=false:=by rw[beq_eq_false_iff_ne];exact h0
  have hnez:((fn:Int)==0)=false:=by rw[beq_eq_false_iff_ne];omega
  have hfnz:¬ (fn:Int)=0:=by omega
  have hrem:Int.tmod (nn:Int) (fn:Int)=(k:Int):=by rw[rem_nat,←hk]
  have hwn:IntKind.i64.wrap (nn:Int)=(nn:Int):=wrap_small _ (by omega) (by omega)
  have hfn0:¬ fn=0:=h0
  have hk0:(0:Int)≤(k:Int):=by omega
  have hkz:(k:Int)<(fn:Int):=by omega
  obtain⟨W1,hW1⟩:∃ U,w.alloc (.cells #[.int .i64 0,.slice none 0 0] 36)=U:=⟨_,rfl⟩
  have hb1:Below w.heap.size w W1:=by rw[←hW1];exact(Below.refl _ w).alloc (Nat.le_refl _) _
  have hs1:W1.heap.size=w.heap.size+1:=by rw[←hW1];simp
  have hx1:W1.heap[w.heap.size]? =some (.cells #[.int .i64 0,.slice none 0 0] 36 (0,0)):=by rw[←hW1];exact heap_alloc_new w _
  have HB1:=hid hb1
  have HS1:=hid hs1
  have HX1:=hid hx1
  have HC:Hid (∀U,Below W1.heap.size W1 U→U.cell? ⟨g,2,none⟩=some (.slice (some ⟨gs,os,none⟩) fn fc)∧U.cell? ⟨gs,os+k*2,none⟩=some (.int .i64 F.ret)∧U.cell? ⟨gs,os+k*2+1,none⟩=some (.slice ba bn bc)):=hid fun U hU=>by
   have hbw:=hb1.trans (hU.mono hb1.size)
   exact⟨(hbw.cell (p:=⟨g,2,none⟩) hgl).trans c2,(hbw.cell (p:=⟨gs,os+k*2,none⟩) hgs).trans f0,(hbw.cell (p:=⟨gs,os+k*2+1,none⟩) hgs).trans f1⟩
  clear hP hcap hscell hl2 hF hmem hsl hrr hbr f0 f1 hgs hfq hb1 hs1 hx1 hk h0 hgl
  go_enter Tryz.func13,Tryz.ntmps13
  go_upto_region 1 with fail
  try rw[hW1]
  clear hW1 c2
  obtain⟨c2,q0,q1⟩:=HC.out W1 (Below.refl _ _)
  go_upto_region 3 with fail
  clear c2 q0 q1
  refine bM (S:=(fun u:World=>u.cell? ⟨g,2,none⟩=some (.slice (some ⟨gs,os,none⟩) fn fc)∧u.cell? ⟨gs,os+k*2,none⟩=some (.int .i64 F.ret)∧u.cell? ⟨gs,os+k*2+1,none⟩=some (.slice ba bn bc))) 15 (by kernel_rfl) (HC.out _ ((Below.refl _ W1).drew)) (fun hHeld=> ?_)
  refine zW 0 18 ?_
  (try simp only[Act.put,zA,zB,zC])
  refine zW 1 19 ?_
  (try simp only[Act.put,zA,zB,zC])
  refine zW 2 20 ?_
  (try simp only[Act.put,zA,zB,zC])
  refine zT 3 21 8 ?_
  (try simp only[Act.put,zA,zB,zC])
  refine zW 4 22 ?_
  (try simp only[Act.put,zA,zB,zC])
  refine zW 5 23 ?_
  (try simp only[Act.put,zA,zB,zC])
  refine zW 6 24 ?_
  (try simp only[Act.put,zA,zB,zC])
  refine zW 7 25 ?_
  (try simp only[Act.put,zA,zB,zC])
  refine zW 8 26 ?_
  (try simp only[Act.put,zA,zB,zC])
  refine zT 9 27 8 ?_
  (try simp only[Act.put,zA,zB,zC])
  refine zW 10 28 ?_
  (try simp only[Act.put,zA,zB,zC])
  refine zW 11 29 ?_
  (try simp only[Act.put,zA,zB,zC])
  refine zW 12 30 ?_
  (try simp only[Act.put,zA,zB,zC])
  refine zT 13 31 8 ?_
  (try simp only[Act.put,zA,zB,zC])
  refine aO (i:=14) (by kernel_rfl) rfl (fun K hK=> ?_)
  rw[if_pos (by rfl)]
  go_simp
  refine hK.out _ _ (HC.out _ (((Below.refl _ W1).alloc (Nat.le_refl _) _).drew)) (fun hHeld=> ?_)
  clear hK K
  (try simp only[Act.put,zA,zB,zC])
  refine jE (i:=15) (by kernel_rfl) (by kernel_rfl) rfl (fun K hK=> ?_)
  rw[if_pos (by rfl)]
  go_simp
  refine hK.out _ _ ?_
  clear hK K
  (try simp only[Act.put,zA,zB,zC])
  refine bH (by kernel_rfl) ?_
  obtain⟨Y,hY⟩:∃ U,U=(W1.alloc (.cells #[.int .i64 F.ret,.slice ba bn bc] 36)).drew:=⟨_,rfl⟩
  have hbY:Below W1.heap.size W1 Y:=by rw[hY];exact((Below.refl _ W1).alloc (Nat.le_refl _) _).drew
  have hy:Y.heap[W1.heap.size]? =some (.cells #[.int .i64 F.ret,.slice ba bn bc] 36 (0,0)):=by rw[hY];exact heap_alloc_new W1 _
  have hx:Y.heap[w.heap.size]? =some (.cells #[.int .i64 0,.slice none 0 0] 36 (0,0)):=by rw[hbY.block _ (by have:=HS1.out;omega)];exact HX1.out
  rw[←hY]
  have hs:=HS1.out
  rw[hs]at hy⊢
  obtain⟨p,hp⟩:∃ p,p=w.heap.size:=⟨_,rfl⟩
  have HPP:=hid hp
  rw[←hp]at hy hx⊢
  have a0:Y.cell? ⟨p,0,none⟩=some (.int .i64 0):=by simp[World.cell?,hx]
  have a1:Y.cell? ⟨p,1,none⟩=some (.slice none 0 0):=by simp[World.cell?,hx]
  have a2:∀ j,Y.frozen? ⟨p,j,none⟩=false:=fun j=>by simp[World.frozen?,hx]
  have b0:Y.cell? ⟨p+1,0,none⟩=some (.int .i64 F.ret):=by simp[World.cell?,hy]
  have b1:Y.cell? ⟨p+1,1,none⟩=some (.slice ba bn bc):=by simp[World.cell?,hy]
  have b2:∀ j,Y.frozen? ⟨p+1,j,none⟩=false:=fun j=>by simp[World.frozen?,hy]
  have HBY:Hid (Below w.heap.size w Y):=hid (HB1.out.trans (hbY.mono HB1.out.size))
  have HY:=hid hy
  have HX:=hid hx
  clear hY hbY hy hx hs hp
  by_cases h12:12<bn
  ·have hi:(12:Int)<(bn:Int):=by omega
   have hc60:12≤bc:=by omega
   have hci:(12:Int)≤(bc:Int):=by omega
   have a0':(Y.setCell ⟨p+1,1,none⟩ (.slice ba 12 bc)).cell? ⟨p,0,none⟩=some (.int .i64 0):=(World.cell?_setCell_other _ _ _ _ (fun e=>by cases e)).trans a0
   have a1':(Y.setCell ⟨p+1,1,none⟩ (.slice ba 12 bc)).cell? ⟨p,1,none⟩=some (.slice none 0 0):=(World.cell?_setCell_other _ _ _ _ (fun e=>by cases e)).trans a1
   have HU:=hid (yE (Y.setCell ⟨p+1,1,none⟩ (.slice ba 12 bc)) p (.int .i64 F.ret) (.slice ba 12 bc) _ _ a0' a1')
   have HBU:Hid (Below w.heap.size w (((Y.setCell ⟨p+1,1,none⟩ (.slice ba 12 bc)).setCell ⟨p,0,none⟩ (.int .i64 F.ret)).setCell ⟨p,1,none⟩ (.slice ba 12 bc))):=hid (((HBY.out.setCell (p:=⟨p+1,1,none⟩) (by have:=HPP.out;simp only[];omega) _).setCell (p:=⟨p,0,none⟩) (by have:=HPP.out;simp only[];omega) _).setCell (p:=⟨p,1,none⟩) (by have:=HPP.out;simp only[];omega) _)
   have HL12:=hid h12
   clear a0' a1'
   go_wp2_with fail
   obtain⟨u0,u1⟩:=HU.out
   refine bodyPost_ret (v:=.tuple #[.agg #[.int .i64 F.ret,.slice ba 12 bc],.bool true]) (by simp[results,Tryz.results13,go_sem,u0,u1]) rfl ⟨.inr ⟨F,ba,12,bc,HMEM.out,rfl,bO.lasts _ _ _ _ HBU.out (Ab HFQ.out HL12.out),Nat.le_refl _⟩,HBU.out⟩
  ·have hi:¬ (12:Int)<(bn:Int):=by omega
   have HU:=hid (yE Y p (.int .i64 F.ret) (.slice ba bn bc) _ _ a0 a1)
   have HBU:Hid (Below w.heap.size w ((Y.setCell ⟨p,0,none⟩ (.int .i64 F.ret)).setCell ⟨p,1,none⟩ (.slice ba bn bc))):=hid ((HBY.out.setCell (p:=⟨p,0,none⟩) (by have:=HPP.out;simp only[];omega) _).setCell (p:=⟨p,1,none⟩) (by have:=HPP.out;simp only[];omega) _)
   have HL12:Hid (bn≤12):=hid (by omega)
   clear h12
   go_wp2_with fail
   obtain⟨u0,u1⟩:=HU.out
   refine bodyPost_ret (v:=.tuple #[.agg #[.int .i64 F.ret,.slice ba bn bc],.bool true]) (by simp[results,Tryz.results13,go_sem,u0,u1]) rfl ⟨.inr ⟨F,ba,bn,bc,HMEM.out,rfl,bO.lasts _ _ _ _ HBU.out (Ac HFQ.out HL12.out),HL12.out⟩,HBU.out⟩
set_option maxRecDepth 100000 in
set_option maxHeartbeats 4000000 in
theorem uO(
 pg:Nat) {sa:Option Addr} {sn sc:Nat} {ca:Option Addr} {cn cc:Nat} {pa':Option Addr} {pn' pc':Nat} {P:aB} (r:Int) (a:Option Addr) (n c:Nat) (f:ak) (w:World) (hP:aX w pg sa sn sc ca cn cc pa' pn' pc' P)
 (hf:bO w [.int .i64 r,.slice a n c] f) (hn:n≤100000) (hv:aV f≤1099511627776):
 Calls Tryz.prog 16 #[.pointer (some ⟨pg,0,none⟩),.agg #[.int .i64 r,.slice a n c]] w fun e w'=>∃ va vn vc,e=.returned (.slice va vn vc)∧aj w' w.heap.size 3 (.slice va vn vc) (kP P f)∧Below w.heap.size w w':=by
 obtain⟨W1,hW1⟩:∃ U,w.alloc (.cells #[.int .i64 r,.slice a n c] 36)=U:=⟨_,rfl⟩
 have hb1:Below w.heap.size w W1:=by rw[←hW1];exact(Below.refl _ w).alloc (Nat.le_refl _) _
 have hs1:W1.heap.size=w.heap.size+1:=by rw[←hW1];simp
 have hc:∀ j,W1.cell? ⟨w.heap.size,j,none⟩=(#[.int .i64 r,.slice a n c]:Array Value)[j]? :=fun j=>by rw[←hW1];exact World.cell?_alloc_mark _ _ _ _ _
 have hc0:=hc 0
 have hc1:=hc 1
 have HC:Hid (∀U,Below W1.heap.size W1 U→U.cell? ⟨w.heap.size,0,none⟩=some (.int .i64 r)∧U.cell? ⟨w.heap.size,1,none⟩=some (.slice a n c)):=hid fun U hU=>⟨(hU.cell (p:=⟨w.heap.size,0,none⟩) (by simp only[];omega)).trans (hc 0),(hU.cell (p:=⟨w.heap.size,1,none⟩) (by simp only[];omega)).trans (hc 1)⟩
 have hrow:=(jc hf).1
 have HL:Hid (f.blocks.length=n):=hid (by obtain⟨_,_,_,e,h,_⟩:=hrow;cases e;exact h)
 have hcn:P.classes.length≤140737488355328:=by have:=hP.c.len;omega
 have HTR:Hid (∀b T k,(∀z∈T,InR z)→∀ z∈aW P f b T k,InR z):=hid fun b T k h=>pF hP.r hcn h k
 have HTK:Hid (∀i,∀z∈aK P f i,InR z):=hid (pu hP.r hcn hrow.parR)
 have HR:=hid (hrow.since aM.lasts hb1)
 have HP:=hid (hP.since hb1)
 have HB1:=hid hb1
 have HS1:=hid hs1
 have HN:=hid hn
 have HV:=hid hv
 have CFI:Hid (∀U,Below W1.heap.size W1 U→∀ i:Nat,Calls Tryz.prog 40 #[.agg #[.int .i64 r,.slice a n c],.int .i64 (i:Int)] U (qI ((aL f i:Nat):Int) U)):=hid fun U hU i=>by
  rw[←qz f hv i]
  exact Dj r a n c (i:Int) f U (bO.lasts _ _ _ _ hU (bO.lasts _ _ _ _ hb1 hf))
 have CO:Hid (∀U,Below W1.heap.size W1 U→Calls Tryz.prog 38 #[.agg #[.int .i64 r,.slice a n c]] U fun e w'=>∃ va vn vc,e=.returned (.slice va vn vc)∧aj w' U.heap.size 3 (.slice va vn vc) (aD f)∧Below U.heap.size U w'):=hid fun U hU=>uP r a n c f U ((hrow.since aM.lasts hb1).since aM.lasts hU) (by omega)
 clear hrow hf hb1 hc hs1 hP hv hcn
 go_enter Tryz.func16,Tryz.ntmps16
 go_upto_region 1 with fail
 try rw[hW1]
 clear hW1
 obtain⟨k0,k1⟩:=HC.out (W1.alloc (.cells #[] 3)) ((Below.refl _ W1).alloc (Nat.le_refl _) _)
 go_wp2_with fail
 obtain⟨W2,hW2⟩:∃ u,W1.alloc (.cells #[] 3)=u:=⟨_,rfl⟩
 have hb2:Below W1.heap.size W1 W2:=by rw[←hW2];exact(Below.refl _ W1).alloc (Nat.le_refl _) _
 have HO2:Hid (aj W2 W1.heap.size 3 (.slice (some ⟨W1.heap.size,0,none⟩) 0 0) []):=hid (by rw[←hW2];exact aj.laid rfl (Nat.le_refl _))
 have HB2:=hid hb2
 have HZ2:Hid (W1.heap.size<W2.heap.size):=hid (by rw[←hW2];simp)
 rw[hW2]at k0 k1⊢
 clear hW2 hb2 hc0 hc1
 refine(CO.out _ HB2.out).mono ?_
 rintro e w3 ⟨oa,on,oc,rfl,ho,hb⟩
 have HI0:Hid (kK W1 (.slice (some ⟨W1.heap.size,0,none⟩) 0 0) (.slice oa on oc) (dI f 0) (eP f 0) w3):=hid ⟨HO2.out.below hb,by rw[rz];exact ho.mono HB2.out.size,fun k hk e=>by
  have hk':W1.heap.size=k:=Option.some.inj hk
  have:=(ho.lt _ e).1
  have:=HZ2.out
  omega,HB2.out.trans (hb.mono HB2.out.size)⟩
 obtain⟨p1,hp1⟩:∃ p,p=W1.heap.size:=⟨_,rfl⟩
 rw[←hp1]at HI0⊢
 clear HO2 ho hb hp1 k0 k1
 go_upto_region 3 with fail
 go_loopw[5,6,7] (fun v5 v6 v7 wr=>∃ (i:Nat) (va:Option Addr) (vn vc:Nat) (oa:Option Addr) (on oc:Nat),i≤n∧v5=.slice va vn vc∧v6=.slice oa on oc∧v7=.int .i64 (i:Int)∧Hid (kK W1 (.slice va vn vc) (.slice oa on oc) (dI f i) (eP f i) wr)) (fun _ _ iv _=>n-(intOf iv).toNat)
 case atStart=>exact⟨0,_,_,_,_,_,_,Nat.zero_le _,rfl,rfl,rfl,HI0⟩
 case round=>
  clear HI0 HB2 HZ2
  obtain⟨i,va,vn,vc,oa,on,oc,hi,rfl,rfl,rfl,HI⟩:=hrel
  obtain⟨d0,d1⟩:=HC.out wr HI.out.bel
  have hw:wrap64 ((i:Int)+1)=(i:Int)+1:=by unfold wrap64;omega
  by_cases hlt:i<n
  ·have hltz:(i:Int)<(n:Int):=by omega
   have hi0:(0:Int)≤(i:Int):=by omega
   obtain⟨g8,off8,cs,hif,rfl,hl8,hcell,hq⟩:=HR.out.elem hlt
   obtain⟨X,hX⟩:∃ X,X=f.blocks[i]:=⟨_,rfl⟩
   rw[←hX]at hq
   obtain⟨pv,ov,es,rfl,⟨pa,pn,pc,rfl,hp,hpn0,_⟩,⟨xa,xn,xc,rfl,hx,_⟩,_⟩:=hq
   have HG:Hid (∀U,Below W1.heap.size W1 U→U.cell? ⟨g8,off8+i*8,none⟩=some (.slice pa pn pc)∧U.cell? ⟨g8,off8+i*8+1,none⟩=some (.slice xa xn xc)):=hid fun U hU=>by
    have h0:=hcell 0 (by simp)
    have h1:=hcell 1 (by simp)
    simp only[Nat.add_zero,List.getElem_cons_zero,List.getElem_cons_succ]at h0 h1
    exact⟨(hU.cell (p:=⟨g8,off8+i*8,none⟩) (World.block_lt_of_cell? _ _ h0)).trans h0,(hU.cell (p:=⟨g8,off8+i*8+1,none⟩) (World.block_lt_of_cell? _ _ h1)).trans h1⟩
   have hpar:nU f i=X.params:=by rw[iZ hif,hX]
   have hopn:qP f i=xn:=by rw[jC hif,←hX];exact hx
   have HIN:Hid ((dI f i).length+pn+xn≤1099511627776∧dI f (i+1)=dI f i++(X.params++List.replicate xn (-1))):=hid (by
    refine⟨?_,by rw[show dI f (i+1)=dI f i++(nU f i++List.replicate (qP f i) (-1))from rfl,hpar,hopn]⟩
    have h1:=jd hif
    have h2:=je f (i+1)
    have h3:=HV.out
    rw[nH (by omega)]
    rw[hpar,hopn,hp.1]at h1
    omega)
   have HPN:=hid hpn0
   have HPA:=hid (hp.since HI.out.bel)
   have HPL:Hid (X.params.length=pn):=hid hp.1
   obtain⟨q0,q1⟩:=HG.out wr HI.out.bel
   clear hcell hp hx hl8 hX hpar hopn hpn0
   go_upto_region 6 with(at_builtin;(with_reducible refine l9 _ rfl _ _ 40 rfl 3 Tryz.underlying40 aT W1.heap.size (.slice va vn vc) (dI f i) ?_ ?_ ?_ pa pn pc X.params ?_ ?_ ?_ ?_ ?_);(next=>rfl);(next=>exact HI.out.out);(next=>exact HI.out.bel.size);(next=>rfl);(next=>exact HPN.out);(next=>exact HPA.out);(next=>have:=HIN.out.1;omega);intro ya yn yc w4 ho4 hg4 hw4;have H4:=hid (HI.out.outs ho4 hg4 hw4);clear ho4 hg4 hw4)
   go_upto_region 7 with fail
   go_loopw[5,8] (fun v5 v8 wr2=>∃ (k:Nat) (za:Option Addr) (zn zc:Nat),k≤xn∧v5=.slice za zn zc∧v8=.int .i64 (k:Int)∧Hid (kK W1 (.slice za zn zc) (.slice oa on oc) (dI f i++(X.params++List.replicate k (-1))) (eP f i) wr2)) (fun _ iv _=>xn-(intOf iv).toNat)
   case atStart=>exact⟨0,_,_,_,Nat.zero_le _,rfl,rfl,by simpa using H4⟩
   case round=>
    clear H4 d0 d1 q0 q1 HPA
    obtain⟨k,za,zn,zc,hk,rfl,rfl,HK⟩:=hrel
    obtain⟨e0,e1⟩:=HC.out wr HK.out.bel
    obtain⟨r0,r1⟩:=HG.out wr HK.out.bel
    have hwk:wrap64 ((k:Int)+1)=(k:Int)+1:=by have:=HIN.out.1;unfold wrap64;omega
    by_cases hkl:k<xn
    ·have hklz:(k:Int)<(xn:Int):=by omega
     have HLN:Hid (((dI f i++(X.params++List.replicate k (-1))).length+1)*8≤140737488355328):=hid (by
      have h1:=HIN.out.1
      have h2:=HPL.out
      simp only[List.length_append,List.length_replicate]
      omega)
     go_wp2_with((with_reducible refine fV _ rfl _ _ 40 rfl 3 Tryz.underlying40 aT W1.heap.size (.slice za zn zc) (dI f i++(X.params++List.replicate k (-1))) ?_ ?_ ?_ _ 1 wr.heap.size (-1) ?_ ?_ ?_ ?_ ?_);(next=>rfl);(next=>exact HK.out.out);(next=>exact HK.out.bel.size);(next=>rfl);(next=>rfl);(next=>rfl);(next=>exact HLN.out);intro ya yn yc w5 ho5 hg5 hw5;have HX5:Hid (kK W1 (.slice ya yn yc) (.slice oa on oc) (dI f i++(X.params++List.replicate (k+1) (-1))) (eP f i) w5):=hid (by rw[List.replicate_succ',←List.append_assoc X.params,←List.append_assoc (dI f i)];exact HK.out.outsA ho5 hg5 hw5);clear ho5 hg5 hw5)
     go_roundw
     case rel=>exact⟨k+1,_,_,_,hkl,rfl,by go_num,HX5⟩
     case measure=>simp[intOf,hwk];omega
    ·obtain rfl:k=xn:=by omega
     have hnn:¬ (k:Int)<(k:Int):=by omega
     have HX6:Hid (kK W1 (.slice za zn zc) (.slice oa on oc) (dI f (i+1)) (eP f i) wr):=hid (by rw[HIN.out.2];exact HK.out)
     have HON:Hid (on≤200000):=hid (by
      have h1:=nk f i
      have h2:=dZ f
      have h3:=HL.out
      have h4:=HK.out.ord.read.1
      have h5:=HN.out
      omega)
     have hin:inL (eP f i) (i:Int)=inL (aD f) (i:Int):=thru_in f i
     have CH:Hid (Calls Tryz.prog 39 #[.slice oa on oc,.int .i64 (i:Int)] wr fun e w'=>e=.returned (.bool (inL (aD f) (i:Int)))∧wr=w'):=hid (by rw[←hin];exact tN oa on oc (eP f i) (i:Int) wr HK.out.ord.read (by have:=HON.out;omega))
     clear HIN HK hin
     cases hio:inL (aD f) (i:Int)with
     |true=>
      have HX7:Hid (kK W1 (.slice za zn zc) (.slice oa on oc) (dI f (i+1)) (eP f (i+1)) wr):=hid (by rw[uJ hio];exact HX6.out)
      rw[hio]at CH
      go_wp2_with(go_at_call 39;(with_reducible refine CH.out.mono ?_);rintro e w7 ⟨rfl,rfl⟩)
      go_roundw
      case rel=>exact⟨i+1,_,_,_,_,_,_,hlt,rfl,rfl,by go_num,HX7⟩
      case measure=>simp[intOf,hw];omega
     |false=>
      rw[hio]at CH
      have HOL:Hid (((eP f i).length+1)*8≤140737488355328):=hid (by have:=HON.out;have:=HX6.out.ord.read.1;omega)
      have HTN:Hid (eP f (i+1)=eP f i++ [(i:Int)]):=hid (uI hio)
      clear hio
      go_wp2_with(first
       |(go_at_call 39;(with_reducible refine CH.out.mono ?_);rintro e w7 ⟨rfl,rfl⟩)
       |((with_reducible refine fV _ rfl _ _ 40 rfl 3 Tryz.underlying40 aT W1.heap.size (.slice oa on oc) (eP f i) ?_ ?_ ?_ _ 1 wr.heap.size (i:Int) ?_ ?_ ?_ ?_ ?_);(next=>rfl);(next=>exact HX6.out.ord);(next=>exact HX6.out.bel.size);(next=>rfl);(next=>rfl);(next=>rfl);(next=>exact HOL.out);intro ya yn yc w5 ho5 hg5 hw5;have HX7:Hid (kK W1 (.slice za zn zc) (.slice ya yn yc) (dI f (i+1)) (eP f (i+1)) w5):=hid (by rw[HTN.out];exact HX6.out.ordsA ho5 hg5 hw5);clear ho5 hg5 hw5))
      go_roundw
      case rel=>exact⟨i+1,_,_,_,_,_,_,hlt,rfl,rfl,by go_num,HX7⟩
      case measure=>simp[intOf,hw];omega
  ·obtain rfl:i=n:=by omega
   clear hw hi
   have hnn:¬ (i:Int)<(i:Int):=by omega
   have HQ0:Hid (kK W1 (.slice va vn vc) (.slice oa on oc) (aK P f 0) (fu f) wr):=hid (by
    have h:=HI.out
    rw[←HL.out]at h
    exact h)
   have hvn:vn=aV f:=by have:=HQ0.out.out.read.1;rw[dM]at this;omega
   have HVN:=hid hvn
   have hon:on=(fu f).length:=HQ0.out.ord.read.1.symm
   have HON:=hid hon
   have hon2:on≤200000:=by
    have h1:=nk f f.blocks.length
    have h2:=dZ f
    have h3:=HL.out
    have h4:=HN.out
    rw[hon]
    unfold fu
    omega
   clear HI hvn hon CO
   go_upto_region 13 with fail
   go_loopw[9] (fun v9 w7=>∃ q:Nat,q≤on∧v9=.int .i64 (q:Int)∧Hid (kK W1 (.slice va vn vc) (.slice oa on oc) (aK P f q) (fu f) w7)) (fun iv _=>on-(intOf iv).toNat)
   case atStart=>exact⟨0,Nat.zero_le _,rfl,HQ0⟩
   case round=>
    clear HQ0 d0 d1
    obtain⟨q,hq,rfl,HQ⟩:=hrel
    have hwq:wrap64 ((q:Int)+1)=(q:Int)+1:=by unfold wrap64;omega
    by_cases hql:q<on
    ·have hqlz:(q:Int)<(on:Int):=by omega
     have hq0:(0:Int)≤(q:Int):=by omega
     have hqt:q<(fu f).length:=by rw[←HON.out];exact hql
     obtain⟨b,hbe,hbl⟩:=Da hqt
     obtain⟨_,hog⟩:=HQ.out.ord.read
     obtain⟨go,oo,rfl,hgo,hocell⟩:=hog (by omega)
     have hoc:wr.cell? ⟨go,oo+q,none⟩=some (.int .i64 (b:Int)):=by rw[hocell q hqt,←hbe,bN hqt];rfl
     have hbn:b<i:=by rw[←HL.out];exact hbl
     have hbz:(b:Int)<(i:Int):=by omega
     have hb0:(0:Int)≤(b:Int):=by omega
     obtain⟨g8,off8,cs,hif,rfl,hl8,hcell,hqq⟩:=HR.out.elem hbn
     obtain⟨X,hX⟩:∃ X,X=f.blocks[b]:=⟨_,rfl⟩
     rw[←hX]at hqq
     obtain⟨pv,ov,es,rfl,⟨pa,pn,pc,rfl,hp,hpn0,_⟩,ho,l1,m1,rfl,r1,r2,r3,r4,⟨la,ln,lc,rfl,_⟩,⟨ma,mn,mc,rfl,_⟩⟩:=hqq
     have hov:=ho
     obtain⟨xa,xn,xc,rfl,hxl,_⟩:=hov
     have HXO:=hid ho
     have HXL:Hid (X.ops.length=xn):=hid hxl
     have HPL:Hid (X.params.length=pn):=hid hp.1
     have HXE:=hid hX
     have hpar:nU f b=X.params:=by rw[iZ hif,hX]
     have hopn:qP f b=xn:=by rw[jC hif,←hX];exact hxl
     have HTQ:Hid (aK P f (q+1)=aW P f b (aK P f q) xn):=hid (by
      show aW P f (nth (fu f) q).toNat (aK P f q) (qP f (nth (fu f) q).toNat)=_
      rw[hbe,Int.toNat_natCast,hopn])
     have HBKK:Hid (∀k (hk:k<X.ops.length),aW P f b (aK P f q) (k+1)=(aW P f b (aK P f q) k).set (aL f b+pn+k) (rC P X.ops[k] (aW P f b (aK P f q) k)).1):=hid fun k hk=>by
      show(aW P f b (aK P f q) k).set (aL f b+(nU f b).length+k) (rC P (opAt f b k) (aW P f b (aK P f q) k)).1=_
      have hk':k<f.blocks[b].ops.length:=by rw[←hX];exact hk
      rw[hpar,hp.1,xL hif hk']
      subst hX
      rfl
     have HRM:Hid (∀k,k<xn→aL f b+pn+k<vn):=hid fun k hk=>by
      have:=vX hbl (k:=k) (by rw[hopn];exact hk)
      rw[hpar,hp.1]at this
      rw[HVN.out]
      exact this
     have HS0:Hid (∀u,Below wr.heap.size wr u→(u.cell? ⟨w.heap.size,0,none⟩=some (.int .i64 r)∧u.cell? ⟨w.heap.size,1,none⟩=some (.slice (some ⟨g8,off8,none⟩) i c))∧u.cell? ⟨go,oo+q,none⟩=some (.int .i64 (b:Int))∧u.cell? ⟨g8,off8+b*8,none⟩=some (.slice pa pn pc)∧u.cell? ⟨g8,off8+b*8+1,none⟩=some (.slice xa xn xc)∧u.cell? ⟨g8,off8+b*8+2,none⟩=some (.int .i64 X.fin.K)∧u.cell? ⟨g8,off8+b*8+3,none⟩=some (.int .i64 X.fin.A)∧u.cell? ⟨g8,off8+b*8+4,none⟩=some (.int .i64 X.fin.To)∧u.cell? ⟨g8,off8+b*8+5,none⟩=some (.int .i64 X.fin.Else)∧u.cell? ⟨g8,off8+b*8+6,none⟩=some (.slice la ln lc)∧u.cell? ⟨g8,off8+b*8+7,none⟩=some (.slice ma mn mc)):=hid fun u hu=>by
      have hW:Below W1.heap.size W1 u:=HQ.out.bel.trans (hu.mono HQ.out.bel.size)
      have hlift:∀ (j:Nat) (v:Value),W1.cell? ⟨g8,off8+b*8+j,none⟩=some v→u.cell? ⟨g8,off8+b*8+j,none⟩=some v:=fun j v hv=>(hW.cell (p:=⟨g8,off8+b*8+j,none⟩) (World.block_lt_of_cell? _ _ hv)).trans hv
      exact⟨HC.out u hW,(hu.cell (p:=⟨go,oo+q,none⟩) hgo).trans hoc,hlift 0 _ (hcell 0 (by simp)),hlift 1 _ (hcell 1 (by simp)),hlift 2 _ (hcell 2 (by simp)),hlift 3 _ (hcell 3 (by simp)),hlift 4 _ (hcell 4 (by simp)),hlift 5 _ (hcell 5 (by simp)),hlift 6 _ (hcell 6 (by simp)),hlift 7 _ (hcell 7 (by simp))⟩
     have hfp:aL f b+pn≤1099511627776:=by
      have h1:=jd hif
      have h2:=je f (b+1)
      have h3:=HV.out
      rw[iZ hif,←hX,hp.1]at h1
      omega
     clear hpar hopn hcell ho hxl hp hX hl8 hocell hog hoc hbe hpn0 r1 r2 r3 r4
     obtain⟨fb,hfb⟩:∃ z,z=aL f b:=⟨_,rfl⟩
     have CF1:Hid (∀U,Below W1.heap.size W1 U→Calls Tryz.prog 40 #[.agg #[.int .i64 r,.slice (some ⟨g8,off8,none⟩) i c],.int .i64 (b:Int)] U (qI ((fb:Nat):Int) U)):=hid fun U hU=>by rw[hfb];exact CFI.out U hU b
     rw[←hfb]at hfp
     have HFB:=hid hfb
     have hv1:IntKind.i64.wrap ((fb:Int)+(pn:Int))=(fb:Int)+(pn:Int):=vC hfp
     clear hfb
     go_upto_region 15 with fail
     refine bM (S:=(fun u:World=>(u.cell? ⟨w.heap.size,0,none⟩=some (.int .i64 r)∧u.cell? ⟨w.heap.size,1,none⟩=some (.slice (some ⟨g8,off8,none⟩) i c))∧u.cell? ⟨go,oo+q,none⟩=some (.int .i64 (b:Int))∧u.cell? ⟨g8,off8+b*8,none⟩=some (.slice pa pn pc)∧u.cell? ⟨g8,off8+b*8+1,none⟩=some (.slice xa xn xc)∧u.cell? ⟨g8,off8+b*8+2,none⟩=some (.int .i64 X.fin.K)∧u.cell? ⟨g8,off8+b*8+3,none⟩=some (.int .i64 X.fin.A)∧u.cell? ⟨g8,off8+b*8+4,none⟩=some (.int .i64 X.fin.To)∧u.cell? ⟨g8,off8+b*8+5,none⟩=some (.int .i64 X.fin.Else)∧u.cell? ⟨g8,off8+b*8+6,none⟩=some (.slice la ln lc)∧u.cell? ⟨g8,off8+b*8+7,none⟩=some (.slice ma mn mc))) 28 (by kernel_rfl) (HS0.out _ ((Below.refl _ wr).drew)) (fun hHeld=> ?_)
     refine zW 0 61 ?_
     (try simp only[Act.put,zA,zB,zC])
     refine zT 1 62 8 ?_
     (try simp only[Act.put,zA,zB,zC])
     refine zW 2 63 ?_
     (try simp only[Act.put,zA,zB,zC])
     refine zW 3 64 ?_
     (try simp only[Act.put,zA,zB,zC])
     refine zW 4 65 ?_
     (try simp only[Act.put,zA,zB,zC])
     refine zT 5 66 8 ?_
     (try simp only[Act.put,zA,zB,zC])
     refine zW 6 67 ?_
     (try simp only[Act.put,zA,zB,zC])
     refine zT 7 68 8 ?_
     (try simp only[Act.put,zA,zB,zC])
     refine zT 8 69 8 ?_
     (try simp only[Act.put,zA,zB,zC])
     refine zW 9 70 ?_
     (try simp only[Act.put,zA,zB,zC])
     refine zW 10 71 ?_
     (try simp only[Act.put,zA,zB,zC])
     refine zW 11 72 ?_
     (try simp only[Act.put,zA,zB,zC])
     refine zT 12 73 8 ?_
     (try simp only[Act.put,zA,zB,zC])
     refine zW 14 75 ?_
     (try simp only[Act.put,zA,zB,zC])
     refine zT 15 76 8 ?_
     (try simp only[Act.put,zA,zB,zC])
     refine zW 16 77 ?_
     (try simp only[Act.put,zA,zB,zC])
     refine zW 17 78 ?_
     (try simp only[Act.put,zA,zB,zC])
     refine zW 18 79 ?_
     (try simp only[Act.put,zA,zB,zC])
     refine zT 19 80 8 ?_
     (try simp only[Act.put,zA,zB,zC])
     refine zW 20 81 ?_
     (try simp only[Act.put,zA,zB,zC])
     refine zW 21 82 ?_
     (try simp only[Act.put,zA,zB,zC])
     refine zT 22 83 8 ?_
     (try simp only[Act.put,zA,zB,zC])
     refine zW 23 84 ?_
     (try simp only[Act.put,zA,zB,zC])
     refine zX (i:=13) (j:=25) (by kernel_rfl) rfl rfl (fun K hK=> ?_) (fun K hK=> ?_)
     ·rw[if_pos (by rfl)]
      go_simp
      (with_reducible refine(CF1.out _ (HQ.out.bel.trans ((Below.refl _ wr).drew.mono HQ.out.bel.size))).mono ?_)
      rintro e w6 ⟨rfl,hb⟩
      have HB6:Hid (Below wr.heap.size wr w6):=hid ((Below.refl _ wr).drew.trans (hb.mono (Nat.le_refl _)))
      clear hb
      refine hK.out _ _ (HS0.out _ HB6.out) (fun hHeld=> ?_)
      clear hK K
      (try simp only[Act.put,zA,zB,zC])
      refine zW 24 85 ?_
      (try simp only[Act.put,zA,zB,zC])
      refine aO (i:=25) (by kernel_rfl) rfl (fun K hK=> ?_)
      rw[if_pos (by rfl)]
      go_simp
      obtain⟨U,hU⟩:∃ u,(w6.alloc (.cells #[.slice none 0 0,.slice none 0 0,.int .i64 0,.int .i64 0,.int .i64 0,.int .i64 0,.slice none 0 0,.slice none 0 0] 51))=u:=⟨_,rfl⟩
      have hbU:Below wr.heap.size wr U:=by rw[←hU];exact HB6.out.alloc HB6.out.size _
      have hcU:∀ j,U.cell? ⟨w6.heap.size,j,none⟩=(#[.slice none 0 0,.slice none 0 0,.int .i64 0,.int .i64 0,.int .i64 0,.int .i64 0,.slice none 0 0,.slice none 0 0]:Array Value)[j]? :=fun j=>by rw[←hU];exact World.cell?_alloc_mark _ _ _ _ _
      have hpU:w6.heap.size<U.heap.size:=by rw[←hU];simp
      have hbk:U.heap[w6.heap.size]? =some (.cells #[.slice none 0 0,.slice none 0 0,.int .i64 0,.int .i64 0,.int .i64 0,.int .i64 0,.slice none 0 0,.slice none 0 0] 51 (0,0)):=by rw[←hU];exact qG _ _ _
      obtain⟨p,hp⟩:∃ p,p=w6.heap.size:=⟨_,rfl⟩
      have HPL2:Hid (wr.heap.size≤p):=hid (by rw[hp];exact HB6.out.size)
      rw[hU]
      rw[←hp]at hcU hpU hbk⊢
      have HBU:=hid hbU
      have HCU:=hid hcU
      have HPU:=hid hpU
      have HBK:=hid hbk
      clear hbk hbU hcU hpU hU hp
      refine hK.out _ _ (HS0.out _ HBU.out) (fun hHeld=> ?_)
      clear hK K
      (try simp only[Act.put,zA,zB,zC])
      refine aO (i:=26) (by kernel_rfl) rfl (fun K hK=> ?_)
      have HCV:Hid (∀j,U.cell? ⟨p,j,none⟩=(#[.slice none 0 0,.slice none 0 0,.int .i64 0,.int .i64 0,.int .i64 0,.int .i64 0,.slice none 0 0,.slice none 0 0]:Array Value)[j]?):=hid (HCU.out)
      have HFZ:Hid (U.heap[p]? =some (.cells #[.slice none 0 0,.slice none 0 0,.int .i64 0,.int .i64 0,.int .i64 0,.int .i64 0,.slice none 0 0,.slice none 0 0] 51 (0,0))):=hid (HBK.out)
      have hz0:=HCV.out 0
      have hz1:=HCV.out 1
      have hz2:=HCV.out 2
      have hz3:=HCV.out 3
      have hz4:=HCV.out 4
      have hz5:=HCV.out 5
      have hz6:=HCV.out 6
      have hz7:=HCV.out 7
      have hf0:=bU HFZ.out 0
      have hf1:=bU HFZ.out 1
      have hf2:=bU HFZ.out 2
      have hf3:=bU HFZ.out 3
      have hf4:=bU HFZ.out 4
      have hf5:=bU HFZ.out 5
      have hf6:=bU HFZ.out 6
      have hf7:=bU HFZ.out 7
      have HEI:=hid (vP U p (.slice pa pn pc) (.slice xa xn xc) (.int .i64 X.fin.K) (.int .i64 X.fin.A) (.int .i64 X.fin.To) (.int .i64 X.fin.Else) (.slice la ln lc) (.slice ma mn mc) _ (HCV.out 1))
      have HBV:Hid (Below wr.heap.size wr (((((((((U.setCell ⟨p,0,none⟩ (.slice pa pn pc)).setCell ⟨p,1,none⟩ (.slice xa xn xc)).setCell ⟨p,2,none⟩ (.int .i64 X.fin.K)).setCell ⟨p,3,none⟩ (.int .i64 X.fin.A)).setCell ⟨p,4,none⟩ (.int .i64 X.fin.To)).setCell ⟨p,5,none⟩ (.int .i64 X.fin.Else)).setCell ⟨p,6,none⟩ (.slice la ln lc)).setCell ⟨p,7,none⟩ (.slice ma mn mc)))):=hid (qD (.slice pa pn pc) (.slice xa xn xc) (.int .i64 X.fin.K) (.int .i64 X.fin.A) (.int .i64 X.fin.To) (.int .i64 X.fin.Else) (.slice la ln lc) (.slice ma mn mc) HBU.out HPL2.out)
      have HVS:Hid ((((((((((U.setCell ⟨p,0,none⟩ (.slice pa pn pc)).setCell ⟨p,1,none⟩ (.slice xa xn xc)).setCell ⟨p,2,none⟩ (.int .i64 X.fin.K)).setCell ⟨p,3,none⟩ (.int .i64 X.fin.A)).setCell ⟨p,4,none⟩ (.int .i64 X.fin.To)).setCell ⟨p,5,none⟩ (.int .i64 X.fin.Else)).setCell ⟨p,6,none⟩ (.slice la ln lc)).setCell ⟨p,7,none⟩ (.slice ma mn mc))).heap.size=U.heap.size):=hid (by simp)
      rw[if_pos (by rfl)]
      go_simp
      obtain⟨V,hV⟩:∃ u,((((((((U.setCell ⟨p,0,none⟩ (.slice pa pn pc)).setCell ⟨p,1,none⟩ (.slice xa xn xc)).setCell ⟨p,2,none⟩ (.int .i64 X.fin.K)).setCell ⟨p,3,none⟩ (.int .i64 X.fin.A)).setCell ⟨p,4,none⟩ (.int .i64 X.fin.To)).setCell ⟨p,5,none⟩ (.int .i64 X.fin.Else)).setCell ⟨p,6,none⟩ (.slice la ln lc)).setCell ⟨p,7,none⟩ (.slice ma mn mc))=u:=⟨_,rfl⟩
      rw[hV]at HEI HBV HVS⊢
      clear hV HCV HFZ hz0 hz1 hz2 hz3 hz4 hz5 hz6 hz7 hf0 hf1 hf2 hf3 hf4 hf5 hf6 hf7
      refine hK.out _ _ (HS0.out _ HBV.out) (fun hHeld=> ?_)
      clear hK K
      (try simp only[Act.put,zA,zB,zC])
      refine zW 27 11 ?_
      (try simp only[Act.put,zA,zB,zC])
      refine bH (by kernel_rfl) ?_
      have HT7:Hid (kK W1 (.slice va vn vc) (.slice (some ⟨go,oo,none⟩) on oc) (aW P f b (aK P f q) 0) (fu f) V∧V.cell? ⟨p,1,none⟩=some (.slice xa xn xc)∧p<V.heap.size):=hid ⟨HQ.out.since HBV.out,HEI.out,(by rw[HVS.out];exact HPU.out)⟩
      clear hHeld
      go_upto_region 17 with fail
      go_loopw[12] (fun v12 w8=>∃ k:Nat,k≤xn∧v12=.int .i64 (k:Int)∧Hid (kK W1 (.slice va vn vc) (.slice (some ⟨go,oo,none⟩) on oc) (aW P f b (aK P f q) k) (fu f) w8∧w8.cell? ⟨p,1,none⟩=some (.slice xa xn xc)∧p<w8.heap.size)) (fun iv _=>xn-(intOf iv).toNat)
      case atStart=>exact⟨0,Nat.zero_le _,rfl,HT7⟩
      case round=>
       obtain⟨k,hk,rfl,HK⟩:=hrel
       have kc1:=HK.out.2.1
       by_cases hkl:k<xn
       ·have hklz:(k:Int)<(xn:Int):=by omega
        have hk0:(0:Int)≤(k:Int):=by omega
        obtain⟨g9,off9,cs9,hif9,rfl,hl9,hcell9,hq9⟩:=(HXO.out.since OpQ.lasts HK.out.1.bel).elem hkl
        obtain⟨O,hO⟩:∃ O,O=X.ops[k]:=⟨_,rfl⟩
        rw[←hO]at hq9
        obtain⟨lv,rfl,s1,s2,s3,s4,s5,s6,⟨ya,yn,yc,rfl,hy,hy0,hy8,hyr⟩⟩:=hq9
        have hd0:=hcell9 0 (by simp)
        have hd1:=hcell9 1 (by simp)
        have hd2:=hcell9 2 (by simp)
        have hd3:=hcell9 3 (by simp)
        have hd4:=hcell9 4 (by simp)
        have hd5:=hcell9 5 (by simp)
        have hd6:=hcell9 6 (by simp)
        have hd7:=hcell9 7 (by simp)
        simp only[Nat.add_zero,List.getElem_cons_zero,List.getElem_cons_succ]at hd0 hd1 hd2 hd3 hd4 hd5 hd6 hd7
        have HBE:Hid (aW P f b (aK P f q) (k+1)=(aW P f b (aK P f q) k).set (aL f b+pn+k) (rC P O (aW P f b (aK P f q) k)).1):=hid (by rw[hO];exact HBKK.out k hif9)
        have hroom:=HRM.out k hkl
        obtain⟨j,hj⟩:∃ j,j=fb+pn+k:=⟨_,rfl⟩
        have hjn:j<vn:=by rw[hj,HFB.out];exact hroom
        have hjt:j<(aW P f b (aK P f q) k).length:=by rw[fT,dM,←HVN.out];exact hjn
        obtain⟨gt,rfl,hgB,hgl,hxx1,hxx2⟩:=HK.out.1.at hjt
        have HGP:Hid (W1.heap.size≤gt∧gt≠p∧j<vn):=hid ⟨hgB,by have h1:=(HQ.out.out.lt gt rfl).2;have h2:=HPL2.out;omega,hjn⟩
        have hv40:vn≤1099511627776:=by rw[HVN.out];exact HV.out
        have hq2:fb+pn+k≤1099511627776:=by omega
        have hyn:yn≤17592186044000:=by omega
        have hvn7:vn≤140737488355328:=by omega
        have hj0:(0:Int)≤(j:Int):=by omega
        have hjv:(j:Int)<(vn:Int):=by omega
        have HJ:Hid (aL f b+pn+k=j):=hid (by rw[hj,HFB.out])
        obtain⟨rt,hrt⟩:∃ t,t=(rC P O (aW P f b (aK P f q) k)).1:=⟨_,rfl⟩
        obtain⟨rb,hrb⟩:∃ t,t=(rC P O (aW P f b (aK P f q) k)).2:=⟨_,rfl⟩
        have CKR:Hid (Calls Tryz.prog 41 #[.pointer (some ⟨pg,0,none⟩),.agg #[.int .i64 O.K,.int .i64 O.A,.int .i64 O.B,.int .i64 O.C,.int .i64 O.N,.string O.S,.slice ya yn yc,.bool O.T],.slice (some ⟨gt,0,none⟩) vn vc] wr fun e w'=>e=.returned (.tuple #[.int .i64 rt,.bool rb])∧Below wr.heap.size wr w'):=hid (by
         rw[hrt,hrb]
         exact pX pg O.K O.A O.B O.C O.N O.S ya yn yc O.T O.L (some ⟨gt,0,none⟩) vn vc (aW P f b (aK P f q) k) wr (HP.out.since HK.out.1.bel) hy hy0 hyn HK.out.1.out.read hvn7 (HTR.out b (aK P f q) k (HTK.out q)) s5)
        have hw3:wrap64 ((fb:Int)+(pn:Int)+(k:Int))=(j:Int):=by rw[hj];exact kL hq2
        have hw4:IntKind.i64.wrap ((fb:Int)+(pn:Int)+(k:Int))=(j:Int):=by rw[hj];exact mG hq2
        have HRT:=hid hrt
        clear hxx1 hxx2 hgB hgl hjn hjt hj hroom hv40 hq2 hyn hvn7 hrt hrb hy hy0 hy8 hyr s1 s2 s3 s4 s5 s6 hcell9 hl9 hO hif9
        go_wp2_with(go_at_call 41;(with_reducible refine CKR.out.mono ?_);rintro e w9 ⟨rfl,hb⟩;have HT9:=hid (HK.out.1.since hb);obtain⟨gt2,hge,_,_,h6c,h6f⟩:=HT9.out.at (j:=j) (by rw[fT,dM,←HVN.out];exact HGP.out.2.2);cases hge;have HX9:Hid (kK W1 (.slice (some ⟨gt,0,none⟩) vn vc) (.slice (some ⟨go,oo,none⟩) on oc) (aW P f b (aK P f q) (k+1)) (fu f) (w9.setCell ⟨gt,j,none⟩ (.int .i64 rt))∧(w9.setCell ⟨gt,j,none⟩ (.int .i64 rt)).cell? ⟨p,1,none⟩=some (.slice (some ⟨g9,off9,none⟩) xn xc)∧p<(w9.setCell ⟨gt,j,none⟩ (.int .i64 rt)).heap.size):=hid ⟨by rw[HBE.out,HJ.out,←HRT.out];exact HT9.out.put j _,(World.cell?_setCell_other _ _ _ _ (fun e=>HGP.out.2.1 (by cases e;rfl))).trans ((hb.cell (p:=⟨p,1,none⟩) HK.out.2.2).trans HK.out.2.1),by rw[dB];exact Nat.lt_of_lt_of_le HK.out.2.2 hb.size⟩;clear hb)
        go_roundw
        case rel=>exact⟨k+1,hkl,by go_num,HX9⟩
        case measure=>simp[intOf];omega
       ·obtain rfl:k=xn:=by omega
        have hnn:¬ (k:Int)<(k:Int):=by omega
        have HX7:Hid (kK W1 (.slice va vn vc) (.slice (some ⟨go,oo,none⟩) on oc) (aK P f (q+1)) (fu f) wr):=hid (by rw[HTQ.out];exact HK.out.1)
        clear HTQ HBKK HRM
        go_wp2_with fail
        go_roundw
        case rel=>exact⟨q+1,hql,by go_num,HX7⟩
        case measure=>simp[intOf,hwq];omega
     ·rw[if_pos (by rfl)]
      go_simp
      obtain⟨U,hU⟩:∃ u,(wr.alloc (.cells #[.slice none 0 0,.slice none 0 0,.int .i64 0,.int .i64 0,.int .i64 0,.int .i64 0,.slice none 0 0,.slice none 0 0] 51)).drew=u:=⟨_,rfl⟩
      have hbU:Below wr.heap.size wr U:=by rw[←hU];exact((Below.refl _ wr).alloc (Nat.le_refl _) _).drew
      have hcU:∀ j,U.cell? ⟨wr.heap.size,j,none⟩=(#[.slice none 0 0,.slice none 0 0,.int .i64 0,.int .i64 0,.int .i64 0,.int .i64 0,.slice none 0 0,.slice none 0 0]:Array Value)[j]? :=fun j=>by rw[←hU];exact World.cell?_alloc_mark _ _ _ _ _
      have hpU:wr.heap.size<U.heap.size:=by rw[←hU];simp
      have hbk:U.heap[wr.heap.size]? =some (.cells #[.slice none 0 0,.slice none 0 0,.int .i64 0,.int .i64 0,.int .i64 0,.int .i64 0,.slice none 0 0,.slice none 0 0] 51 (0,0)):=by rw[←hU];exact qG _ _ _
      obtain⟨p,hp⟩:∃ p,p=wr.heap.size:=⟨_,rfl⟩
      have HPL2:Hid (wr.heap.size≤p):=hid (by rw[hp];exact Nat.le_refl _)
      rw[hU]
      rw[←hp]at hcU hpU hbk⊢
      have HBU:=hid hbU
      have HCU:=hid hcU
      have HPU:=hid hpU
      have HBK:=hid hbk
      clear hbk hbU hcU hpU hU hp
      refine hK.out _ _ (HS0.out _ HBU.out) (fun hHeld=> ?_)
      clear hK K
      (try simp only[Act.put,zA,zB,zC])
      refine aO (i:=13) (by kernel_rfl) rfl (fun K hK=> ?_)
      rw[if_pos (by rfl)]
      go_simp
      (with_reducible refine(CF1.out _ (HQ.out.bel.trans (HBU.out.mono HQ.out.bel.size))).mono ?_)
      rintro e w6 ⟨rfl,hb⟩
      have HB7:Hid (Below U.heap.size U w6):=hid hb
      have HB6:Hid (Below wr.heap.size wr w6):=hid (HBU.out.trans (hb.mono HBU.out.size))
      clear hb
      refine hK.out _ _ (HS0.out _ HB6.out) (fun hHeld=> ?_)
      clear hK K
      (try simp only[Act.put,zA,zB,zC])
      refine zW 24 85 ?_
      (try simp only[Act.put,zA,zB,zC])
      refine aO (i:=26) (by kernel_rfl) rfl (fun K hK=> ?_)
      have HCV:Hid (∀j,w6.cell? ⟨p,j,none⟩=(#[.slice none 0 0,.slice none 0 0,.int .i64 0,.int .i64 0,.int .i64 0,.int .i64 0,.slice none 0 0,.slice none 0 0]:Array Value)[j]?):=hid (fun j=>(HB7.out.cell (p:=⟨p,j,none⟩) HPU.out).trans (HCU.out j))
      have HFZ:Hid (w6.heap[p]? =some (.cells #[.slice none 0 0,.slice none 0 0,.int .i64 0,.int .i64 0,.int .i64 0,.int .i64 0,.slice none 0 0,.slice none 0 0] 51 (0,0))):=hid ((HB7.out.block p HPU.out).trans HBK.out)
      have hz0:=HCV.out 0
      have hz1:=HCV.out 1
      have hz2:=HCV.out 2
      have hz3:=HCV.out 3
      have hz4:=HCV.out 4
      have hz5:=HCV.out 5
      have hz6:=HCV.out 6
      have hz7:=HCV.out 7
      have hf0:=bU HFZ.out 0
      have hf1:=bU HFZ.out 1
      have hf2:=bU HFZ.out 2
      have hf3:=bU HFZ.out 3
      have hf4:=bU HFZ.out 4
      have hf5:=bU HFZ.out 5
      have hf6:=bU HFZ.out 6
      have hf7:=bU HFZ.out 7
      have HEI:=hid (vP w6 p (.slice pa pn pc) (.slice xa xn xc) (.int .i64 X.fin.K) (.int .i64 X.fin.A) (.int .i64 X.fin.To) (.int .i64 X.fin.Else) (.slice la ln lc) (.slice ma mn mc) _ (HCV.out 1))
      have HBV:Hid (Below wr.heap.size wr (((((((((w6.setCell ⟨p,0,none⟩ (.slice pa pn pc)).setCell ⟨p,1,none⟩ (.slice xa xn xc)).setCell ⟨p,2,none⟩ (.int .i64 X.fin.K)).setCell ⟨p,3,none⟩ (.int .i64 X.fin.A)).setCell ⟨p,4,none⟩ (.int .i64 X.fin.To)).setCell ⟨p,5,none⟩ (.int .i64 X.fin.Else)).setCell ⟨p,6,none⟩ (.slice la ln lc)).setCell ⟨p,7,none⟩ (.slice ma mn mc)))):=hid (qD (.slice pa pn pc) (.slice xa xn xc) (.int .i64 X.fin.K) (.int .i64 X.fin.A) (.int .i64 X.fin.To) (.int .i64 X.fin.Else) (.slice la ln lc) (.slice ma mn mc) HB6.out HPL2.out)
      have HVS:Hid ((((((((((w6.setCell ⟨p,0,none⟩ (.slice pa pn pc)).setCell ⟨p,1,none⟩ (.slice xa xn xc)).setCell ⟨p,2,none⟩ (.int .i64 X.fin.K)).setCell ⟨p,3,none⟩ (.int .i64 X.fin.A)).setCell ⟨p,4,none⟩ (.int .i64 X.fin.To)).setCell ⟨p,5,none⟩ (.int .i64 X.fin.Else)).setCell ⟨p,6,none⟩ (.slice la ln lc)).setCell ⟨p,7,none⟩ (.slice ma mn mc))).heap.size=w6.heap.size):=hid (by simp)
      rw[if_pos (by rfl)]
      go_simp
      obtain⟨V,hV⟩:∃ u,((((((((w6.setCell ⟨p,0,none⟩ (.slice pa pn pc)).setCell ⟨p,1,none⟩ (.slice xa xn xc)).setCell ⟨p,2,none⟩ (.int .i64 X.fin.K)).setCell ⟨p,3,none⟩ (.int .i64 X.fin.A)).setCell ⟨p,4,none⟩ (.int .i64 X.fin.To)).setCell ⟨p,5,none⟩ (.int .i64 X.fin.Else)).setCell ⟨p,6,none⟩ (.slice la ln lc)).setCell ⟨p,7,none⟩ (.slice ma mn mc))=u:=⟨_,rfl⟩
      rw[hV]at HEI HBV HVS⊢
      clear hV HCV HFZ hz0 hz1 hz2 hz3 hz4 hz5 hz6 hz7 hf0 hf1 hf2 hf3 hf4 hf5 hf6 hf7
      refine hK.out _ _ (HS0.out _ HBV.out) (fun hHeld=> ?_)
      clear hK K
      (try simp only[Act.put,zA,zB,zC])
      refine zW 27 11 ?_
      (try simp only[Act.put,zA,zB,zC])
      refine bH (by kernel_rfl) ?_
      have HT7:Hid (kK W1 (.slice va vn vc) (.slice (some ⟨go,oo,none⟩) on oc) (aW P f b (aK P f q) 0) (fu f) V∧V.cell? ⟨p,1,none⟩=some (.slice xa xn xc)∧p<V.heap.size):=hid ⟨HQ.out.since HBV.out,HEI.out,(by rw[HVS.out];exact Nat.lt_of_lt_of_le HPU.out HB7.out.size)⟩
      clear hHeld
      go_upto_region 17 with fail
      go_loopw[12] (fun v12 w8=>∃ k:Nat,k≤xn∧v12=.int .i64 (k:Int)∧Hid (kK W1 (.slice va vn vc) (.slice (some ⟨go,oo,none⟩) on oc) (aW P f b (aK P f q) k) (fu f) w8∧w8.cell? ⟨p,1,none⟩=some (.slice xa xn xc)∧p<w8.heap.size)) (fun iv _=>xn-(intOf iv).toNat)
      case atStart=>exact⟨0,Nat.zero_le _,rfl,HT7⟩
      case round=>
       obtain⟨k,hk,rfl,HK⟩:=hrel
       have kc1:=HK.out.2.1
       by_cases hkl:k<xn
       ·have hklz:(k:Int)<(xn:Int):=by omega
        have hk0:(0:Int)≤(k:Int):=by omega
        obtain⟨g9,off9,cs9,hif9,rfl,hl9,hcell9,hq9⟩:=(HXO.out.since OpQ.lasts HK.out.1.bel).elem hkl
        obtain⟨O,hO⟩:∃ O,O=X.ops[k]:=⟨_,rfl⟩
        rw[←hO]at hq9
        obtain⟨lv,rfl,s1,s2,s3,s4,s5,s6,⟨ya,yn,yc,rfl,hy,hy0,hy8,hyr⟩⟩:=hq9
        have hd0:=hcell9 0 (by simp)
        have hd1:=hcell9 1 (by simp)
        have hd2:=hcell9 2 (by simp)
        have hd3:=hcell9 3 (by simp)
        have hd4:=hcell9 4 (by simp)
        have hd5:=hcell9 5 (by simp)
        have hd6:=hcell9 6 (by simp)
        have hd7:=hcell9 7 (by simp)
        simp only[Nat.add_zero,List.getElem_cons_zero,List.getElem_cons_succ]at hd0 hd1 hd2 hd3 hd4 hd5 hd6 hd7
        have HBE:Hid (aW P f b (aK P f q) (k+1)=(aW P f b (aK P f q) k).set (aL f b+pn+k) (rC P O (aW P f b (aK P f q) k)).1):=hid (by rw[hO];exact HBKK.out k hif9)
        have hroom:=HRM.out k hkl
        obtain⟨j,hj⟩:∃ j,j=fb+pn+k:=⟨_,rfl⟩
        have hjn:j<vn:=by rw[hj,HFB.out];exact hroom
        have hjt:j<(aW P f b (aK P f q) k).length:=by rw[fT,dM,←HVN.out];exact hjn
        obtain⟨gt,rfl,hgB,hgl,hxx1,hxx2⟩:=HK.out.1.at hjt
        have HGP:Hid (W1.heap.size≤gt∧gt≠p∧j<vn):=hid ⟨hgB,by have h1:=(HQ.out.out.lt gt rfl).2;have h2:=HPL2.out;omega,hjn⟩
        have hv40:vn≤1099511627776:=by rw[HVN.out];exact HV.out
        have hq2:fb+pn+k≤1099511627776:=by omega
        have hyn:yn≤17592186044000:=by omega
        have hvn7:vn≤140737488355328:=by omega
        have hj0:(0:Int)≤(j:Int):=by omega
        have hjv:(j:Int)<(vn:Int):=by omega
        have HJ:Hid (aL f b+pn+k=j):=hid (by rw[hj,HFB.out])
        obtain⟨rt,hrt⟩:∃ t,t=(rC P O (aW P f b (aK P f q) k)).1:=⟨_,rfl⟩
        obtain⟨rb,hrb⟩:∃ t,t=(rC P O (aW P f b (aK P f q) k)).2:=⟨_,rfl⟩
        have CKR:Hid (Calls Tryz.prog 41 #[.pointer (some ⟨pg,0,none⟩),.agg #[.int .i64 O.K,.int .i64 O.A,.int .i64 O.B,.int .i64 O.C,.int .i64 O.N,.string O.S,.slice ya yn yc,.bool O.T],.slice (some ⟨gt,0,none⟩) vn vc] wr fun e w'=>e=.returned (.tuple #[.int .i64 rt,.bool rb])∧Below wr.heap.size wr w'):=hid (by
         rw[hrt,hrb]
         exact pX pg O.K O.A O.B O.C O.N O.S ya yn yc O.T O.L (some ⟨gt,0,none⟩) vn vc (aW P f b (aK P f q) k) wr (HP.out.since HK.out.1.bel) hy hy0 hyn HK.out.1.out.read hvn7 (HTR.out b (aK P f q) k (HTK.out q)) s5)
        have hw3:wrap64 ((fb:Int)+(pn:Int)+(k:Int))=(j:Int):=by rw[hj];exact kL hq2
        have hw4:IntKind.i64.wrap ((fb:Int)+(pn:Int)+(k:Int))=(j:Int):=by rw[hj];exact mG hq2
        have HRT:=hid hrt
        clear hxx1 hxx2 hgB hgl hjn hjt hj hroom hv40 hq2 hyn hvn7 hrt hrb hy hy0 hy8 hyr s1 s2 s3 s4 s5 s6 hcell9 hl9 hO hif9
        go_wp2_with(go_at_call 41;(with_reducible refine CKR.out.mono ?_);rintro e w9 ⟨rfl,hb⟩;have HT9:=hid (HK.out.1.since hb);obtain⟨gt2,hge,_,_,h6c,h6f⟩:=HT9.out.at (j:=j) (by rw[fT,dM,←HVN.out];exact HGP.out.2.2);cases hge;have HX9:Hid (kK W1 (.slice (some ⟨gt,0,none⟩) vn vc) (.slice (some ⟨go,oo,none⟩) on oc) (aW P f b (aK P f q) (k+1)) (fu f) (w9.setCell ⟨gt,j,none⟩ (.int .i64 rt))∧(w9.setCell ⟨gt,j,none⟩ (.int .i64 rt)).cell? ⟨p,1,none⟩=some (.slice (some ⟨g9,off9,none⟩) xn xc)∧p<(w9.setCell ⟨gt,j,none⟩ (.int .i64 rt)).heap.size):=hid ⟨by rw[HBE.out,HJ.out,←HRT.out];exact HT9.out.put j _,(World.cell?_setCell_other _ _ _ _ (fun e=>HGP.out.2.1 (by cases e;rfl))).trans ((hb.cell (p:=⟨p,1,none⟩) HK.out.2.2).trans HK.out.2.1),by rw[dB];exact Nat.lt_of_lt_of_le HK.out.2.2 hb.size⟩;clear hb)
        go_roundw
        case rel=>exact⟨k+1,hkl,by go_num,HX9⟩
        case measure=>simp[intOf];omega
       ·obtain rfl:k=xn:=by omega
        have hnn:¬ (k:Int)<(k:Int):=by omega
        have HX7:Hid (kK W1 (.slice va vn vc) (.slice (some ⟨go,oo,none⟩) on oc) (aK P f (q+1)) (fu f) wr):=hid (by rw[HTQ.out];exact HK.out.1)
        clear HTQ HBKK HRM
        go_wp2_with fail
        go_roundw
        case rel=>exact⟨q+1,hql,by go_num,HX7⟩
        case measure=>simp[intOf,hwq];omega
    ·obtain rfl:q=on:=by omega
     have hnn:¬ (q:Int)<(q:Int):=by omega
     have HE:Hid (aK P f q=kP P f):=hid (by unfold kP;rw[←HON.out])
     go_wp2_with fail
     go_ret
     exact⟨va,vn,vc,rfl,by rw[←HE.out];exact HQ.out.out.mono (by have:=HS1.out;omega),HB1.out.trans (HQ.out.bel.mono HB1.out.size)⟩
theorem CY(w:World)(v0 v1 v2:Value){W:World}(hW:w.alloc (.cells #[v0,v1,v2] 26)=W):Below w.heap.size w W∧w.heap.size<W.heap.size∧W.cell? ⟨w.heap.size,0,none⟩=some v0∧W.cell? ⟨w.heap.size,1,none⟩=some v1∧W.cell? ⟨w.heap.size,2,none⟩=some v2:=by
 rw[←hW]
 exact⟨(Below.refl _ w).alloc (Nat.le_refl _) _,by simp,World.cell?_alloc_mark _ _ _ _ _,World.cell?_alloc_mark _ _ _ _ _,World.cell?_alloc_mark _ _ _ _ _⟩
theorem Ak(Z:List Int):aG Z Z=true:=by unfold aG;simp
set_option maxRecDepth 100000 in
set_option maxHeartbeats 4000000 in
theorem qL(sa:Option Addr)(sn sc:Nat)(ca:Option Addr)(cn cc:Nat)(fa:Option Addr)(fn fc:Nat)(P:aB)(nn:Nat)(hnn:nn≤255)(w:World)(hft:FT w)
 (hP:oZ w [.slice sa sn sc,.slice ca cn cc,.slice fa fn fc] P)(hcap:gG wu 2 w (.slice fa fn fc) P.funcs):
 Calls Tryz.prog 4 #[.agg #[.slice sa sn sc,.slice ca cn cc,.slice fa fn fc],.int .u8 (nn:Int)] w fun e w'=>e=.returned (.bool true)∧Below w.heap.size w w':=by
 obtain⟨W,hW⟩:∃ U,w.alloc (.cells #[.slice sa sn sc,.slice ca cn cc,.slice fa fn fc] 26)=U:=⟨_,rfl⟩
 obtain⟨hb0,hs0,hc0,hc1,hc2⟩:=CY w _ _ _ hW
 have hPA:=prog_at hc0 hc1 hc2 (oZ.lasts _ _ _ _ hb0 hP)
 have HPA:=hid hPA
 have HFT:=hid (hft.since hb0)
 have HB0:=hid hb0
 have hcap1:gG wu 2 W (.slice fa fn fc) P.funcs:=hcap.since (fun W W' cs x hb h=>⟨bO.lasts _ _ _ _ hb h.1,h.2⟩) hb0
 have CF:=hid (Gd w.heap.size nn hnn W hPA hcap1)
 have CSM:Hid (∀u,Below W.heap.size W u→Calls Tryz.prog 8 #[.pointer (some ⟨w.heap.size,0,none⟩),.int .i64 2000] u (sj 2000 P u)):=hid fun u hu=>by
  have hp:=hPA.since hu
  exact Ay 2000 (by omega) w.heap.size 0 sa sn sc ca cn cc fa fn fc P u (World.block_lt_of_cell? _ _ hp.c0) hp.c0 hp.c1 hp.c2 hp.q
 have CLI:Hid (∀u,Below W.heap.size W u→Calls Tryz.prog 9 #[] u fun e w'=>e=.returned (.bool true)∧Below W.heap.size W w'):=hid fun u hu=>(Hr u (HFT.out.since hu)).mono fun e w' h=>⟨h.1,hu.trans (h.2.mono hu.size)⟩
 clear hP hft hb0 hs0 hc0 hc1 hc2 hPA hcap hcap1
 go_enter Tryz.func4,Tryz.ntmps4
 go_upto_region 2 with fail
 try rw[hW]
 clear hW
 go_wp2_with fail
 refine CF.out.mono ?_
 rintro e w2 ⟨rfl|⟨F,ba,m,bc,hmem,rfl,hfq,hm12⟩,hb2⟩
 ·have HB2:=hid hb2
  clear hb2
  go_wp2_with(go_at_call 9;(with_reducible refine(CLI.out _ (HB2.out.alloc HB2.out.size _)).mono ?_);rintro e w3 ⟨rfl,hb⟩;have HB3:=hid hb;clear hb)
  go_ret
  exact⟨rfl,HB0.out.trans (HB3.out.mono HB0.out.size)⟩
 ·obtain⟨rt,hrt⟩:∃ t,t=F.ret:=⟨_,rfl⟩
  rw[←hrt]at hfq⊢
  obtain⟨Y,hY⟩:∃ U,w2.alloc (.cells #[.int .i64 rt,.slice ba m bc] 36)=U:=⟨_,rfl⟩
  have hbY:Below w2.heap.size w2 Y:=by rw[←hY];exact(Below.refl _ w2).alloc (Nat.le_refl _) _
  have hcY:∀ j,Y.cell? ⟨w2.heap.size,j,none⟩=(#[.int .i64 rt,.slice ba m bc]:Array Value)[j]? :=fun j=>by rw[←hY];exact World.cell?_alloc_mark _ _ _ _ _
  have hpY:w2.heap.size<Y.heap.size:=by rw[←hY];simp
  have HBY:Hid (Below W.heap.size W Y):=hid (hb2.trans (hbY.mono hb2.size))
  have HFQ:Hid (bO Y [.int .i64 rt,.slice ba m bc] (zJ F)):=hid (bO.lasts _ _ _ _ hbY hfq)
  have HMEM:=hid hmem
  have HM12:Hid (m≤100000):=hid (by omega)
  have HYC:Hid (∀U,Below Y.heap.size Y U→U.cell? ⟨w2.heap.size,0,none⟩=some (.int .i64 rt)∧U.cell? ⟨w2.heap.size,1,none⟩=some (.slice ba m bc)):=hid fun U hU=>⟨(hU.cell (p:=⟨w2.heap.size,0,none⟩) hpY).trans (hcY 0),(hU.cell (p:=⟨w2.heap.size,1,none⟩) hpY).trans (hcY 1)⟩
  clear hb2 hbY hcY hpY hfq hmem hrt hm12
  go_upto_region 3 with fail
  try rw[hY]
  clear hY
  go_wp2_with fail
  refine(CSM.out _ HBY.out).mono ?_
  rintro e w3 ⟨b,rfl,hsm,hb3⟩
  have HB3:=hid hb3
  have HBW:Hid (Below W.heap.size W w3):=hid (HBY.out.trans (hb3.mono HBY.out.size))
  cases b with
  |false=>
   clear hsm hb3
   go_wp2_with(go_at_call 9;(with_reducible refine(CLI.out _ HBW.out).mono ?_);rintro e w4 ⟨rfl,hb⟩;have HB4:=hid hb;clear hb)
   go_ret
   exact⟨rfl,HB0.out.trans (HB4.out.mono HB0.out.size)⟩
  |true=>
   have hvn:aV (zJ F)≤1099511627776:=by
    have h1:=(AR (hsm rfl) HMEM.out).1
    have h2:=GI F
    omega
   have HVN:=hid hvn
   obtain⟨Z,hZ⟩:∃ Z,Z=kP P (zJ F):=⟨_,rfl⟩
   have HZL:Hid (Z.length≤1099511627776):=hid (by rw[hZ,ru];exact hvn)
   have CT1:Hid (∀u,Below Y.heap.size Y u→Calls Tryz.prog 15 #[.pointer (some ⟨w.heap.size,0,none⟩),.agg #[.int .i64 rt,.slice ba m bc]] u fun e w'=>∃ va vn vc,e=.returned (.slice va vn vc)∧aj w' u.heap.size 3 (.slice va vn vc) Z∧Below u.heap.size u w'):=hid fun u hu=>by
    have hw:Below W.heap.size W u:=HBY.out.trans (hu.mono HBY.out.size)
    rw[hZ]
    exact nP w.heap.size rt ba m bc (zJ F) u (HFT.out.since hw) (HPA.out.since hw) (bO.lasts _ _ _ _ hu HFQ.out) HM12.out HVN.out
   have CT2:Hid (∀u,Below Y.heap.size Y u→Calls Tryz.prog 16 #[.pointer (some ⟨w.heap.size,0,none⟩),.agg #[.int .i64 rt,.slice ba m bc]] u fun e w'=>∃ va vn vc,e=.returned (.slice va vn vc)∧aj w' u.heap.size 3 (.slice va vn vc) Z∧Below u.heap.size u w'):=hid fun u hu=>by
    have hw:Below W.heap.size W u:=HBY.out.trans (hu.mono HBY.out.size)
    rw[hZ]
    exact uO w.heap.size rt ba m bc (zJ F) u (HPA.out.since hw) (bO.lasts _ _ _ _ hu HFQ.out) HM12.out HVN.out
   have CLY:Hid (∀u,Below Y.heap.size Y u→Calls Tryz.prog 9 #[] u fun e w'=>e=.returned (.bool true)∧Below Y.heap.size Y w'):=hid fun u hu=>(Hr u (HFT.out.since (HBY.out.trans (hu.mono HBY.out.size)))).mono fun e w' h=>⟨h.1,hu.trans (h.2.mono hu.size)⟩
   clear hsm hb3 hvn hZ
   go_upto_region 5 with fail
   have HS0:Hid (∀u,Below Y.heap.size Y u→u.cell? ⟨w2.heap.size,0,none⟩=some (.int .i64 rt)∧u.cell? ⟨w2.heap.size,1,none⟩=some (.slice ba m bc)):=HYC
   refine bM (S:=(fun u:World=>u.cell? ⟨w2.heap.size,0,none⟩=some (.int .i64 rt)∧u.cell? ⟨w2.heap.size,1,none⟩=some (.slice ba m bc))) 11 (by kernel_rfl) (HS0.out _ ((HB3.out).drew)) (fun hHeld=> ?_)
   refine zW 0 22 ?_
   (try simp only[Act.put,zA,zB,zC])
   refine zT 1 23 8 ?_
   (try simp only[Act.put,zA,zB,zC])
   refine zW 3 25 ?_
   (try simp only[Act.put,zA,zB,zC])
   refine zT 4 26 8 ?_
   (try simp only[Act.put,zA,zB,zC])
   refine aO (i:=2) (by kernel_rfl) rfl (fun K hK=> ?_)
   rw[if_pos (by rfl)]
   go_simp
   (with_reducible refine(CT1.out _ ((HB3.out).drew)).mono ?_)
   rintro e w4 ⟨a1,n1,c1,rfl,ho,hb⟩
   have HB4:Hid (Below Y.heap.size Y w4):=hid (HB3.out.trans ((Below.refl _ w3).drew.mono HB3.out.size |>.trans (hb.mono HB3.out.size)))
   have HN1:Hid (ai w4 a1 n1 Z):=hid ho.read
   clear ho hb
   refine hK.out _ _ (HS0.out _ HB4.out) (fun hHeld=> ?_)
   clear hK K
   (try simp only[Act.put,zA,zB,zC])
   refine aO (i:=5) (by kernel_rfl) rfl (fun K hK=> ?_)
   rw[if_pos (by rfl)]
   go_simp
   (with_reducible refine(CT2.out _ HB4.out).mono ?_)
   rintro e w5 ⟨a2,n2,c2,rfl,ho,hb⟩
   have HB5:Hid (Below Y.heap.size Y w5):=hid (HB4.out.trans (hb.mono HB4.out.size))
   have HM2:Hid (ai w5 a2 n2 Z):=hid ho.read
   have HM1:Hid (ai w5 a1 n1 Z):=hid (HN1.out.since hb)
   have HL1:Hid (n1≤140737488355328):=hid (by have:=HM1.out.1;have:=HZL.out;omega)
   have HL2:Hid (n2≤140737488355328):=hid (by have:=HM2.out.1;have:=HZL.out;omega)
   clear ho hb
   refine hK.out _ _ (HS0.out _ HB5.out) (fun hHeld=> ?_)
   clear hK K
   (try simp only[Act.put,zA,zB,zC])
   refine aO (i:=6) (by kernel_rfl) rfl (fun K hK=> ?_)
   rw[if_pos (by rfl)]
   go_simp
   (with_reducible refine(bI a1 a2 n1 n2 c1 c2 Z Z w5 HM1.out HM2.out HL1.out HL2.out).mono ?_)
   rintro e w6 ⟨rfl,q6,rfl⟩
   have HB6:Hid (Below Y.heap.size Y (w5.drewN q6)):=hid (HB5.out.trans ((below_drewN q6 (Below.refl _ w5)).mono HB5.out.size))
   rw[Ak]
   refine hK.out _ _ (HS0.out _ HB6.out) (fun hHeld=> ?_)
   clear hK K
   (try simp only[Act.put,zA,zB,zC])
   refine zW 7 29 ?_
   (try simp only[Act.put,zA,zB,zC])
   refine aO (i:=8) (by kernel_rfl) rfl (fun K hK=> ?_)
   rw[if_pos (by rfl)]
   go_simp
   (with_reducible refine(CLY.out _ HB6.out).mono ?_)
   rintro e w7 ⟨rfl,hb⟩
   have HB7:=hid hb
   clear hb
   refine hK.out _ _ (HS0.out _ HB7.out) (fun hHeld=> ?_)
   clear hK K
   (try simp only[Act.put,zA,zB,zC])
   refine zW 9 31 ?_
   (try simp only[Act.put,zA,zB,zC])
   refine zW 10 4 ?_
   (try simp only[Act.put,zA,zB,zC])
   refine bH (by kernel_rfl) ?_
   go_wp2_with fail
   go_ret
   exact⟨rfl,HB0.out.trans ((HBY.out.trans (HB7.out.mono HBY.out.size)).mono HB0.out.size)⟩
end Go.Proofs.YthjdeoppajlcoaaGreatDoor
