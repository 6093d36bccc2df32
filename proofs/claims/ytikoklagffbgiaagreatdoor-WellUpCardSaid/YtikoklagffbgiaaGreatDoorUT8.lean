/- Layer 5: what is given up by panic comes back as an error (code.through): with a writer. -/
import Derived.Test.YtikoklagffbgiaaGreatDoorSCodeSs
import Derived.Test.YtikoklagffbgiaaGreatDoorSCodeWp
import Derived.Test.YtikoklagffbgiaaGreatDoorST7
import Derived.Defers
import Derived.Recover
namespace Go.Proofs.YtikoklagffbgiaaGreatDoor
set_option linter.unusedSimpArgs false
set_option linter.unusedVariables false
set_option maxRecDepth 100000
open Go.RowKit (wrap64 intOf Below Hid)
open Go.Lib (hid)
theorem way_through{E:Nat→Nat→Prop}{h x:Nat}{b:Nat}(p:Way E (fun u=>u≠h) 0 b):Way E (fun u=>u≠x) 0 b∨Way E (fun u=>u≠h) 0 x:=by
 induction p with
 |nil h1=>
  by_cases e:(0:Nat)=x
  ·exact .inr (e▸.nil h1)
  ·exact .inl (.nil e)
 | @snoc y z p he hz ih=>
  rcases ih with ih|ih
  ·by_cases e:z=x
   ·subst e;exact .inr (.snoc p he hz)
   ·exact .inl (.snoc ih he e)
  ·exact .inr ih
theorem way_first{E:Nat→Nat→Prop}{b x:Nat}(hne:b≠x){z:Nat}(p:Way E (fun _=>True) 0 z):Way E (fun u=>u≠x) 0 b∨Way E (fun u=>u≠b) 0 x∨Way E (fun u=>u≠b∧u≠x) 0 z:=by
 induction p with
 |nil h1=>
  by_cases e:(0:Nat)=x
  ·exact .inr (.inl (e▸.nil (fun k=>hne (k.symm.trans e))))
  ·by_cases e2:(0:Nat)=b
   ·exact .inl (e2▸.nil e)
   ·exact .inr (.inr (.nil ⟨e2,e⟩))
 | @snoc y z p he hz ih=>
  rcases ih with ih|ih|ih
  ·exact .inl ih
  ·exact .inr (.inl ih)
  ·by_cases e:z=x
   ·subst e;exact .inr (.inl (.snoc (ih.mono fun _ k=>k.1) he (fun k=>hne k.symm)))
   ·by_cases e2:z=b
    ·subst e2;exact .inl (.snoc (ih.mono fun _ k=>k.2) he e)
    ·exact .inr (.inr (.snoc ih he ⟨e2,e⟩))
theorem over_dom{f:FuncD}(h0:0<f.blocks.length){a b:Nat}:OverF f (a:Int) (b:Int)↔MetF f a∧MetF f b∧Dom (EdgeF f) a b:=by
 unfold OverF
 rw[mi_met,mi_met,mi_without f h0]
 simp
theorem over_chain{f:FuncD}(h0:0<f.blocks.length){h x b:Nat}(p:OverF f (h:Int) (x:Int))(q:OverF f (x:Int) (b:Int)):OverF f (h:Int) (b:Int):=by
 rw[over_dom h0]at*
 refine⟨p.1,q.2.1,fun w=> ?_⟩
 rcases way_through (x:=x) w with k|k
 ·exact q.2.2 k
 ·exact p.2.2 k
theorem over_anti{f:FuncD}(h0:0<f.blocks.length){x b:Nat}(p:OverF f (b:Int) (x:Int))(q:OverF f (x:Int) (b:Int)):b=x:=by
 rw[over_dom h0]at*
 by_cases hne:b=x
 ·exact hne
 ·rcases way_first hne ((met_way h0 b).1 p.1)with k|k|k
  ·exact absurd k q.2.2
  ·exact absurd k p.2.2
  ·exact absurd rfl k.last.1
theorem sees_up{f:FuncD}{x b:Nat}{v:Int}(hx:x<f.blocks.length)(hb:b<f.blocks.length)(hs:seesB f (x:Int) (f.blocks[x].ops.length:Int) v=true)(hne:b≠x)(ho:overB f (x:Int) (b:Int)=true):seesB f (b:Int) 0 v=true:=by
 have h0:0<f.blocks.length:=by omega
 rw[sees_iff]at hs⊢
 obtain⟨x',k,u,e1,e2,rfl,hx',hk,hu,h,hH,hc⟩:=hs
 obtain rfl:x=x':=by omega
 rw[overB_iff]at ho
 refine⟨b,0,u,rfl,rfl,rfl,hb,Nat.zero_le _,hu,h,hH,.inr ?_⟩
 rcases hc with⟨rfl,_⟩|⟨h1,h2⟩
 ·exact⟨fun e=>hne e.symm,overB_iff.2 ho⟩
 ·rw[overB_iff]at h2
  refine⟨fun e=> ?_,overB_iff.2 (over_chain h0 h2 ho)⟩
  subst e
  exact hne (over_anti h0 h2 ho)
theorem assert_errno(er:Int)(w:World):(Instr.typeAssert (.iface 30 (.int .i64 er)) 20 30 false).run Tryz.prog w=.ok (.int .i64 er) w:=by kernel_rfl
theorem catch_panic(p:Addr)(z er:Int)(w:World)(hc:w.cell? p=some (.int .i64 z))(hz:w.frozen? p=false):
 CallsD Tryz.prog 76 #[.pointer (some p)] (.panicking [{v:=.iface 30 (.int .i64 er),recovered:=false}]) w fun e u' w'=>
  e=.returned (.tuple #[])∧u'=.panicking [{v:=.iface 30 (.int .i64 er),recovered:=true}]∧w'=w.setCell p (.int .i64 er):=by
 refine callsD_of_wpS Tryz.func76 rfl fun c₀ cs hu=> ?_
 apply wpS_seq
 apply wpS_region
 simp[wpOpsS,go_sem,recoverD,hu,Tryz.ntmps76,Exit.thenS]
 apply wpS_seq
 apply wpS_region
 simp[wpOpsS,go_sem,Exit.thenS]
 refine wpS_cond (t:=true) (by simp[Act.eval,Array.replicate]) ?_
 simp only[if_true]
 apply wpS_region
 simp[wpOpsS,go_sem,assert_errno,hc,hz,bodyPostS,results,Tryz.results76]
theorem catch_idle(p:Addr)(w:World):
 CallsD Tryz.prog 76 #[.pointer (some p)] .returning w fun e u' w'=>e=.returned (.tuple #[])∧u'=.returning∧w'=w:=by
 refine callsD_of_wpS Tryz.func76 rfl fun c₀ cs hu=> ?_
 apply wpS_seq
 apply wpS_region
 simp[wpOpsS,go_sem,recoverD,hu,Tryz.ntmps76,Exit.thenS]
 apply wpS_seq
 apply wpS_region
 simp[wpOpsS,go_sem,Exit.thenS]
 refine wpS_cond (t:=false) (by simp[Act.eval,Array.replicate]) ?_
 simp only[Bool.false_eq_true,if_false]
 refine wpS_of_wp (wp_skip ?_)
 cases c₀
 simp_all[bodyPostS,results,Tryz.results76]
def ThPost(x B:Nat)(v:Value)(L:List UInt8)(o:Out)(w:World)(e:Ending)(w':World):Prop:=
 (∃l v',o=.ok l∧e=.returned (.int .i64 0)∧WrAt w' x B v' (L++l)∧Off (WX x v) w w')∨(∃er,o=.no er∧e=.returned (.int .i64 er)∧Off (WX x v) w w')
set_option maxRecDepth 100000 in
set_option maxHeartbeats 2000000 in
theorem through_wr(x B g off:Nat)(v:Value)(L:List UInt8)(S:Nat→Prop)(cs:List Value)(y:ProgD)(w:World)(h:WrAt w x B v L)(hl:L.length+220000000≤140737488355328)(hw:WinAt w g off cs)(hq:ProgO w S cs y)(hg:g<B∧g≠x)(hS:∀ b,S b→b<B∧b≠x)(hft:FT w)(hfb:0<B∧0≠x):
 Calls Tryz.prog 45 #[.iface 84 (.pointer (some ⟨x,0,none⟩)),.pointer (some ⟨g,off,none⟩)] w (ThPost x B v L (encProg y) w):=by
 have hmf:∀ (fn:Fn) (first cap:Array Value) (w:World),(Instr.makeFunc fn first cap).run Tryz.prog w=.ok (.func fn first cap) w:=fun _ _ _ _=>rfl
 have hb1:Below w.heap.size w (w.alloc (.cells #[.int .i64 0] 30)):=(Below.refl _ _).alloc (Nat.le_refl _) _
 have HB:=hid hb1
 have HN0:∀ b,S b→¬ WX x v b:=fun b hb=>h.safe (hS b hb)
 have HN1:=h.safe hg
 have HW:=hid (h.since hb1)
 have HWN:=hid (hw.stays (X:=WX x v) (Off.since hb1) HN1)
 have HQ:=hid (ProgO.holds.off hq (X:=WX x v) (Off.since hb1) HN0)
 have HF:=hid (hft.since hb1)
 have HG:=hid hg
 have HS:=hid hS
 have HFB:=hid hfb
 have hne:¬ WX x v w.heap.size:=fun hx=>by
  rcases hx with hx|hx
  ·have:=h.lt;omega
  ·have:=(h.own hx).2;omega
 have hx:=h.lt
 have HNE:=hid hne
 have hnew:=heap_alloc_new w (.cells #[.int .i64 0] 30)
 have HNW:=hid hnew
 have HXW:=hid h
 clear h hw hq hg hS hft hfb hb1 HN0 HN1 hne hnew
 go_enter_defers Tryz.func45,Tryz.ntmps45
 go_wp2_with fail
 refine(wk_prog x B g off v L S cs y _ HW.out hl HWN.out HQ.out HG.out HS.out HF.out HFB.out).mono ?_
 rintro e u2 (⟨l,v2,ho,rfl,hW,hO,hN⟩|⟨er,ho,rfl,hO⟩)
 ·have hblk:u2.heap[w.heap.size]? =some (.cells #[.int .i64 0] 30 (0,0)):=(hO.block w.heap.size (by simp) HNE.out).trans HNW.out
  have hcell:u2.cell? ⟨w.heap.size,0,none⟩=some (.int .i64 0):=by simp[World.cell?,hblk]
  have hfree:u2.frozen? ⟨w.heap.size,0,none⟩=false:=by simp[World.frozen?,hblk]
  have HC:=hid hcell
  have HR:Hid (ThPost x B v L (encProg y) w (.returned (.int .i64 0)) u2):=hid (.inl ⟨l,v2,ho,rfl,hW,(Off.alloc (Off.refl _ _) _).trans hO⟩)
  clear hblk ho hW hO hN
  go_wp2_with fail
  rw[setCell_same HC.out]
  refine leaves_cons (f:=76) (args:=#[.pointer (some ⟨w.heap.size,0,none⟩)]) (by simp) (by simp[go_sem]) ?_
  refine(catch_idle ⟨w.heap.size,0,none⟩ _).mono ?_
  rintro e u' w'' ⟨rfl,rfl,rfl⟩
  simp[Leaves,settle,results,Tryz.results45,go_sem,hcell]
  exact HR.out
 ·have hblk:u2.heap[w.heap.size]? =some (.cells #[.int .i64 0] 30 (0,0)):=(hO.block w.heap.size (by simp) HNE.out).trans HNW.out
  have hcell:u2.cell? ⟨w.heap.size,0,none⟩=some (.int .i64 0):=by simp[World.cell?,hblk]
  have hfree:u2.frozen? ⟨w.heap.size,0,none⟩=false:=by simp[World.frozen?,hblk]
  have HR:Hid (ThPost x B v L (encProg y) w (.returned (.int .i64 er)) (u2.setCell ⟨w.heap.size,0,none⟩ (.int .i64 er))):=hid (.inr ⟨er,ho,rfl,((Off.alloc (Off.refl _ _) _).trans hO).setCell (.inr (Nat.le_refl _)) _⟩)
  clear hblk ho hO
  go_wp2_with fail
  refine leaves_cons (f:=76) (args:=#[.pointer (some ⟨w.heap.size,0,none⟩)]) (by simp) (by simp[go_sem]) ?_
  refine(catch_panic ⟨w.heap.size,0,none⟩ 0 er _ hcell hfree).mono ?_
  rintro e u' w'' ⟨rfl,rfl,rfl⟩
  simp[Leaves,settle,results,Tryz.results45,go_sem,hcell]
  exact HR.out
def outBytes(o:Out):Out:=match o with| .no e=>.no e| .ok l=>if 65536<l.length then .no 2 else .ok l
def EncPost(o:Out)(w:World)(e:Ending)(w':World):Prop:=
 (∃l va vn vc,o=.ok l∧e=.returned (.tuple #[.slice va vn vc,.int .i64 0])∧OwnsB w' w.heap.size 5 (.slice va vn vc) l∧Below w.heap.size w w')∨(∃er,o=.no er∧e=.returned (.tuple #[.slice none 0 0,.int .i64 er])∧Below w.heap.size w w')
theorem encode_nil(w:World):Calls Tryz.prog 20 #[.pointer none] w fun e w'=>e=.returned (.tuple #[.slice none 0 0,.int .i64 1])∧w=w':=by
 go_enter Tryz.func20,Tryz.ntmps20
 go_wp2
 go_ret2
 exact⟨rfl,rfl⟩
theorem out_or(o:Out):(∃l,o=.ok l)∨∃ er,o=.no er:=by cases o<;>simp
theorem errs_list{α:Type}{f:α→Out}(hf:∀ x e,f x=.no e→e=2∨e=4):∀ xs:List α,∀e,encAll f xs=.no e→e=2∨e=4
 | [],e,h=>by cases h
 |x::xs,e,h=>by
  simp only[encAll]at h
  rcases out_or (f x)with⟨l,h1⟩|⟨er,h1⟩
  ·rw[h1]at h
   rcases out_or (encAll f xs)with⟨m,h2⟩|⟨er,h2⟩
   ·rw[h2]at h;cases h
   ·rw[h2]at h;cases h;exact errs_list hf xs _ h2
  ·rw[h1,Out.no_and]at h;cases h;exact hf x _ h1
theorem errs_and{a b:Out}(ha:∀ e,a=.no e→e=2∨e=4)(hb:∀ e,b=.no e→e=2∨e=4):∀ e,a.and b=.no e→e=2∨e=4:=by
 intro e h
 cases a with
 |no x=>rw[Out.no_and]at h;exact ha e h
 |ok l=>cases b with
  |no x=>cases h;exact hb _ rfl
  |ok m=>cases h
theorem errs_num(z:Int):∀ e,encN z=.no e→e=2∨e=4:=fun e h=>by cases h
theorem errs_chk(b:Bool)(c:Int)(hc:c=2∨c=4):∀ e,chk b c=.no e→e=2∨e=4:=fun e h=>by
 unfold chk at h
 split at h
 ·cases h
 ·cases h;exact hc
theorem errs_rows{α:Type}{f:α→Out}(most:Nat)(hf:∀ x e,f x=.no e→e=2∨e=4)(xs:List α):∀ e,encList most f xs=.no e→e=2∨e=4:=
 errs_and (errs_and (errs_num _) (errs_chk _ _ (.inl rfl))) (errs_list hf xs)
theorem errs_nums(most:Nat)(Z:List Int):∀ e,encNums most Z=.no e→e=2∨e=4:=errs_rows most (fun z=>errs_num z) Z
theorem errs_below(n b:Int):∀ e,outBelow n b=.no e→e=2∨e=4:=errs_and (errs_num _) (errs_chk _ _ (.inr rfl))
theorem errs_field(o:OpD)(f:UInt8):∀ e,encField o f=.no e→e=2∨e=4:=by
 unfold encField
 repeat' split
 all_goals first|exact errs_num _|exact errs_nums _ _|exact errs_and (errs_chk _ _ (.inl rfl)) (fun e h=>by cases h)
theorem errs_op(o:OpD):∀ e,encOp o=.no e→e=2∨e=4:=errs_and (errs_below _ _) (errs_list (fun f=>errs_field o f) _)
theorem errs_end(y:EndD):∀ e,encEnd y=.no e→e=2∨e=4:=by
 refine errs_and (errs_below _ _) ?_
 unfold encRest
 repeat' split
 ·exact errs_and (errs_num _) (errs_nums _ _)
 ·exact errs_and (errs_num _) (errs_and (errs_num _) (errs_and (errs_nums _ _) (errs_and (errs_num _) (errs_nums _ _))))
 ·exact errs_num _
theorem errs_block(y:BlockD):∀ e,encBlock y=.no e→e=2∨e=4:=errs_and (errs_nums _ _) (errs_and (errs_rows _ errs_op _) (errs_end _))
theorem errs_func(y:FuncD):∀ e,encFunc y=.no e→e=2∨e=4:=errs_and (errs_num _) (errs_rows _ errs_block _)
theorem errs_sig(y:SigD):∀ e,encSig y=.no e→e=2∨e=4:=errs_and (errs_nums _ _) (errs_num _)
theorem errs_cls(y:ClassD):∀ e,encClass y=.no e→e=2∨e=4:=errs_and (errs_nums _ _) (errs_nums _ _)
theorem errs_prog(y:ProgD):∀ e,encProg y=.no e→e=2∨e=4:=errs_and (errs_rows _ errs_sig _) (errs_and (errs_rows _ errs_cls _) (errs_rows _ errs_func _))
set_option maxRecDepth 100000 in
set_option maxHeartbeats 4000000 in
theorem encode_any(g off:Nat)(s c f:Value)(P:ProgD)(w:World)(hg:g<w.heap.size)(hc0:w.cell? ⟨g,off,none⟩=some s)(hc1:w.cell? ⟨g,off+1,none⟩=some c)(hc2:w.cell? ⟨g,off+2,none⟩=some f)(h:ProgQ w [s,c,f] P)(hft:FT w)(hsm:SmProg P):
 Calls Tryz.prog 20 #[.pointer (some ⟨g,off,none⟩)] w (EncPost (outBytes (encProg (plainProg P))) w):=by
 have hb:Below w.heap.size w (w.alloc (.cells #[.slice none 0 0] 86)):=(Below.refl _ _).alloc (Nat.le_refl _) _
 have hz:(w.alloc (.cells #[.slice none 0 0] 86)).heap.size=w.heap.size+1:=by simp
 have hd0:=(hb.cell (p:=⟨g,off,none⟩) hg).trans hc0
 have hd1:=(hb.cell (p:=⟨g,off+1,none⟩) hg).trans hc1
 have hd2:=(hb.cell (p:=⟨g,off+2,none⟩) hg).trans hc2
 have HB:=hid hb
 have HQ:=hid (ProgQ.lasts _ _ _ _ hb h)
 have HF:=hid (hft.since hb)
 have HFL:=hid hft.lt
 have HS:=hid hsm
 have HNW:=hid (heap_alloc_new w (.cells #[.slice none 0 0] 86))
 have hg1:g<(w.alloc (.cells #[.slice none 0 0] 86)).heap.size:=by rw[hz];omega
 have HD0:=hid hd0
 have HD1:=hid hd1
 have HD2:=hid hd2
 have HG1:=hid hg1
 have HZ:=hid hz
 clear h hft hsm hb hd0 hd1 hd2 hc0 hc1 hc2 hg1 hz
 go_enter Tryz.func20,Tryz.ntmps20
 go_wp2_with fail
 refine(copy_prog g off s c f P _ HG1.out HD0.out HD1.out HD2.out HQ.out HF.out HS.out).mono ?_
 rintro e w1 ⟨b,s',c',f',rfl,hbb,hwin,hpo,hb1⟩
 have hsz:=HZ.out
 rw[hsz]at hbb hpo hb1
 have hx1:w1.heap[w.heap.size]? =some (.cells #[.slice none 0 0] 86 (0,0)):=(hb1.block w.heap.size (by omega)).trans HNW.out
 have hlb:=hwin.lt
 have hwr:WrAt w1 w.heap.size w1.heap.size (.slice none 0 0) []:=⟨hx1,World.ownsRow_nil _ _ _ 1,by omega,Nat.le_refl _⟩
 have HWR:=hid hwr
 have HWI:=hid hwin
 have HPO:=hid (ProgO.holds.wider hpo (S':=fun k=>k<w1.heap.size∧k≠w.heap.size) (fun k hk hs=>⟨hk,by have:=hs.1;omega⟩))
 have HF1:=hid (HF.out.below hb1 (by have:=HFL.out;omega))
 have HGB:Hid (b<w1.heap.size∧b≠w.heap.size):=hid ⟨hlb,by omega⟩
 have HGF:Hid (0<w1.heap.size∧0≠w.heap.size):=hid (by have:=HFL.out;constructor<;>omega)
 have HBW:=hid (HB.out.trans (hb1.mono (Nat.le_succ _)))
 clear hsz hx1 hwr hwin hpo hb1
 go_wp2_with fail
 refine(through_wr w.heap.size w1.heap.size b 0 (.slice none 0 0) [] _ _ (plainProg P) w1 HWR.out (by decide) HWI.out HPO.out HGB.out (fun k hk=>hk) HF1.out HGF.out).mono ?_
 rintro e w2 (⟨l,v',ho,rfl,hW,hO⟩|⟨er,ho,rfl,hO⟩)
 ·have hbel:Below w.heap.size w w2:=HBW.out.trans (hO.below (by omega) (fun i hi=>by rcases hi with rfl|hi<;>first|exact Nat.le_refl _|cases hi))
  rw[List.nil_append]at hW
  obtain⟨va,vn,vc,rfl,hat⟩:=hW.2.1.at
  have hvn:l.length=vn:=hat.1
  have hcell:=hW.cell
  have hown:OwnsB w2 w.heap.size 5 (.slice va vn vc) l:=hW.2.1.mono (by omega)
  have hll:l.length≤200000000:=Upto.prog _ l ho
  have HOW:=hid hown
  have HBE:=hid hbel
  have HHO:=hid ho
  clear hat hW hO hown hbel ho
  by_cases hlong:65536<vn
  ·have HR:Hid (outBytes (encProg (plainProg P))=.no 2):=hid (by rw[HHO.out];simp only[outBytes];rw[if_pos (by omega)])
   go_wp2_with fail
   go_ret2
   exact .inr ⟨2,HR.out,rfl,HBE.out⟩
  ·have HR:Hid (outBytes (encProg (plainProg P))=.ok l):=hid (by rw[HHO.out];simp only[outBytes];rw[if_neg (by omega)])
   go_wp2_with fail
   go_ret2
   exact .inl ⟨l,va,vn,vc,HR.out,rfl,HOW.out,HBE.out⟩
 ·have hbel:Below w.heap.size w w2:=HBW.out.trans (hO.below (by omega) (fun i hi=>by rcases hi with rfl|hi<;>first|exact Nat.le_refl _|cases hi))
  have HBE:=hid hbel
  have HR:Hid (outBytes (encProg (plainProg P))=.no er):=hid (by rw[ho];rfl)
  have her:=errs_prog _ _ ho
  have hne:(er !=0)=true:=by rw[bne_iff_ne];omega
  clear hO hbel ho her
  go_wp2_with fail
  go_ret2
  exact .inr ⟨er,HR.out,rfl,HBE.out⟩
def allK(p:Nat→Bool):Nat→Bool
 |0=>true
 |i+1=>allK p i&&p i
theorem allK_iff{p:Nat→Bool}:∀ {n:Nat},allK p n=true↔∀ i,i<n→p i=true
 |0=>⟨fun _ i h=>absurd h (by omega),fun _=>rfl⟩
 |n+1=>by
  unfold allK
  rw[Bool.and_eq_true,allK_iff]
  constructor
  ·rintro ⟨h1,h2⟩ i hi
   by_cases e:i<n
   ·exact h1 i e
   ·obtain rfl:i=n:=by omega
    exact h2
  ·intro h
   exact⟨fun i hi=>h i (by omega),h n (by omega)⟩
theorem allK_more{p:Nat→Bool}{i:Nat}(h:allK p i=true)(hp:p i=true):allK p (i+1)=true:=by unfold allK;rw[h,hp];rfl
theorem allK_no{p:Nat→Bool}{n i:Nat}(h:i<n)(hp:p i=false):allK p n=false:=by
 cases hb:allK p n with
 |false=>rfl
 |true=>rw[allK_iff.1 hb i h]at hp;cases hp
def resO(P:ProgD)(o:OpD)(ts:List Int):Int×Bool:=resS P o.K o.A o.B o.C o.N o.S o.L ts
def noOp:OpD:=⟨0,0,0,0,0,ByteArray.empty,[],false⟩
def blkOf(f:FuncD)(b:Nat):BlockD:=match f.blocks[b]? with|some x=>x|none=>⟨[],[],noEnd⟩
theorem blkOf_at{f:FuncD}{b:Nat}(h:b<f.blocks.length):blkOf f b=f.blocks[b]:=by unfold blkOf;rw[List.getElem?_eq_getElem h]
def parL(f:FuncD)(b:Nat):List Int:=(blkOf f b).params
theorem parL_at{f:FuncD}{b:Nat}(h:b<f.blocks.length):parL f b=f.blocks[b].params:=by unfold parL;rw[blkOf_at h]
def opAt(f:FuncD)(b k:Nat):OpD:=match(blkOf f b).ops[k]? with|some o=>o|none=>noOp
theorem opAt_at{f:FuncD}{b k:Nat}(h:b<f.blocks.length)(hk:k<f.blocks[b].ops.length):opAt f b k=f.blocks[b].ops[k]:=by
 unfold opAt
 have e:(blkOf f b).ops[k]? =some (f.blocks[b].ops[k]):=by rw[blkOf_at h];exact List.getElem?_eq_getElem hk
 rw[e]
def initK(f:FuncD):Nat→List Int
 |0=>[]
 |i+1=>initK f i++(parL f i++List.replicate (opsN f i) (-1))
theorem firstN_parL{f:FuncD}{i:Nat}(h:i<f.blocks.length):firstN f (i+1)=firstN f i+((parL f i).length+opsN f i):=by rw[firstN_more h,parL_at h,opsN_at h]
theorem initK_len{f:FuncD}:∀ {i:Nat},i≤f.blocks.length→(initK f i).length=firstN f i
 |0,_=>by simp[initK,firstN_zero]
 |i+1,h=>by
  unfold initK
  rw[List.length_append,List.length_append,List.length_replicate,initK_len (by omega),firstN_parL (by omega)]
def blockK(P:ProgD)(f:FuncD)(b:Nat)(ts:List Int):Nat→List Int
 |0=>ts
 |k+1=>(blockK P f b ts k).set (firstN f b+(parL f b).length+k) (resO P (opAt f b k) (blockK P f b ts k)).1
theorem blockK_len(P:ProgD)(f:FuncD)(b:Nat)(ts:List Int):∀ k,(blockK P f b ts k).length=ts.length
 |0=>rfl
 |k+1=>by unfold blockK;rw[List.length_set,blockK_len P f b ts k]
def typesK(P:ProgD)(f:FuncD):Nat→List Int
 |0=>initK f f.blocks.length
 |i+1=>blockK P f (nth (thruL f) i).toNat (typesK P f i) (opsN f (nth (thruL f) i).toNat)
theorem typesK_len(P:ProgD)(f:FuncD):∀ i,(typesK P f i).length=valuesN f
 |0=>initK_len (Nat.le_refl _)
 |i+1=>by unfold typesK;rw[blockK_len,typesK_len P f i]
def typesL(P:ProgD)(f:FuncD):List Int:=typesK P f (thruL f).length
theorem typesL_len(P:ProgD)(f:FuncD):(typesL P f).length=valuesN f:=typesK_len P f _
theorem thru_there{f:FuncD}{z:Int}(h:z∈thruL f):0≤z∧z<(f.blocks.length:Int):=by
 unfold thruL thruK at h
 rcases List.mem_append.1 h with h|h
 ·exact(order_facts f).there z h
 ·obtain⟨k,hk,rfl⟩:=List.mem_map.1 h
  have:=List.mem_range.1 (List.mem_filter.1 hk).1
  exact⟨by omega,by omega⟩
theorem thru_at{f:FuncD}{i:Nat}(h:i<(thruL f).length):∃ b:Nat,nth (thruL f) i=(b:Int)∧b<f.blocks.length:=by
 have h1:nth (thruL f) i∈thruL f:=by rw[nth_is h];exact List.getElem_mem h
 have h2:=thru_there h1
 obtain⟨b,hb⟩:=Int.eq_ofNat_of_zero_le h2.1
 exact⟨b,hb,by have:=h2.2;omega⟩
theorem base_room{f:FuncD}{b k:Nat}(hb:b<f.blocks.length)(hk:k<opsN f b):firstN f b+(parL f b).length+k<valuesN f:=by
 have h1:=firstN_parL hb
 have h2:=firstN_le f (b+1)
 omega
structure ProgR(P:ProgD):Prop where
 cls:∀ c∈P.classes,∀z∈c.fields,InR z
 sig:∀ s∈P.sigs,InR s.ret
 fun':∀ f∈P.funcs,InR f.ret
theorem RowV.mem{α:Type}{Q:World→List Value→α→Prop}{k:Nat}{W:World}{v:Value}{xs:List α}(h:RowV Q k W v xs){x:α}(hx:x∈xs):∃ cs,Q W cs x:=by
 obtain⟨a,n,c,e,hl,_,_,hr⟩:=h
 obtain⟨i,hi,rfl⟩:=List.getElem_of_mem hx
 obtain⟨g,off,_,_,hcs⟩:=hr (by omega)
 obtain⟨cs,_,_,hq⟩:=hcs i hi
 exact⟨cs,hq⟩
theorem ProgAt.r{W:World}{g:Nat}{sa:Option Addr}{sn sc:Nat}{ca:Option Addr}{cn cc:Nat}{fa:Option Addr}{fn fc:Nat}{P:ProgD}(h:ProgAt W g sa sn sc ca cn cc fa fn fc P):ProgR P:=by
 refine⟨fun c hc z hz=> ?_,fun s hs=> ?_,fun f hf=> ?_⟩
 ·obtain⟨cs,f,m,_,⟨_,_,_,_,_,_,_,hr⟩,_⟩:=h.c.mem hc
  exact hr z hz
 ·obtain⟨cs,p,_,_,hr⟩:=h.s.mem hs
  exact hr
 ·obtain⟨cs,b,_,hr,_⟩:=h.f.mem hf
  exact hr
theorem inR_small{z:Int}(h: -9223372036854775808≤z∧z≤9223372036854775807):InR z:=h
theorem fieldS_r{P:ProgD}(hP:ProgR P)(t n:Int):InR (fieldS P t n).1:=by
 unfold fieldS
 split
 ·split
  ·rename_i h1 h2
   have hm:nth (fieldsOf P (t-6).toNat) n.toNat∈fieldsOf P (t-6).toNat:=by
    rw[nth_is (by omega)];exact List.getElem_mem _
   unfold fieldsOf at hm
   split at hm
   ·rename_i c hc
    have hmem:=List.mem_of_getElem? hc
    refine hP.cls c hmem _ ?_
    simpa [fieldsOf,hc]using hm
   ·cases hm
  ·exact inR_small (by simp)
 ·exact inR_small (by simp)
theorem ite_r{c:Prop}[Decidable c]{x y:Int×Bool}(hx:c→InR x.1)(hy:¬ c→InR y.1):InR (if c then x else y).1:=by
 split
 ·rename_i h;exact hx h
 ·rename_i h;exact hy h
theorem tlV_r(s:Int):InR (tlV s):=by
 unfold tlV
 split
 ·split<;>exact inR_small ⟨by decide,by decide⟩
 ·exact inR_small ⟨by decide,by decide⟩
theorem funcOf_r{P:ProgD}(hP:ProgR P)(k:Nat):InR (funcOf P k).ret:=by
 unfold funcOf
 split
 ·rename_i F hF
  exact hP.fun' F (List.mem_of_getElem? hF)
 ·exact inR_small ⟨by decide,by decide⟩
theorem sigOf_r{P:ProgD}(hP:ProgR P)(k:Nat):InR (sigOf P k).ret:=by
 unfold sigOf
 split
 ·rename_i F hF
  exact hP.sig F (List.mem_of_getElem? hF)
 ·exact inR_small ⟨by decide,by decide⟩
theorem rowS_r{P:ProgD}(hP:ProgR P)(hl:P.classes.length≤140737488355328)(K N:Int)(S:ByteArray)(l:List Int):InR (rowS P K N S l).1:=by
 unfold rowS
 repeat' first
  |exact fieldS_r hP _ _
  |exact tlV_r _
  |exact funcOf_r hP _
  |exact sigOf_r hP _
  |exact inR_small ⟨by decide,by decide⟩
  |refine ite_r (fun h=> ?_) (fun h=> ?_)
 all_goals (refine inR_small ⟨?_, ?_⟩<;>(show _≤_)<;>simp only[]<;>omega)
theorem resO_r{P:ProgD}(hP:ProgR P)(hl:P.classes.length≤140737488355328)(o:OpD)(ts:List Int):InR (resO P o ts).1:=by
 unfold resO resS
 split
 ·split
  ·exact rowS_r hP hl _ _ _ _
  ·exact inR_small (by simp)
 ·exact inR_small (by simp)
def ParR(f:FuncD):Prop:=∀ b∈f.blocks,∀z∈b.params,InR z
theorem RowV.parR{W:World}{v:Value}{f:FuncD}(h:RowV BlockQ 8 W v f.blocks):ParR f:=fun b hb z hz=>by
 obtain⟨cs,p,o,es,_,⟨_,_,_,_,_,_,_,hr⟩,_⟩:=h.mem hb
 exact hr z hz
theorem initK_r{f:FuncD}(hr:ParR f):∀ i,∀z∈initK f i,InR z
 |0,z,h=>by simp[initK]at h
 |i+1,z,h=>by
  unfold initK at h
  rcases List.mem_append.1 h with h|h
  ·exact initK_r hr i z h
  ·rcases List.mem_append.1 h with h|h
   ·by_cases hi:i<f.blocks.length
    ·rw[parL_at hi]at h;exact hr _ (List.getElem_mem hi) z h
    ·unfold parL blkOf at h;rw[List.getElem?_eq_none (by omega)]at h;cases h
   ·obtain rfl:=(List.mem_replicate.1 h).2
    exact inR_small (by simp)
theorem blockK_r{P:ProgD}(hP:ProgR P)(hl:P.classes.length≤140737488355328){f:FuncD}{b:Nat}{ts:List Int}(h:∀ z∈ts,InR z):∀ k,∀z∈blockK P f b ts k,InR z
 |0,z,hz=>h z hz
 |k+1,z,hz=>by
  unfold blockK at hz
  rcases List.mem_or_eq_of_mem_set hz with hz|rfl
  ·exact blockK_r hP hl h k z hz
  ·exact resO_r hP hl _ _
theorem typesK_r{P:ProgD}(hP:ProgR P)(hl:P.classes.length≤140737488355328){f:FuncD}(hr:ParR f):∀ i,∀z∈typesK P f i,InR z
 |0,z,hz=>initK_r hr _ z hz
 |i+1,z,hz=>by unfold typesK at hz;exact blockK_r hP hl (typesK_r hP hl hr i) _ z hz
def knownB(P:ProgD)(l:List Int):Bool:=allK (fun i=>typB P.classes.length (nth l i)) l.length
def toldB(P:ProgD)(t:Int):Bool:=t== -1||typB P.classes.length t
def sigB(P:ProgD)(s:SigD):Bool:=knownB P s.params&&toldB P s.ret
def headB(P:ProgD)(f:FuncD):Bool:=toldB P f.ret&&decide (0<f.blocks.length)&&allK (fun i=>knownB P (parL f i)) f.blocks.length
def intsB(l:List Int):Bool:=allK (fun i=>nth l i==0) l.length
def mainB(f:FuncD):Bool:=f.ret==0&&intsB (parL f 0)
def methB(P:ProgD)(m:Int)(s:SigD):Bool:=decide (m<(P.funcs.length:Int))&&(funcOf P m.toNat).ret==s.ret&&sameB (parL (funcOf P m.toNat) 0) (5::s.params)
def meth1(P:ProgD)(c:ClassD)(i:Nat):Bool:=if 0≤nth c.methods i then methB P (nth c.methods i) (sigOf P i)else true
def classB(P:ProgD)(c:ClassD):Bool:=knownB P c.fields&&decide (c.methods.length=P.sigs.length)&&allK (meth1 P c) c.methods.length
def clsOf(P:ProgD)(k:Nat):ClassD:=match P.classes[k]? with|some c=>c|none=>⟨[],[]⟩
noncomputable def usedB(f:FuncD)(T:List Int)(x k:Nat)(v:Int):Bool:=seesB f (x:Int) (k:Int) v&&nth T v.toNat != -1
noncomputable def endedB(f:FuncD)(T:List Int)(x:Nat)(v t:Int):Bool:=usedB f T x (opsN f x) v&&nth T v.toNat==t
noncomputable def targB(f:FuncD)(T:List Int)(x:Nat)(t:Int×List Int):Bool:=
 decide (0<t.1∧t.1<(f.blocks.length:Int))&&decide (t.2.length=(parL f t.1.toNat).length)&&allK (fun i=>endedB f T x (nth t.2 i) (nth (parL f t.1.toNat) i)) t.2.length
def tgAt(e:EndD)(i:Nat):Int×List Int:=match(tgts e)[i]? with|some t=>t|none=>(0,[])
noncomputable def finB(f:FuncD)(T:List Int)(x:Nat):Bool:=
 if(theEnd f x).K=1 then endedB f T x (theEnd f x).A 1 else if(theEnd f x).K=3 then endedB f T x (theEnd f x).A 0 else
 if(theEnd f x).K=2 then(if f.ret= -1 then(theEnd f x).A==0 else endedB f T x (theEnd f x).A f.ret)else true
noncomputable def endB(f:FuncD)(T:List Int)(x:Nat):Bool:=finB f T x&&allK (fun i=>targB f T x (tgAt (theEnd f x) i)) (tgts (theEnd f x)).length
def usesO(o:OpD):List Int:=usesL o.K o.A o.B o.C o.L
noncomputable def stepB(P:ProgD)(f:FuncD)(T:List Int)(x k:Nat):Bool:=(resO P (opAt f x k) T).2&&allK (fun i=>usedB f T x k (nth (usesO (opAt f x k)) i)) (usesO (opAt f x k)).length
noncomputable def stepsB(P:ProgD)(f:FuncD)(T:List Int)(x:Nat):Bool:=allK (stepB P f T x) (opsN f x)
noncomputable def blockB(P:ProgD)(f:FuncD)(T:List Int)(x:Nat):Bool:=inL (orderL f) (x:Int)&&stepsB P f T x&&endB f T x
noncomputable def bodyB(P:ProgD)(f:FuncD):Bool:=allK (blockB P f (typesL P f)) f.blocks.length
noncomputable def rulesB(P:ProgD):Bool:=
 decide (0<P.funcs.length)&&allK (fun i=>sigB P (sigOf P i)) P.sigs.length&&allK (fun i=>headB P (funcOf P i)) P.funcs.length&&mainB (funcOf P 0)&&allK (fun i=>classB P (clsOf P i)) P.classes.length&&allK (fun i=>bodyB P (funcOf P i)) P.funcs.length
def longB(P:ProgD):Bool:=allK (fun i=>decide (valuesN (funcOf P i)≤700)) P.funcs.length
noncomputable def checkI(P:ProgD):Int:=match outBytes (encProg (plainProg P))with| .no e=>e| .ok _=>if longB P=true then(if rulesB P=true then 0 else 4)else 2
theorem RulePost.no{w w':World}{e:Ending}(h:RulePost false w e w'):e=.panicked [{v:=.iface 30 (.int .i64 4),recovered:=false}]∧Below w.heap.size w w':=by
 rcases h.1 with⟨h1,_⟩|⟨_,he⟩
 ·cases h1
 ·exact⟨he,h.2⟩
theorem RulePost.good{w w':World}{b:Bool}(hb:b=true)(h:Below w.heap.size w w'):RulePost b w (.returned (.tuple #[])) w':=⟨.inl ⟨hb,rfl⟩,h⟩
theorem RulePost.bad{w w':World}{b:Bool}(hb:b=false)(h:Below w.heap.size w w'):RulePost b w (.panicked [{v:=.iface 30 (.int .i64 4),recovered:=false}]) w':=⟨.inr ⟨hb,rfl⟩,h⟩
theorem RulePost.split{w w':World}{b:Bool}{e:Ending}(h:RulePost b w e w'):(b=true∧e=.returned (.tuple #[])∧Below w.heap.size w w')∨(b=false∧e=.panicked [{v:=.iface 30 (.int .i64 4),recovered:=false}]∧Below w.heap.size w w'):=by
 rcases h.1 with⟨h1,he⟩|⟨h1,he⟩
 ·exact .inl ⟨h1,he,h.2⟩
 ·exact .inr ⟨h1,he,h.2⟩
theorem NeedPost.split{w w':World}{b:Bool}{e:Ending}(h:NeedPost b w e w'):(b=true∧e=.returned (.tuple #[])∧w=w')∨(b=false∧e=.panicked [{v:=.iface 30 (.int .i64 4),recovered:=false}]∧w=w'):=by
 rcases h.1 with⟨h1,he⟩|⟨h1,he⟩
 ·exact .inl ⟨h1,he,h.2.symm⟩
 ·exact .inr ⟨h1,he,h.2.symm⟩
theorem rules_box(w:World)(g:Nat):Below w.heap.size w (w.alloc (.cells #[.pointer (some ⟨g,0,none⟩)] 68))∧(w.alloc (.cells #[.pointer (some ⟨g,0,none⟩)] 68)).cell? ⟨w.heap.size,0,none⟩=some (.pointer (some ⟨g,0,none⟩))∧(w.alloc (.cells #[.pointer (some ⟨g,0,none⟩)] 68)).heap.size=w.heap.size+1:=
 ⟨(Below.refl _ w).alloc (Nat.le_refl _) _,World.cell?_alloc_mark _ _ _ _ _,by simp⟩
set_option maxHeartbeats 2000000 in
theorem wknown_any(g:Nat){sa:Option Addr}{sn sc:Nat}{ca:Option Addr}{cn cc:Nat}{fa:Option Addr}{fn fc:Nat}{P:ProgD}(la:Option Addr)(ln lc:Nat)(L:List Int)(w:World)(hP:ProgAt w g sa sn sc ca cn cc fa fn fc P)(hL:NumsAt w la ln L)(hr:∀ z∈L,InR z)(hln:ln≤140737488355328):
 Calls Tryz.prog 50 #[.agg #[.pointer (some ⟨g,0,none⟩)],.slice la ln lc] w (RulePost (knownB P L) w):=by
 obtain⟨hb1,hc,hs1⟩:=rules_box w g
 obtain⟨W1,hW1⟩:∃ U,w.alloc (.cells #[.pointer (some ⟨g,0,none⟩)] 68)=U:=⟨_,rfl⟩
 rw[hW1]at hb1 hc hs1
 have HB:=hid hb1
 have hcl:=hP.c.len
 have CT:Hid (∀z,InR z→Calls Tryz.prog 86 #[.pointer (some ⟨g,0,none⟩),.int .i64 z] W1 fun e w'=>e=.returned (.bool (typB P.classes.length z))∧W1=w'):=hid fun z hz=>by
  rw[hcl.1]
  exact ktype_any g ca cn cc z W1 (hP.since hb1).c1 hz (by omega)
 have HLN:Hid (L.length=ln):=hid hL.1
 have HN:=hid (hL.since hb1)
 have HR:=hid hr
 have HLL:=hid hln
 clear hb1 hs1 hP hL hr hcl
 go_enter Tryz.func50,Tryz.ntmps50
 go_upto_region 1 with fail
 try rw[hW1]
 clear hW1
 go_upto_region 2 with fail
 go_loopw[8] (fun v8 wr=>∃ i:Nat,i≤ln∧v8=.int .i64 (i:Int)∧wr=W1∧Hid (allK (fun i=>typB P.classes.length (nth L i)) i=true)) (fun iv _=>ln-(intOf iv).toNat)
 case atStart=>exact⟨0,Nat.zero_le _,rfl,rfl,hid rfl⟩
 case round=>
  obtain⟨i,hi,rfl,rfl,HI⟩:=hrel
  by_cases hlt:i<ln
  ·have hltz:(i:Int)<(ln:Int):=by omega
   have hi0:(0:Int)≤(i:Int):=by omega
   have hil:i<L.length:=by have:=HLN.out;omega
   obtain⟨ga,oa,rfl,hg,hcell⟩:=HN.out.2 (by omega)
   have hz:wr.cell? ⟨ga,oa+i,none⟩=some (.int .i64 (nth L i)):=by rw[hcell i hil,nth_is hil];rfl
   have HZ:Hid (InR (nth L i)):=hid (HR.out _ (by rw[nth_is hil];exact List.getElem_mem hil))
   obtain⟨z,hzz⟩:∃ z,z=nth L i:=⟨_,rfl⟩
   have HZZ:=hid hzz
   rw[←hzz]at hz HZ
   have CZ:=hid (CT.out z HZ.out)
   have HIL:=hid hlt
   clear hcell hg hil hzz
   go_wp2_with(first
    |(go_at_call 86;(with_reducible refine CZ.out.mono ?_);rintro e w2 ⟨rfl,rfl⟩)
    |(go_at_call 49;(with_reducible refine(need_any _ _).mono ?_);intro e w3 hq;rcases hq.split with⟨hk,rfl,rfl⟩|⟨hk,rfl,rfl⟩;rotate_left;(exact⟨rfl,RulePost.bad (by unfold knownB;rw[HLN.out];exact allK_no HIL.out (by rw[←HZZ.out];exact hk)) HB.out⟩);have HK:=hid hk;clear hk))
   go_roundw
   case rel=>exact⟨i+1,HIL.out,by go_num,(by first|rfl|trivial),hid (allK_more HI.out (by rw[←HZZ.out];exact HK.out))⟩
   case measure=>have:=HIL.out;simp[intOf];omega
  ·obtain rfl:i=ln:=by omega
   have hnn:¬ (i:Int)<(i:Int):=by omega
   have HK:Hid (knownB P L=true):=hid (by unfold knownB;rw[HLN.out];exact HI.out)
   go_wp2_with fail
   go_end0
   exact RulePost.good HK.out HB.out
theorem known_one(P:ProgD)(t:Int):knownB P [t]=typB P.classes.length t:=by simp[knownB,allK,nth]
set_option maxHeartbeats 2000000 in
theorem wret_any(g:Nat){sa:Option Addr}{sn sc:Nat}{ca:Option Addr}{cn cc:Nat}{fa:Option Addr}{fn fc:Nat}{P:ProgD}(t:Int)(w:World)(hP:ProgAt w g sa sn sc ca cn cc fa fn fc P)(ht:InR t):
 Calls Tryz.prog 51 #[.agg #[.pointer (some ⟨g,0,none⟩)],.int .i64 t] w (RulePost (toldB P t) w):=by
 obtain⟨hb1,hc,hs1⟩:=rules_box w g
 obtain⟨W1,hW1⟩:∃ U,w.alloc (.cells #[.pointer (some ⟨g,0,none⟩)] 68)=U:=⟨_,rfl⟩
 rw[hW1]at hb1 hc hs1
 have HB:=hid hb1
 have HP:=hid (hP.since hb1)
 have HT:=hid ht
 clear hb1 hs1 hP ht
 by_cases h1:t= -1
 ·have HK:Hid (toldB P t=true):=hid (by unfold toldB;rw[h1];rfl)
  subst h1
  go_enter Tryz.func51,Tryz.ntmps51
  go_upto_region 1 with fail
  try rw[hW1]
  clear hW1
  go_wp2_with fail
  go_end0
  exact RulePost.good HK.out HB.out
 ·have hne:(t != -1)=true:=by rw[bne_iff_ne];exact h1
  have hee:(t== -1)=false:=by rw[beq_eq_false_iff_ne];exact h1
  have HK:Hid (toldB P t=knownB P [t]):=hid (by unfold toldB;rw[hee,known_one];rfl)
  have CK:Hid (∀U,Below W1.heap.size W1 U→NumsAt U (some ⟨W1.heap.size,0,none⟩) 1 [t]→Calls Tryz.prog 50 #[.agg #[.pointer (some ⟨g,0,none⟩)],.slice (some ⟨W1.heap.size,0,none⟩) 1 1] U (RulePost (knownB P [t]) U)):=hid fun U hU hN=>wknown_any g (some ⟨W1.heap.size,0,none⟩) 1 1 [t] U (HP.out.since hU) hN (fun z hz=>by rw[List.mem_singleton]at hz;subst hz;exact HT.out) (by omega)
  have HU:Hid (Below W1.heap.size W1 (W1.alloc (.cells #[.int .i64 t] 3))∧NumsAt (W1.alloc (.cells #[.int .i64 t] 3)) (some ⟨W1.heap.size,0,none⟩) 1 [t]):=hid ⟨(Below.refl _ _).alloc (Nat.le_refl _) _,rfl,fun _=>⟨W1.heap.size,0,rfl,by simp,fun j hj=>by
   have hj0:j=0:=by simpa using hj
   subst hj0
   exact World.cell?_alloc_mark _ _ _ _ _⟩⟩
  clear h1
  go_enter Tryz.func51,Tryz.ntmps51
  go_upto_region 1 with fail
  try rw[hW1]
  clear hW1
  go_wp2_with(go_at_call 50;(with_reducible refine(CK.out _ HU.out.1 HU.out.2).mono ?_);intro e w3 hq;rcases hq.split with⟨hk,rfl,hb⟩|⟨hk,rfl,hb⟩;rotate_left;(exact⟨rfl,RulePost.bad (by rw[HK.out];exact hk) (HB.out.trans ((HU.out.1.trans (hb.mono HU.out.1.size)).mono HB.out.size))⟩);have HR:Hid (RulePost (toldB P t) w (.returned (.tuple #[])) w3):=hid (RulePost.good (by rw[HK.out];exact hk) (HB.out.trans ((HU.out.1.trans (hb.mono HU.out.1.size)).mono HB.out.size)));clear hk hb)
  go_end0
  exact HR.out
theorem rules_box2(w:World)(g:Nat)(C:Array Value)(T:TypeId):Below w.heap.size w ((w.alloc (.cells #[.pointer (some ⟨g,0,none⟩)] 68)).alloc (.cells C T))∧((w.alloc (.cells #[.pointer (some ⟨g,0,none⟩)] 68)).alloc (.cells C T)).cell? ⟨w.heap.size,0,none⟩=some (.pointer (some ⟨g,0,none⟩))∧(∀j,((w.alloc (.cells #[.pointer (some ⟨g,0,none⟩)] 68)).alloc (.cells C T)).cell? ⟨w.heap.size+1,j,none⟩=C[j]?)∧((w.alloc (.cells #[.pointer (some ⟨g,0,none⟩)] 68)).alloc (.cells C T)).heap.size=w.heap.size+2:=by
 have h2:=two_new_cells w #[.pointer (some ⟨g,0,none⟩)] C 68 T
 exact⟨((Below.refl _ w).alloc (Nat.le_refl _) _).alloc (by simp) _,h2.1 0,h2.2,by simp⟩
set_option maxHeartbeats 2000000 in
theorem whead_any(g:Nat){sa:Option Addr}{sn sc:Nat}{ca:Option Addr}{cn cc:Nat}{fa:Option Addr}{fn fc:Nat}{P:ProgD}(a:Option Addr)(n c:Nat)(f:FuncD)(w:World)(hP:ProgAt w g sa sn sc ca cn cc fa fn fc P)(hf:FuncQ w [.int .i64 f.ret,.slice a n c] f):
 Calls Tryz.prog 52 #[.agg #[.pointer (some ⟨g,0,none⟩)],.agg #[.int .i64 f.ret,.slice a n c]] w (RulePost (headB P f) w):=by
 obtain⟨hb1,hc,hd,hs1⟩:=rules_box2 w g #[.int .i64 f.ret,.slice a n c] 36
 obtain⟨W1,hW1⟩:∃ U,(w.alloc (.cells #[.pointer (some ⟨g,0,none⟩)] 68)).alloc (.cells #[.int .i64 f.ret,.slice a n c] 36)=U:=⟨_,rfl⟩
 rw[hW1]at hb1 hc hd hs1
 obtain⟨hrow,hlen⟩:=funcQ_row hf
 have hn8:=hrow.len.2
 have hr:InR f.ret:=by obtain⟨_,_,h,_⟩:=hf;exact h
 have HB:=hid hb1
 have HP:=hid (hP.since hb1)
 have HROW:=hid (hrow.since BlockQ.lasts hb1)
 have HC:Hid (∀U,Below W1.heap.size W1 U→U.cell? ⟨w.heap.size,0,none⟩=some (.pointer (some ⟨g,0,none⟩))∧U.cell? ⟨w.heap.size+1,0,none⟩=some (.int .i64 f.ret)∧U.cell? ⟨w.heap.size+1,1,none⟩=some (.slice a n c)):=hid fun U hU=>⟨(hU.cell (p:=⟨w.heap.size,0,none⟩) (by simp only[];omega)).trans hc,(hU.cell (p:=⟨w.heap.size+1,0,none⟩) (by simp only[];omega)).trans (hd 0),(hU.cell (p:=⟨w.heap.size+1,1,none⟩) (by simp only[];omega)).trans (hd 1)⟩
 have hd0:=hd 0
 have hd1:=hd 1
 have CR:=hid (wret_any g f.ret W1 (hP.since hb1) hr)
 have HLEN:=hid hlen
 obtain⟨rt,hrt⟩:∃ t,t=f.ret:=⟨_,rfl⟩
 have HRT:=hid hrt
 rw[←hrt]at hd0 HC CR hW1⊢
 clear hb1 hs1 hP hf hrow hr hd hlen hrt
 go_enter Tryz.func52,Tryz.ntmps52
 go_upto_region 1 with fail
 try rw[hW1]
 clear hW1
 go_upto_region 2 with(go_at_call 51;(with_reducible refine CR.out.mono ?_);intro e w2 hq;rcases hq.split with⟨hk,rfl,hb⟩|⟨hk,rfl,hb⟩;rotate_left;(exact⟨rfl,RulePost.bad (by unfold headB;rw[←HRT.out,hk];rfl) (HB.out.trans (hb.mono HB.out.size))⟩);have HK1:=hid hk;have HB2:=hid hb;obtain⟨x0,x1,x2⟩:=HC.out w2 hb;clear hk hb hd0 hd1 hc)
 go_upto_region 3 with(go_at_call 49;(with_reducible refine(need_any _ _).mono ?_);intro e w3 hq;rcases hq.split with⟨hk,rfl,rfl⟩|⟨hk,rfl,rfl⟩;rotate_left;(exact⟨rfl,RulePost.bad (by unfold headB;rw[HLEN.out]at hk;rw[hk];simp) (HB.out.trans (HB2.out.mono HB.out.size))⟩);have HK2:Hid (decide (0<f.blocks.length)=true):=hid (by rw[HLEN.out]at hk;exact hk);clear hk)
 go_upto_region 4 with fail
 go_loopw[18] (fun v18 wr=>∃ i:Nat,i≤n∧v18=.int .i64 (i:Int)∧Hid (allK (fun i=>knownB P (parL f i)) i=true∧Below W1.heap.size W1 wr)) (fun iv _=>n-(intOf iv).toNat)
 case atStart=>exact⟨0,Nat.zero_le _,rfl,hid ⟨rfl,HB2.out⟩⟩
 case round=>
  obtain⟨i,hi,rfl,HI⟩:=hrel
  by_cases hlt:i<n
  ·have hltz:(i:Int)<(n:Int):=by omega
   obtain⟨g8,off8,cs,hif,rfl,hl8,hcell,hq⟩:=(HROW.out.since BlockQ.lasts HI.out.2).elem hlt
   obtain⟨X,hX⟩:∃ X,X=f.blocks[i]:=⟨_,rfl⟩
   rw[←hX]at hq
   obtain⟨pv,ov,es,rfl,⟨pa,pn,pc,rfl,hp,hpn0,hpn8,hpr⟩,⟨oa,on,oc,rfl,ho,_⟩,l1,m1,rfl,r1,r2,r3,r4,⟨la,ln,lc,rfl,_⟩,⟨ma,mn,mc,rfl,_⟩⟩:=hq
   have hd0:=hcell 0 (by simp)
   have hd1:=hcell 1 (by simp)
   have hd2:=hcell 2 (by simp)
   have hd3:=hcell 3 (by simp)
   have hd4:=hcell 4 (by simp)
   have hd5:=hcell 5 (by simp)
   have hd6:=hcell 6 (by simp)
   have hd7:=hcell 7 (by simp)
   simp only[Nat.add_zero,List.getElem_cons_zero,List.getElem_cons_succ]at hd0 hd1 hd2 hd3 hd4 hd5 hd6 hd7
   have HPX:Hid (parL f i=X.params):=hid (by rw[parL_at hif,hX])
   have HLT:=hid hlt
   have HXR:=hid hpr
   have HXN:=hid hp
   have HX8:Hid (pn≤140737488355328):=hid (by omega)
   obtain⟨x0,x1,x2⟩:=HC.out wr HI.out.2
   clear hcell hp ho hl8 hif hX r1 r2 r3 r4 hpn0 hpn8 hpr
   go_upto_region 6 with fail
   obtain⟨Y,hY⟩:∃ u,u=wr.alloc (.cells #[.slice pa pn pc,.slice oa on oc,.int .i64 X.fin.K,.int .i64 X.fin.A,.int .i64 X.fin.To,.int .i64 X.fin.Else,.slice la ln lc,.slice ma mn mc] 51):=⟨_,rfl⟩
   have hbY:Below wr.heap.size wr Y:=by rw[hY];exact(Below.refl _ wr).alloc (Nat.le_refl _) _
   have hcY:∀ j,Y.cell? ⟨wr.heap.size,j,none⟩=(#[.slice pa pn pc,.slice oa on oc,.int .i64 X.fin.K,.int .i64 X.fin.A,.int .i64 X.fin.To,.int .i64 X.fin.Else,.slice la ln lc,.slice ma mn mc]:Array Value)[j]? :=fun j=>by rw[hY];exact World.cell?_alloc_mark _ _ _ _ _
   have e0:=hcY 0
   rw[←hY]
   have hbW:Below W1.heap.size W1 Y:=HI.out.2.trans (hbY.mono HI.out.2.size)
   have HBW:=hid hbW
   have CK:=hid (wknown_any g pa pn pc X.params Y (HP.out.since hbW) (HXN.out.since hbY) HXR.out HX8.out)
   obtain⟨y0,y1,y2⟩:=HC.out Y hbW
   clear hcY hbY hY hbW hd0 hd1 hd2 hd3 hd4 hd5 hd6 hd7 x0 x1 x2
   go_wp2_with(go_at_call 50;(with_reducible refine CK.out.mono ?_);intro e w5 hq;rcases hq.split with⟨hk,rfl,hb⟩|⟨hk,rfl,hb⟩;rotate_left;(exact⟨rfl,RulePost.bad (by unfold headB;have h0:=allK_no (p:=fun i=>knownB P (parL f i)) HLT.out (by simp only[HPX.out];exact hk);rw[HLEN.out]at h0;rw[h0];simp) (HB.out.trans ((HBW.out.trans (hb.mono HBW.out.size)).mono HB.out.size))⟩);have HK5:Hid (allK (fun i=>knownB P (parL f i)) (i+1)=true∧Below W1.heap.size W1 w5):=hid ⟨allK_more HI.out.1 (by simp only[HPX.out];exact hk),HBW.out.trans (hb.mono HBW.out.size)⟩;clear hk hb)
   go_roundw
   case rel=>exact⟨i+1,HLT.out,by go_num,HK5⟩
   case measure=>have:=HLT.out;simp[intOf];omega
  ·obtain rfl:i=n:=by omega
   have hnn:¬ (i:Int)<(i:Int):=by omega
   have HK:Hid (headB P f=true):=hid (by unfold headB;have h0:=HI.out.1;rw[HLEN.out]at h0;rw[h0,HK2.out,←HRT.out,HK1.out];rfl)
   go_wp2_with fail
   go_end0
   exact RulePost.good HK.out (HB.out.trans (HI.out.2.mono HB.out.size))
set_option maxHeartbeats 2000000 in
theorem wmain_any(g:Nat)(a:Option Addr)(n c:Nat)(f:FuncD)(w:World)(hf:FuncQ w [.int .i64 f.ret,.slice a n c] f)(h0:0<f.blocks.length):
 Calls Tryz.prog 53 #[.agg #[.pointer (some ⟨g,0,none⟩)],.agg #[.int .i64 f.ret,.slice a n c]] w (RulePost (mainB f) w):=by
 obtain⟨hb1,hc,hd,hs1⟩:=rules_box2 w g #[.int .i64 f.ret,.slice a n c] 36
 obtain⟨W1,hW1⟩:∃ U,(w.alloc (.cells #[.pointer (some ⟨g,0,none⟩)] 68)).alloc (.cells #[.int .i64 f.ret,.slice a n c] 36)=U:=⟨_,rfl⟩
 rw[hW1]at hb1 hc hd hs1
 obtain⟨hrow,hlen⟩:=funcQ_row hf
 have HB:=hid hb1
 have hd0:=hd 0
 have hd1:=hd 1
 have hn0:0<n:=by omega
 obtain⟨g8,off8,cs,hif,rfl,hl8,hcell,hq⟩:=(hrow.since BlockQ.lasts hb1).elem hn0
 obtain⟨X,hX⟩:∃ X,X=f.blocks[0]:=⟨_,rfl⟩
 rw[←hX]at hq
 obtain⟨pv,ov,es,rfl,⟨pa,pn,pc,rfl,hp,_⟩,_⟩:=hq
 have hcz:=hcell 0 (by simp)
 simp only[Nat.add_zero,Nat.zero_mul,List.getElem_cons_zero,List.getElem_cons_succ]at hcz
 have HPX:Hid (parL f 0=X.params):=hid (by rw[parL_at hif,hX])
 have HXN:=hid hp
 have hnz:(0:Int)<(n:Int):=by omega
 obtain⟨rt,hrt⟩:∃ t,t=f.ret:=⟨_,rfl⟩
 have HRT:=hid hrt
 rw[←hrt]at hd0 hW1⊢
 clear hb1 hs1 hf hrow hd hlen hrt hcell hp hX hif hl8 h0 hc hn0
 go_enter Tryz.func53,Tryz.ntmps53
 go_upto_region 1 with fail
 try rw[hW1]
 clear hW1
 go_upto_region 2 with(go_at_call 49;(with_reducible refine(need_any _ _).mono ?_);intro e w3 hq;rcases hq.split with⟨hk,rfl,rfl⟩|⟨hk,rfl,rfl⟩;rotate_left;(exact⟨rfl,RulePost.bad (by unfold mainB;rw[←HRT.out,hk];rfl) HB.out⟩);have HK2:=hid hk;clear hk)
 go_upto_region 3 with fail
 go_loopw[16] (fun v16 wr=>∃ i:Nat,i≤pn∧v16=.int .i64 (i:Int)∧wr=W1∧Hid (allK (fun i=>nth X.params i==0) i=true)) (fun iv _=>pn-(intOf iv).toNat)
 case atStart=>exact⟨0,Nat.zero_le _,rfl,rfl,hid rfl⟩
 case round=>
  obtain⟨i,hi,rfl,rfl,HI⟩:=hrel
  by_cases hlt:i<pn
  ·have hltz:(i:Int)<(pn:Int):=by omega
   have hi0:(0:Int)≤(i:Int):=by omega
   have hil:i<X.params.length:=by have:=HXN.out.1;omega
   obtain⟨ga,oa,rfl,hg,hcell⟩:=HXN.out.2 (by omega)
   have hz:wr.cell? ⟨ga,oa+i,none⟩=some (.int .i64 (nth X.params i)):=by rw[hcell i hil,nth_is hil];rfl
   have HIL:=hid hlt
   obtain⟨z,hzz⟩:∃ z,z=nth X.params i:=⟨_,rfl⟩
   have HZZ:=hid hzz
   rw[←hzz]at hz
   clear hcell hg hil hzz
   go_wp2_with(go_at_call 49;(with_reducible refine(need_any _ _).mono ?_);intro e w3 hq;rcases hq.split with⟨hk,rfl,rfl⟩|⟨hk,rfl,rfl⟩;rotate_left;(exact⟨rfl,RulePost.bad (by unfold mainB intsB;rw[HPX.out,HXN.out.1,allK_no (p:=fun i=>nth X.params i==0) HIL.out (by simp only[←HZZ.out];exact hk)];simp) HB.out⟩);have HK3:Hid (allK (fun i=>nth X.params i==0) (i+1)=true):=hid (allK_more HI.out (by simp only[←HZZ.out];exact hk));clear hk)
   go_roundw
   case rel=>exact⟨i+1,HIL.out,by go_num,(by first|rfl|trivial),HK3⟩
   case measure=>have:=HIL.out;simp[intOf];omega
  ·obtain rfl:i=pn:=by omega
   have hnn:¬ (i:Int)<(i:Int):=by omega
   have HK:Hid (mainB f=true):=hid (by unfold mainB intsB;rw[HPX.out,HXN.out.1,HI.out,←HRT.out,HK2.out];rfl)
   go_wp2_with fail
   go_end0
   exact RulePost.good HK.out HB.out
structure BodyAt(W:World)(g:Nat)(sa:Option Addr)(sn sc:Nat)(ca:Option Addr)(cn cc:Nat)(pa:Option Addr)(pn pc:Nat)(P:ProgD)(a:Option Addr)(n c:Nat)(f:FuncD)(fa ua:Option Addr)(m:Nat)(UP:List Int)(ta:Option Addr)(tn:Nat)(T:List Int):Prop where
 prog:ProgAt W g sa sn sc ca cn cc pa pn pc P
 scop:ScopeAt W a n c f fa ua m UP
 typ:NumsAt W ta tn T
 len:tn=valuesN f
 rng:∀ z∈T,InR z
 ret:InR f.ret
 ft:FT W
theorem BodyAt.since{W W':World}{g:Nat}{sa:Option Addr}{sn sc:Nat}{ca:Option Addr}{cn cc:Nat}{pa:Option Addr}{pn pc:Nat}{P:ProgD}{a:Option Addr}{n c:Nat}{f:FuncD}{fa ua:Option Addr}{m:Nat}{UP:List Int}{ta:Option Addr}{tn:Nat}{T:List Int}(h:BodyAt W g sa sn sc ca cn cc pa pn pc P a n c f fa ua m UP ta tn T)(hb:Below W.heap.size W W'):BodyAt W' g sa sn sc ca cn cc pa pn pc P a n c f fa ua m UP ta tn T:=
 ⟨h.prog.since hb,h.scop.since hb,h.typ.since hb,h.len,h.rng,h.ret,h.ft.since hb⟩
theorem body_box(w:World)(C:Array Value):Below w.heap.size w (w.alloc (.cells C 98))∧(∀j,(w.alloc (.cells C 98)).cell? ⟨w.heap.size,j,none⟩=C[j]?)∧(w.alloc (.cells C 98)).heap.size=w.heap.size+1:=
 ⟨(Below.refl _ w).alloc (Nat.le_refl _) _,fun j=>World.cell?_alloc_mark _ _ _ _ _,by simp⟩
theorem sees_value{f:FuncD}{x a v:Int}(h:seesB f x a v=true):∃ u:Nat,v=(u:Int)∧u<valuesN f:=by
 obtain⟨b,k,u,_,_,e,_,_,hu,_⟩:=sees_iff.1 h
 exact⟨u,e,hu⟩
set_option maxHeartbeats 2000000 in
theorem wused_any{g:Nat}{sa:Option Addr}{sn sc:Nat}{ca:Option Addr}{cn cc:Nat}{pa:Option Addr}{pn pc:Nat}{P:ProgD}{a:Option Addr}{n c:Nat}{f:FuncD}{fa ua:Option Addr}{m:Nat}{UP:List Int}{ta:Option Addr}{tn:Nat}{T:List Int}(fc uc tc:Nat)(x k:Nat)(v:Int)(w:World)(h:BodyAt w g sa sn sc ca cn cc pa pn pc P a n c f fa ua m UP ta tn T):
 Calls Tryz.prog 119 #[.agg #[.pointer (some ⟨g,0,none⟩),.int .i64 f.ret,.slice a n c,.slice fa (n+1) fc,.slice ua n uc,.slice ta tn tc],.int .i64 (x:Int),.int .i64 (k:Int),.int .i64 v] w (RulePost (usedB f T x k v) w):=by
 obtain⟨hb1,hd,hs1⟩:=body_box w #[.pointer (some ⟨g,0,none⟩),.int .i64 f.ret,.slice a n c,.slice fa (n+1) fc,.slice ua n uc,.slice ta tn tc]
 obtain⟨W1,hW1⟩:∃ U,w.alloc (.cells #[.pointer (some ⟨g,0,none⟩),.int .i64 f.ret,.slice a n c,.slice fa (n+1) fc,.slice ua n uc,.slice ta tn tc] 98)=U:=⟨_,rfl⟩
 rw[hW1]at hb1 hd hs1
 have hB:=h.since hb1
 have HB:=hid hb1
 have HBD:=hid hB
 have hd1:=hd 1
 have hd2:=hd 2
 have hd3:=hd 3
 have hd4:=hd 4
 have CS:=hid (wsees_any (r:=f.ret) (fc:=fc) (uc:=uc) hB.scop (x:Int) (k:Int) v)
 have HD5:Hid (∀U,Below W1.heap.size W1 U→U.cell? ⟨w.heap.size,5,none⟩=some (.slice ta tn tc)):=hid fun U hU=>(hU.cell (p:=⟨w.heap.size,5,none⟩) (by simp only[];omega)).trans (hd 5)
 obtain⟨rt,hrt⟩:∃ t,t=f.ret:=⟨_,rfl⟩
 rw[←hrt]at hd1 CS hW1⊢
 obtain⟨sb,hsb⟩:∃ b,b=seesB f (x:Int) (k:Int) v:=⟨_,rfl⟩
 rw[←hsb]at CS
 have HSB:=hid hsb
 clear hb1 hs1 h hB hd hrt hsb
 go_enter Tryz.func119,Tryz.ntmps119
 go_upto_region 1 with fail
 try rw[hW1]
 clear hW1
 go_upto_region 2 with(first
  |(go_at_call 43;(with_reducible refine CS.out.mono ?_);rintro e w2 ⟨rfl,hb⟩;have HB2:=hid hb;have h5:=HD5.out w2 hb;clear hb)
  |(go_at_call 49;(with_reducible refine(need_any _ _).mono ?_);intro e w3 hq;rcases hq.split with⟨hk,rfl,rfl⟩|⟨hk,rfl,rfl⟩;rotate_left;(exact⟨rfl,RulePost.bad (by unfold usedB;rw[←HSB.out,hk];rfl) (HB.out.trans (HB2.out.mono HB.out.size))⟩);have HK1:=hid hk;clear hk))
 clear hd1 hd2 hd3 hd4
 have hsee:seesB f (x:Int) (k:Int) v=true:=by rw[←HSB.out];exact HK1.out
 obtain⟨u,rfl,hu⟩:=sees_value hsee
 have HSE:=hid hsee
 have hut:u<T.length:=by rw[HBD.out.typ.1,HBD.out.len];exact hu
 have hutn:u<tn:=by rw[←HBD.out.typ.1];exact hut
 have hu0:(0:Int)≤(u:Int):=by omega
 have huz:(u:Int)<(tn:Int):=by omega
 obtain⟨gt,ot,rfl,_,htc⟩:=(HBD.out.typ.since HB2.out).2 (by omega)
 have htz:w2.cell? ⟨gt,ot+u,none⟩=some (.int .i64 (nth T u)):=by rw[htc u hut,nth_is hut];rfl
 obtain⟨z,hzz⟩:∃ z,z=nth T u:=⟨_,rfl⟩
 have HZZ:=hid hzz
 rw[←hzz]at htz
 clear htc hut hutn hu hsee hzz
 go_wp2_with(go_at_call 49;(with_reducible refine(need_any _ _).mono ?_);intro e w3 hq;rcases hq.split with⟨hk,rfl,rfl⟩|⟨hk,rfl,rfl⟩;rotate_left;(exact⟨rfl,RulePost.bad (by unfold usedB;rw[HSE.out,Int.toNat_natCast,←HZZ.out];simpa using hk) (HB.out.trans (HB2.out.mono HB.out.size))⟩);have HR:Hid (RulePost (usedB f T x k (u:Int)) w (.returned (.tuple #[])) w2):=hid (RulePost.good (by unfold usedB;rw[HSE.out,Int.toNat_natCast,←HZZ.out];simpa using hk) (HB.out.trans (HB2.out.mono HB.out.size)));clear hk)
 go_end0
 exact HR.out
theorem body_keeps{w W1:World}{v0 v1 v2 v3 v4 v5:Value}(hs1:w.heap.size<W1.heap.size)(hd:∀ j,W1.cell? ⟨w.heap.size,j,none⟩=(#[v0,v1,v2,v3,v4,v5]:Array Value)[j]?)(U:World)(hU:Below W1.heap.size W1 U):U.cell? ⟨w.heap.size,0,none⟩=some v0∧U.cell? ⟨w.heap.size,1,none⟩=some v1∧U.cell? ⟨w.heap.size,2,none⟩=some v2∧U.cell? ⟨w.heap.size,3,none⟩=some v3∧U.cell? ⟨w.heap.size,4,none⟩=some v4∧U.cell? ⟨w.heap.size,5,none⟩=some v5:=
 ⟨(hU.cell (p:=⟨w.heap.size,0,none⟩) hs1).trans (hd 0),(hU.cell (p:=⟨w.heap.size,1,none⟩) hs1).trans (hd 1),(hU.cell (p:=⟨w.heap.size,2,none⟩) hs1).trans (hd 2),(hU.cell (p:=⟨w.heap.size,3,none⟩) hs1).trans (hd 3),(hU.cell (p:=⟨w.heap.size,4,none⟩) hs1).trans (hd 4),(hU.cell (p:=⟨w.heap.size,5,none⟩) hs1).trans (hd 5)⟩
set_option maxHeartbeats 4000000 in
theorem wended_any{g:Nat}{sa:Option Addr}{sn sc:Nat}{ca:Option Addr}{cn cc:Nat}{pa:Option Addr}{pn pc:Nat}{P:ProgD}{a:Option Addr}{n c:Nat}{f:FuncD}{fa ua:Option Addr}{m:Nat}{UP:List Int}{ta:Option Addr}{tn:Nat}{T:List Int}(fc uc tc:Nat)(x:Nat)(v t:Int)(w:World)(h:BodyAt w g sa sn sc ca cn cc pa pn pc P a n c f fa ua m UP ta tn T)(hx:x<n):
 Calls Tryz.prog 120 #[.agg #[.pointer (some ⟨g,0,none⟩),.int .i64 f.ret,.slice a n c,.slice fa (n+1) fc,.slice ua n uc,.slice ta tn tc],.int .i64 (x:Int),.int .i64 v,.int .i64 t] w (RulePost (endedB f T x v t) w):=by
 obtain⟨hb1,hd,hs1⟩:=body_box w #[.pointer (some ⟨g,0,none⟩),.int .i64 f.ret,.slice a n c,.slice fa (n+1) fc,.slice ua n uc,.slice ta tn tc]
 obtain⟨W1,hW1⟩:∃ U,w.alloc (.cells #[.pointer (some ⟨g,0,none⟩),.int .i64 f.ret,.slice a n c,.slice fa (n+1) fc,.slice ua n uc,.slice ta tn tc] 98)=U:=⟨_,rfl⟩
 rw[hW1]at hb1 hd hs1
 have hB:=h.since hb1
 have HB:=hid hb1
 have HBD:=hid hB
 have hxl:x<f.blocks.length:=by rw[←hB.scop.len];exact hx
 obtain⟨g8,off8,qa,qc,oa,oc,rfl,hq0,hq1⟩:=hB.scop.block hxl
 have hg8:g8<W1.heap.size:=World.block_lt_of_cell? _ _ hq1
 obtain⟨on,hon⟩:∃ z,z=f.blocks[x].ops.length:=⟨_,rfl⟩
 have hopn:opsN f x=on:=by rw[opsN_at hxl,hon]
 rw[←hon]at hq1
 have HON:=hid hopn
 have hsl:w.heap.size<W1.heap.size:=by omega
 have HD5:=hid (fun U hU=>(body_keeps hsl hd U hU).2.2.2.2.2)
 have CU:Hid (∀u,Below W1.heap.size W1 u→Calls Tryz.prog 119 #[.agg #[.pointer (some ⟨g,0,none⟩),.int .i64 f.ret,.slice (some ⟨g8,off8,none⟩) n c,.slice fa (n+1) fc,.slice ua n uc,.slice ta tn tc],.int .i64 (x:Int),.int .i64 (on:Int),.int .i64 v] u (RulePost (usedB f T x on v) u)):=hid fun u hu=>wused_any fc uc tc x on v u (hB.since hu)
 obtain⟨rt,hrt⟩:∃ t,t=f.ret:=⟨_,rfl⟩
 rw[←hrt]at hd CU hW1⊢
 have HS0:Hid (∀u,Below W1.heap.size W1 u→u.cell? ⟨w.heap.size,0,none⟩=some (.pointer (some ⟨g,0,none⟩))∧u.cell? ⟨w.heap.size,1,none⟩=some (.int .i64 rt)∧u.cell? ⟨w.heap.size,2,none⟩=some (.slice (some ⟨g8,off8,none⟩) n c)∧u.cell? ⟨w.heap.size,3,none⟩=some (.slice fa (n+1) fc)∧u.cell? ⟨w.heap.size,4,none⟩=some (.slice ua n uc)∧u.cell? ⟨w.heap.size,5,none⟩=some (.slice ta tn tc)∧u.cell? ⟨g8,off8+x*8+1,none⟩=some (.slice oa on oc)):=hid fun u hu=>by
  obtain⟨c0,c1,c2,c3,c4,c5⟩:=body_keeps hsl hd u hu
  exact⟨c0,c1,c2,c3,c4,c5,(hu.cell (p:=⟨g8,off8+x*8+1,none⟩) hg8).trans hq1⟩
 have hxz:(x:Int)<(n:Int):=by omega
 have hx0:(0:Int)≤(x:Int):=by omega
 clear hb1 hs1 h hB hd hrt hq0 hq1 hg8 hon hopn hsl hxl
 go_enter Tryz.func120,Tryz.ntmps120
 go_upto_region 1 with fail
 try rw[hW1]
 clear hW1
 refine wp_region_T (S:=(fun u:World=>u.cell? ⟨w.heap.size,0,none⟩=some (.pointer (some ⟨g,0,none⟩))∧u.cell? ⟨w.heap.size,1,none⟩=some (.int .i64 rt)∧u.cell? ⟨w.heap.size,2,none⟩=some (.slice (some ⟨g8,off8,none⟩) n c)∧u.cell? ⟨w.heap.size,3,none⟩=some (.slice fa (n+1) fc)∧u.cell? ⟨w.heap.size,4,none⟩=some (.slice ua n uc)∧u.cell? ⟨w.heap.size,5,none⟩=some (.slice ta tn tc)∧u.cell? ⟨g8,off8+x*8+1,none⟩=some (.slice oa on oc))) 13 (by kernel_rfl) (HS0.out _ ((Below.refl _ W1).drew)) (fun hHeld=> ?_)
 refine wpAnyT_take (i:=0) (oi:=⟨some 8,_,_,_,_,_⟩) (v:= ?_) 8 rfl (by kernel_rfl) (by kernel_rfl) (by kernel_rfl) (by kernel_rfl) (by kernel_rfl) (fun _ _ _ h=>h) (Or.inl ⟨by rfl, ?_⟩) (by assumption) ?_
 rotate_left
 ·((intro w hSw;(try dsimp only at hSw);go_simp);try with_reducible rfl)
 (try simp only[Act.put,zA,zB,zC])
 refine wpAnyT_takeW (i:=1) (oi:=⟨some 9,_,_,_,_,_⟩) (v:= ?_) rfl (by kernel_rfl) (by kernel_rfl) (by kernel_rfl) (fun _ _ _ h=>h) (Or.inl ⟨by rfl, ?_⟩) ?_
 rotate_left
 ·((intro w _;go_simp);try with_reducible rfl)
 (try simp only[Act.put,zA,zB,zC])
 refine wpAnyT_takeW (i:=2) (oi:=⟨some 10,_,_,_,_,_⟩) (v:= ?_) rfl (by kernel_rfl) (by kernel_rfl) (by kernel_rfl) (fun _ _ _ h=>h) (Or.inl ⟨by rfl, ?_⟩) ?_
 rotate_left
 ·((intro w _;go_simp);try with_reducible rfl)
 (try simp only[Act.put,zA,zB,zC])
 refine wpAnyT_takeW (i:=3) (oi:=⟨some 11,_,_,_,_,_⟩) (v:= ?_) rfl (by kernel_rfl) (by kernel_rfl) (by kernel_rfl) (fun _ _ _ h=>h) (Or.inl ⟨by rfl, ?_⟩) ?_
 rotate_left
 ·((intro w _;go_simp);try with_reducible rfl)
 (try simp only[Act.put,zA,zB,zC])
 refine wpAnyT_takeW (i:=4) (oi:=⟨some 12,_,_,_,_,_⟩) (v:= ?_) rfl (by kernel_rfl) (by kernel_rfl) (by kernel_rfl) (fun _ _ _ h=>h) (Or.inl ⟨by rfl, ?_⟩) ?_
 rotate_left
 ·((intro w _;go_simp);try with_reducible rfl)
 (try simp only[Act.put,zA,zB,zC])
 refine wpAnyT_take (i:=5) (oi:=⟨some 13,_,_,_,_,_⟩) (v:= ?_) 8 rfl (by kernel_rfl) (by kernel_rfl) (by kernel_rfl) (by kernel_rfl) (by kernel_rfl) (fun _ _ _ h=>h) (Or.inl ⟨by rfl, ?_⟩) (by assumption) ?_
 rotate_left
 ·((intro w hSw;(try dsimp only at hSw);go_simp);try with_reducible rfl)
 (try simp only[Act.put,zA,zB,zC])
 refine wpAnyT_takeW (i:=6) (oi:=⟨some 14,_,_,_,_,_⟩) (v:= ?_) rfl (by kernel_rfl) (by kernel_rfl) (by kernel_rfl) (fun _ _ _ h=>h) (Or.inl ⟨by rfl, ?_⟩) ?_
 rotate_left
 ·((intro w _;go_simp);try with_reducible rfl)
 (try simp only[Act.put,zA,zB,zC])
 refine wpAnyT_takeW (i:=7) (oi:=⟨some 15,_,_,_,_,_⟩) (v:= ?_) rfl (by kernel_rfl) (by kernel_rfl) (by kernel_rfl) (fun _ _ _ h=>h) (Or.inl ⟨by rfl, ?_⟩) ?_
 rotate_left
 ·((intro w _;go_simp);try with_reducible rfl)
 (try simp only[Act.put,zA,zB,zC])
 refine wpAnyT_takeW (i:=8) (oi:=⟨some 16,_,_,_,_,_⟩) (v:= ?_) rfl (by kernel_rfl) (by kernel_rfl) (by kernel_rfl) (fun _ _ _ h=>h) (Or.inl ⟨by rfl, ?_⟩) ?_
 rotate_left
 ·((intro w _;go_simp);try with_reducible rfl)
 (try simp only[Act.put,zA,zB,zC])
 refine wpAnyT_take (i:=9) (oi:=⟨some 17,_,_,_,_,_⟩) (v:= ?_) 8 rfl (by kernel_rfl) (by kernel_rfl) (by kernel_rfl) (by kernel_rfl) (by kernel_rfl) (fun _ _ _ h=>h) (Or.inl ⟨by rfl, ?_⟩) (by assumption) ?_
 rotate_left
 ·((intro w hSw;(try dsimp only at hSw);go_simp);try with_reducible rfl)
 (try simp only[Act.put,zA,zB,zC])
 refine wpAnyT_takeW (i:=10) (oi:=⟨some 18,_,_,_,_,_⟩) (v:= ?_) rfl (by kernel_rfl) (by kernel_rfl) (by kernel_rfl) (fun _ _ _ h=>h) (Or.inl ⟨by rfl, ?_⟩) ?_
 rotate_left
 ·((intro w _;go_simp);try with_reducible rfl)
 (try simp only[Act.put,zA,zB,zC])
 refine wpAnyT_takeW (i:=11) (oi:=⟨some 19,_,_,_,_,_⟩) (v:= ?_) rfl (by kernel_rfl) (by kernel_rfl) (by kernel_rfl) (fun _ _ _ h=>h) (Or.inl ⟨by rfl, ?_⟩) ?_
 rotate_left
 ·((intro w _;go_simp);try with_reducible rfl)
 (try simp only[Act.put,zA,zB,zC])
 refine wpAnyT_one (i:=12) (by kernel_rfl) rfl (fun K hK=> ?_)
 rw[if_pos (by rfl)]
 go_simp
 (with_reducible refine(CU.out _ ((Below.refl _ W1).drew)).mono ?_)
 intro e w2 hq
 rcases hq.split with⟨hk,rfl,hb⟩|⟨hk,rfl,hb⟩
 rotate_left
 ·exact⟨rfl,RulePost.bad (by unfold endedB;rw[HON.out,hk];rfl) (HB.out.trans (((Below.refl _ W1).drew.trans (hb.mono (Nat.le_refl _))).mono HB.out.size))⟩
 have hb2:Below W1.heap.size W1 w2:=(Below.refl _ W1).drew.trans (hb.mono (Nat.le_refl _))
 have HB2:=hid hb2
 have HK1:=hid hk
 clear hk hb hb2
 refine hK.out _ _ (HS0.out _ HB2.out) (fun hHeld=> ?_)
 clear hK K
 (try simp only[Act.put,zA,zB,zC])
 refine wpAnyT_done (by kernel_rfl) ?_
 have hsee:seesB f (x:Int) ((opsN f x:Nat):Int) v=true:=by
  have h1:=HK1.out
  unfold usedB at h1
  rw[←HON.out]at h1
  exact(Bool.and_eq_true_iff.1 h1).1
 obtain⟨u,rfl,hu⟩:=sees_value hsee
 have hut:u<T.length:=by rw[HBD.out.typ.1,HBD.out.len];exact hu
 have hutn:u<tn:=by rw[←HBD.out.typ.1];exact hut
 have hu0:(0:Int)≤(u:Int):=by omega
 have huz:(u:Int)<(tn:Int):=by omega
 obtain⟨gt,ot,rfl,_,htc⟩:=(HBD.out.typ.since HB2.out).2 (by omega)
 have htz:w2.cell? ⟨gt,ot+u,none⟩=some (.int .i64 (nth T u)):=by rw[htc u hut,nth_is hut];rfl
 have h5:=HD5.out w2 HB2.out
 obtain⟨z,hzz⟩:∃ z,z=nth T u:=⟨_,rfl⟩
 have HZZ:=hid hzz
 rw[←hzz]at htz
 clear htc hut hutn hu hsee hzz
 go_wp2_with(go_at_call 49;(with_reducible refine(need_any _ _).mono ?_);intro e w3 hq;rcases hq.split with⟨hk,rfl,rfl⟩|⟨hk,rfl,rfl⟩;rotate_left;(exact⟨rfl,RulePost.bad (by unfold endedB;rw[HON.out,HK1.out,Int.toNat_natCast,←HZZ.out];simpa using hk) (HB.out.trans (HB2.out.mono HB.out.size))⟩);have HR:Hid (RulePost (endedB f T x (u:Int) t) w (.returned (.tuple #[])) w2):=hid (RulePost.good (by unfold endedB;rw[HON.out,HK1.out,Int.toNat_natCast,←HZZ.out];simpa using hk) (HB.out.trans (HB2.out.mono HB.out.size)));clear hk)
 go_end0
 exact HR.out
set_option maxHeartbeats 4000000 in
theorem wtarget_any{g:Nat}{sa:Option Addr}{sn sc:Nat}{ca:Option Addr}{cn cc:Nat}{pa:Option Addr}{pn pc:Nat}{P:ProgD}{a:Option Addr}{n c:Nat}{f:FuncD}{fa ua:Option Addr}{m:Nat}{UP:List Int}{ta:Option Addr}{tn:Nat}{T:List Int}(fc uc tc:Nat)(x:Nat)(To:Int)(L:List Int)(la:Option Addr)(ln lc:Nat)(w:World)(h:BodyAt w g sa sn sc ca cn cc pa pn pc P a n c f fa ua m UP ta tn T)(hx:x<n)(hL:NumsAt w la ln L)(hln:ln≤140737488355328):
 Calls Tryz.prog 122 #[.agg #[.pointer (some ⟨g,0,none⟩),.int .i64 f.ret,.slice a n c,.slice fa (n+1) fc,.slice ua n uc,.slice ta tn tc],.int .i64 (x:Int),.agg #[.int .i64 To,.slice la ln lc]] w (RulePost (targB f T x (To,L)) w):=by
 have h2:=two_new_cells w #[.pointer (some ⟨g,0,none⟩),.int .i64 f.ret,.slice a n c,.slice fa (n+1) fc,.slice ua n uc,.slice ta tn tc] #[.int .i64 To,.slice la ln lc] 98 142
 obtain⟨W1,hW1⟩:∃ U,(w.alloc (.cells #[.pointer (some ⟨g,0,none⟩),.int .i64 f.ret,.slice a n c,.slice fa (n+1) fc,.slice ua n uc,.slice ta tn tc] 98)).alloc (.cells #[.int .i64 To,.slice la ln lc] 142)=U:=⟨_,rfl⟩
 have hb1:Below w.heap.size w W1:=by rw[←hW1];exact((Below.refl _ w).alloc (Nat.le_refl _) _).alloc (by simp) _
 have hs1:W1.heap.size=w.heap.size+2:=by rw[←hW1];simp
 rw[hW1]at h2
 obtain⟨hd,he⟩:=h2
 have hB:=h.since hb1
 have HB:=hid hb1
 have HBD:=hid hB
 have HX:=hid hx
 have HL:=hid (hL.since hb1)
 have HLN:Hid (L.length=ln):=hid hL.1
 have hsl:w.heap.size<W1.heap.size:=by omega
 have he0:=he 0
 have he1:=he 1
 have hd2:=hd 2
 have HE1:Hid (∀U,Below W1.heap.size W1 U→U.cell? ⟨w.heap.size+1,1,none⟩=some (.slice la ln lc)):=hid fun U hU=>(hU.cell (p:=⟨w.heap.size+1,1,none⟩) (by simp only[];omega)).trans (he 1)
 have hn8:n≤100000:=hB.scop.small
 have hnl:=hB.scop.len
 by_cases hT0:0<To
 ·obtain⟨k,rfl⟩:=Int.eq_ofNat_of_zero_le (by omega:0≤To)
  by_cases hTn:k<n
  ·have hTz:(k:Int)<(n:Int):=by omega
   have hk0:(0:Int)≤(k:Int):=by omega
   obtain⟨g8,off8,cs,hif,rfl,hl8,hcell,hq⟩:=hB.scop.row.elem hTn
   obtain⟨X,hX⟩:∃ X,X=f.blocks[k]:=⟨_,rfl⟩
   rw[←hX]at hq
   obtain⟨pv,ov,es,rfl,⟨qa,qn,qc,rfl,hq0,_⟩,_⟩:=hq
   have hq1:=hcell 0 (by simp)
   simp only[Nat.add_zero,List.getElem_cons_zero]at hq1
   have hpar:parL f k=X.params:=by rw[parL_at hif,hX]
   have HQN:=hid hq0
   have HQL:Hid (X.params.length=qn):=hid hq0.1
   have HTG:Hid (targB f T x ((k:Int),L)=(decide (ln=qn)&&allK (fun i=>endedB f T x (nth L i) (nth X.params i)) ln)):=hid (by
    unfold targB
    rw[decide_eq_true (show 0<(k:Int)∧(k:Int)<(f.blocks.length:Int)from⟨hT0,by omega⟩)]
    simp only[Int.toNat_natCast,hpar,hL.1,hq0.1,Bool.true_and])
   have CU:Hid (∀u,Below W1.heap.size W1 u→∀ v t,Calls Tryz.prog 120 #[.agg #[.pointer (some ⟨g,0,none⟩),.int .i64 f.ret,.slice (some ⟨g8,off8,none⟩) n c,.slice fa (n+1) fc,.slice ua n uc,.slice ta tn tc],.int .i64 (x:Int),.int .i64 v,.int .i64 t] u (RulePost (endedB f T x v t) u)):=hid fun u hu v t=>wended_any fc uc tc x v t u (hB.since hu) hx
   obtain⟨rt,hrt⟩:∃ t,t=f.ret:=⟨_,rfl⟩
   rw[←hrt]at hd CU hW1⊢
   have HS6:Hid (∀u,Below W1.heap.size W1 u→u.cell? ⟨w.heap.size,0,none⟩=some (.pointer (some ⟨g,0,none⟩))∧u.cell? ⟨w.heap.size,1,none⟩=some (.int .i64 rt)∧u.cell? ⟨w.heap.size,2,none⟩=some (.slice (some ⟨g8,off8,none⟩) n c)∧u.cell? ⟨w.heap.size,3,none⟩=some (.slice fa (n+1) fc)∧u.cell? ⟨w.heap.size,4,none⟩=some (.slice ua n uc)∧u.cell? ⟨w.heap.size,5,none⟩=some (.slice ta tn tc)):=hid fun u hu=>body_keeps hsl hd u hu
   obtain⟨bb,hbb1⟩:∃ b,((ln:Int)==(qn:Int))=b:=⟨_,rfl⟩
   have hbb2:(ln==qn)=bb:=by rw[←hbb1,Bool.eq_iff_iff,beq_iff_eq,beq_iff_eq];omega
   have HBB:Hid (decide (ln=qn)=bb):=hid (by rw[←hbb2];rfl)
   have HBQ:Hid (bb=true↔ln=qn):=hid (by rw[←hbb2,beq_iff_eq])
   clear hcell hl8 hX hpar hq0 hb1 hs1 h hB hrt hsl hL hif hx hnl
   go_enter Tryz.func122,Tryz.ntmps122
   go_upto_region 1 with fail
   try rw[hW1]
   clear hW1
   go_upto_region 2 with(go_at_call 49;(with_reducible refine(need_any _ _).mono ?_);intro e w3 hq;rcases hq.split with⟨hk,rfl,rfl⟩|⟨hk,rfl,rfl⟩;rotate_left;(exfalso;cases hk);clear hk)
   go_upto_region 4 with(go_at_call 49;(with_reducible refine(need_any _ _).mono ?_);intro e w3 hq;rcases hq.split with⟨hk,rfl,rfl⟩|⟨hk,rfl,rfl⟩;rotate_left;(exact⟨rfl,RulePost.bad (by rw[HTG.out,HBB.out,hk];rfl) HB.out⟩);have HK1:=hid hk;clear hk)
   clear hd2 he0 hbb1 hbb2 hd he
   have HLQ:Hid (ln=qn):=hid (HBQ.out.1 HK1.out)
   go_upto_region 5 with fail
   clear he1 hq1
   go_loopw[42] (fun v42 wr=>∃ i:Nat,i≤ln∧v42=.int .i64 (i:Int)∧Hid (allK (fun i=>endedB f T x (nth L i) (nth X.params i)) i=true∧Below W1.heap.size W1 wr)) (fun iv _=>ln-(intOf iv).toNat)
   case atStart=>exact⟨0,Nat.zero_le _,rfl,hid ⟨rfl,Below.refl _ _⟩⟩
   case round=>
    obtain⟨i,hi,rfl,HI⟩:=hrel
    by_cases hlt:i<ln
    ·have hltz:(i:Int)<(ln:Int):=by omega
     have hi0:(0:Int)≤(i:Int):=by omega
     have hil:i<L.length:=by have:=HLN.out;omega
     have hiq:i<X.params.length:=by have:=HQL.out;have:=HLQ.out;omega
     have hiqz:(i:Int)<(qn:Int):=by have:=HLQ.out;omega
     obtain⟨ga,oa,rfl,hg,hcell⟩:=(HL.out.since HI.out.2).2 (by omega)
     have hz:wr.cell? ⟨ga,oa+i,none⟩=some (.int .i64 (nth L i)):=by rw[hcell i hil,nth_is hil];rfl
     obtain⟨gq,oq,rfl,hgq,hcelq⟩:=(HQN.out.since HI.out.2).2 (by have:=HLQ.out;omega)
     have hy:wr.cell? ⟨gq,oq+i,none⟩=some (.int .i64 (nth X.params i)):=by rw[hcelq i hiq,nth_is hiq];rfl
     obtain⟨z,hzz⟩:∃ z,z=nth L i:=⟨_,rfl⟩
     obtain⟨y,hyy⟩:∃ y,y=nth X.params i:=⟨_,rfl⟩
     have HZY:Hid (endedB f T x (nth L i) (nth X.params i)=endedB f T x z y):=hid (by rw[hzz,hyy])
     rw[←hzz]at hz
     rw[←hyy]at hy
     have HLT:=hid hlt
     have HXC:Hid (∀u,Below wr.heap.size wr u→(u.cell? ⟨w.heap.size,0,none⟩=some (.pointer (some ⟨g,0,none⟩))∧u.cell? ⟨w.heap.size,1,none⟩=some (.int .i64 rt)∧u.cell? ⟨w.heap.size,2,none⟩=some (.slice (some ⟨g8,off8,none⟩) n c)∧u.cell? ⟨w.heap.size,3,none⟩=some (.slice fa (n+1) fc)∧u.cell? ⟨w.heap.size,4,none⟩=some (.slice ua n uc)∧u.cell? ⟨w.heap.size,5,none⟩=some (.slice ta tn tc))∧u.cell? ⟨gq,oq+i,none⟩=some (.int .i64 y)):=hid fun u hu=>⟨HS6.out u (HI.out.2.trans (hu.mono HI.out.2.size)),(hu.cell (p:=⟨gq,oq+i,none⟩) hgq).trans hy⟩
     clear hcell hg hil hzz hyy hcelq hiq hgq
     go_upto_region 7 with fail
     clear hz hy
     refine wp_region_T (S:=(fun u:World=>(u.cell? ⟨w.heap.size,0,none⟩=some (.pointer (some ⟨g,0,none⟩))∧u.cell? ⟨w.heap.size,1,none⟩=some (.int .i64 rt)∧u.cell? ⟨w.heap.size,2,none⟩=some (.slice (some ⟨g8,off8,none⟩) n c)∧u.cell? ⟨w.heap.size,3,none⟩=some (.slice fa (n+1) fc)∧u.cell? ⟨w.heap.size,4,none⟩=some (.slice ua n uc)∧u.cell? ⟨w.heap.size,5,none⟩=some (.slice ta tn tc))∧u.cell? ⟨gq,oq+i,none⟩=some (.int .i64 y))) 8 (by kernel_rfl) (HXC.out _ ((Below.refl _ wr).drew)) (fun hHeld=> ?_)
     refine wpAnyT_take (i:=0) (oi:=⟨some 47,_,_,_,_,_⟩) (v:= ?_) 8 rfl (by kernel_rfl) (by kernel_rfl) (by kernel_rfl) (by kernel_rfl) (by kernel_rfl) (fun _ _ _ h=>h) (Or.inl ⟨by rfl, ?_⟩) (by assumption) ?_
     rotate_left
     ·((intro w hSw;(try dsimp only at hSw);go_simp);try with_reducible rfl)
     (try simp only[Act.put,zA,zB,zC])
     refine wpAnyT_takeW (i:=1) (oi:=⟨some 48,_,_,_,_,_⟩) (v:= ?_) rfl (by kernel_rfl) (by kernel_rfl) (by kernel_rfl) (fun _ _ _ h=>h) (Or.inl ⟨by rfl, ?_⟩) ?_
     rotate_left
     ·((intro w _;go_simp);try with_reducible rfl)
     (try simp only[Act.put,zA,zB,zC])
     refine wpAnyT_takeW (i:=2) (oi:=⟨some 49,_,_,_,_,_⟩) (v:= ?_) rfl (by kernel_rfl) (by kernel_rfl) (by kernel_rfl) (fun _ _ _ h=>h) (Or.inl ⟨by rfl, ?_⟩) ?_
     rotate_left
     ·((intro w _;go_simp);try with_reducible rfl)
     (try simp only[Act.put,zA,zB,zC])
     refine wpAnyT_takeW (i:=3) (oi:=⟨some 50,_,_,_,_,_⟩) (v:= ?_) rfl (by kernel_rfl) (by kernel_rfl) (by kernel_rfl) (fun _ _ _ h=>h) (Or.inl ⟨by rfl, ?_⟩) ?_
     rotate_left
     ·((intro w _;go_simp);try with_reducible rfl)
     (try simp only[Act.put,zA,zB,zC])
     refine wpAnyT_takeW (i:=4) (oi:=⟨some 51,_,_,_,_,_⟩) (v:= ?_) rfl (by kernel_rfl) (by kernel_rfl) (by kernel_rfl) (fun _ _ _ h=>h) (Or.inl ⟨by rfl, ?_⟩) ?_
     rotate_left
     ·((intro w _;go_simp);try with_reducible rfl)
     (try simp only[Act.put,zA,zB,zC])
     refine wpAnyT_takeW (i:=5) (oi:=⟨some 52,_,_,_,_,_⟩) (v:= ?_) rfl (by kernel_rfl) (by kernel_rfl) (by kernel_rfl) (fun _ _ _ h=>h) (Or.inl ⟨by rfl, ?_⟩) ?_
     rotate_left
     ·((intro w _;go_simp);try with_reducible rfl)
     (try simp only[Act.put,zA,zB,zC])
     refine wpAnyT_take (i:=6) (oi:=⟨some 53,_,_,_,_,_⟩) (v:= ?_) 8 rfl (by kernel_rfl) (by kernel_rfl) (by kernel_rfl) (by kernel_rfl) (by kernel_rfl) (fun _ _ _ h=>h) (Or.inl ⟨by rfl, ?_⟩) (by assumption) ?_
     rotate_left
     ·((intro w hSw;(try dsimp only at hSw);go_simp);try with_reducible rfl)
     (try simp only[Act.put,zA,zB,zC])
     refine wpAnyT_one (i:=7) (by kernel_rfl) rfl (fun K hK=> ?_)
     rw[if_pos (by rfl)]
     go_simp
     (with_reducible refine(CU.out _ (HI.out.2.drew) z y).mono ?_)
     intro e w7 hq
     rcases hq.split with⟨hk,rfl,hb⟩|⟨hk,rfl,hb⟩
     rotate_left
     ·exact⟨rfl,RulePost.bad (by rw[HTG.out,allK_no (p:=fun i=>endedB f T x (nth L i) (nth X.params i)) HLT.out (by simp only[HZY.out];exact hk)];simp) (HB.out.trans ((HI.out.2.trans (((Below.refl _ wr).drew.trans (hb.mono (Nat.le_refl _))).mono HI.out.2.size)).mono HB.out.size))⟩
     have hb7:Below wr.heap.size wr w7:=(Below.refl _ wr).drew.trans (hb.mono (Nat.le_refl _))
     have HB7:=hid hb7
     have HK5:Hid (allK (fun i=>endedB f T x (nth L i) (nth X.params i)) (i+1)=true∧Below W1.heap.size W1 w7):=hid ⟨allK_more HI.out.1 (by simp only[HZY.out];exact hk),HI.out.2.trans (hb7.mono HI.out.2.size)⟩
     clear hk hb hb7
     refine hK.out _ _ (HXC.out _ HB7.out) (fun hHeld=> ?_)
     clear hK K
     (try simp only[Act.put,zA,zB,zC])
     refine wpAnyT_done (by kernel_rfl) ?_
     go_wp2_with fail
     go_roundw
     case rel=>exact⟨i+1,HLT.out,by go_num,HK5⟩
     case measure=>have:=HLT.out;simp[intOf];omega
    ·obtain rfl:i=ln:=by omega
     have hnn:¬ (i:Int)<(i:Int):=by omega
     have HK:Hid (targB f T x ((k:Int),L)=true):=hid (by rw[HTG.out,HBB.out,HK1.out,HI.out.1];rfl)
     go_wp2_with fail
     go_end0
     exact RulePost.good HK.out (HB.out.trans (HI.out.2.mono HB.out.size))
  ·have HTG:Hid (targB f T x ((k:Int),L)=false):=hid (by
    unfold targB
    rw[decide_eq_false (fun h=>by have:=h.2;omega)]
    rfl)
   have hTz:¬ (k:Int)<(n:Int):=by omega
   clear hb1 hs1 h hB hsl hL hx hd he he1 hnl
   go_enter Tryz.func122,Tryz.ntmps122
   go_upto_region 1 with fail
   try rw[hW1]
   clear hW1
   go_wp2_with(go_at_call 49;(with_reducible refine(need_any _ _).mono ?_);intro e w3 hq;rcases hq.split with⟨hk,rfl,rfl⟩|⟨hk,rfl,rfl⟩;(exfalso;cases hk))
   exact⟨rfl,RulePost.bad HTG.out HB.out⟩
 ·have HTG:Hid (targB f T x (To,L)=false):=hid (by
   unfold targB
   rw[decide_eq_false (fun h=>hT0 h.1)]
   rfl)
  clear hb1 hs1 h hB hsl hL hx hd he he1 hd2 hnl
  go_enter Tryz.func122,Tryz.ntmps122
  go_upto_region 1 with fail
  try rw[hW1]
  clear hW1
  go_wp2_with(go_at_call 49;(with_reducible refine(need_any _ _).mono ?_);intro e w3 hq;rcases hq.split with⟨hk,rfl,rfl⟩|⟨hk,rfl,rfl⟩;(exfalso;cases hk))
  exact⟨rfl,RulePost.bad HTG.out HB.out⟩
theorem tgAt_at{e:EndD}{i:Nat}(h:i<(tgts e).length):tgAt e i=(tgts e)[i]:=by unfold tgAt;rw[List.getElem?_eq_getElem h]
theorem tgts_bound{e:EndD}{b:Nat}(h1:e.L.length≤b)(h2:e.M.length≤b):∀ t∈tgts e,t.2.length≤b:=by
 intro t ht
 unfold tgts at ht
 split at ht
 ·simp at ht;subst ht;exact h1
 ·split at ht
  ·simp at ht;rcases ht with rfl|rfl
   ·exact h1
   ·exact h2
  ·cases ht
set_option maxRecDepth 100000 in
set_option maxHeartbeats 8000000 in
theorem wbend_any{g:Nat}{sa:Option Addr}{sn sc:Nat}{ca:Option Addr}{cn cc:Nat}{pa:Option Addr}{pn pc:Nat}{P:ProgD}{a:Option Addr}{n c:Nat}{f:FuncD}{fa ua:Option Addr}{m:Nat}{UP:List Int}{ta:Option Addr}{tn:Nat}{T:List Int}(fc uc tc:Nat)(x:Nat)(w:World)(h:BodyAt w g sa sn sc ca cn cc pa pn pc P a n c f fa ua m UP ta tn T)(hx:x<n):
 Calls Tryz.prog 89 #[.agg #[.pointer (some ⟨g,0,none⟩),.int .i64 f.ret,.slice a n c,.slice fa (n+1) fc,.slice ua n uc,.slice ta tn tc],.int .i64 (x:Int)] w (RulePost (endB f T x) w):=by
 obtain⟨hb1,hd,hs1⟩:=body_box w #[.pointer (some ⟨g,0,none⟩),.int .i64 f.ret,.slice a n c,.slice fa (n+1) fc,.slice ua n uc,.slice ta tn tc]
 obtain⟨W1,hW1⟩:∃ U,w.alloc (.cells #[.pointer (some ⟨g,0,none⟩),.int .i64 f.ret,.slice a n c,.slice fa (n+1) fc,.slice ua n uc,.slice ta tn tc] 98)=U:=⟨_,rfl⟩
 rw[hW1]at hb1 hd hs1
 have hB:=h.since hb1
 have HB:=hid hb1
 have HBD:=hid hB
 have hd2:=hd 2
 have hsl:w.heap.size<W1.heap.size:=by omega
 have hxl:x<f.blocks.length:=by rw[←hB.scop.len];exact hx
 have hxz:(x:Int)<(n:Int):=by omega
 have hx0:(0:Int)≤(x:Int):=by omega
 obtain⟨g8,off8,cs,hif,rfl,hl8,hcell,hq⟩:=hB.scop.row.elem hx
 obtain⟨X,hX⟩:∃ X,X=f.blocks[x]:=⟨_,rfl⟩
 rw[←hX]at hq
 obtain⟨pv,ov,es,rfl,_,_,l1,m1,rfl,r1,r2,r3,r4,⟨la,ln,lc,rfl,hl,hl0,hln8,_⟩,⟨ma,mn,mc,rfl,hm,hm0,hmn8,_⟩⟩:=hq
 have hq2:=hcell 2 (by simp)
 have hq3:=hcell 3 (by simp)
 have hq4:=hcell 4 (by simp)
 have hq5:=hcell 5 (by simp)
 have hq6:=hcell 6 (by simp)
 have hq7:=hcell 7 (by simp)
 simp only[Nat.add_zero,List.getElem_cons_zero,List.getElem_cons_succ]at hq2 hq3 hq4 hq5 hq6 hq7
 have hE:theEnd f x=X.fin:=by rw[theEnd_at hif,hX]
 obtain⟨K,hK⟩:∃ K,K=X.fin.K:=⟨_,rfl⟩
 have HEB:Hid (endB f T x=(finB f T x&&allK (fun i=>targB f T x (tgAt X.fin i)) (tgts X.fin).length)):=hid (by unfold endB;rw[hE])
 have HF:Hid (finB f T x=(if K=1 then endedB f T x X.fin.A 1 else if K=3 then endedB f T x X.fin.A 0 else if K=2 then(if f.ret= -1 then X.fin.A==0 else endedB f T x X.fin.A f.ret)else true)):=hid (by unfold finB;rw[hE,←hK])
 have HTB:=hid (tgts_bound (e:=X.fin) (b:=17592186044000) (by rw[hl.1];omega) (by rw[hm.1];omega))
 have CT:Hid (∀u,Below W1.heap.size W1 u→Calls Tryz.prog 121 #[.agg #[.int .i64 K,.int .i64 X.fin.A,.int .i64 X.fin.To,.int .i64 X.fin.Else,.slice la ln lc,.slice ma mn mc]] u fun e' w'=>∃ va vn vc l,e'=.returned (.slice va vn vc)∧OwnsT w' u.heap.size (.slice va vn vc) l∧Cops w' u.heap.size l (tgts X.fin)∧Below u.heap.size u w'):=hid fun u hu=>by
  rw[hK]
  exact ctargets_any X.fin.A la ln lc ma mn mc X.fin u (hl.since hu) hl0 hln8 (hm.since hu) hm0 hmn8
 have CU:Hid (∀u,Below W1.heap.size W1 u→∀ v t,Calls Tryz.prog 120 #[.agg #[.pointer (some ⟨g,0,none⟩),.int .i64 f.ret,.slice (some ⟨g8,off8,none⟩) n c,.slice fa (n+1) fc,.slice ua n uc,.slice ta tn tc],.int .i64 (x:Int),.int .i64 v,.int .i64 t] u (RulePost (endedB f T x v t) u)):=hid fun u hu v t=>wended_any fc uc tc x v t u (hB.since hu) hx
 have CG:Hid (∀u,Below W1.heap.size W1 u→∀ To L ka kn kc,NumsAt u ka kn L→kn≤140737488355328→Calls Tryz.prog 122 #[.agg #[.pointer (some ⟨g,0,none⟩),.int .i64 f.ret,.slice (some ⟨g8,off8,none⟩) n c,.slice fa (n+1) fc,.slice ua n uc,.slice ta tn tc],.int .i64 (x:Int),.agg #[.int .i64 To,.slice ka kn kc]] u (RulePost (targB f T x (To,L)) u)):=hid fun u hu To L ka kn kc hk hkn=>wtarget_any fc uc tc x To L ka kn kc u (hB.since hu) hx hk hkn
 obtain⟨rt,hrt⟩:∃ t,t=f.ret:=⟨_,rfl⟩
 rw[←hrt]at hd CU CG hW1 HF⊢
 have HS6:Hid (∀u,Below W1.heap.size W1 u→u.cell? ⟨w.heap.size,0,none⟩=some (.pointer (some ⟨g,0,none⟩))∧u.cell? ⟨w.heap.size,1,none⟩=some (.int .i64 rt)∧u.cell? ⟨w.heap.size,2,none⟩=some (.slice (some ⟨g8,off8,none⟩) n c)∧u.cell? ⟨w.heap.size,3,none⟩=some (.slice fa (n+1) fc)∧u.cell? ⟨w.heap.size,4,none⟩=some (.slice ua n uc)∧u.cell? ⟨w.heap.size,5,none⟩=some (.slice ta tn tc)):=hid fun u hu=>body_keeps hsl hd u hu
 rw[←hK]at hq2
 clear hb1 hs1 h hB hrt hsl hxl hif hcell hl8 hX hl hl0 hln8 hm hm0 hmn8 r1 r2 r3 r4 hE hK hx hd
 go_enter Tryz.func89,Tryz.ntmps89
 go_upto_region 1 with fail
 try rw[hW1]
 clear hW1
 go_upto_region 2 with fail
 obtain⟨Y,hY⟩:∃ u,u=W1.alloc (.cells #[.int .i64 K,.int .i64 X.fin.A,.int .i64 X.fin.To,.int .i64 X.fin.Else,.slice la ln lc,.slice ma mn mc] 49):=⟨_,rfl⟩
 have hbY:Below W1.heap.size W1 Y:=by rw[hY];exact(Below.refl _ W1).alloc (Nat.le_refl _) _
 have hcY:∀ j,Y.cell? ⟨W1.heap.size,j,none⟩=(#[.int .i64 K,.int .i64 X.fin.A,.int .i64 X.fin.To,.int .i64 X.fin.Else,.slice la ln lc,.slice ma mn mc]:Array Value)[j]? :=fun j=>by rw[hY];exact World.cell?_alloc_mark _ _ _ _ _
 have hpy:W1.heap.size<Y.heap.size:=by rw[hY];simp
 rw[←hY]
 obtain⟨p,hp⟩:∃ p,p=W1.heap.size:=⟨_,rfl⟩
 rw[←hp]at hcY hpy⊢
 have HBY:=hid hbY
 have HYC:Hid (∀u,Below Y.heap.size Y u→(u.cell? ⟨w.heap.size,0,none⟩=some (.pointer (some ⟨g,0,none⟩))∧u.cell? ⟨w.heap.size,1,none⟩=some (.int .i64 rt)∧u.cell? ⟨w.heap.size,2,none⟩=some (.slice (some ⟨g8,off8,none⟩) n c)∧u.cell? ⟨w.heap.size,3,none⟩=some (.slice fa (n+1) fc)∧u.cell? ⟨w.heap.size,4,none⟩=some (.slice ua n uc)∧u.cell? ⟨w.heap.size,5,none⟩=some (.slice ta tn tc))∧u.cell? ⟨p,0,none⟩=some (.int .i64 K)∧u.cell? ⟨p,1,none⟩=some (.int .i64 X.fin.A)∧u.cell? ⟨p,2,none⟩=some (.int .i64 X.fin.To)∧u.cell? ⟨p,3,none⟩=some (.int .i64 X.fin.Else)∧u.cell? ⟨p,4,none⟩=some (.slice la ln lc)∧u.cell? ⟨p,5,none⟩=some (.slice ma mn mc)):=hid fun u hu=>⟨HS6.out u (HBY.out.trans (hu.mono HBY.out.size)),(hu.cell (p:=⟨p,0,none⟩) hpy).trans (hcY 0),(hu.cell (p:=⟨p,1,none⟩) hpy).trans (hcY 1),(hu.cell (p:=⟨p,2,none⟩) hpy).trans (hcY 2),(hu.cell (p:=⟨p,3,none⟩) hpy).trans (hcY 3),(hu.cell (p:=⟨p,4,none⟩) hpy).trans (hcY 4),(hu.cell (p:=⟨p,5,none⟩) hpy).trans (hcY 5)⟩
 clear hcY hY hbY hpy hp hd2 hq2 hq3 hq4 hq5 hq6 hq7
 obtain⟨⟨b0,b1,b2,b3,b4,b5⟩,e0,e1,e2,e3,e4,e5⟩:=HYC.out Y (Below.refl _ _)
 have hcase:K=1∨K=3∨(K=2∧rt= -1)∨(K=2∧rt≠ -1)∨(K≠1∧K≠3∧K≠2):=by omega
 rcases hcase with rfl|rfl|⟨rfl,rfl⟩|⟨rfl,hr⟩|⟨n1,n3,n2⟩
 focus
  have HFF:Hid (finB f T x=endedB f T x X.fin.A 1):=hid (by rw[HF.out];rfl)
  clear HF
  go_upto_region 11 with(go_at_call 120;(with_reducible refine(CU.out _ HBY.out X.fin.A 1).mono ?_);intro e w7 hq;rcases hq.split with⟨hk,rfl,hb⟩|⟨hk,rfl,hb⟩;rotate_left;(exact⟨rfl,RulePost.bad (by rw[HEB.out,HFF.out,hk];rfl) (HB.out.trans ((HBY.out.trans (hb.mono HBY.out.size)).mono HB.out.size))⟩);have HB7:=hid hb;have HK7:Hid (finB f T x=true):=hid (by rw[HFF.out];exact hk);clear hk hb)
 rotate_left
 focus
  have HFF:Hid (finB f T x=endedB f T x X.fin.A 0):=hid (by rw[HF.out];rfl)
  clear HF
  go_upto_region 11 with(go_at_call 120;(with_reducible refine(CU.out _ HBY.out X.fin.A 0).mono ?_);intro e w7 hq;rcases hq.split with⟨hk,rfl,hb⟩|⟨hk,rfl,hb⟩;rotate_left;(exact⟨rfl,RulePost.bad (by rw[HEB.out,HFF.out,hk];rfl) (HB.out.trans ((HBY.out.trans (hb.mono HBY.out.size)).mono HB.out.size))⟩);have HB7:=hid hb;have HK7:Hid (finB f T x=true):=hid (by rw[HFF.out];exact hk);clear hk hb)
 rotate_left
 focus
  have HFF:Hid (finB f T x=(X.fin.A==0)):=hid (by rw[HF.out];rfl)
  clear HF
  go_upto_region 11 with(go_at_call 49;(with_reducible refine(need_any _ _).mono ?_);intro e w7 hq;rcases hq.split with⟨hk,rfl,rfl⟩|⟨hk,rfl,rfl⟩;rotate_left;(exact⟨rfl,RulePost.bad (by rw[HEB.out,HFF.out,hk];rfl) (HB.out.trans (HBY.out.mono HB.out.size))⟩);have HK7:Hid (finB f T x=true):=hid (by rw[HFF.out];exact hk);clear hk)
  obtain⟨w7,hw7⟩:∃ u,u=Y:=⟨_,rfl⟩
  have HB7:Hid (Below Y.heap.size Y w7):=hid (by rw[hw7];exact Below.refl _ _)
  rw[←hw7]
  clear hw7
 rotate_left
 focus
  have HFF:Hid (finB f T x=endedB f T x X.fin.A rt):=hid (by rw[HF.out];simp[hr])
  have hne:(rt != -1)=true:=by rw[bne_iff_ne];exact hr
  have hnee:(rt== -1)=false:=by rw[beq_eq_false_iff_ne];exact hr
  clear HF hr
  go_upto_region 11 with(go_at_call 120;(with_reducible refine(CU.out _ HBY.out X.fin.A rt).mono ?_);intro e w7 hq;rcases hq.split with⟨hk,rfl,hb⟩|⟨hk,rfl,hb⟩;rotate_left;(exact⟨rfl,RulePost.bad (by rw[HEB.out,HFF.out,hk];rfl) (HB.out.trans ((HBY.out.trans (hb.mono HBY.out.size)).mono HB.out.size))⟩);have HB7:=hid hb;have HK7:Hid (finB f T x=true):=hid (by rw[HFF.out];exact hk);clear hk hb)
  clear hne hnee
 rotate_left
 focus
  have HK7:Hid (finB f T x=true):=hid (by rw[HF.out,if_neg n1,if_neg n3,if_neg n2])
  have k1:(K==1)=false:=by rw[beq_eq_false_iff_ne];exact n1
  have k2:(K==2)=false:=by rw[beq_eq_false_iff_ne];exact n2
  have k3:(K==3)=false:=by rw[beq_eq_false_iff_ne];exact n3
  clear HF n1 n2 n3
  go_upto_region 11 with fail
  clear k1 k2 k3
  obtain⟨w7,hw7⟩:∃ u,u=Y:=⟨_,rfl⟩
  have HB7:Hid (Below Y.heap.size Y w7):=hid (by rw[hw7];exact Below.refl _ _)
  rw[←hw7]
  clear hw7
 rotate_left
 all_goals
  clear b0 b1 b2 b3 b4 b5 e0 e1 e2 e3 e4 e5
  have HBX:Hid (Below W1.heap.size W1 w7):=hid (HBY.out.trans (HB7.out.mono HBY.out.size))
  obtain⟨⟨b0,b1,b2,b3,b4,b5⟩,e0,e1,e2,e3,e4,e5⟩:=HYC.out w7 HB7.out
  go_upto_region 12 with(go_at_call 121;(with_reducible refine(CT.out _ HBX.out).mono ?_);rintro e w8 ⟨va,vn,vc,l,rfl,ho,hcp,hb⟩;have HO8:=hid ho;have HCP:=hid hcp;have HB8:=hid hb;clear ho hcp hb)
  clear b0 b1 b2 b3 b4 b5 e0 e1 e2 e3 e4 e5 HYC CT
  have hvn:vn=l.length:=HO8.out.read.1
  have hll:l.length=(tgts X.fin).length:=HCP.out.len
  have hvb:vn≤2:=by
   rw[hvn,hll]
   unfold tgts
   split
   ·simp
   ·split<;>simp
  have HVL:Hid (vn=l.length∧l.length=(tgts X.fin).length):=hid ⟨hvn,hll⟩
  have HBZ:Hid (Below W1.heap.size W1 w8):=hid (HBX.out.trans (HB8.out.mono HBX.out.size))
  obtain⟨B8,hB8⟩:∃ B,B=w7.heap.size:=⟨_,rfl⟩
  rw[←hB8]at HO8 HCP
  clear hvn hll hB8 HB8
  go_loopw[54] (fun v54 wr=>∃ i:Nat,i≤vn∧v54=.int .i64 (i:Int)∧Hid (allK (fun i=>targB f T x (tgAt X.fin i)) i=true∧Below w8.heap.size w8 wr)) (fun iv _=>vn-(intOf iv).toNat)
  case atStart=>exact⟨0,Nat.zero_le _,rfl,hid ⟨rfl,Below.refl _ _⟩⟩
  case round=>
   obtain⟨i,hi,rfl,HI⟩:=hrel
   by_cases hlt:i<vn
   ·have hltz:(i:Int)<(vn:Int):=by omega
    have hi0:(0:Int)≤(i:Int):=by omega
    have hil:i<l.length:=by have:=HVL.out.1;omega
    have hit:i<(tgts X.fin).length:=by have:=HVL.out.2;omega
    obtain⟨hcpt,hown⟩:=HCP.out.at i hil hit
    have hrd:=(OwnsT.below HO8.out HI.out.2).read.2
    obtain⟨gt,rfl,_,hgl,hcel⟩:=hrd (by omega)
    obtain⟨c0,c1⟩:=hcel i hil
    obtain⟨Z,hZ⟩:∃ Z,Z=l[i]:=⟨_,rfl⟩
    rw[←hZ]at hcpt hown c0 c1
    obtain⟨z1,ka,kn,kc⟩:=Z
    simp only[]at hcpt hown c0 c1
    have htg:tgAt X.fin i=(z1,(tgts X.fin)[i].2):=by rw[tgAt_at hit,hcpt]
    obtain⟨L,hL⟩:∃ L,L=(tgts X.fin)[i].2:=⟨_,rfl⟩
    have hLl:L.length≤17592186044000:=by rw[hL];exact HTB.out _ (List.getElem_mem hit)
    rw[←hL]at hown htg
    have HTG:=hid htg
    have HLT:=hid hlt
    have hnum:=(OwnsI.below hown HI.out.2).read
    have hkn:kn≤140737488355328:=by have:=hnum.1;omega
    have HNUM:=hid hnum
    have HKN:=hid hkn
    clear hcpt hown hcel hgl hrd hZ htg hL hLl hnum hkn hil hit
    obtain⟨b0,b1,b2,b3,b4,b5⟩:=HS6.out wr (HBZ.out.trans (HI.out.2.mono HBZ.out.size))
    go_upto_region 14 with fail
    obtain⟨Z,hZ⟩:∃ u,u=wr.alloc (.cells #[.int .i64 z1,.slice ka kn kc] 142):=⟨_,rfl⟩
    have hbZ:Below wr.heap.size wr Z:=by rw[hZ];exact(Below.refl _ wr).alloc (Nat.le_refl _) _
    have hcZ:∀ j,Z.cell? ⟨wr.heap.size,j,none⟩=(#[.int .i64 z1,.slice ka kn kc]:Array Value)[j]? :=fun j=>by rw[hZ];exact World.cell?_alloc_mark _ _ _ _ _
    have y0:=hcZ 0
    have y1:=hcZ 1
    rw[←hZ]
    have HBW:Hid (Below w8.heap.size w8 Z):=hid (HI.out.2.trans (hbZ.mono HI.out.2.size))
    have HBV:Hid (Below W1.heap.size W1 Z):=hid (HBZ.out.trans (HBW.out.mono HBZ.out.size))
    have HNZ:=hid (HNUM.out.since hbZ)
    clear b0 b1 b2 b3 b4 b5 c0 c1 hcZ hZ hbZ
    obtain⟨b0,b1,b2,b3,b4,b5⟩:=HS6.out Z HBV.out
    go_wp2_with(go_at_call 122;(with_reducible refine(CG.out _ HBV.out z1 L ka kn kc HNZ.out HKN.out).mono ?_);intro e w9 hq;rcases hq.split with⟨hk,rfl,hb⟩|⟨hk,rfl,hb⟩;rotate_left;(exact⟨rfl,RulePost.bad (by rw[HEB.out,←HVL.out.2,←HVL.out.1,allK_no (p:=fun i=>targB f T x (tgAt X.fin i)) HLT.out (by simp only[HTG.out];exact hk)];simp) (HB.out.trans ((HBV.out.trans (hb.mono HBV.out.size)).mono HB.out.size))⟩);have HK5:Hid (allK (fun i=>targB f T x (tgAt X.fin i)) (i+1)=true∧Below w8.heap.size w8 w9):=hid ⟨allK_more HI.out.1 (by simp only[HTG.out];exact hk),HBW.out.trans (hb.mono HBW.out.size)⟩;clear hk hb)
    go_roundw
    case rel=>exact⟨i+1,HLT.out,by go_num,HK5⟩
    case measure=>have:=HLT.out;simp[intOf];omega
   ·obtain rfl:i=vn:=by omega
    have hnn:¬ (i:Int)<(i:Int):=by omega
    have HK:Hid (endB f T x=true):=hid (by rw[HEB.out,HK7.out,←HVL.out.2,←HVL.out.1,HI.out.1];rfl)
    go_wp2_with fail
    go_end0
    exact RulePost.good HK.out (HB.out.trans ((HBZ.out.trans (HI.out.2.mono HBZ.out.size)).mono HB.out.size))
theorem usesO_short(o:OpD)(b:Nat)(h:o.L.length+3≤b):(usesO o).length≤b:=by
 unfold usesO usesL
 have h1:=oneL_len (hasB o.K 65) o.A
 have h2:=oneL_len (hasB o.K 66) o.B
 have h3:=oneL_len (hasB o.K 67) o.C
 have h4:(pickL (hasB o.K 76) o.L).length≤o.L.length:=by unfold pickL;split<;>simp
 simp only[List.length_append]
 omega
set_option maxHeartbeats 8000000 in
theorem wbsteps_any{g:Nat}{sa:Option Addr}{sn sc:Nat}{ca:Option Addr}{cn cc:Nat}{pa:Option Addr}{pn pc:Nat}{P:ProgD}{a:Option Addr}{n c:Nat}{f:FuncD}{fa ua:Option Addr}{m:Nat}{UP:List Int}{ta:Option Addr}{tn:Nat}{T:List Int}(fc uc tc:Nat)(x:Nat)(w:World)(h:BodyAt w g sa sn sc ca cn cc pa pn pc P a n c f fa ua m UP ta tn T)(hx:x<n):
 Calls Tryz.prog 88 #[.agg #[.pointer (some ⟨g,0,none⟩),.int .i64 f.ret,.slice a n c,.slice fa (n+1) fc,.slice ua n uc,.slice ta tn tc],.int .i64 (x:Int)] w (RulePost (stepsB P f T x) w):=by
 obtain⟨hb1,hd,hs1⟩:=body_box w #[.pointer (some ⟨g,0,none⟩),.int .i64 f.ret,.slice a n c,.slice fa (n+1) fc,.slice ua n uc,.slice ta tn tc]
 obtain⟨W1,hW1⟩:∃ U,w.alloc (.cells #[.pointer (some ⟨g,0,none⟩),.int .i64 f.ret,.slice a n c,.slice fa (n+1) fc,.slice ua n uc,.slice ta tn tc] 98)=U:=⟨_,rfl⟩
 rw[hW1]at hb1 hd hs1
 have hB:=h.since hb1
 have HB:=hid hb1
 have HBD:=hid hB
 have hd2:=hd 2
 have hsl:w.heap.size<W1.heap.size:=by omega
 have hxl:x<f.blocks.length:=by rw[←hB.scop.len];exact hx
 have hxz:(x:Int)<(n:Int):=by omega
 have hx0:(0:Int)≤(x:Int):=by omega
 have htn7:tn≤140737488355328:=by rw[hB.len];have:=hB.scop.vals;omega
 obtain⟨g8,off8,cs,hif,rfl,hl8,hcell,hq⟩:=hB.scop.row.elem hx
 obtain⟨X,hX⟩:∃ X,X=f.blocks[x]:=⟨_,rfl⟩
 rw[←hX]at hq
 obtain⟨pv,ov,es,rfl,_,ho,_⟩:=hq
 have hov:=ho
 obtain⟨oa,on,oc,rfl,hol,_,hon8,_⟩:=hov
 have hq1:=hcell 1 (by simp)
 simp only[Nat.add_zero,List.getElem_cons_zero,List.getElem_cons_succ]at hq1
 have HSP:Hid (stepsB P f T x=allK (stepB P f T x) on):=hid (by unfold stepsB;rw[opsN_at hif,←hX,hol])
 have HOA:Hid (∀k (hk:k<X.ops.length),opAt f x k=X.ops[k]):=hid fun k hk=>by
  have hk':k<f.blocks[x].ops.length:=by rw[←hX];exact hk
  rw[opAt_at hif hk']
  subst hX
  rfl
 have HOPS:=hid ho
 have CU:Hid (∀u,Below W1.heap.size W1 u→∀ (k:Nat) v,Calls Tryz.prog 119 #[.agg #[.pointer (some ⟨g,0,none⟩),.int .i64 f.ret,.slice (some ⟨g8,off8,none⟩) n c,.slice fa (n+1) fc,.slice ua n uc,.slice ta tn tc],.int .i64 (x:Int),.int .i64 (k:Int),.int .i64 v] u (RulePost (usedB f T x k v) u)):=hid fun u hu k v=>wused_any fc uc tc x k v u (hB.since hu)
 obtain⟨rt,hrt⟩:∃ t,t=f.ret:=⟨_,rfl⟩
 rw[←hrt]at hd CU hW1⊢
 have HS6:Hid (∀u,Below W1.heap.size W1 u→u.cell? ⟨w.heap.size,0,none⟩=some (.pointer (some ⟨g,0,none⟩))∧u.cell? ⟨w.heap.size,1,none⟩=some (.int .i64 rt)∧u.cell? ⟨w.heap.size,2,none⟩=some (.slice (some ⟨g8,off8,none⟩) n c)∧u.cell? ⟨w.heap.size,3,none⟩=some (.slice fa (n+1) fc)∧u.cell? ⟨w.heap.size,4,none⟩=some (.slice ua n uc)∧u.cell? ⟨w.heap.size,5,none⟩=some (.slice ta tn tc)):=hid fun u hu=>body_keeps hsl hd u hu
 clear hb1 hs1 h hB hrt hsl hxl hif hcell hl8 hX hx hd ho hol
 go_enter Tryz.func88,Tryz.ntmps88
 go_upto_region 1 with fail
 try rw[hW1]
 clear hW1
 go_upto_region 2 with fail
 clear hd2 hq1
 go_loopw[19] (fun v19 wr=>∃ k:Nat,k≤on∧v19=.int .i64 (k:Int)∧Hid (allK (stepB P f T x) k=true∧Below W1.heap.size W1 wr)) (fun iv _=>on-(intOf iv).toNat)
 case atStart=>exact⟨0,Nat.zero_le _,rfl,hid ⟨rfl,Below.refl _ _⟩⟩
 case round=>
  obtain⟨k,hk,rfl,HK⟩:=hrel
  by_cases hkl:k<on
  ·have hklz:(k:Int)<(on:Int):=by omega
   obtain⟨g9,off9,cs9,hif9,rfl,hl9,hcell9,hq9⟩:=(HOPS.out.since OpQ.lasts HK.out.2).elem hkl
   obtain⟨O,hO⟩:∃ O,O=X.ops[k]:=⟨_,rfl⟩
   have hOA:opAt f x k=O:=by rw[HOA.out k hif9,hO]
   rw[←hO]at hq9
   obtain⟨lv,rfl,s1,s2,s3,s4,s5,s6,⟨ya,yn,yc,rfl,hy,hy0,hy8,hyr⟩⟩:=hq9
   have hd0:=hcell9 0 (by simp)
   have hd1:=hcell9 1 (by simp)
   have hd2:=hcell9 2 (by simp)
   have hd3:=hcell9 3 (by simp)
   have hd4:=hcell9 4 (by simp)
   have hd5:=hcell9 5 (by simp)
   have hd6:=hcell9 6 (by simp)
   have hd7:=hcell9 7 (by simp)
   simp only[Nat.add_zero,List.getElem_cons_zero,List.getElem_cons_succ]at hd0 hd1 hd2 hd3 hd4 hd5 hd6 hd7
   obtain⟨t1,t2,hres⟩:∃ a b,resO P O T=(a,b):=⟨_,_,rfl⟩
   have HST:Hid (stepB P f T x k=(t2&&allK (fun i=>usedB f T x k (nth (usesO O) i)) (usesO O).length)):=hid (by unfold stepB;rw[hOA,hres])
   have CR:Hid (∀u,Below wr.heap.size wr u→Calls Tryz.prog 37 #[.pointer (some ⟨g,0,none⟩),.agg #[.int .i64 O.K,.int .i64 O.A,.int .i64 O.B,.int .i64 O.C,.int .i64 O.N,.string O.S,.slice ya yn yc,.bool O.T],.slice ta tn tc] u fun e w'=>e=.returned (.tuple #[.int .i64 t1,.bool t2])∧Below u.heap.size u w'):=hid fun u hu=>by
    have hT:=HBD.out.since (HK.out.2.trans (hu.mono HK.out.2.size))
    have:=kresult_any g O.K O.A O.B O.C O.N O.S ya yn yc O.T O.L ta tn tc T u hT.ft hT.prog (hy.since hu) (by omega) hT.typ htn7 hT.rng s5
    rw[show resS P O.K O.A O.B O.C O.N O.S O.L T=(t1,t2)from hres]at this
    exact this
   have CUS:Hid (∀u,Below wr.heap.size wr u→Calls Tryz.prog 118 #[.agg #[.int .i64 O.K,.int .i64 O.A,.int .i64 O.B,.int .i64 O.C,.int .i64 O.N,.string O.S,.slice ya yn yc,.bool O.T]] u fun e w'=>∃ va vn vc,e=.returned (.slice va vn vc)∧OwnsI w' u.heap.size 3 (.slice va vn vc) (usesO O)∧Below u.heap.size u w'):=hid fun u hu=>by
    have hT:=HBD.out.since (HK.out.2.trans (hu.mono HK.out.2.size))
    exact kuses_any O.K O.A O.B O.C O.N O.S ya yn yc O.T O.L u hT.ft (hy.since hu) hy0 (by omega)
   have HYL:Hid (O.L.length≤17592186044000):=hid (by rw[hy.1];omega)
   have HLT:=hid hkl
   clear hcell9 hl9 hO hOA hres hif9 hy hy0 hy8 hyr s1 s2 s3 s4 s5 s6
   obtain⟨b0,b1,b2,b3,b4,b5⟩:=HS6.out wr HK.out.2
   go_upto_region 4 with fail
   obtain⟨Y,hY⟩:∃ u,u=wr.alloc (.cells #[.int .i64 O.K,.int .i64 O.A,.int .i64 O.B,.int .i64 O.C,.int .i64 O.N,.string O.S,.slice ya yn yc,.bool O.T] 64):=⟨_,rfl⟩
   have hbY:Below wr.heap.size wr Y:=by rw[hY];exact(Below.refl _ wr).alloc (Nat.le_refl _) _
   have hcY:∀ j,Y.cell? ⟨wr.heap.size,j,none⟩=(#[.int .i64 O.K,.int .i64 O.A,.int .i64 O.B,.int .i64 O.C,.int .i64 O.N,.string O.S,.slice ya yn yc,.bool O.T]:Array Value)[j]? :=fun j=>by rw[hY];exact World.cell?_alloc_mark _ _ _ _ _
   have hpy:wr.heap.size<Y.heap.size:=by rw[hY];simp
   rw[←hY]
   obtain⟨p,hp⟩:∃ p,p=wr.heap.size:=⟨_,rfl⟩
   rw[←hp]at hcY hpy⊢
   have HBY:=hid hbY
   have HYC:Hid (∀u,Below Y.heap.size Y u→u.cell? ⟨p,0,none⟩=some (.int .i64 O.K)∧u.cell? ⟨p,1,none⟩=some (.int .i64 O.A)∧u.cell? ⟨p,2,none⟩=some (.int .i64 O.B)∧u.cell? ⟨p,3,none⟩=some (.int .i64 O.C)∧u.cell? ⟨p,4,none⟩=some (.int .i64 O.N)∧u.cell? ⟨p,5,none⟩=some (.string O.S)∧u.cell? ⟨p,6,none⟩=some (.slice ya yn yc)∧u.cell? ⟨p,7,none⟩=some (.bool O.T)):=hid fun u hu=>⟨(hu.cell (p:=⟨p,0,none⟩) hpy).trans (hcY 0),(hu.cell (p:=⟨p,1,none⟩) hpy).trans (hcY 1),(hu.cell (p:=⟨p,2,none⟩) hpy).trans (hcY 2),(hu.cell (p:=⟨p,3,none⟩) hpy).trans (hcY 3),(hu.cell (p:=⟨p,4,none⟩) hpy).trans (hcY 4),(hu.cell (p:=⟨p,5,none⟩) hpy).trans (hcY 5),(hu.cell (p:=⟨p,6,none⟩) hpy).trans (hcY 6),(hu.cell (p:=⟨p,7,none⟩) hpy).trans (hcY 7)⟩
   have HBW:Hid (Below W1.heap.size W1 Y):=hid (HK.out.2.trans (hbY.mono HK.out.2.size))
   clear hcY hY hbY hpy hp hd0 hd1 hd2 hd3 hd4 hd5 hd6 hd7 b0 b1 b2 b3 b4 b5
   obtain⟨b0,b1,b2,b3,b4,b5⟩:=HS6.out Y HBW.out
   obtain⟨e0,e1,e2,e3,e4,e5,e6,e7⟩:=HYC.out Y (Below.refl _ _)
   go_upto_region 5 with(go_at_call 37;(with_reducible refine(CR.out _ HBY.out).mono ?_);rintro e w6 ⟨rfl,hb⟩;have HB6:=hid hb;clear hb)
   clear b0 b1 b2 b3 b4 b5 e0 e1 e2 e3 e4 e5 e6 e7 CR
   have HBV:Hid (Below W1.heap.size W1 w6):=hid (HBW.out.trans (HB6.out.mono HBW.out.size))
   go_upto_region 6 with(go_at_call 49;(with_reducible refine(need_any _ _).mono ?_);intro e w7 hq;rcases hq.split with⟨hk,rfl,rfl⟩|⟨hk,rfl,rfl⟩;rotate_left;(exact⟨rfl,RulePost.bad (by rw[HSP.out,allK_no HLT.out (by rw[HST.out,hk];rfl)]) (HB.out.trans (HBV.out.mono HB.out.size))⟩);have HK2:=hid hk;clear hk)
   obtain⟨e0,e1,e2,e3,e4,e5,e6,e7⟩:=HYC.out w6 HB6.out
   have HB6Y:Hid (Below wr.heap.size wr w6):=hid (HBY.out.trans (HB6.out.mono HBY.out.size))
   go_upto_region 7 with(go_at_call 118;(with_reducible refine(CUS.out _ HB6Y.out).mono ?_);rintro e w8 ⟨va,vn,vc,rfl,ho,hb⟩;have HO8:=hid ho;have HB8:=hid hb;clear ho hb)
   clear e0 e1 e2 e3 e4 e5 e6 e7 CUS HYC
   have hvn:(usesO O).length=vn:=HO8.out.read.1
   have hvb:vn≤140737488355328:=by rw[←hvn];exact usesO_short O _ (by have:=HYL.out;omega)
   have HVL:=hid hvn
   have HBU:Hid (Below W1.heap.size W1 w8):=hid (HBV.out.trans (HB8.out.mono HBV.out.size))
   have HNU:=hid HO8.out.read
   clear hvn HO8
   go_loopw[39] (fun v39 wr2=>∃ j:Nat,j≤vn∧v39=.int .i64 (j:Int)∧Hid (allK (fun i=>usedB f T x k (nth (usesO O) i)) j=true∧Below w8.heap.size w8 wr2)) (fun iv _=>vn-(intOf iv).toNat)
   case atStart=>exact⟨0,Nat.zero_le _,rfl,hid ⟨rfl,Below.refl _ _⟩⟩
   case round=>
    obtain⟨j,hj,rfl,HJ⟩:=hrel
    by_cases hjl:j<vn
    ·have hjz:(j:Int)<(vn:Int):=by omega
     have hj0:(0:Int)≤(j:Int):=by omega
     have hju:j<(usesO O).length:=by rw[HVL.out];exact hjl
     obtain⟨gv,ov2,rfl,_,hcel⟩:=(HNU.out.since HJ.out.2).2 (by omega)
     have hz:wr.cell? ⟨gv,ov2+j,none⟩=some (.int .i64 (nth (usesO O) j)):=by rw[hcel j hju,nth_is hju];rfl
     obtain⟨z,hzz⟩:∃ z,z=nth (usesO O) j:=⟨_,rfl⟩
     have HZZ:=hid hzz
     rw[←hzz]at hz
     have HJT:=hid hjl
     have HBR:Hid (Below W1.heap.size W1 wr):=hid (HBU.out.trans (HJ.out.2.mono HBU.out.size))
     clear hcel hju hzz
     obtain⟨b0,b1,b2,b3,b4,b5⟩:=HS6.out wr HBR.out
     go_wp2_with(go_at_call 119;(with_reducible refine(CU.out _ HBR.out k z).mono ?_);intro e w9 hq;rcases hq.split with⟨hk,rfl,hb⟩|⟨hk,rfl,hb⟩;rotate_left;(exact⟨rfl,RulePost.bad (by rw[HSP.out,allK_no HLT.out (by rw[HST.out,HVL.out,allK_no (p:=fun i=>usedB f T x k (nth (usesO O) i)) HJT.out (by simp only[←HZZ.out];exact hk)];simp)]) (HB.out.trans ((HBR.out.trans (hb.mono HBR.out.size)).mono HB.out.size))⟩);have HJ5:Hid (allK (fun i=>usedB f T x k (nth (usesO O) i)) (j+1)=true∧Below w8.heap.size w8 w9):=hid ⟨allK_more HJ.out.1 (by simp only[←HZZ.out];exact hk),HJ.out.2.trans (hb.mono HJ.out.2.size)⟩;clear hk hb)
     go_roundw
     case rel=>exact⟨j+1,HJT.out,by go_num,HJ5⟩
     case measure=>have:=HJT.out;simp[intOf];omega
    ·obtain rfl:j=vn:=by omega
     have hnn:¬ (j:Int)<(j:Int):=by omega
     have HK5:Hid (allK (stepB P f T x) (k+1)=true∧Below W1.heap.size W1 wr):=hid ⟨allK_more HK.out.1 (by rw[HST.out,HK2.out,HVL.out,HJ.out.1];rfl),HBU.out.trans (HJ.out.2.mono HBU.out.size)⟩
     go_wp2_with fail
     go_roundw
     case rel=>exact⟨k+1,HLT.out,by go_num,HK5⟩
     case measure=>have:=HLT.out;simp[intOf];omega
  ·obtain rfl:k=on:=by omega
   have hnn:¬ (k:Int)<(k:Int):=by omega
   have HE:Hid (stepsB P f T x=true):=hid (by rw[HSP.out];exact HK.out.1)
   go_wp2_with fail
   go_end0
   exact RulePost.good HE.out (HB.out.trans (HK.out.2.mono HB.out.size))
set_option maxHeartbeats 4000000 in
theorem wbhold_any{g:Nat}{sa:Option Addr}{sn sc:Nat}{ca:Option Addr}{cn cc:Nat}{pa:Option Addr}{pn pc:Nat}{P:ProgD}{a:Option Addr}{n c:Nat}{f:FuncD}{fa ua:Option Addr}{m:Nat}{UP:List Int}{ta:Option Addr}{tn:Nat}{T:List Int}(fc uc tc:Nat)(w:World)(h:BodyAt w g sa sn sc ca cn cc pa pn pc P a n c f fa ua m UP ta tn T):
 Calls Tryz.prog 55 #[.agg #[.pointer (some ⟨g,0,none⟩),.int .i64 f.ret,.slice a n c,.slice fa (n+1) fc,.slice ua n uc,.slice ta tn tc]] w (RulePost (allK (blockB P f T) f.blocks.length) w):=by
 obtain⟨hb1,hd,hs1⟩:=body_box w #[.pointer (some ⟨g,0,none⟩),.int .i64 f.ret,.slice a n c,.slice fa (n+1) fc,.slice ua n uc,.slice ta tn tc]
 obtain⟨W1,hW1⟩:∃ U,w.alloc (.cells #[.pointer (some ⟨g,0,none⟩),.int .i64 f.ret,.slice a n c,.slice fa (n+1) fc,.slice ua n uc,.slice ta tn tc] 98)=U:=⟨_,rfl⟩
 rw[hW1]at hb1 hd hs1
 have hB:=h.since hb1
 have HB:=hid hb1
 have hd1:=hd 1
 have hd2:=hd 2
 have hsl:w.heap.size<W1.heap.size:=by omega
 have hn8:n≤100000:=hB.scop.small
 have HNL:Hid (f.blocks.length=n):=hid hB.scop.len.symm
 have CRE:=hid (reached_any f.ret a n c f W1 hB.scop.row (by omega))
 have CS:Hid (∀u,Below W1.heap.size W1 u→∀ x:Nat,x<n→Calls Tryz.prog 88 #[.agg #[.pointer (some ⟨g,0,none⟩),.int .i64 f.ret,.slice a n c,.slice fa (n+1) fc,.slice ua n uc,.slice ta tn tc],.int .i64 (x:Int)] u (RulePost (stepsB P f T x) u)):=hid fun u hu x hx=>wbsteps_any fc uc tc x u (hB.since hu) hx
 have CE:Hid (∀u,Below W1.heap.size W1 u→∀ x:Nat,x<n→Calls Tryz.prog 89 #[.agg #[.pointer (some ⟨g,0,none⟩),.int .i64 f.ret,.slice a n c,.slice fa (n+1) fc,.slice ua n uc,.slice ta tn tc],.int .i64 (x:Int)] u (RulePost (endB f T x) u)):=hid fun u hu x hx=>wbend_any fc uc tc x u (hB.since hu) hx
 obtain⟨rt,hrt⟩:∃ t,t=f.ret:=⟨_,rfl⟩
 rw[←hrt]at hd hd1 CRE CS CE hW1⊢
 have HS6:Hid (∀u,Below W1.heap.size W1 u→u.cell? ⟨w.heap.size,0,none⟩=some (.pointer (some ⟨g,0,none⟩))∧u.cell? ⟨w.heap.size,1,none⟩=some (.int .i64 rt)∧u.cell? ⟨w.heap.size,2,none⟩=some (.slice a n c)∧u.cell? ⟨w.heap.size,3,none⟩=some (.slice fa (n+1) fc)∧u.cell? ⟨w.heap.size,4,none⟩=some (.slice ua n uc)∧u.cell? ⟨w.heap.size,5,none⟩=some (.slice ta tn tc)):=hid fun u hu=>body_keeps hsl hd u hu
 clear hb1 hs1 h hB hrt hsl hd
 go_enter Tryz.func55,Tryz.ntmps55
 go_upto_region 1 with fail
 try rw[hW1]
 clear hW1
 go_upto_region 2 with(go_at_call 66;(with_reducible refine CRE.out.mono ?_);rintro e w2 ⟨gm,rfl,ho,hb⟩;have HO2:=hid ho;have HB2:=hid hb;clear ho hb)
 have HM2:Hid (gm<w2.heap.size∧∀ j:Nat,j<n→w2.cell? ⟨gm,j,none⟩=some (.bool (inL (orderL f) (j:Int)))):=hid ⟨(World.ownsRow.lt HO2.out gm rfl).2,fun j hj=>by
  have h:=World.ownsRow.cells HO2.out (g:=gm) rfl j (.bool (inL (orderL f) (j:Int))) (by rw[metVals_at hj];rfl)
  rw[addr_plain,Nat.zero_add]at h
  exact h⟩
 clear hd1 hd2 HO2 CRE
 go_loopw[9] (fun v9 wr=>∃ i:Nat,i≤n∧v9=.int .i64 (i:Int)∧Hid (allK (blockB P f T) i=true∧Below w2.heap.size w2 wr)) (fun iv _=>n-(intOf iv).toNat)
 case atStart=>exact⟨0,Nat.zero_le _,rfl,hid ⟨rfl,Below.refl _ _⟩⟩
 case round=>
  obtain⟨i,hi,rfl,HI⟩:=hrel
  have HBR:Hid (Below W1.heap.size W1 wr):=hid (HB2.out.trans (HI.out.2.mono HB2.out.size))
  by_cases hlt:i<n
  ·have hltz:(i:Int)<(n:Int):=by omega
   have hi0:(0:Int)≤(i:Int):=by omega
   have hm:wr.cell? ⟨gm,i,none⟩=some (.bool (inL (orderL f) (i:Int))):=(HI.out.2.cell (p:=⟨gm,i,none⟩) HM2.out.1).trans (HM2.out.2 i hlt)
   obtain⟨bm,hbm⟩:∃ b,b=inL (orderL f) (i:Int):=⟨_,rfl⟩
   have HBM:Hid (blockB P f T i=(bm&&stepsB P f T i&&endB f T i)):=hid (by unfold blockB;rw[hbm])
   rw[←hbm]at hm
   have HLT:=hid hlt
   clear hbm
   go_upto_region 5 with(go_at_call 49;(with_reducible refine(need_any _ _).mono ?_);intro e w7 hq;rcases hq.split with⟨hk,rfl,rfl⟩|⟨hk,rfl,rfl⟩;rotate_left;(exact⟨rfl,RulePost.bad (by rw[HNL.out,allK_no HLT.out (by rw[HBM.out,hk];rfl)]) (HB.out.trans (HBR.out.mono HB.out.size))⟩);have HK1:=hid hk;clear hk)
   obtain⟨b0,b1,b2,b3,b4,b5⟩:=HS6.out wr HBR.out
   go_upto_region 6 with(go_at_call 88;(with_reducible refine(CS.out _ HBR.out i HLT.out).mono ?_);intro e w7 hq;rcases hq.split with⟨hk,rfl,hb⟩|⟨hk,rfl,hb⟩;rotate_left;(exact⟨rfl,RulePost.bad (by rw[HNL.out,allK_no HLT.out (by rw[HBM.out,HK1.out,hk];rfl)]) (HB.out.trans ((HBR.out.trans (hb.mono HBR.out.size)).mono HB.out.size))⟩);have HK2:=hid hk;have HB7:=hid (HI.out.2.trans (hb.mono HI.out.2.size));clear hk hb)
   clear b0 b1 b2 b3 b4 b5
   have HBS:Hid (Below W1.heap.size W1 w7):=hid (HB2.out.trans (HB7.out.mono HB2.out.size))
   obtain⟨b0,b1,b2,b3,b4,b5⟩:=HS6.out w7 HBS.out
   go_wp2_with(go_at_call 89;(with_reducible refine(CE.out _ HBS.out i HLT.out).mono ?_);intro e w8 hq;rcases hq.split with⟨hk,rfl,hb⟩|⟨hk,rfl,hb⟩;rotate_left;(exact⟨rfl,RulePost.bad (by rw[HNL.out,allK_no HLT.out (by rw[HBM.out,HK1.out,HK2.out,hk];rfl)]) (HB.out.trans ((HBS.out.trans (hb.mono HBS.out.size)).mono HB.out.size))⟩);have HK5:Hid (allK (blockB P f T) (i+1)=true∧Below w2.heap.size w2 w8):=hid ⟨allK_more HI.out.1 (by rw[HBM.out,HK1.out,HK2.out,hk];rfl),HB7.out.trans (hb.mono HB7.out.size)⟩;clear hk hb)
   go_roundw
   case rel=>exact⟨i+1,HLT.out,by go_num,HK5⟩
   case measure=>have:=HLT.out;simp[intOf];omega
  ·obtain rfl:i=n:=by omega
   have hnn:¬ (i:Int)<(i:Int):=by omega
   have HE:Hid (allK (blockB P f T) f.blocks.length=true):=hid (by rw[HNL.out];exact HI.out.1)
   go_wp2_with fail
   go_end0
   exact RulePost.good HE.out (HB.out.trans (HBR.out.mono HB.out.size))
theorem funcOf_at{P:ProgD}{k:Nat}(h:k<P.funcs.length):funcOf P k=P.funcs[k]:=by unfold funcOf;rw[List.getElem?_eq_getElem h]
theorem sigOf_at{P:ProgD}{k:Nat}(h:k<P.sigs.length):sigOf P k=P.sigs[k]:=by unfold sigOf;rw[List.getElem?_eq_getElem h]
theorem clsOf_at{P:ProgD}{k:Nat}(h:k<P.classes.length):clsOf P k=P.classes[k]:=by unfold clsOf;rw[List.getElem?_eq_getElem h]
set_option maxHeartbeats 4000000 in
theorem wmethod_any(g:Nat){sa:Option Addr}{sn sc:Nat}{ca:Option Addr}{cn cc:Nat}{fa:Option Addr}{fn fc:Nat}{P:ProgD}(m:Int)(hm0:0≤m)(s:SigD)(xa:Option Addr)(xn xc:Nat)(w:World)(hP:ProgAt w g sa sn sc ca cn cc fa fn fc P)(hs:NumsV w (.slice xa xn xc) s.params)(hh:∀ i,i<P.funcs.length→0<(funcOf P i).blocks.length):
 Calls Tryz.prog 87 #[.agg #[.pointer (some ⟨g,0,none⟩)],.int .i64 m,.agg #[.slice xa xn xc,.int .i64 s.ret]] w (RulePost (methB P m s) w):=by
 obtain⟨hb1,hc,hd,hs1⟩:=rules_box2 w g #[.slice xa xn xc,.int .i64 s.ret] 60
 obtain⟨W1,hW1⟩:∃ U,(w.alloc (.cells #[.pointer (some ⟨g,0,none⟩)] 68)).alloc (.cells #[.slice xa xn xc,.int .i64 s.ret] 60)=U:=⟨_,rfl⟩
 rw[hW1]at hb1 hc hd hs1
 have hP1:=hP.since hb1
 have HB:=hid hb1
 have HP:=hid hP1
 obtain⟨_,_,_,hxe,hx,hx0,hx8,_⟩:=hs.since hb1
 cases hxe
 have HX:=hid hx
 have HX0:=hid hx0
 have hd0:=hd 0
 have hd1:=hd 1
 have hp2:=hP1.c2
 have hfl:=hP1.f.len
 have HFL:=hid hfl.1
 obtain⟨k,rfl⟩:=Int.eq_ofNat_of_zero_le hm0
 by_cases hk:k<fn
 ·have hkz:(k:Int)<(fn:Int):=by omega
  have hkz0:(0:Int)≤(k:Int):=by omega
  obtain⟨gf,of,cs,hkl,rfl,hl2,hcell,hq⟩:=hP1.f.elem hk
  obtain⟨F,hF⟩:∃ F,F=P.funcs[k]:=⟨_,rfl⟩
  rw[←hF]at hq
  have hFk:funcOf P k=F:=by rw[funcOf_at hkl,hF]
  have hbl:=hh k hkl
  rw[hFk]at hbl
  obtain⟨bv,rfl,_,hbr⟩:=hq
  have hbr':=hbr
  obtain⟨ba,bn,bc,rfl,hbln,_⟩:=hbr'
  have hf0:=hcell 0 (by simp)
  have hf1:=hcell 1 (by simp)
  simp only[Nat.add_zero,List.getElem_cons_zero,List.getElem_cons_succ]at hf0 hf1
  have hbn:0<bn:=by omega
  have hbnz:(0:Int)<(bn:Int):=by omega
  obtain⟨gb,ob,cs8,hb0l,rfl,hl8,hcell8,hq8⟩:=hbr.elem hbn
  obtain⟨X,hX⟩:∃ X,X=F.blocks[0]:=⟨_,rfl⟩
  rw[←hX]at hq8
  obtain⟨pv,ov,es,rfl,⟨pa,pn,pc,rfl,hp,hp0,hp8,_⟩,_⟩:=hq8
  have hbc:=hcell8 0 (by simp)
  simp only[Nat.add_zero,Nat.zero_mul,List.getElem_cons_zero]at hbc
  have hpar:parL F 0=X.params:=by rw[parL_at hb0l,hX]
  have HM:Hid (methB P (k:Int) s=((F.ret==s.ret)&&sameB X.params (5::s.params))):=hid (by
   unfold methB
   rw[Int.toNat_natCast,hFk,hpar,decide_eq_true (by omega:(k:Int)<(P.funcs.length:Int))]
   rfl)
  have HPR:=hid hp
  have hgb:gb<W1.heap.size:=World.block_lt_of_cell? _ _ hbc
  have hpn8:pn≤140737488355328:=by omega
  have hxn8:xn≤17592186043904:=by omega
  obtain⟨rt,hrt⟩:∃ t,t=F.ret:=⟨_,rfl⟩
  obtain⟨st,hst⟩:∃ t,t=s.ret:=⟨_,rfl⟩
  rw[←hrt,←hst]at HM
  rw[←hrt]at hf0
  rw[←hst]at hd1 hW1⊢
  have hpsl:w.heap.size+1<W1.heap.size:=by omega
  have HKF:=hid hk
  have HC:Hid (∀U,Below W1.heap.size W1 U→U.cell? ⟨w.heap.size+1,0,none⟩=some (.slice xa xn xc)∧U.cell? ⟨w.heap.size+1,1,none⟩=some (.int .i64 st)∧U.cell? ⟨gb,ob,none⟩=some (.slice pa pn pc)):=hid fun U hU=>⟨(hU.cell (p:=⟨w.heap.size+1,0,none⟩) hpsl).trans hd0,(hU.cell (p:=⟨w.heap.size+1,1,none⟩) hpsl).trans hd1,(hU.cell (p:=⟨gb,ob,none⟩) hgb).trans hbc⟩
  clear hcell hcell8 hbr hbln hl2 hl8 hX hpar hp hp0 hp8 hFk hF hbl hb0l hkl hs hx hx0 hx8 hP hP1 hh hfl hb1 hs1 hrt hst hgb hpsl hm0 hd hk
  go_enter Tryz.func87,Tryz.ntmps87
  go_upto_region 1 with fail
  try rw[hW1]
  clear hW1
  go_upto_region 2 with(go_at_call 49;(with_reducible refine(need_any _ _).mono ?_);intro e w3 hq;rcases hq.split with⟨hk,rfl,rfl⟩|⟨hk,rfl,rfl⟩;rotate_left;(exfalso;first|(cases hk;done)|(rw[decide_eq_true HKF.out]at hk;cases hk)|(simp[HKF.out]at hk));clear hk)
  go_upto_region 3 with fail
  obtain⟨Y,hY⟩:∃ u,u=W1.alloc (.cells #[.int .i64 rt,.slice (some ⟨gb,ob,none⟩) bn bc] 36):=⟨_,rfl⟩
  have hbY:Below W1.heap.size W1 Y:=by rw[hY];exact(Below.refl _ W1).alloc (Nat.le_refl _) _
  have hcY:∀ j,Y.cell? ⟨W1.heap.size,j,none⟩=(#[.int .i64 rt,.slice (some ⟨gb,ob,none⟩) bn bc]:Array Value)[j]? :=fun j=>by rw[hY];exact World.cell?_alloc_mark _ _ _ _ _
  have hpy:W1.heap.size<Y.heap.size:=by rw[hY];simp
  rw[←hY]
  obtain⟨p,hp⟩:∃ p,p=W1.heap.size:=⟨_,rfl⟩
  rw[←hp]at hcY hpy⊢
  have y0:=hcY 0
  have y1:=hcY 1
  obtain⟨z0,z1,z2⟩:=HC.out Y hbY
  have HBY:=hid hbY
  have HYC:Hid (∀U,Below Y.heap.size Y U→U.cell? ⟨p,1,none⟩=some (.slice (some ⟨gb,ob,none⟩) bn bc)∧U.cell? ⟨gb,ob,none⟩=some (.slice pa pn pc)∧U.cell? ⟨w.heap.size+1,0,none⟩=some (.slice xa xn xc)):=hid fun U hU=>by
   obtain⟨q0,_,q2⟩:=HC.out U (HBY.out.trans (hU.mono HBY.out.size))
   exact⟨(hU.cell (p:=⟨p,1,none⟩) hpy).trans y1,q2,q0⟩
  clear hcY hY hbY hpy hf0 hf1 hd0 hd1 hbc hp2 hp
  go_upto_region 4 with(go_at_call 49;(with_reducible refine(need_any _ _).mono ?_);intro e w3 hq;rcases hq.split with⟨hk,rfl,rfl⟩|⟨hk,rfl,rfl⟩;rotate_left;(exact⟨rfl,RulePost.bad (by rw[HM.out,hk];rfl) (HB.out.trans (HBY.out.mono HB.out.size))⟩);have HK1:=hid hk;clear hk)
  have HYB1:Hid (∀X,Below Y.heap.size Y (Y.alloc X).drew):=hid fun X=>((Below.refl _ Y).alloc (Nat.le_refl _) X).drew
  have HYB2:Hid (∀X1 X2,Below Y.heap.size Y ((Y.alloc X1).alloc X2).drew):=hid fun X1 X2=>(((Below.refl _ Y).alloc (Nat.le_refl _) X1).alloc (by simp) X2).drew
  have CC:Hid (Calls Tryz.prog 117 #[.slice (some ⟨Y.heap.size+1,0,none⟩) 2 2] ((Y.alloc (.cells #[.int .i64 5] 3)).alloc (.cells #[.slice (some ⟨Y.heap.size,0,none⟩) 1 1,.slice xa xn xc] 40)).drew fun e w'=>∃ va vn vc,e=.returned (.slice va vn vc)∧OwnsI w' (Y.heap.size+2) 3 (.slice va vn vc) (5::s.params)∧Below Y.heap.size Y w'):=hid (by
   have h2:=two_new_cells Y #[.int .i64 5] #[.slice (some ⟨Y.heap.size,0,none⟩) 1 1,.slice xa xn xc] 3 40
   have hb2:=HYB2.out (.cells #[.int .i64 5] 3) (.cells #[.slice (some ⟨Y.heap.size,0,none⟩) 1 1,.slice xa xn xc] 40)
   obtain⟨U2,hU2⟩:∃ U,U=((Y.alloc (.cells #[.int .i64 5] 3)).alloc (.cells #[.slice (some ⟨Y.heap.size,0,none⟩) 1 1,.slice xa xn xc] 40)).drew:=⟨_,rfl⟩
   have hsz:U2.heap.size=Y.heap.size+2:=by rw[hU2];simp[World.drew]
   have k0:U2.cell? ⟨Y.heap.size,0,none⟩=some (.int .i64 5):=by rw[hU2];exact h2.1 0
   have k1:U2.cell? ⟨Y.heap.size+1,0,none⟩=some (.slice (some ⟨Y.heap.size,0,none⟩) 1 1):=by rw[hU2];exact h2.2 0
   have k2:U2.cell? ⟨Y.heap.size+1,1,none⟩=some (.slice xa xn xc):=by rw[hU2];exact h2.2 1
   rw[←hU2]at hb2⊢
   clear hU2 h2
   refine(concat_two (Y.heap.size+1) Y.heap.size 5 xa xn xc s.params U2 (by rw[hsz];omega) k1 k2 ⟨rfl,fun _=>⟨Y.heap.size,0,rfl,by rw[hsz];omega,fun j hj=> ?_⟩⟩ (HX.out.since (HBY.out.trans (hb2.mono HBY.out.size))) HX0.out hxn8).mono ?_
   ·have hj0:j=0:=by simpa using hj
    subst hj0
    exact k0
   ·rintro e w5 ⟨va,vn,vc,rfl,ho,hb⟩
    rw[hsz]at ho
    exact⟨va,vn,vc,rfl,ho,hb2.trans (hb.mono (by rw[hsz];omega))⟩)
  have HPN8:=hid hpn8
  have HXL:Hid (s.params.length≤17592186043904):=hid (by rw[HX.out.1];exact hxn8)
  clear y0 y1 z0 z1 z2 hpn8 hxn8
  refine wp_region_T (S:=(fun u:World=>u.cell? ⟨p,1,none⟩=some (.slice (some ⟨gb,ob,none⟩) bn bc)∧u.cell? ⟨gb,ob,none⟩=some (.slice pa pn pc)∧u.cell? ⟨w.heap.size+1,0,none⟩=some (.slice xa xn xc))) 12 (by kernel_rfl) (HYC.out _ (below_drewN 1 (Below.refl _ _))) (fun hHeld=> ?_)
  refine wpAnyT_takeW (i:=0) (oi:=⟨some 30,_,_,_,_,_⟩) (v:= ?_) rfl (by kernel_rfl) (by kernel_rfl) (by kernel_rfl) (fun _ _ _ h=>h) (Or.inl ⟨by rfl, ?_⟩) ?_
  rotate_left
  ·((intro w _;go_simp);try with_reducible rfl)
  (try simp only[Act.put,zA,zB,zC])
  refine wpAnyT_take (i:=1) (oi:=⟨some 31,_,_,_,_,_⟩) (v:= ?_) 8 rfl (by kernel_rfl) (by kernel_rfl) (by kernel_rfl) (by kernel_rfl) (by kernel_rfl) (fun _ _ _ h=>h) (Or.inl ⟨by rfl, ?_⟩) (by assumption) ?_
  rotate_left
  ·((intro w hSw;(try dsimp only at hSw);go_simp);try with_reducible rfl)
  (try simp only[Act.put,zA,zB,zC])
  refine wpAnyT_takeW (i:=2) (oi:=⟨some 32,_,_,_,_,_⟩) (v:= ?_) rfl (by kernel_rfl) (by kernel_rfl) (by kernel_rfl) (fun _ _ _ h=>h) (Or.inl ⟨by rfl, ?_⟩) ?_
  rotate_left
  ·((intro w _;go_simp);try with_reducible rfl)
  (try simp only[Act.put,zA,zB,zC])
  refine wpAnyT_takeW (i:=3) (oi:=⟨some 33,_,_,_,_,_⟩) (v:= ?_) rfl (by kernel_rfl) (by kernel_rfl) (by kernel_rfl) (fun _ _ _ h=>h) (Or.inl ⟨by rfl, ?_⟩) ?_
  rotate_left
  ·((intro w _;go_simp);try with_reducible rfl)
  (try simp only[Act.put,zA,zB,zC])
  refine wpAnyT_take (i:=4) (oi:=⟨some 34,_,_,_,_,_⟩) (v:= ?_) 8 rfl (by kernel_rfl) (by kernel_rfl) (by kernel_rfl) (by kernel_rfl) (by kernel_rfl) (fun _ _ _ h=>h) (Or.inl ⟨by rfl, ?_⟩) (by assumption) ?_
  rotate_left
  ·((intro w hSw;(try dsimp only at hSw);go_simp);try with_reducible rfl)
  (try simp only[Act.put,zA,zB,zC])
  refine wpAnyT_takeW (i:=6) (oi:=⟨some 36,_,_,_,_,_⟩) (v:= ?_) rfl (by kernel_rfl) (by kernel_rfl) (by kernel_rfl) (fun _ _ _ h=>h) (Or.inl ⟨by rfl, ?_⟩) ?_
  rotate_left
  ·((intro w _;go_simp);try with_reducible rfl)
  (try simp only[Act.put,zA,zB,zC])
  refine wpAnyT_take (i:=7) (oi:=⟨some 37,_,_,_,_,_⟩) (v:= ?_) 8 rfl (by kernel_rfl) (by kernel_rfl) (by kernel_rfl) (by kernel_rfl) (by kernel_rfl) (fun _ _ _ h=>h) (Or.inl ⟨by rfl, ?_⟩) (by assumption) ?_
  rotate_left
  ·((intro w hSw;(try dsimp only at hSw);go_simp);try with_reducible rfl)
  (try simp only[Act.put,zA,zB,zC])
  refine wpAnyT_one (i:=5) (by kernel_rfl) rfl (fun K hK=> ?_)
  rw[if_pos (by rfl)]
  go_simp
  refine hK.out _ _ (HYC.out _ (HYB1.out _)) (fun hHeld=> ?_)
  clear hK K
  (try simp only[Act.put,zA,zB,zC])
  refine wpAnyT_one (i:=8) (by kernel_rfl) rfl (fun K hK=> ?_)
  rw[if_pos (by rfl)]
  go_simp
  refine hK.out _ _ (HYC.out _ (HYB2.out _ _)) (fun hHeld=> ?_)
  clear hK K
  (try simp only[Act.put,zA,zB,zC])
  refine wpAnyT_one (i:=9) (by kernel_rfl) rfl (fun K hK=> ?_)
  rw[if_pos (by rfl)]
  go_simp
  (with_reducible refine CC.out.mono ?_)
  rintro e w5 ⟨va,vn,vc,rfl,ho,hb⟩
  have HO5:=hid ho
  have HVN5:Hid (vn≤140737488355328):=hid (by have h1:=ho.read.1;have h2:=HXL.out;simp at h1;omega)
  have HB5:=hid hb
  clear ho hb
  refine hK.out _ _ (HYC.out _ HB5.out) (fun hHeld=> ?_)
  clear hK K
  (try simp only[Act.put,zA,zB,zC])
  refine wpAnyT_one (i:=10) (by kernel_rfl) rfl (fun K hK=> ?_)
  rw[if_pos (by rfl)]
  go_simp
  (with_reducible refine(equal_any pa va pn vn pc vc X.params (5::s.params) w5 (HPR.out.since (HBY.out.trans (HB5.out.mono HBY.out.size))) HO5.out.read HPN8.out HVN5.out).mono ?_)
  rintro e w6 ⟨rfl,q,rfl⟩
  have HB6:Hid (Below Y.heap.size Y (w5.drewN q)):=hid (below_drewN q HB5.out)
  refine hK.out _ _ (HYC.out _ HB6.out) (fun hHeld=> ?_)
  clear hK K
  (try simp only[Act.put,zA,zB,zC])
  refine wpAnyT_one (i:=11) (by kernel_rfl) rfl (fun K hK=> ?_)
  rw[if_pos (by rfl)]
  go_simp
  (with_reducible refine(need_any _ _).mono ?_)
  intro e w7 hq
  rcases hq.split with⟨hk,rfl,rfl⟩|⟨hk,rfl,rfl⟩
  rotate_left
  ·exact⟨rfl,RulePost.bad (by rw[HM.out,HK1.out,hk];rfl) (HB.out.trans ((HBY.out.trans (HB6.out.mono HBY.out.size)).mono HB.out.size))⟩
  have HRR:Hid (RulePost (methB P (k:Int) s) w (.returned (.tuple #[])) (w5.drewN q)):=hid (RulePost.good (by rw[HM.out,HK1.out,hk];rfl) (HB.out.trans ((HBY.out.trans (HB6.out.mono HBY.out.size)).mono HB.out.size)))
  clear hk
  refine hK.out _ _ (HYC.out _ HB6.out) (fun hHeld=> ?_)
  clear hK K
  (try simp only[Act.put,zA,zB,zC])
  refine wpAnyT_done (by kernel_rfl) ?_
  go_wp2_with fail
  go_end0
  exact HRR.out
 ·have HM:Hid (methB P (k:Int) s=false):=hid (by
   unfold methB
   rw[decide_eq_false (by omega:¬ (k:Int)<(P.funcs.length:Int))]
   rfl)
  have HKF:=hid hk
  have hkz:¬ (k:Int)<(fn:Int):=by omega
  clear hs hx hx0 hx8 hP hP1 hh hfl hb1 hs1 hm0 hd hk
  go_enter Tryz.func87,Tryz.ntmps87
  go_upto_region 1 with fail
  try rw[hW1]
  clear hW1
  go_wp2_with(go_at_call 49;(with_reducible refine(need_any _ _).mono ?_);intro e w3 hq;rcases hq.split with⟨hk,rfl,rfl⟩|⟨hk,rfl,rfl⟩;(exfalso;first|(cases hk;done)|(rw[decide_eq_false HKF.out]at hk;cases hk)|(simp[HKF.out]at hk)))
  exact⟨rfl,RulePost.bad HM.out HB.out⟩
set_option maxHeartbeats 4000000 in
theorem wclass_any(g:Nat){sa:Option Addr}{sn sc:Nat}{ca:Option Addr}{cn cc:Nat}{fa:Option Addr}{fn fc:Nat}{P:ProgD}(c:ClassD)(xa:Option Addr)(xn xc:Nat)(ma:Option Addr)(mn mc:Nat)(w:World)(hP:ProgAt w g sa sn sc ca cn cc fa fn fc P)(hx:NumsV w (.slice xa xn xc) c.fields)(hm:NumsV w (.slice ma mn mc) c.methods)(hh:∀ i,i<P.funcs.length→0<(funcOf P i).blocks.length):
 Calls Tryz.prog 54 #[.agg #[.pointer (some ⟨g,0,none⟩)],.agg #[.slice xa xn xc,.slice ma mn mc]] w (RulePost (classB P c) w):=by
 obtain⟨hb1,hc,hd,hs1⟩:=rules_box2 w g #[.slice xa xn xc,.slice ma mn mc] 62
 obtain⟨W1,hW1⟩:∃ U,(w.alloc (.cells #[.pointer (some ⟨g,0,none⟩)] 68)).alloc (.cells #[.slice xa xn xc,.slice ma mn mc] 62)=U:=⟨_,rfl⟩
 rw[hW1]at hb1 hc hd hs1
 have hP1:=hP.since hb1
 have HB:=hid hb1
 have HP:=hid hP1
 obtain⟨_,_,_,hxe,hx1,hx0,hx8,hxr⟩:=hx.since hb1
 cases hxe
 obtain⟨_,_,_,hme,hm1,hm0,hm8,hmr⟩:=hm.since hb1
 cases hme
 have HMN:=hid hm1
 have HMR:=hid hmr
 have HML:Hid (c.methods.length=mn):=hid hm1.1
 have hsl:=hP1.s.len
 have HSL:=hid hsl.1
 have HH:=hid hh
 have hmn8:mn≤140737488351232:=by omega
 have hd0:=hd 0
 have hd1:=hd 1
 have hp0:=hP1.c0
 have hgl:g<W1.heap.size:=World.block_lt_of_cell? _ _ hp0
 have CK:=hid (wknown_any g xa xn xc c.fields W1 hP1 hx1 hxr (by omega))
 have HC:Hid (∀U,Below W1.heap.size W1 U→U.cell? ⟨w.heap.size,0,none⟩=some (.pointer (some ⟨g,0,none⟩))∧U.cell? ⟨w.heap.size+1,1,none⟩=some (.slice ma mn mc)∧U.cell? ⟨g,0,none⟩=some (.slice sa sn sc)):=hid fun U hU=>⟨(hU.cell (p:=⟨w.heap.size,0,none⟩) (by simp only[];omega)).trans hc,(hU.cell (p:=⟨w.heap.size+1,1,none⟩) (by simp only[];omega)).trans hd1,(hU.cell (p:=⟨g,0,none⟩) hgl).trans hp0⟩
 obtain⟨bb,hbb1⟩:∃ b,((mn:Int)==(sn:Int))=b:=⟨_,rfl⟩
 have hbb2:(mn==sn)=bb:=by rw[←hbb1,Bool.eq_iff_iff,beq_iff_eq,beq_iff_eq];omega
 have hbb3:decide (mn=sn)=bb:=by rw[←hbb2];rfl
 have HBB:Hid (bb=true↔mn=sn):=hid (by rw[←hbb2,beq_iff_eq])
 clear hs1 hP hx hm hx1 hx0 hx8 hxr hm1 hm0 hm8 hmr hd hP1 hsl hb1 hgl hh
 go_enter Tryz.func54,Tryz.ntmps54
 go_upto_region 1 with fail
 try rw[hW1]
 clear hW1
 go_upto_region 2 with(go_at_call 50;(with_reducible refine CK.out.mono ?_);intro e w2 hq;rcases hq.split with⟨hk,rfl,hb⟩|⟨hk,rfl,hb⟩;rotate_left;(exact⟨rfl,RulePost.bad (by unfold classB;rw[hk];rfl) (HB.out.trans (hb.mono HB.out.size))⟩);have HK1:=hid hk;have HB2:=hid hb;clear hk hb)
 clear hd0 hd1 hp0 hc CK
 have HB3:Hid (Below W1.heap.size W1 w2.drew):=hid HB2.out.drew
 refine wp_region_T (S:=(fun u:World=>u.cell? ⟨w.heap.size,0,none⟩=some (.pointer (some ⟨g,0,none⟩))∧u.cell? ⟨w.heap.size+1,1,none⟩=some (.slice ma mn mc)∧u.cell? ⟨g,0,none⟩=some (.slice sa sn sc))) 11 (by kernel_rfl) (HC.out _ HB3.out) (fun hHeld=> ?_)
 refine wpAnyT_takeW (i:=0) (oi:=⟨some 10,_,_,_,_,_⟩) (v:= ?_) rfl (by kernel_rfl) (by kernel_rfl) (by kernel_rfl) (fun _ _ _ h=>h) (Or.inl ⟨by rfl, ?_⟩) ?_
 rotate_left
 ·((intro w _;go_simp);try with_reducible rfl)
 (try simp only[Act.put,zA,zB,zC])
 refine wpAnyT_take (i:=1) (oi:=⟨some 11,_,_,_,_,_⟩) (v:= ?_) 8 rfl (by kernel_rfl) (by kernel_rfl) (by kernel_rfl) (by kernel_rfl) (by kernel_rfl) (fun _ _ _ h=>h) (Or.inl ⟨by rfl, ?_⟩) (by assumption) ?_
 rotate_left
 ·((intro w hSw;(try dsimp only at hSw);go_simp);try with_reducible rfl)
 (try simp only[Act.put,zA,zB,zC])
 refine wpAnyT_takeW (i:=2) (oi:=⟨some 12,_,_,_,_,_⟩) (v:= ?_) rfl (by kernel_rfl) (by kernel_rfl) (by kernel_rfl) (fun _ _ _ h=>h) (Or.inl ⟨by rfl, ?_⟩) ?_
 rotate_left
 ·((intro w _;go_simp);try with_reducible rfl)
 (try simp only[Act.put,zA,zB,zC])
 refine wpAnyT_takeW (i:=3) (oi:=⟨some 13,_,_,_,_,_⟩) (v:= ?_) rfl (by kernel_rfl) (by kernel_rfl) (by kernel_rfl) (fun _ _ _ h=>h) (Or.inl ⟨by rfl, ?_⟩) ?_
 rotate_left
 ·((intro w _;go_simp);try with_reducible rfl)
 (try simp only[Act.put,zA,zB,zC])
 refine wpAnyT_take (i:=4) (oi:=⟨some 14,_,_,_,_,_⟩) (v:= ?_) 8 rfl (by kernel_rfl) (by kernel_rfl) (by kernel_rfl) (by kernel_rfl) (by kernel_rfl) (fun _ _ _ h=>h) (Or.inl ⟨by rfl, ?_⟩) (by assumption) ?_
 rotate_left
 ·((intro w hSw;(try dsimp only at hSw);go_simp);try with_reducible rfl)
 (try simp only[Act.put,zA,zB,zC])
 refine wpAnyT_takeW (i:=5) (oi:=⟨some 15,_,_,_,_,_⟩) (v:= ?_) rfl (by kernel_rfl) (by kernel_rfl) (by kernel_rfl) (fun _ _ _ h=>h) (Or.inl ⟨by rfl, ?_⟩) ?_
 rotate_left
 ·((intro w _;go_simp);try with_reducible rfl)
 (try simp only[Act.put,zA,zB,zC])
 refine wpAnyT_takeW (i:=6) (oi:=⟨some 16,_,_,_,_,_⟩) (v:= ?_) rfl (by kernel_rfl) (by kernel_rfl) (by kernel_rfl) (fun _ _ _ h=>h) (Or.inl ⟨by rfl, ?_⟩) ?_
 rotate_left
 ·((intro w _;go_simp);try with_reducible rfl)
 (try simp only[Act.put,zA,zB,zC])
 refine wpAnyT_take (i:=7) (oi:=⟨some 17,_,_,_,_,_⟩) (v:= ?_) 8 rfl (by kernel_rfl) (by kernel_rfl) (by kernel_rfl) (by kernel_rfl) (by kernel_rfl) (fun _ _ _ h=>h) (Or.inl ⟨by rfl, ?_⟩) (by assumption) ?_
 rotate_left
 ·((intro w hSw;(try dsimp only at hSw);go_simp);try with_reducible rfl)
 (try simp only[Act.put,zA,zB,zC])
 refine wpAnyT_takeW (i:=8) (oi:=⟨some 18,_,_,_,_,_⟩) (v:= ?_) rfl (by kernel_rfl) (by kernel_rfl) (by kernel_rfl) (fun _ _ _ h=>h) (Or.inl ⟨by rfl, ?_⟩) ?_
 rotate_left
 ·((intro w _;go_simp);try with_reducible rfl)
 (try simp only[Act.put,zA,zB,zC])
 refine wpAnyT_takeW (i:=9) (oi:=⟨some 19,_,_,_,_,_⟩) (v:= ?_) rfl (by kernel_rfl) (by kernel_rfl) (by kernel_rfl) (fun _ _ _ h=>h) (Or.inl ⟨by rfl, ?_⟩) ?_
 rotate_left
 ·((intro w _;go_simp);try with_reducible rfl)
 (try simp only[Act.put,zA,zB,zC])
 refine wpAnyT_one (i:=10) (by kernel_rfl) rfl (fun K hK=> ?_)
 rw[if_pos (by rfl)]
 go_simp
 (with_reducible refine(need_any _ _).mono ?_)
 intro e w7 hq
 rcases hq.split with⟨hk,rfl,rfl⟩|⟨hk,rfl,rfl⟩
 rotate_left
 ·exact⟨rfl,RulePost.bad (by unfold classB;rw[decide_eq_false (fun e=>by have h1:=HML.out;have h2:=HSL.out;rw[HBB.out.2 (by omega)]at hk;cases hk)];simp) (HB.out.trans (HB3.out.mono HB.out.size))⟩
 have HMS:Hid (mn=sn):=hid (HBB.out.1 hk)
 clear hk
 refine hK.out _ _ (HC.out _ HB3.out) (fun hHeld=> ?_)
 clear hK K
 (try simp only[Act.put,zA,zB,zC])
 refine wpAnyT_done (by kernel_rfl) ?_
 clear hbb1 hbb2 hbb3
 obtain⟨x0,x1,x2⟩:=HC.out _ HB3.out
 go_upto_region 4 with fail
 clear x0 x1 x2
 go_loopw[24] (fun v24 wr=>∃ i:Nat,i≤mn∧v24=.int .i64 (i:Int)∧Hid (allK (meth1 P c) i=true∧Below W1.heap.size W1 wr)) (fun iv _=>mn-(intOf iv).toNat)
 case atStart=>exact⟨0,Nat.zero_le _,rfl,hid ⟨rfl,HB3.out⟩⟩
 case round=>
  obtain⟨i,hi,rfl,HI⟩:=hrel
  by_cases hlt:i<mn
  ·have hltz:(i:Int)<(mn:Int):=by omega
   have hi0:(0:Int)≤(i:Int):=by omega
   have hil:i<c.methods.length:=by have:=HML.out;omega
   obtain⟨ga,oa,rfl,hg,hcell⟩:=(HMN.out.since HI.out.2).2 (by omega)
   have hz:wr.cell? ⟨ga,oa+i,none⟩=some (.int .i64 (nth c.methods i)):=by rw[hcell i hil,nth_is hil];rfl
   obtain⟨z,hzz⟩:∃ z,z=nth c.methods i:=⟨_,rfl⟩
   have HZZ:=hid hzz
   rw[←hzz]at hz
   have HLT:=hid hlt
   clear hcell hg hil hzz
   by_cases h0:0≤z
   ·have HM1:Hid (meth1 P c i=methB P z (sigOf P i)):=hid (by unfold meth1;rw[←HZZ.out,if_pos h0])
    have hin:i<sn:=by have:=HMS.out;omega
    have hinz:(i:Int)<(sn:Int):=by omega
    have HPI:=HP.out.since HI.out.2
    obtain⟨gs,os,cs,hsl,rfl,hl2,hscell,hq⟩:=HPI.s.elem hin
    obtain⟨X,hX⟩:∃ X,X=P.sigs[i]:=⟨_,rfl⟩
    rw[←hX]at hq
    have hso:sigOf P i=X:=by rw[sigOf_at hsl,hX]
    obtain⟨pv,rfl,hpv,hpr⟩:=hq
    have hpv':=hpv
    obtain⟨qa,qn,qc,rfl,_⟩:=hpv'
    have f0:=hscell 0 (by simp)
    have f1:=hscell 1 (by simp)
    simp only[Nat.add_zero,List.getElem_cons_zero,List.getElem_cons_succ]at f0 f1
    have hgs:gs<wr.heap.size:=World.block_lt_of_cell? _ _ f0
    have CM:Hid (∀u,Below wr.heap.size wr u→Calls Tryz.prog 87 #[.agg #[.pointer (some ⟨g,0,none⟩)],.int .i64 z,.agg #[.slice qa qn qc,.int .i64 X.ret]] u (RulePost (methB P z (sigOf P i)) u)):=hid fun u hu=>by
     rw[hso]
     exact wmethod_any g z h0 X qa qn qc u (HPI.since hu) (hpv.since hu) HH.out
    obtain⟨x0,x1,x2⟩:=HC.out wr HI.out.2
    have HXC:Hid (∀u,Below wr.heap.size wr u→u.cell? ⟨w.heap.size,0,none⟩=some (.pointer (some ⟨g,0,none⟩))∧u.cell? ⟨g,0,none⟩=some (.slice (some ⟨gs,os,none⟩) sn sc)∧u.cell? ⟨gs,os+i*2,none⟩=some (.slice qa qn qc)∧u.cell? ⟨gs,os+i*2+1,none⟩=some (.int .i64 X.ret)):=hid fun u hu=>by
     obtain⟨q0,_,q2⟩:=HC.out u (HI.out.2.trans (hu.mono HI.out.2.size))
     exact⟨q0,q2,(hu.cell (p:=⟨gs,os+i*2,none⟩) hgs).trans f0,(hu.cell (p:=⟨gs,os+i*2+1,none⟩) hgs).trans f1⟩
    have HZ0:=hid h0
    clear hscell hl2 hX hso hpv hpr f0 f1 hgs HPI hsl x0 x1 x2 hin
    go_upto_region 7 with fail
    refine wp_region_T (S:=(fun u:World=>u.cell? ⟨w.heap.size,0,none⟩=some (.pointer (some ⟨g,0,none⟩))∧u.cell? ⟨g,0,none⟩=some (.slice (some ⟨gs,os,none⟩) sn sc)∧u.cell? ⟨gs,os+i*2,none⟩=some (.slice qa qn qc)∧u.cell? ⟨gs,os+i*2+1,none⟩=some (.int .i64 X.ret))) 11 (by kernel_rfl) (HXC.out _ ((Below.refl _ wr).drew)) (fun hHeld=> ?_)
    refine wpAnyT_take (i:=0) (oi:=⟨some 31,_,_,_,_,_⟩) (v:= ?_) 8 rfl (by kernel_rfl) (by kernel_rfl) (by kernel_rfl) (by kernel_rfl) (by kernel_rfl) (fun _ _ _ h=>h) (Or.inl ⟨by rfl, ?_⟩) (by assumption) ?_
    rotate_left
    ·((intro w hSw;(try dsimp only at hSw);go_simp);try with_reducible rfl)
    (try simp only[Act.put,zA,zB,zC])
    refine wpAnyT_takeW (i:=1) (oi:=⟨some 32,_,_,_,_,_⟩) (v:= ?_) rfl (by kernel_rfl) (by kernel_rfl) (by kernel_rfl) (fun _ _ _ h=>h) (Or.inl ⟨by rfl, ?_⟩) ?_
    rotate_left
    ·((intro w _;go_simp);try with_reducible rfl)
    (try simp only[Act.put,zA,zB,zC])
    refine wpAnyT_takeW (i:=2) (oi:=⟨some 33,_,_,_,_,_⟩) (v:= ?_) rfl (by kernel_rfl) (by kernel_rfl) (by kernel_rfl) (fun _ _ _ h=>h) (Or.inl ⟨by rfl, ?_⟩) ?_
    rotate_left
    ·((intro w _;go_simp);try with_reducible rfl)
    (try simp only[Act.put,zA,zB,zC])
    refine wpAnyT_take (i:=3) (oi:=⟨some 34,_,_,_,_,_⟩) (v:= ?_) 8 rfl (by kernel_rfl) (by kernel_rfl) (by kernel_rfl) (by kernel_rfl) (by kernel_rfl) (fun _ _ _ h=>h) (Or.inl ⟨by rfl, ?_⟩) (by assumption) ?_
    rotate_left
    ·((intro w hSw;(try dsimp only at hSw);go_simp);try with_reducible rfl)
    (try simp only[Act.put,zA,zB,zC])
    refine wpAnyT_takeW (i:=4) (oi:=⟨some 35,_,_,_,_,_⟩) (v:= ?_) rfl (by kernel_rfl) (by kernel_rfl) (by kernel_rfl) (fun _ _ _ h=>h) (Or.inl ⟨by rfl, ?_⟩) ?_
    rotate_left
    ·((intro w _;go_simp);try with_reducible rfl)
    (try simp only[Act.put,zA,zB,zC])
    refine wpAnyT_takeW (i:=5) (oi:=⟨some 36,_,_,_,_,_⟩) (v:= ?_) rfl (by kernel_rfl) (by kernel_rfl) (by kernel_rfl) (fun _ _ _ h=>h) (Or.inl ⟨by rfl, ?_⟩) ?_
    rotate_left
    ·((intro w _;go_simp);try with_reducible rfl)
    (try simp only[Act.put,zA,zB,zC])
    refine wpAnyT_take (i:=6) (oi:=⟨some 37,_,_,_,_,_⟩) (v:= ?_) 8 rfl (by kernel_rfl) (by kernel_rfl) (by kernel_rfl) (by kernel_rfl) (by kernel_rfl) (fun _ _ _ h=>h) (Or.inl ⟨by rfl, ?_⟩) (by assumption) ?_
    rotate_left
    ·((intro w hSw;(try dsimp only at hSw);go_simp);try with_reducible rfl)
    (try simp only[Act.put,zA,zB,zC])
    refine wpAnyT_takeW (i:=7) (oi:=⟨some 38,_,_,_,_,_⟩) (v:= ?_) rfl (by kernel_rfl) (by kernel_rfl) (by kernel_rfl) (fun _ _ _ h=>h) (Or.inl ⟨by rfl, ?_⟩) ?_
    rotate_left
    ·((intro w _;go_simp);try with_reducible rfl)
    (try simp only[Act.put,zA,zB,zC])
    refine wpAnyT_takeW (i:=8) (oi:=⟨some 39,_,_,_,_,_⟩) (v:= ?_) rfl (by kernel_rfl) (by kernel_rfl) (by kernel_rfl) (fun _ _ _ h=>h) (Or.inl ⟨by rfl, ?_⟩) ?_
    rotate_left
    ·((intro w _;go_simp);try with_reducible rfl)
    (try simp only[Act.put,zA,zB,zC])
    refine wpAnyT_take (i:=9) (oi:=⟨some 40,_,_,_,_,_⟩) (v:= ?_) 8 rfl (by kernel_rfl) (by kernel_rfl) (by kernel_rfl) (by kernel_rfl) (by kernel_rfl) (fun _ _ _ h=>h) (Or.inl ⟨by rfl, ?_⟩) (by assumption) ?_
    rotate_left
    ·((intro w hSw;(try dsimp only at hSw);go_simp);try with_reducible rfl)
    (try simp only[Act.put,zA,zB,zC])
    refine wpAnyT_one (i:=10) (by kernel_rfl) rfl (fun K hK=> ?_)
    rw[if_pos (by rfl)]
    go_simp
    (with_reducible refine(CM.out _ ((Below.refl _ wr).drew)).mono ?_)
    intro e w7 hq
    rcases hq.split with⟨hk,rfl,hb⟩|⟨hk,rfl,hb⟩
    rotate_left
    ·exact⟨rfl,RulePost.bad (by unfold classB;rw[HML.out,allK_no HLT.out (by rw[HM1.out];exact hk)];simp) (HB.out.trans ((HI.out.2.trans (((Below.refl _ wr).drew.trans (hb.mono (Nat.le_refl _))).mono HI.out.2.size)).mono HB.out.size))⟩
    have hb7:Below wr.heap.size wr w7:=(Below.refl _ wr).drew.trans (hb.mono (Nat.le_refl _))
    have HB7:=hid hb7
    have HK5:Hid (allK (meth1 P c) (i+1)=true∧Below W1.heap.size W1 w7):=hid ⟨allK_more HI.out.1 (by rw[HM1.out];exact hk),HI.out.2.trans (hb7.mono HI.out.2.size)⟩
    clear hk hb hb7
    refine hK.out _ _ (HXC.out _ HB7.out) (fun hHeld=> ?_)
    clear hK K
    (try simp only[Act.put,zA,zB,zC])
    refine wpAnyT_done (by kernel_rfl) ?_
    go_wp2_with fail
    go_roundw
    case rel=>exact⟨i+1,HLT.out,by go_num,HK5⟩
    case measure=>have:=HLT.out;simp[intOf];omega
   ·have HM1:Hid (meth1 P c i=true):=hid (by unfold meth1;rw[←HZZ.out,if_neg h0])
    have HK5:Hid (allK (meth1 P c) (i+1)=true∧Below W1.heap.size W1 wr):=hid ⟨allK_more HI.out.1 HM1.out,HI.out.2⟩
    go_wp2_with fail
    go_roundw
    case rel=>exact⟨i+1,HLT.out,by go_num,HK5⟩
    case measure=>have:=HLT.out;simp[intOf];omega
  ·obtain rfl:i=mn:=by omega
   have hnn:¬ (i:Int)<(i:Int):=by omega
   have HK:Hid (classB P c=true):=hid (by unfold classB;rw[HK1.out,HML.out,HI.out.1,decide_eq_true (by have:=HSL.out;have:=HMS.out;omega:i=P.sigs.length)];rfl)
   go_wp2_with fail
   go_end0
   exact RulePost.good HK.out (HB.out.trans (HI.out.2.mono HB.out.size))
theorem wpList_append_numsG{P:Program}(w:World){ops:Array Oper}{rest:List Oper}{o:Oper}{a:Act}{Q:Exit→Act→World→Prop}(hgd:o.guard=none)(s x:Operand)(t:TypeId)
 (ho:o.op=.call {callee:=.builtin .append,args:=#[s,x],argTypes:=#[t,t]})(e:TypeId)(ht:P.underlying t=some (.slice e))
 (hinfo:(P.info? e).map (fun i=>(i.zero,i.size,i.bytes))=some (some (.int .i64 0),1,8))
 (B:Nat)(v:Value)(Z:List Int)(hs:a.eval s=v)(hown:OwnsI w B e v Z)(hB:B≤w.heap.size)
 (xa:Option Addr)(m c:Nat)(news:List Int)(hx:a.eval x=.slice xa m c)(hnil:xa=none→c=0)(hat:NumsAt w xa m news)
 (hlen:(Z.length+m)*8≤140737488355328)
 (h:∀ va vn vc w',OwnsI w' B e (.slice va vn vc) (Z++news)→w.grownBy w' v.ownBlock→wpList P ops Q rest (a.put o.dst (.slice va vn vc)) w'):wpList P ops Q (o::rest) a w:=by
 obtain⟨i0,hi,hz0,hz1,hz2⟩:=info_parts hinfo
 have h1:=hat.1
 cases xa with
 |none=>
  have hm:m=0:=by
   by_cases h0:0<m
   ·obtain⟨g,off,he,_⟩:=hat.2 h0;cases he
   ·omega
  have hc:c=0:=hnil rfl
  subst hm hc
  have h0:news=[]:=List.eq_nil_of_length_eq_zero h1
  subst h0
  refine wpList_append_own_none hgd s x t ho B e i0 1 ht hi v Z.length (Z.map numV) hs hown hx ?_
  obtain⟨va,vn,vc,rfl,hat⟩:=hown.nums
  exact h va vn vc w (by rw[List.append_nil];exact hown) (World.grownBy.refl _ _)
 |some ad=>
  subst h1
  refine wpList_append_own _ hgd s x t ho B e i0 (.int .i64 0) 1 8 ht hi hz0 hz1 hz2 rfl (by decide) v Z.length (Z.map numV) hs hown ad news.length c (news.map numV) hx (by simp) (fun j u hu=> ?_) (fun u hu=>by obtain⟨z,_,rfl⟩:=List.mem_map.1 hu;rfl) (by unfold maxLen;omega) hlen hB ?_
  ·rw[List.getElem?_map]at hu
   obtain⟨z,hz,rfl⟩:=Option.map_eq_some_iff.1 hu
   obtain⟨hj,rfl⟩:=List.getElem?_eq_some_iff.1 hz
   obtain⟨ad',he,hcell⟩:=hat.at (by omega)
   cases he
   exact hcell j hj
  ·intro v' w' hown' hgrow _
   have hown2:OwnsI w' B e v' (Z++news):=by
    show w'.ownsRow B e 1 v' (Z++news).length ((Z++news).map numV)
    rw[List.map_append,List.length_append]
    exact hown'
   obtain⟨va,vn,vc,rfl,hat⟩:=hown2.nums
   exact h va vn vc w' hown2 hgrow
theorem make_types(n:Nat)(hn:n≤1099511627776)(u:World):(Instr.makeSlice 40 (.int .i64 0) (.int .i64 (n:Int))).run Tryz.prog u=.ok (.slice (some ⟨u.heap.size,0,none⟩) 0 n) (u.alloc (.cells (madeCells #[.int .i64 0] n) 3)):=by
 obtain⟨i0,hi,hz0,hz1,hz2⟩:=info_parts info_int
 have h:=run_make (P:=Tryz.prog) u 40 3 i0 (.int .i64 0) Tryz.underlying40 hi hz0 .i64 .i64 0 (n:Int) (by omega) (by omega) (by rw[hz2];omega) (by omega)
 rw[Int.toNat_natCast]at h
 simpa [hz1,Value.cells]using h
structure TySt(W1:World)(B2 n:Nat)(f:FuncD)(va:Option Addr)(vn vc:Nat)(fa:Option Addr)(fc:Nat)(oa:Option Addr)(on oc:Nat)(T:List Int)(wr:World):Prop where
 own:OwnsI wr W1.heap.size 3 (.slice va vn vc) T
 first:OwnsI wr B2 3 (.slice fa (n+1) fc) (firstL f)
 ord:OwnsI wr B2 3 (.slice oa on oc) (thruL f)
 lt:∀ k,(Value.slice va vn vc).ownBlock=some k→k<B2
 le:B2≤wr.heap.size
 bel:Below W1.heap.size W1 wr
theorem TySt.since{W1:World}{B2 n:Nat}{f:FuncD}{va:Option Addr}{vn vc:Nat}{fa:Option Addr}{fc:Nat}{oa:Option Addr}{on oc:Nat}{T:List Int}{wr w':World}(h:TySt W1 B2 n f va vn vc fa fc oa on oc T wr)(hb:Below wr.heap.size wr w'):TySt W1 B2 n f va vn vc fa fc oa on oc T w':=
 ⟨OwnsI.below h.own hb,OwnsI.below h.first hb,OwnsI.below h.ord hb,h.lt,Nat.le_trans h.le hb.size,h.bel.trans (hb.mono h.bel.size)⟩
theorem TySt.at{W1:World}{B2 n:Nat}{f:FuncD}{va:Option Addr}{vn vc:Nat}{fa:Option Addr}{fc:Nat}{oa:Option Addr}{on oc:Nat}{T:List Int}{wr:World}(h:TySt W1 B2 n f va vn vc fa fc oa on oc T wr){j:Nat}(hj:j<T.length):
 ∃g,va=some ⟨g,0,none⟩∧W1.heap.size≤g∧g<B2∧wr.cell? ⟨g,j,none⟩=some (.int .i64 T[j])∧wr.frozen? ⟨g,j,none⟩=false:=by
 rcases h.own.2 with⟨e,h0⟩|⟨g,cap,cur,e,hB,hh,rest⟩
 ·cases e
  have:=h.own.read.1
  omega
 ·cases e
  refine⟨g,rfl,hB,h.lt g rfl, ?_,by simp[World.frozen?,hh]⟩
  have:=World.ownsRow.cells h.own (g:=g) rfl j (numV T[j]) (by rw[List.getElem?_map,List.getElem?_eq_getElem hj];rfl)
  rwa [addr_plain,Nat.zero_add]at this
theorem TySt.put{W1:World}{B2 n:Nat}{f:FuncD}{g vn vc:Nat}{fa:Option Addr}{fc:Nat}{oa:Option Addr}{on oc:Nat}{T:List Int}{wr:World}(h:TySt W1 B2 n f (some ⟨g,0,none⟩) vn vc fa fc oa on oc T wr)(hg:W1.heap.size≤g)(j:Nat)(z:Int):TySt W1 B2 n f (some ⟨g,0,none⟩) vn vc fa fc oa on oc (T.set j z) (wr.setCell ⟨g,j,none⟩ (.int .i64 z)):=by
 have hlt:=h.lt g rfl
 refine⟨OwnsI.set h.own j z,h.first.setCell ⟨g,j,none⟩ _ hlt,h.ord.setCell ⟨g,j,none⟩ _ hlt,h.lt,by rw[setCell_size];exact h.le,h.bel.setCell hg _⟩
theorem kwrap_two{a b:Nat}(h:a+b≤1099511627776):IntKind.i64.wrap ((a:Int)+(b:Int))=(a:Int)+(b:Int):=wrap_small _ (by omega) (by omega)
theorem kwrap_three{a b c:Nat}(h:a+b+c≤1099511627776):IntKind.i64.wrap ((a:Int)+(b:Int)+(c:Int))=((a+b+c:Nat):Int):=by
 rw[wrap_small _ (by omega) (by omega)]
 omega
set_option maxRecDepth 100000 in
set_option maxHeartbeats 4000000 in
theorem wtypes_any(pg:Nat){sa:Option Addr}{sn sc:Nat}{ca:Option Addr}{cn cc:Nat}{pa':Option Addr}{pn' pc':Nat}{P:ProgD}(r:Int)(a:Option Addr)(n c:Nat)(f:FuncD)(w:World)(hft:FT w)(hP:ProgAt w pg sa sn sc ca cn cc pa' pn' pc' P)
 (hf:FuncQ w [.int .i64 r,.slice a n c] f)(hn:n≤100000)(hv:valuesN f≤1099511627776):
 Calls Tryz.prog 15 #[.pointer (some ⟨pg,0,none⟩),.agg #[.int .i64 r,.slice a n c]] w fun e w'=>∃ va vn vc,e=.returned (.slice va vn vc)∧OwnsI w' w.heap.size 3 (.slice va vn vc) (typesL P f)∧Below w.heap.size w w':=by
 obtain⟨W1,hW1⟩:∃ U,w.alloc (.cells #[.int .i64 r,.slice a n c] 36)=U:=⟨_,rfl⟩
 have hb1:Below w.heap.size w W1:=by rw[←hW1];exact(Below.refl _ w).alloc (Nat.le_refl _) _
 have hs1:W1.heap.size=w.heap.size+1:=by rw[←hW1];simp
 have hc:∀ j,W1.cell? ⟨w.heap.size,j,none⟩=(#[.int .i64 r,.slice a n c]:Array Value)[j]? :=fun j=>by rw[←hW1];exact World.cell?_alloc_mark _ _ _ _ _
 have hc0:=hc 0
 have hc1:=hc 1
 have HC:Hid (∀U,Below W1.heap.size W1 U→U.cell? ⟨w.heap.size,0,none⟩=some (.int .i64 r)∧U.cell? ⟨w.heap.size,1,none⟩=some (.slice a n c)):=hid fun U hU=>⟨(hU.cell (p:=⟨w.heap.size,0,none⟩) (by simp only[];omega)).trans (hc 0),(hU.cell (p:=⟨w.heap.size,1,none⟩) (by simp only[];omega)).trans (hc 1)⟩
 have hrow:=(funcQ_row hf).1
 have HL:Hid (f.blocks.length=n):=hid (by obtain⟨_,_,_,e,h,_⟩:=hrow;cases e;exact h)
 have hcn:P.classes.length≤140737488355328:=by have:=hP.c.len;omega
 have HTR:Hid (∀b T k,(∀z∈T,InR z)→∀ z∈blockK P f b T k,InR z):=hid fun b T k h=>blockK_r hP.r hcn h k
 have HTK:Hid (∀i,∀z∈typesK P f i,InR z):=hid (typesK_r hP.r hcn hrow.parR)
 have HR:=hid (hrow.since BlockQ.lasts hb1)
 have HP:=hid (hP.since hb1)
 have HFT:=hid (hft.since hb1)
 have HB1:=hid hb1
 have HS1:=hid hs1
 have HN:=hid hn
 have HV:=hid hv
 have CV:=hid (code_values r a n c f W1 (FuncQ.lasts _ _ _ _ hb1 hf))
 rw[valuesOf_nat f hv]at CV
 have hmk:=make_types (valuesN f) hv
 obtain⟨N,hN⟩:∃ N,N=valuesN f:=⟨_,rfl⟩
 rw[←hN]at CV hmk
 have HNV:=hid hN
 clear hrow hf hb1 hc hs1 hP hft hv hcn hN
 go_enter Tryz.func15,Tryz.ntmps15
 go_upto_region 1 with fail
 try rw[hW1]
 clear hW1
 go_upto_region 2 with(go_at_call 25;refine CV.out.mono ?_;rintro e w2 ⟨rfl,hb⟩;have HB2:=hid hb;obtain⟨d0,d1⟩:=HC.out w2 hb;clear hb hc0 hc1)
 obtain⟨W3,hW3⟩:∃ u,w2.alloc (.cells (madeCells #[.int .i64 0] N) 3)=u:=⟨_,rfl⟩
 have hb3:Below W1.heap.size W1 W3:=by rw[←hW3];exact HB2.out.alloc HB2.out.size _
 have HO0:Hid (OwnsI W3 W1.heap.size 3 (.slice (some ⟨w2.heap.size,0,none⟩) 0 N) (initK f 0)∧Below W1.heap.size W1 W3):=hid ⟨by rw[←hW3];exact OwnsI.made _ N HB2.out.size (by have:=HNV.out;have:=HV.out;unfold maxLen;omega) (size_madeCells _ _),hb3⟩
 obtain⟨k0,k1⟩:=HC.out W3 hb3
 rw[hW3]
 clear hW3 hb3 d0 d1 hmk
 go_upto_region 3 with fail
 go_loopw[5,20] (fun v5 v20 wr=>∃ (i:Nat) (va:Option Addr) (vn vc:Nat),i≤n∧v5=.slice va vn vc∧v20=.int .i64 (i:Int)∧Hid (OwnsI wr W1.heap.size 3 (.slice va vn vc) (initK f i)∧Below W1.heap.size W1 wr)) (fun _ iv _=>n-(intOf iv).toNat)
 case atStart=>exact⟨0,_,_,_,Nat.zero_le _,rfl,rfl,HO0⟩
 case round=>
  obtain⟨i,va,vn,vc,hi,rfl,rfl,HI⟩:=hrel
  by_cases hlt:i<n
  ·have hltz:(i:Int)<(n:Int):=by omega
   obtain⟨a',n',c',e,_,hpm,_,hrow⟩:=HR.out.since BlockQ.lasts HI.out.2
   cases e
   obtain⟨g,off,rfl,hg,hcs⟩:=hrow (by omega)
   have hif:i<f.blocks.length:=by rw[HL.out];exact hlt
   obtain⟨cs,hl8,hcell,hq⟩:=hcs i hif
   obtain⟨X,hX⟩:∃ X,X=f.blocks[i]:=⟨_,rfl⟩
   rw[←hX]at hq
   obtain⟨pv,ov,es,rfl,⟨pa,pn,pc,rfl,hp,hpn0,_⟩,⟨oa,on,oc,rfl,ho,_⟩,l1,m1,rfl,r1,r2,r3,r4,⟨la,ln,lc,rfl,_⟩,⟨ma,mn,mc,rfl,_⟩⟩:=hq
   have hd0:=hcell 0 (by simp)
   have hd1:=hcell 1 (by simp)
   have hd2:=hcell 2 (by simp)
   have hd3:=hcell 3 (by simp)
   have hd4:=hcell 4 (by simp)
   have hd5:=hcell 5 (by simp)
   have hd6:=hcell 6 (by simp)
   have hd7:=hcell 7 (by simp)
   simp only[Nat.add_zero,List.getElem_cons_zero,List.getElem_cons_succ]at hd0 hd1 hd2 hd3 hd4 hd5 hd6 hd7
   have hpar:parL f i=X.params:=by rw[parL_at hif,hX]
   have hopn:opsN f i=on:=by rw[opsN_at hif,←hX];exact ho
   have HIN:Hid ((initK f i).length+pn+on≤1099511627776∧initK f (i+1)=initK f i++(X.params++List.replicate on (-1))):=hid (by
    refine⟨?_,by rw[show initK f (i+1)=initK f i++(parL f i++List.replicate (opsN f i) (-1))from rfl,hpar,hopn]⟩
    have h1:=firstN_parL hif
    have h2:=firstN_le f (i+1)
    have h3:=HV.out
    rw[initK_len (by omega)]
    rw[hpar,hopn,hp.1]at h1
    omega)
   have HPN:=hid hpn0
   have HPA:=hid hp
   clear hcs hcell hrow hp ho hl8 hif hX hpar hopn hpn0
   go_upto_region 5 with fail
   obtain⟨Y,hY⟩:∃ u,u=wr.alloc (.cells #[.slice pa pn pc,.slice oa on oc,.int .i64 X.fin.K,.int .i64 X.fin.A,.int .i64 X.fin.To,.int .i64 X.fin.Else,.slice la ln lc,.slice ma mn mc] 51):=⟨_,rfl⟩
   have hbY:Below wr.heap.size wr Y:=by rw[hY];exact(Below.refl _ wr).alloc (Nat.le_refl _) _
   have hcY:∀ j,Y.cell? ⟨wr.heap.size,j,none⟩=(#[.slice pa pn pc,.slice oa on oc,.int .i64 X.fin.K,.int .i64 X.fin.A,.int .i64 X.fin.To,.int .i64 X.fin.Else,.slice la ln lc,.slice ma mn mc]:Array Value)[j]? :=fun j=>by rw[hY];exact World.cell?_alloc_mark _ _ _ _ _
   have e0:=hcY 0
   have e1:=hcY 1
   have hpy:wr.heap.size<Y.heap.size:=by rw[hY];simp
   rw[←hY]
   obtain⟨p,hp⟩:∃ p,p=wr.heap.size:=⟨_,rfl⟩
   have HOY:Hid (OwnsI Y W1.heap.size 3 (.slice va vn vc) (initK f i)):=hid (OwnsI.below HI.out.1 hbY)
   have HBY:Hid (Below W1.heap.size W1 Y):=hid (HI.out.2.trans (hbY.mono HI.out.2.size))
   have HNB:Hid (∀U,Y.grownBy U (Value.slice va vn vc).ownBlock→Below W1.heap.size W1 U∧U.cell? ⟨p,1,none⟩=some (.slice oa on oc)):=hid fun U hU=>by
    refine⟨HBY.out.grown hU HBY.out.size (fun k hk=>(HI.out.1.lt k hk).1), ?_⟩
    rw[hp]
    exact hU.cell (a:=⟨wr.heap.size,1,none⟩) e1 (fun e'=>by have:=(HI.out.1.lt wr.heap.size e'.symm).2;omega)
   have HPY:Hid (NumsAt Y pa pn X.params):=hid (HPA.out.since hbY)
   rw[←hp]at e0 e1 hpy⊢
   clear hcY hbY hY hp hd0 hd1 hd2 hd3 hd4 hd5 hd6 hd7 r1 r2 r3 r4
   go_upto_region 6 with(at_builtin;(with_reducible refine wpList_append_numsG _ rfl _ _ 40 rfl 3 Tryz.underlying40 info_int W1.heap.size (.slice va vn vc) (initK f i) ?_ ?_ ?_ pa pn pc X.params ?_ ?_ ?_ ?_ ?_);(next=>rfl);(next=>exact HOY.out);(next=>exact HBY.out.size);(next=>rfl);(next=>exact HPN.out);(next=>exact HPY.out);(next=>have:=HIN.out.1;omega);intro xa xn xc w4 ho4 hg4;have HO4:=hid ho4;obtain⟨hb4,q1⟩:=HNB.out w4 hg4;have HB4:=hid hb4;clear ho4 hg4 hb4)
   go_upto_region 7 with fail
   go_loopw[5,31] (fun v5 v31 wr2=>∃ (k:Nat) (ya:Option Addr) (yn yc:Nat),k≤on∧v5=.slice ya yn yc∧v31=.int .i64 (k:Int)∧Hid (OwnsI wr2 W1.heap.size 3 (.slice ya yn yc) (initK f i++(X.params++List.replicate k (-1)))∧Below W1.heap.size W1 wr2)) (fun _ iv _=>on-(intOf iv).toNat)
   case atStart=>exact⟨0,_,_,_,Nat.zero_le _,rfl,rfl,hid ⟨by simpa using HO4.out,HB4.out⟩⟩
   case round=>
    obtain⟨k,ya,yn,yc,hk,rfl,rfl,HK⟩:=hrel
    by_cases hkl:k<on
    ·have hklz:(k:Int)<(on:Int):=by omega
     have HLN:Hid (((initK f i++(X.params++List.replicate k (-1))).length+1)*8≤140737488355328):=hid (by
      have h1:=HIN.out.1
      have h2:=HPA.out.1
      simp only[List.length_append,List.length_replicate]
      omega)
     go_wp2_with((with_reducible refine wpList_append_numG _ rfl _ _ 40 rfl 3 Tryz.underlying40 info_int W1.heap.size (.slice ya yn yc) (initK f i++(X.params++List.replicate k (-1))) ?_ ?_ ?_ _ 1 wr.heap.size (-1) ?_ ?_ ?_ ?_ ?_);(next=>rfl);(next=>exact HK.out.1);(next=>exact HK.out.2.size);(next=>rfl);(next=>rfl);(next=>rfl);(next=>exact HLN.out);intro za zn zc w5 ho5 hg5;have HX5:Hid (OwnsI w5 W1.heap.size 3 (.slice za zn zc) (initK f i++(X.params++List.replicate (k+1) (-1)))∧Below W1.heap.size W1 w5):=hid ⟨by rw[List.replicate_succ',←List.append_assoc X.params,←List.append_assoc];exact ho5,(HK.out.2.alloc HK.out.2.size _).grown hg5 (by have:=HK.out.2.size;simp;omega) (fun b hb=>(HK.out.1.lt b hb).1)⟩;clear ho5 hg5)
     go_roundw
     case rel=>exact⟨k+1,_,_,_,hkl,rfl,by go_num,HX5⟩
     case measure=>simp[intOf];omega
    ·obtain rfl:k=on:=by omega
     have hnn:¬ (k:Int)<(k:Int):=by omega
     have HX6:Hid (OwnsI wr W1.heap.size 3 (.slice ya yn yc) (initK f (i+1))∧Below W1.heap.size W1 wr):=hid ⟨by rw[HIN.out.2];exact HK.out.1,HK.out.2⟩
     clear HIN
     go_wp2_with fail
     go_roundw
     case rel=>exact⟨i+1,_,_,_,hlt,rfl,by go_num,HX6⟩
     case measure=>simp[intOf];omega
  ·obtain rfl:i=n:=by omega
   have hnn:¬ (i:Int)<(i:Int):=by omega
   have HI0:Hid (OwnsI wr W1.heap.size 3 (.slice va vn vc) (typesK P f 0)∧Below W1.heap.size W1 wr):=hid ⟨by rw[show typesK P f 0=initK f f.blocks.length from rfl,HL.out];exact HI.out.1,HI.out.2⟩
   have hvn:vn=valuesN f:=by have:=HI0.out.1.read.1;rw[typesK_len]at this;omega
   have HVN:=hid hvn
   obtain⟨d0,d1⟩:=HC.out wr HI0.out.2
   have CFS:=hid (wfirsts_any r a i c f wr (HR.out.since BlockQ.lasts HI0.out.2) HN.out HV.out)
   clear HI hvn
   go_upto_region 12 with(go_at_call 35;(with_reducible refine CFS.out.mono ?_);rintro e w5 ⟨fa,fc,rfl,ho,hb⟩;have HO5:=hid ho;have HB5:=hid hb;obtain⟨k0,k1⟩:=HC.out w5 (HI0.out.2.trans (hb.mono HI0.out.2.size));clear ho hb d0 d1)
   have CTH:=hid (wthrough_any r a i c f w5 (HR.out.since BlockQ.lasts (HI0.out.2.trans (HB5.out.mono HI0.out.2.size))) HN.out)
   go_upto_region 13 with(go_at_call 36;(with_reducible refine CTH.out.mono ?_);rintro e w6 ⟨oa,on,oc,rfl,ho,hb⟩;have HO6:=hid ho;have HB6:=hid hb;clear ho hb k0 k1)
   have HT0:Hid (TySt W1 wr.heap.size i f va vn vc fa fc oa on oc (typesK P f 0) w6):=hid (by
    have hbb:=HB5.out.trans (HB6.out.mono HB5.out.size)
    exact⟨OwnsI.below HI0.out.1 hbb,OwnsI.below HO5.out HB6.out,HO6.out.mono HB5.out.size,fun k hk=>(HI0.out.1.lt k hk).2,hbb.size,HI0.out.2.trans (hbb.mono HI0.out.2.size)⟩)
   have hon:on=(thruL f).length:=HO6.out.read.1.symm
   have HON:=hid hon
   have hon2:on≤200000:=by
    have h1:=thruK_len f f.blocks.length
    have h2:=order_len f
    have h3:=HL.out
    rw[hon]
    unfold thruL
    omega
   obtain⟨B2,hB2⟩:∃ B,B=wr.heap.size:=⟨_,rfl⟩
   rw[←hB2]at HT0
   clear HI0 HO5 HB5 HO6 HB6 CFS CTH hon hB2
   go_loopw[43] (fun v43 w7=>∃ q:Nat,q≤on∧v43=.int .i64 (q:Int)∧Hid (TySt W1 B2 i f va vn vc fa fc oa on oc (typesK P f q) w7)) (fun iv _=>on-(intOf iv).toNat)
   case atStart=>exact⟨0,Nat.zero_le _,rfl,HT0⟩
   case round=>
    obtain⟨q,hq,rfl,HQ⟩:=hrel
    by_cases hql:q<on
    ·have hqlz:(q:Int)<(on:Int):=by omega
     have hq0:(0:Int)≤(q:Int):=by omega
     have hqt:q<(thruL f).length:=by rw[←HON.out];exact hql
     obtain⟨b,hbe,hbl⟩:=thru_at hqt
     obtain⟨_,hog⟩:=HQ.out.ord.read
     obtain⟨go,oo,rfl,_,hocell⟩:=hog (by omega)
     have hoc:wr.cell? ⟨go,oo+q,none⟩=some (.int .i64 (b:Int)):=by rw[hocell q hqt,←hbe,nth_is hqt];rfl
     have hbn:b<i:=by rw[←HL.out];exact hbl
     have hbz:(b:Int)<(i:Int):=by omega
     have hb0:(0:Int)≤(b:Int):=by omega
     obtain⟨k0,k1⟩:=HC.out wr HQ.out.bel
     obtain⟨g8,off8,cs,hif,rfl,hl8,hcell,hqq⟩:=HR.out.elem hbn
     obtain⟨X,hX⟩:∃ X,X=f.blocks[b]:=⟨_,rfl⟩
     rw[←hX]at hqq
     obtain⟨pv,ov,es,rfl,⟨pa,pn,pc,rfl,hp,hpn0,hpn8,hpr⟩,ho,l1,m1,rfl,r1,r2,r3,r4,⟨la,ln,lc,rfl,_⟩,⟨ma,mn,mc,rfl,_⟩⟩:=hqq
     have hov:=ho
     obtain⟨xa,xn,xc,rfl,hxl,_⟩:=hov
     have hlift:∀ (j:Nat) (v:Value),W1.cell? ⟨g8,off8+b*8+j,none⟩=some v→wr.cell? ⟨g8,off8+b*8+j,none⟩=some v:=fun j v hv=>(HQ.out.bel.cell (p:=⟨g8,off8+b*8+j,none⟩) (World.block_lt_of_cell? _ _ hv)).trans hv
     have hd0:=hlift _ _ (hcell 0 (by simp))
     have hd1:=hlift _ _ (hcell 1 (by simp))
     have hd2:=hlift _ _ (hcell 2 (by simp))
     have hd3:=hlift _ _ (hcell 3 (by simp))
     have hd4:=hlift _ _ (hcell 4 (by simp))
     have hd5:=hlift _ _ (hcell 5 (by simp))
     have hd6:=hlift _ _ (hcell 6 (by simp))
     have hd7:=hlift _ _ (hcell 7 (by simp))
     simp only[Nat.add_zero,List.getElem_cons_zero,List.getElem_cons_succ]at hd0 hd1 hd2 hd3 hd4 hd5 hd6 hd7
     have HOPS:=hid ho
     have hpar:parL f b=X.params:=by rw[parL_at hif,hX]
     have hopn:opsN f b=xn:=by rw[opsN_at hif,←hX];exact hxl
     have HTQ:Hid (typesK P f (q+1)=blockK P f b (typesK P f q) xn):=hid (by
      show blockK P f (nth (thruL f) q).toNat (typesK P f q) (opsN f (nth (thruL f) q).toNat)=_
      rw[hbe,Int.toNat_natCast,hopn])
     have HBK:Hid (∀k (hk:k<X.ops.length),blockK P f b (typesK P f q) (k+1)=(blockK P f b (typesK P f q) k).set (firstN f b+pn+k) (resO P X.ops[k] (blockK P f b (typesK P f q) k)).1):=hid fun k hk=>by
      show(blockK P f b (typesK P f q) k).set (firstN f b+(parL f b).length+k) (resO P (opAt f b k) (blockK P f b (typesK P f q) k)).1=_
      have hk':k<f.blocks[b].ops.length:=by rw[←hX];exact hk
      rw[hpar,hp.1,opAt_at hif hk']
      subst hX
      rfl
     have HRM:Hid (∀k,k<xn→firstN f b+pn+k<vn):=hid fun k hk=>by
      have:=base_room hbl (k:=k) (by rw[hopn];exact hk)
      rw[hpar,hp.1]at this
      rw[HVN.out]
      exact this
     have HXL:=hid hxl
     clear hcell hl8 hX hpar hopn hpn0 hpn8 hpr hp hlift ho hxl r1 r2 r3 r4 hocell hbe hqt hog hif hbl
     go_upto_region 16 with fail
     obtain⟨Y,hY⟩:∃ u,u=wr.alloc (.cells #[.slice pa pn pc,.slice xa xn xc,.int .i64 X.fin.K,.int .i64 X.fin.A,.int .i64 X.fin.To,.int .i64 X.fin.Else,.slice la ln lc,.slice ma mn mc] 51):=⟨_,rfl⟩
     have hbY:Below wr.heap.size wr Y:=by rw[hY];exact(Below.refl _ wr).alloc (Nat.le_refl _) _
     have hcY:∀ j,Y.cell? ⟨wr.heap.size,j,none⟩=(#[.slice pa pn pc,.slice xa xn xc,.int .i64 X.fin.K,.int .i64 X.fin.A,.int .i64 X.fin.To,.int .i64 X.fin.Else,.slice la ln lc,.slice ma mn mc]:Array Value)[j]? :=fun j=>by rw[hY];exact World.cell?_alloc_mark _ _ _ _ _
     have e0:=hcY 0
     have e1:=hcY 1
     have hpy:wr.heap.size<Y.heap.size:=by rw[hY];simp
     rw[←hY]
     obtain⟨p,hp⟩:∃ p,p=wr.heap.size:=⟨_,rfl⟩
     have HPB:Hid (B2≤p):=hid (by rw[hp];exact HQ.out.le)
     have HY:Hid (TySt W1 B2 i f va vn vc fa fc (some ⟨go,oo,none⟩) on oc (blockK P f b (typesK P f q) 0) Y∧Y.cell? ⟨p,0,none⟩=some (.slice pa pn pc)∧p<Y.heap.size):=hid ⟨HQ.out.since hbY,by rw[hp];exact e0,by rw[hp];exact hpy⟩
     rw[←hp]at e0 e1 hpy⊢
     clear hcY hbY hY hp hd0 hd1 hd2 hd3 hd4 hd5 hd6 hd7 hoc
     go_upto_region 17 with fail
     clear HQ k0 k1 e0 e1 hpy
     go_loopw[55] (fun v55 w8=>∃ k:Nat,k≤xn∧v55=.int .i64 (k:Int)∧Hid (TySt W1 B2 i f va vn vc fa fc (some ⟨go,oo,none⟩) on oc (blockK P f b (typesK P f q) k) w8∧w8.cell? ⟨p,0,none⟩=some (.slice pa pn pc)∧p<w8.heap.size)) (fun iv _=>xn-(intOf iv).toNat)
     case atStart=>exact⟨0,Nat.zero_le _,rfl,HY⟩
     case round=>
      obtain⟨k,hk,rfl,HK⟩:=hrel
      by_cases hkl:k<xn
      ·have hklz:(k:Int)<(xn:Int):=by omega
       obtain⟨g9,off9,cs9,hif9,rfl,hl9,hcell9,hq9⟩:=(HOPS.out.since OpQ.lasts HK.out.1.bel).elem hkl
       obtain⟨O,hO⟩:∃ O,O=X.ops[k]:=⟨_,rfl⟩
       rw[←hO]at hq9
       obtain⟨lv,rfl,s1,s2,s3,s4,s5,s6,⟨ya,yn,yc,rfl,hy,hy0,hy8,hyr⟩⟩:=hq9
       have hd0:=hcell9 0 (by simp)
       have hd1:=hcell9 1 (by simp)
       have hd2:=hcell9 2 (by simp)
       have hd3:=hcell9 3 (by simp)
       have hd4:=hcell9 4 (by simp)
       have hd5:=hcell9 5 (by simp)
       have hd6:=hcell9 6 (by simp)
       have hd7:=hcell9 7 (by simp)
       simp only[Nat.add_zero,List.getElem_cons_zero,List.getElem_cons_succ]at hd0 hd1 hd2 hd3 hd4 hd5 hd6 hd7
       have HBE:Hid (blockK P f b (typesK P f q) (k+1)=(blockK P f b (typesK P f q) k).set (firstN f b+pn+k) (resO P O (blockK P f b (typesK P f q) k)).1):=hid (by rw[hO];exact HBK.out k hif9)
       have hroom:=HRM.out k hkl
       clear hcell9 hl9 hO
       go_upto_region 19 with fail
       obtain⟨Z,hZ⟩:∃ u,u=wr.alloc (.cells #[.int .i64 O.K,.int .i64 O.A,.int .i64 O.B,.int .i64 O.C,.int .i64 O.N,.string O.S,.slice ya yn yc,.bool O.T] 64):=⟨_,rfl⟩
       have hbZ:Below wr.heap.size wr Z:=by rw[hZ];exact(Below.refl _ wr).alloc (Nat.le_refl _) _
       have hcZ:∀ j,Z.cell? ⟨wr.heap.size,j,none⟩=(#[.int .i64 O.K,.int .i64 O.A,.int .i64 O.B,.int .i64 O.C,.int .i64 O.N,.string O.S,.slice ya yn yc,.bool O.T]:Array Value)[j]? :=fun j=>by rw[hZ];exact World.cell?_alloc_mark _ _ _ _ _
       have hpz:wr.heap.size<Z.heap.size:=by rw[hZ];simp
       have HTZ:=hid (HK.out.1.since hbZ)
       have hcp:Z.cell? ⟨p,0,none⟩=some (.slice pa pn pc):=(hbZ.cell (p:=⟨p,0,none⟩) HK.out.2.2).trans HK.out.2.1
       have hpp:p<Z.heap.size:=Nat.lt_of_lt_of_le HK.out.2.2 hbZ.size
       rw[←hZ]
       obtain⟨p2,hp2⟩:∃ p,p=wr.heap.size:=⟨_,rfl⟩
       rw[←hp2]at hcZ hpz⊢
       obtain⟨_,hfg⟩:=HTZ.out.first.read
       obtain⟨gf,of,rfl,hgf,hfc⟩:=hfg (by omega)
       have hfb:b<(firstL f).length:=by rw[firstL_len];have:=HL.out;omega
       obtain⟨z0,hz0⟩:∃ z,z=firstN f b:=⟨_,rfl⟩
       have hf0:Z.cell? ⟨gf,of+b,none⟩=some (.int .i64 (z0:Int)):=by rw[hfc b hfb,firstL_at,hz0];rfl
       obtain⟨j,hj⟩:∃ j,j=z0+pn+k:=⟨_,rfl⟩
       have hjn:j<vn:=by rw[hj,hz0];exact hroom
       have hjt:j<(blockK P f b (typesK P f q) k).length:=by rw[blockK_len,typesK_len,←HVN.out];exact hjn
       obtain⟨gt,rfl,hgB,hgl,hxx1,hxx2⟩:=HTZ.out.at hjt
       have hv40:vn≤1099511627776:=by rw[HVN.out];exact HV.out
       have hq1:z0+pn≤1099511627776:=by omega
       have hq2:z0+pn+k≤1099511627776:=by omega
       have hyn:yn≤17592186044000:=by omega
       have hvn7:vn≤140737488355328:=by omega
       have hbz1:(b:Int)<((i+1:Nat):Int):=by omega
       have hbz2:(b:Int)<(i:Int)+1:=by omega
       have hj0:(0:Int)≤(j:Int):=by omega
       have hjv:(j:Int)<(vn:Int):=by omega
       have HJ:Hid (firstN f b+pn+k=j):=hid (by rw[hj,hz0])
       have HGP:Hid (W1.heap.size≤gt∧gt<B2∧j<vn):=hid ⟨hgB,hgl,hjn⟩
       have HS0:Hid (∀u,Below Z.heap.size Z u→u.cell? ⟨gf,of+b,none⟩=some (.int .i64 (z0:Int))∧u.cell? ⟨p,0,none⟩=some (.slice pa pn pc)∧u.cell? ⟨p2,0,none⟩=some (.int .i64 O.K)∧u.cell? ⟨p2,1,none⟩=some (.int .i64 O.A)∧u.cell? ⟨p2,2,none⟩=some (.int .i64 O.B)∧u.cell? ⟨p2,3,none⟩=some (.int .i64 O.C)∧u.cell? ⟨p2,4,none⟩=some (.int .i64 O.N)∧u.cell? ⟨p2,5,none⟩=some (.string O.S)∧u.cell? ⟨p2,6,none⟩=some (.slice ya yn yc)∧u.cell? ⟨p2,7,none⟩=some (.bool O.T)):=hid fun u hu=>⟨(hu.cell (p:=⟨gf,of+b,none⟩) hgf).trans hf0,(hu.cell (p:=⟨p,0,none⟩) hpp).trans hcp,(hu.cell (p:=⟨p2,0,none⟩) hpz).trans (hcZ 0),(hu.cell (p:=⟨p2,1,none⟩) hpz).trans (hcZ 1),(hu.cell (p:=⟨p2,2,none⟩) hpz).trans (hcZ 2),(hu.cell (p:=⟨p2,3,none⟩) hpz).trans (hcZ 3),(hu.cell (p:=⟨p2,4,none⟩) hpz).trans (hcZ 4),(hu.cell (p:=⟨p2,5,none⟩) hpz).trans (hcZ 5),(hu.cell (p:=⟨p2,6,none⟩) hpz).trans (hcZ 6),(hu.cell (p:=⟨p2,7,none⟩) hpz).trans (hcZ 7)⟩
       have CKR:Hid (∀u,Below Z.heap.size Z u→Calls Tryz.prog 37 #[.pointer (some ⟨pg,0,none⟩),.agg #[.int .i64 O.K,.int .i64 O.A,.int .i64 O.B,.int .i64 O.C,.int .i64 O.N,.string O.S,.slice ya yn yc,.bool O.T],.slice (some ⟨gt,0,none⟩) vn vc] u (ResPost (resO P O (blockK P f b (typesK P f q) k)) u)):=hid fun u hu=>by
        have hT:=HTZ.out.since hu
        have hyu:=(hy.since hbZ).since hu
        exact kresult_any pg O.K O.A O.B O.C O.N O.S ya yn yc O.T O.L (some ⟨gt,0,none⟩) vn vc (blockK P f b (typesK P f q) k) u (HFT.out.below hT.bel HFT.out.lt) (HP.out.since hT.bel) hyu hyn hT.own.read hvn7 (HTR.out b (typesK P f q) k (HTK.out q)) s5
       have HPLT:=hid hpp
       have HCP:=hid hcp
       have hw1:wrap64 ((z0:Int)+(pn:Int))=((z0+pn:Nat):Int):=wrap_nat hq1
       have hw2:wrap64 (((z0+pn:Nat):Int)+(k:Int))=(j:Int):=by rw[hj];exact wrap_nat hq2
       have hw3:wrap64 ((z0:Int)+(pn:Int)+(k:Int))=(j:Int):=by rw[hj];exact wrap_nat3 hq2
       have hv1:IntKind.i64.wrap ((z0:Int)+(pn:Int))=(z0:Int)+(pn:Int):=kwrap_two hq1
       have hv2:IntKind.i64.wrap ((z0:Int)+(pn:Int)+(k:Int))=(j:Int):=by rw[hj];exact kwrap_three hq2
       clear hxx1 hxx2 hcZ hbZ hZ hpz hp2 hf0 hcp hpp hfg hgf hfc hfb hz0 hj hjn hjt hgB hgl hy hy0 hy8 hyr hd0 hd1 hd2 hd3 hd4 hd5 hd6 hd7 s1 s2 s3 s4 s5 s6 hroom hv40 hq1 hq2 hyn hvn7
       refine wp_region_T (S:=(fun u:World=>u.cell? ⟨gf,of+b,none⟩=some (.int .i64 (z0:Int))∧u.cell? ⟨p,0,none⟩=some (.slice pa pn pc)∧u.cell? ⟨p2,0,none⟩=some (.int .i64 O.K)∧u.cell? ⟨p2,1,none⟩=some (.int .i64 O.A)∧u.cell? ⟨p2,2,none⟩=some (.int .i64 O.B)∧u.cell? ⟨p2,3,none⟩=some (.int .i64 O.C)∧u.cell? ⟨p2,4,none⟩=some (.int .i64 O.N)∧u.cell? ⟨p2,5,none⟩=some (.string O.S)∧u.cell? ⟨p2,6,none⟩=some (.slice ya yn yc)∧u.cell? ⟨p2,7,none⟩=some (.bool O.T))) 19 (by kernel_rfl) (HS0.out _ (below_drewN 1 (Below.refl _ _))) (fun hHeld=> ?_)
       refine wpAnyT_takeW (i:=0) (oi:=⟨some 61,_,_,_,_,_⟩) (v:= ?_) rfl (by kernel_rfl) (by kernel_rfl) (by kernel_rfl) (fun _ _ _ h=>h) (Or.inl ⟨by rfl, ?_⟩) ?_
       rotate_left
       ·((intro w _;go_simp);try with_reducible rfl)
       (try simp only[Act.put,zA,zB,zC])
       refine wpAnyT_takeW (i:=1) (oi:=⟨some 62,_,_,_,_,_⟩) (v:= ?_) rfl (by kernel_rfl) (by kernel_rfl) (by kernel_rfl) (fun _ _ _ h=>h) (Or.inl ⟨by rfl, ?_⟩) ?_
       rotate_left
       ·((intro w _;go_simp);try with_reducible rfl)
       (try simp only[Act.put,zA,zB,zC])
       refine wpAnyT_takeW (i:=2) (oi:=⟨some 63,_,_,_,_,_⟩) (v:= ?_) rfl (by kernel_rfl) (by kernel_rfl) (by kernel_rfl) (fun _ _ _ h=>h) (Or.inl ⟨by rfl, ?_⟩) ?_
       rotate_left
       ·((intro w _;go_simp);try with_reducible rfl)
       (try simp only[Act.put,zA,zB,zC])
       refine wpAnyT_takeW (i:=3) (oi:=⟨some 64,_,_,_,_,_⟩) (v:= ?_) rfl (by kernel_rfl) (by kernel_rfl) (by kernel_rfl) (fun _ _ _ h=>h) (Or.inl ⟨by rfl, ?_⟩) ?_
       rotate_left
       ·((intro w _;go_simp);try with_reducible rfl)
       (try simp only[Act.put,zA,zB,zC])
       refine wpAnyT_take (i:=4) (oi:=⟨some 65,_,_,_,_,_⟩) (v:= ?_) 8 rfl (by kernel_rfl) (by kernel_rfl) (by kernel_rfl) (by kernel_rfl) (by kernel_rfl) (fun _ _ _ h=>h) (Or.inl ⟨by rfl, ?_⟩) (by assumption) ?_
       rotate_left
       ·((intro w hSw;(try dsimp only at hSw);go_simp);try with_reducible rfl)
       (try simp only[Act.put,zA,zB,zC])
       refine wpAnyT_takeW (i:=5) (oi:=⟨some 66,_,_,_,_,_⟩) (v:= ?_) rfl (by kernel_rfl) (by kernel_rfl) (by kernel_rfl) (fun _ _ _ h=>h) (Or.inl ⟨by rfl, ?_⟩) ?_
       rotate_left
       ·((intro w _;go_simp);try with_reducible rfl)
       (try simp only[Act.put,zA,zB,zC])
       refine wpAnyT_take (i:=6) (oi:=⟨some 67,_,_,_,_,_⟩) (v:= ?_) 8 rfl (by kernel_rfl) (by kernel_rfl) (by kernel_rfl) (by kernel_rfl) (by kernel_rfl) (fun _ _ _ h=>h) (Or.inl ⟨by rfl, ?_⟩) (by assumption) ?_
       rotate_left
       ·((intro w hSw;(try dsimp only at hSw);go_simp);try with_reducible rfl)
       (try simp only[Act.put,zA,zB,zC])
       refine wpAnyT_takeW (i:=7) (oi:=⟨some 68,_,_,_,_,_⟩) (v:= ?_) rfl (by kernel_rfl) (by kernel_rfl) (by kernel_rfl) (fun _ _ _ h=>h) (Or.inl ⟨by rfl, ?_⟩) ?_
       rotate_left
       ·((intro w _;go_simp);try with_reducible rfl)
       (try simp only[Act.put,zA,zB,zC])
       refine wpAnyT_takeW (i:=8) (oi:=⟨some 69,_,_,_,_,_⟩) (v:= ?_) rfl (by kernel_rfl) (by kernel_rfl) (by kernel_rfl) (fun _ _ _ h=>h) (Or.inl ⟨by rfl, ?_⟩) ?_
       rotate_left
       ·((intro w _;go_simp);try with_reducible rfl)
       (try simp only[Act.put,zA,zB,zC])
       refine wpAnyT_takeW (i:=9) (oi:=⟨some 70,_,_,_,_,_⟩) (v:= ?_) rfl (by kernel_rfl) (by kernel_rfl) (by kernel_rfl) (fun _ _ _ h=>h) (Or.inl ⟨by rfl, ?_⟩) ?_
       rotate_left
       ·((intro w _;go_simp);try with_reducible rfl)
       (try simp only[Act.put,zA,zB,zC])
       refine wpAnyT_takeW (i:=10) (oi:=⟨some 71,_,_,_,_,_⟩) (v:= ?_) rfl (by kernel_rfl) (by kernel_rfl) (by kernel_rfl) (fun _ _ _ h=>h) (Or.inl ⟨by rfl, ?_⟩) ?_
       rotate_left
       ·((intro w _;go_simp);try with_reducible rfl)
       (try simp only[Act.put,zA,zB,zC])
       refine wpAnyT_takeW (i:=11) (oi:=⟨some 72,_,_,_,_,_⟩) (v:= ?_) rfl (by kernel_rfl) (by kernel_rfl) (by kernel_rfl) (fun _ _ _ h=>h) (Or.inl ⟨by rfl, ?_⟩) ?_
       rotate_left
       ·((intro w _;go_simp);try with_reducible rfl)
       (try simp only[Act.put,zA,zB,zC])
       refine wpAnyT_take (i:=12) (oi:=⟨some 73,_,_,_,_,_⟩) (v:= ?_) 8 rfl (by kernel_rfl) (by kernel_rfl) (by kernel_rfl) (by kernel_rfl) (by kernel_rfl) (fun _ _ _ h=>h) (Or.inl ⟨by rfl, ?_⟩) (by assumption) ?_
       rotate_left
       ·((intro w hSw;(try dsimp only at hSw);go_simp);try with_reducible rfl)
       (try simp only[Act.put,zA,zB,zC])
       refine wpAnyT_takeW (i:=13) (oi:=⟨some 74,_,_,_,_,_⟩) (v:= ?_) rfl (by kernel_rfl) (by kernel_rfl) (by kernel_rfl) (fun _ _ _ h=>h) (Or.inl ⟨by rfl, ?_⟩) ?_
       rotate_left
       ·((intro w _;go_simp);try with_reducible rfl)
       (try simp only[Act.put,zA,zB,zC])
       refine wpAnyT_one (i:=14) (by kernel_rfl) rfl (fun K hK=> ?_)
       rw[if_pos (by rfl)]
       go_simp
       (with_reducible refine(CKR.out _ ((Below.refl _ Z).drew)).mono ?_)
       rintro e w6 ⟨rfl,hb⟩
       have hb6:Below Z.heap.size Z w6:=(below_drewN 1 (Below.refl _ Z)).trans (hb.mono (Nat.le_refl _))
       have HB6:=hid hb6
       have HT6:=hid (HTZ.out.since hb6)
       obtain⟨gt2,hge,_,_,h6c,h6f⟩:=HT6.out.at (j:=j) (by rw[blockK_len,typesK_len,←HVN.out];exact HGP.out.2.2)
       cases hge
       obtain⟨rt,hrt⟩:∃ t,t=(resO P O (blockK P f b (typesK P f q) k)).1:=⟨_,rfl⟩
       obtain⟨rb,hrb⟩:∃ t,t=(resO P O (blockK P f b (typesK P f q) k)).2:=⟨_,rfl⟩
       have HX6:Hid (TySt W1 B2 i f (some ⟨gt,0,none⟩) vn vc (some ⟨gf,of,none⟩) fc (some ⟨go,oo,none⟩) on oc (blockK P f b (typesK P f q) (k+1)) (w6.setCell ⟨gt,j,none⟩ (.int .i64 rt))∧(w6.setCell ⟨gt,j,none⟩ (.int .i64 rt)).cell? ⟨p,0,none⟩=some (.slice pa pn pc)∧p<(w6.setCell ⟨gt,j,none⟩ (.int .i64 rt)).heap.size):=hid ⟨by rw[HBE.out,HJ.out,hrt];exact HT6.out.put HGP.out.1 j _,(World.cell?_setCell_other _ _ _ _ (fun e=>by cases e;have h1:=HGP.out.2.1;have h2:=HPB.out;omega)).trans ((hb6.cell (p:=⟨p,0,none⟩) HPLT.out).trans HCP.out),by rw[setCell_size];exact Nat.lt_of_lt_of_le HPLT.out hb6.size⟩
       rw[←hrt,←hrb]
       clear hb hb6 hrt hrb
       refine hK.out _ _ (HS0.out _ HB6.out) (fun hHeld=> ?_)
       clear hK K
       (try simp only[Act.put,zA,zB,zC])
       refine wpAnyT_takeW (i:=15) (oi:=⟨some 60,_,_,_,_,_⟩) (v:= ?_) rfl (by kernel_rfl) (by kernel_rfl) (by kernel_rfl) (fun _ _ _ h=>h) (Or.inl ⟨by rfl, ?_⟩) ?_
       rotate_left
       ·((intro w _;go_simp);try with_reducible rfl)
       (try simp only[Act.put,zA,zB,zC])
       refine wpAnyT_takeW (i:=16) (oi:=⟨some 76,_,_,_,_,_⟩) (v:= ?_) rfl (by kernel_rfl) (by kernel_rfl) (by kernel_rfl) (fun _ _ _ h=>h) (Or.inl ⟨by rfl, ?_⟩) ?_
       rotate_left
       ·((intro w _;go_simp);try with_reducible rfl)
       (try simp only[Act.put,zA,zB,zC])
       refine wpAnyT_takeW (i:=17) (oi:=⟨some 77,_,_,_,_,_⟩) (v:= ?_) rfl (by kernel_rfl) (by kernel_rfl) (by kernel_rfl) (fun _ _ _ h=>h) (Or.inl ⟨by rfl, ?_⟩) ?_
       rotate_left
       ·((intro w _;go_simp);try with_reducible rfl)
       (try simp only[Act.put,zA,zB,zC])
       refine wpAnyT_takeW (i:=18) (oi:=⟨some 78,_,_,_,_,_⟩) (v:= ?_) rfl (by kernel_rfl) (by kernel_rfl) (by kernel_rfl) (fun _ _ _ h=>h) (Or.inl ⟨by rfl, ?_⟩) ?_
       rotate_left
       ·((intro w _;go_simp);try with_reducible rfl)
       (try simp only[Act.put,zA,zB,zC])
       refine wpAnyT_end (i:=19) (by kernel_rfl) (by kernel_rfl) rfl (fun K hK=> ?_)
       rw[if_pos (by rfl)]
       go_simp
       refine hK.out _ _ ?_
       clear hK K
       (try simp only[Act.put,zA,zB,zC])
       refine wpAnyT_done (by kernel_rfl) ?_
       go_wp2_with fail
       go_roundw
       case rel=>exact⟨k+1,hkl,by go_num,HX6⟩
       case measure=>simp[intOf];omega
      ·obtain rfl:k=xn:=by omega
       have hnn:¬ (k:Int)<(k:Int):=by omega
       have HX7:Hid (TySt W1 B2 i f va vn vc fa fc (some ⟨go,oo,none⟩) on oc (typesK P f (q+1)) wr):=hid (by rw[HTQ.out];exact HK.out.1)
       clear HTQ HBK HRM
       go_wp2_with fail
       go_roundw
       case rel=>exact⟨q+1,hql,by go_num,HX7⟩
       case measure=>simp[intOf];omega
    ·obtain rfl:q=on:=by omega
     have hnn:¬ (q:Int)<(q:Int):=by omega
     have HE:Hid (typesK P f q=typesL P f):=hid (by unfold typesL;rw[←HON.out])
     go_wp2_with fail
     go_ret
     exact⟨va,vn,vc,rfl,by rw[←HE.out];exact HQ.out.own.mono (by have:=HS1.out;omega),HB1.out.trans (HQ.out.bel.mono HB1.out.size)⟩
def SizedP(P:ProgD):Prop:=∀ f∈P.funcs,f.blocks.length≤100000∧valuesN f≤1099511627776
set_option maxRecDepth 100000 in
set_option maxHeartbeats 8000000 in
theorem wrhold_any(g:Nat){sa:Option Addr}{sn sc:Nat}{ca:Option Addr}{cn cc:Nat}{fa:Option Addr}{fn fc:Nat}{P:ProgD}(w:World)(hP:ProgAt w g sa sn sc ca cn cc fa fn fc P)(hft:FT w)(hsz:SizedP P):
 Calls Tryz.prog 26 #[.agg #[.pointer (some ⟨g,0,none⟩)]] w (RulePost (rulesB P) w):=by
 obtain⟨hb1,hc,hs1⟩:=rules_box w g
 obtain⟨W1,hW1⟩:∃ U,w.alloc (.cells #[.pointer (some ⟨g,0,none⟩)] 68)=U:=⟨_,rfl⟩
 rw[hW1]at hb1 hc hs1
 have hP1:=hP.since hb1
 have HB:=hid hb1
 have HP:=hid hP1
 have HFT:=hid (hft.since hb1)
 have HSZ:=hid hsz
 have hgl:g<W1.heap.size:=World.block_lt_of_cell? _ _ hP1.c0
 have hsl8:=hP1.s.len
 have hcl8:=hP1.c.len
 have hfl8:=hP1.f.len
 have HSL:=hid hsl8.1
 have HCL:=hid hcl8.1
 have HFL:=hid hfl8.1
 have hsn8:=hsl8.2
 have hcn8:=hcl8.2
 have hfn8:=hfl8.2
 have HC:Hid (∀U,Below W1.heap.size W1 U→U.cell? ⟨w.heap.size,0,none⟩=some (.pointer (some ⟨g,0,none⟩))∧U.cell? ⟨g,0,none⟩=some (.slice sa sn sc)∧U.cell? ⟨g,1,none⟩=some (.slice ca cn cc)∧U.cell? ⟨g,2,none⟩=some (.slice fa fn fc)):=hid fun U hU=>⟨(hU.cell (p:=⟨w.heap.size,0,none⟩) (by simp only[];omega)).trans hc,(hU.cell (p:=⟨g,0,none⟩) hgl).trans hP1.c0,(hU.cell (p:=⟨g,1,none⟩) hgl).trans hP1.c1,(hU.cell (p:=⟨g,2,none⟩) hgl).trans hP1.c2⟩
 have HR:Hid (rulesB P=(decide (0<fn)&&allK (fun i=>sigB P (sigOf P i)) sn&&allK (fun i=>headB P (funcOf P i)) fn&&mainB (funcOf P 0)&&allK (fun i=>classB P (clsOf P i)) cn&&allK (fun i=>bodyB P (funcOf P i)) fn)):=hid (by unfold rulesB;rw[hsl8.1,hcl8.1,hfl8.1])
 clear hP hft hsz hgl hs1 hsl8 hcl8 hfl8
 have p0:=hP1.c0
 have p1:=hP1.c1
 have p2:=hP1.c2
 clear hP1 hb1
 go_enter Tryz.func26,Tryz.ntmps26
 go_upto_region 1 with fail
 try rw[hW1]
 clear hW1
 go_upto_region 2 with(go_at_call 49;(with_reducible refine(need_any _ _).mono ?_);intro e w3 hq;rcases hq.split with⟨hk,rfl,rfl⟩|⟨hk,rfl,rfl⟩;rotate_left;(exact⟨rfl,RulePost.bad (by rw[HR.out,hk];rfl) HB.out⟩);have HK0:=hid hk;clear hk)
 have HF0:Hid (0<fn):=hid (of_decide_eq_true HK0.out)
 go_upto_region 3 with fail
 clear p0 p1 p2 hc
 go_loopw[24] (fun v24 wr=>∃ i:Nat,i≤sn∧v24=.int .i64 (i:Int)∧Hid (allK (fun i=>sigB P (sigOf P i)) i=true∧Below W1.heap.size W1 wr)) (fun iv _=>sn-(intOf iv).toNat)
 case atStart=>exact⟨0,Nat.zero_le _,rfl,hid ⟨rfl,Below.refl _ _⟩⟩
 case round=>
  obtain⟨i,hi,rfl,HI⟩:=hrel
  by_cases hlt:i<sn
  ·have hltz:(i:Int)<(sn:Int):=by omega
   have hPI:=HP.out.since HI.out.2
   obtain⟨gs,os,cs,hsl,rfl,hl2,hscell,hq⟩:=hPI.s.elem hlt
   obtain⟨X,hX⟩:∃ X,X=P.sigs[i]:=⟨_,rfl⟩
   rw[←hX]at hq
   have hso:sigOf P i=X:=by rw[sigOf_at hsl,hX]
   obtain⟨pv,rfl,⟨qa,qn,qc,rfl,hqn,hq0,hq8,hqr⟩,hpr⟩:=hq
   have f0:=hscell 0 (by simp)
   have f1:=hscell 1 (by simp)
   simp only[Nat.add_zero,List.getElem_cons_zero,List.getElem_cons_succ]at f0 f1
   have HSB:Hid (sigB P (sigOf P i)=(knownB P X.params&&toldB P X.ret)):=hid (by rw[hso];rfl)
   have HLT:=hid hlt
   obtain⟨x0,x1,x2,x3⟩:=HC.out wr HI.out.2
   clear hX hso
   go_upto_region 5 with fail
   obtain⟨Y,hY⟩:∃ u,u=wr.alloc (.cells #[.slice qa qn qc,.int .i64 X.ret] 60):=⟨_,rfl⟩
   have hbY:Below wr.heap.size wr Y:=by rw[hY];exact(Below.refl _ wr).alloc (Nat.le_refl _) _
   have hcY:∀ j,Y.cell? ⟨wr.heap.size,j,none⟩=(#[.slice qa qn qc,.int .i64 X.ret]:Array Value)[j]? :=fun j=>by rw[hY];exact World.cell?_alloc_mark _ _ _ _ _
   have hpy:wr.heap.size<Y.heap.size:=by rw[hY];simp
   rw[←hY]
   obtain⟨p,hp⟩:∃ p,p=wr.heap.size:=⟨_,rfl⟩
   rw[←hp]at hcY hpy⊢
   have hbW:Below W1.heap.size W1 Y:=HI.out.2.trans (hbY.mono HI.out.2.size)
   have HBW:=hid hbW
   have CK:=hid (wknown_any g qa qn qc X.params Y (hPI.since hbY) (hqn.since hbY) hqr (by omega))
   have CRT:Hid (∀u,Below W1.heap.size W1 u→Calls Tryz.prog 51 #[.agg #[.pointer (some ⟨g,0,none⟩)],.int .i64 X.ret] u (RulePost (toldB P X.ret) u)):=hid fun u hu=>wret_any g X.ret u (HP.out.since hu) hpr
   have HYC:Hid (∀u,Below Y.heap.size Y u→u.cell? ⟨p,0,none⟩=some (.slice qa qn qc)∧u.cell? ⟨p,1,none⟩=some (.int .i64 X.ret)):=hid fun u hu=>⟨(hu.cell (p:=⟨p,0,none⟩) hpy).trans (hcY 0),(hu.cell (p:=⟨p,1,none⟩) hpy).trans (hcY 1)⟩
   clear hcY hY hbY hpy hp hbW x0 x1 x2 x3 f0 f1 hscell hl2 hsl hqn hq0 hq8 hqr hpr hPI
   obtain⟨x0,x1,x2,x3⟩:=HC.out Y HBW.out
   obtain⟨y0,y1⟩:=HYC.out Y (Below.refl _ _)
   go_upto_region 6 with(go_at_call 50;(with_reducible refine CK.out.mono ?_);intro e w5 hq;rcases hq.split with⟨hk,rfl,hb⟩|⟨hk,rfl,hb⟩;rotate_left;(exact⟨rfl,RulePost.bad (by rw[HR.out,allK_no (p:=fun i=>sigB P (sigOf P i)) HLT.out (by simp only[HSB.out,hk,Bool.false_and])];simp) (HB.out.trans ((HBW.out.trans (hb.mono HBW.out.size)).mono HB.out.size))⟩);have HK1:=hid hk;have HB5:=hid hb;clear hk hb)
   clear x0 x1 x2 x3 y0 y1
   have HBX:Hid (Below W1.heap.size W1 w5):=hid (HBW.out.trans (HB5.out.mono HBW.out.size))
   obtain⟨x0,x1,x2,x3⟩:=HC.out w5 HBX.out
   obtain⟨y0,y1⟩:=HYC.out w5 HB5.out
   go_wp2_with(go_at_call 51;(with_reducible refine(CRT.out _ HBX.out).mono ?_);intro e w6 hq;rcases hq.split with⟨hk,rfl,hb⟩|⟨hk,rfl,hb⟩;rotate_left;(exact⟨rfl,RulePost.bad (by rw[HR.out,allK_no (p:=fun i=>sigB P (sigOf P i)) HLT.out (by simp only[HSB.out,hk,Bool.and_false])];simp) (HB.out.trans ((HBX.out.trans (hb.mono HBX.out.size)).mono HB.out.size))⟩);have HK5:Hid (allK (fun i=>sigB P (sigOf P i)) (i+1)=true∧Below W1.heap.size W1 w6):=hid ⟨allK_more HI.out.1 (by simp only[HSB.out,HK1.out,hk];rfl),HBX.out.trans (hb.mono HBX.out.size)⟩;clear hk hb)
   go_roundw
   case rel=>exact⟨i+1,HLT.out,by go_num,HK5⟩
   case measure=>have:=HLT.out;simp[intOf];omega
  ·obtain rfl:i=sn:=by omega
   have hnn:¬ (i:Int)<(i:Int):=by omega
   have HKS:=hid HI.out.1
   have HBS:=hid HI.out.2
   obtain⟨x0,x1,x2,x3⟩:=HC.out wr HI.out.2
   clear HI hi
   go_upto_region 9 with fail
   clear x0 x1 x2 x3 hnn
   go_loopw[43] (fun v43 w4=>∃ k:Nat,k≤fn∧v43=.int .i64 (k:Int)∧Hid (allK (fun i=>headB P (funcOf P i)) k=true∧Below W1.heap.size W1 w4)) (fun iv _=>fn-(intOf iv).toNat)
   case atStart=>exact⟨0,Nat.zero_le _,rfl,hid ⟨rfl,HBS.out⟩⟩
   case round=>
    obtain⟨k,hk,rfl,HI⟩:=hrel
    by_cases hlt:k<fn
    ·have hltz:(k:Int)<(fn:Int):=by omega
     have hPI:=HP.out.since HI.out.2
     obtain⟨gs,os,cs,hsl,rfl,hl2,hscell,hq⟩:=hPI.f.elem hlt
     obtain⟨X,hX⟩:∃ X,X=P.funcs[k]:=⟨_,rfl⟩
     rw[←hX]at hq
     have hso:funcOf P k=X:=by rw[funcOf_at hsl,hX]
     obtain⟨bv,rfl,hrr,hbr⟩:=hq
     have hbr':=hbr
     obtain⟨ba,bn,bc,rfl,_⟩:=hbr'
     have f0:=hscell 0 (by simp)
     have f1:=hscell 1 (by simp)
     simp only[Nat.add_zero,List.getElem_cons_zero,List.getElem_cons_succ]at f0 f1
     have HLT:=hid hlt
     have HSO:=hid hso
     have HFQ:Hid (FuncQ wr [.int .i64 X.ret,.slice ba bn bc] X):=hid ⟨_,rfl,hrr,hbr⟩
     obtain⟨x0,x1,x2,x3⟩:=HC.out wr HI.out.2
     clear hX hso
     go_upto_region 11 with fail
     obtain⟨Y,hY⟩:∃ u,u=wr.alloc (.cells #[.int .i64 X.ret,.slice ba bn bc] 36):=⟨_,rfl⟩
     have hbY:Below wr.heap.size wr Y:=by rw[hY];exact(Below.refl _ wr).alloc (Nat.le_refl _) _
     have hcY:∀ j,Y.cell? ⟨wr.heap.size,j,none⟩=(#[.int .i64 X.ret,.slice ba bn bc]:Array Value)[j]? :=fun j=>by rw[hY];exact World.cell?_alloc_mark _ _ _ _ _
     rw[←hY]
     have y0:=hcY 0
     have y1:=hcY 1
     have hbW:Below W1.heap.size W1 Y:=HI.out.2.trans (hbY.mono HI.out.2.size)
     have HBW:=hid hbW
     have CH:=hid (whead_any g ba bn bc X Y (hPI.since hbY) (FuncQ.lasts _ _ _ _ hbY HFQ.out))
     clear hcY hY hbY hbW x0 x1 x2 x3 f0 f1 hscell hl2 hsl hrr hbr hPI HFQ
     obtain⟨x0,x1,x2,x3⟩:=HC.out Y HBW.out
     go_wp2_with(go_at_call 52;(with_reducible refine CH.out.mono ?_);intro e w6 hq;rcases hq.split with⟨hk,rfl,hb⟩|⟨hk,rfl,hb⟩;rotate_left;(exact⟨rfl,RulePost.bad (by rw[HR.out,allK_no (p:=fun i=>headB P (funcOf P i)) HLT.out (by simp only[HSO.out];exact hk)];simp) (HB.out.trans ((HBW.out.trans (hb.mono HBW.out.size)).mono HB.out.size))⟩);have HK5:Hid (allK (fun i=>headB P (funcOf P i)) (k+1)=true∧Below W1.heap.size W1 w6):=hid ⟨allK_more HI.out.1 (by simp only[HSO.out];exact hk),HBW.out.trans (hb.mono HBW.out.size)⟩;clear hk hb)
     go_roundw
     case rel=>exact⟨k+1,HLT.out,by go_num,HK5⟩
     case measure=>have:=HLT.out;simp[intOf];omega
    ·obtain rfl:k=fn:=by omega
     have hnn:¬ (k:Int)<(k:Int):=by omega
     have HKH:=hid HI.out.1
     have HBH:=hid HI.out.2
     have HHB:Hid (∀i,i<P.funcs.length→0<(funcOf P i).blocks.length):=hid fun i hi=>by
      have h:=allK_iff.1 HKH.out i (by rw[←HFL.out];exact hi)
      simp only[headB,Bool.and_eq_true_iff]at h
      exact of_decide_eq_true h.1.2
     clear HI hk
     go_upto_region 13 with fail
     clear hnn
     have hPI:=HP.out.since HBH.out
     obtain⟨gf,of,cs,hsl,rfl,hl2,hscell,hq⟩:=hPI.f.elem HF0.out
     obtain⟨X0,hX⟩:∃ X,X=P.funcs[0]:=⟨_,rfl⟩
     rw[←hX]at hq
     have hso:funcOf P 0=X0:=by rw[funcOf_at hsl,hX]
     obtain⟨bv,rfl,hrr,hbr⟩:=hq
     have hbr':=hbr
     obtain⟨ba0,bn0,bc0,rfl,_⟩:=hbr'
     have f0:=hscell 0 (by simp)
     have f1:=hscell 1 (by simp)
     simp only[Nat.add_zero,Nat.zero_mul,List.getElem_cons_zero,List.getElem_cons_succ]at f0 f1
     have hgf:gf<wr.heap.size:=World.block_lt_of_cell? _ _ f0
     have HSO0:=hid hso
     have hX0b:0<X0.blocks.length:=by rw[←hso];exact HHB.out 0 hsl
     have CM:Hid (∀u,Below wr.heap.size wr u→Calls Tryz.prog 53 #[.agg #[.pointer (some ⟨g,0,none⟩)],.agg #[.int .i64 X0.ret,.slice ba0 bn0 bc0]] u (RulePost (mainB X0) u)):=hid fun u hu=>wmain_any g ba0 bn0 bc0 X0 u (FuncQ.lasts _ _ _ _ hu ⟨_,rfl,hrr,hbr⟩) hX0b
     have hfz:(0:Int)<(k:Int):=by have:=HF0.out;omega
     have hfz2:0<k:=HF0.out
     have HXC:Hid (∀u,Below wr.heap.size wr u→u.cell? ⟨w.heap.size,0,none⟩=some (.pointer (some ⟨g,0,none⟩))∧u.cell? ⟨g,2,none⟩=some (.slice (some ⟨gf,of,none⟩) k fc)∧u.cell? ⟨gf,of,none⟩=some (.int .i64 X0.ret)∧u.cell? ⟨gf,of+1,none⟩=some (.slice ba0 bn0 bc0)):=hid fun u hu=>by
      obtain⟨q0,_,_,q3⟩:=HC.out u (HBH.out.trans (hu.mono HBH.out.size))
      exact⟨q0,q3,(hu.cell (p:=⟨gf,of,none⟩) hgf).trans f0,(hu.cell (p:=⟨gf,of+1,none⟩) hgf).trans f1⟩
     clear hscell hl2 hX hso hsl hrr hbr hPI f0 f1 hgf hX0b
     refine wp_region_T (S:=(fun u:World=>u.cell? ⟨w.heap.size,0,none⟩=some (.pointer (some ⟨g,0,none⟩))∧u.cell? ⟨g,2,none⟩=some (.slice (some ⟨gf,of,none⟩) k fc)∧u.cell? ⟨gf,of,none⟩=some (.int .i64 X0.ret)∧u.cell? ⟨gf,of+1,none⟩=some (.slice ba0 bn0 bc0))) 9 (by kernel_rfl) (HXC.out _ ((Below.refl _ wr).drew)) (fun hHeld=> ?_)
     refine wpAnyT_take (i:=0) (oi:=⟨some 51,_,_,_,_,_⟩) (v:= ?_) 8 rfl (by kernel_rfl) (by kernel_rfl) (by kernel_rfl) (by kernel_rfl) (by kernel_rfl) (fun _ _ _ h=>h) (Or.inl ⟨by rfl, ?_⟩) (by assumption) ?_
     rotate_left
     ·((intro w hSw;(try dsimp only at hSw);go_simp);try with_reducible rfl)
     (try simp only[Act.put,zA,zB,zC])
     refine wpAnyT_takeW (i:=1) (oi:=⟨some 52,_,_,_,_,_⟩) (v:= ?_) rfl (by kernel_rfl) (by kernel_rfl) (by kernel_rfl) (fun _ _ _ h=>h) (Or.inl ⟨by rfl, ?_⟩) ?_
     rotate_left
     ·((intro w _;go_simp);try with_reducible rfl)
     (try simp only[Act.put,zA,zB,zC])
     refine wpAnyT_take (i:=2) (oi:=⟨some 53,_,_,_,_,_⟩) (v:= ?_) 8 rfl (by kernel_rfl) (by kernel_rfl) (by kernel_rfl) (by kernel_rfl) (by kernel_rfl) (fun _ _ _ h=>h) (Or.inl ⟨by rfl, ?_⟩) (by assumption) ?_
     rotate_left
     ·((intro w hSw;(try dsimp only at hSw);go_simp);try with_reducible rfl)
     (try simp only[Act.put,zA,zB,zC])
     refine wpAnyT_takeW (i:=3) (oi:=⟨some 54,_,_,_,_,_⟩) (v:= ?_) rfl (by kernel_rfl) (by kernel_rfl) (by kernel_rfl) (fun _ _ _ h=>h) (Or.inl ⟨by rfl, ?_⟩) ?_
     rotate_left
     ·((intro w _;go_simp);try with_reducible rfl)
     (try simp only[Act.put,zA,zB,zC])
     refine wpAnyT_takeW (i:=4) (oi:=⟨some 55,_,_,_,_,_⟩) (v:= ?_) rfl (by kernel_rfl) (by kernel_rfl) (by kernel_rfl) (fun _ _ _ h=>h) (Or.inl ⟨by rfl, ?_⟩) ?_
     rotate_left
     ·((intro w _;go_simp);try with_reducible rfl)
     (try simp only[Act.put,zA,zB,zC])
     refine wpAnyT_take (i:=5) (oi:=⟨some 56,_,_,_,_,_⟩) (v:= ?_) 8 rfl (by kernel_rfl) (by kernel_rfl) (by kernel_rfl) (by kernel_rfl) (by kernel_rfl) (fun _ _ _ h=>h) (Or.inl ⟨by rfl, ?_⟩) (by assumption) ?_
     rotate_left
     ·((intro w hSw;(try dsimp only at hSw);go_simp);try with_reducible rfl)
     (try simp only[Act.put,zA,zB,zC])
     refine wpAnyT_takeW (i:=6) (oi:=⟨some 57,_,_,_,_,_⟩) (v:= ?_) rfl (by kernel_rfl) (by kernel_rfl) (by kernel_rfl) (fun _ _ _ h=>h) (Or.inl ⟨by rfl, ?_⟩) ?_
     rotate_left
     ·((intro w _;go_simp);try with_reducible rfl)
     (try simp only[Act.put,zA,zB,zC])
     refine wpAnyT_take (i:=7) (oi:=⟨some 58,_,_,_,_,_⟩) (v:= ?_) 8 rfl (by kernel_rfl) (by kernel_rfl) (by kernel_rfl) (by kernel_rfl) (by kernel_rfl) (fun _ _ _ h=>h) (Or.inl ⟨by rfl, ?_⟩) (by assumption) ?_
     rotate_left
     ·((intro w hSw;(try dsimp only at hSw);go_simp);try with_reducible rfl)
     (try simp only[Act.put,zA,zB,zC])
     refine wpAnyT_one (i:=8) (by kernel_rfl) rfl (fun K hK=> ?_)
     rw[if_pos (by rfl)]
     go_simp
     (with_reducible refine(CM.out _ ((Below.refl _ wr).drew)).mono ?_)
     intro e w6 hq
     rcases hq.split with⟨hk,rfl,hb⟩|⟨hk,rfl,hb⟩
     rotate_left
     ·exact⟨rfl,RulePost.bad (by rw[HR.out,HSO0.out,hk];simp) (HB.out.trans ((HBH.out.trans (((Below.refl _ wr).drew.trans (hb.mono (Nat.le_refl _))).mono HBH.out.size)).mono HB.out.size))⟩
     have hb6:Below wr.heap.size wr w6:=(Below.refl _ wr).drew.trans (hb.mono (Nat.le_refl _))
     have HBQ:=hid hb6
     have HB6:Hid (Below W1.heap.size W1 w6):=hid (HBH.out.trans (hb6.mono HBH.out.size))
     have HKM:=hid hk
     clear hk hb hb6
     refine hK.out _ _ (HXC.out _ HBQ.out) (fun hHeld=> ?_)
     clear hK K
     (try simp only[Act.put,zA,zB,zC])
     refine wpAnyT_done (by kernel_rfl) ?_
     clear hfz hfz2
     obtain⟨x0,x1,x2,x3⟩:=HC.out w6 HB6.out
     go_upto_region 15 with fail
     clear x0 x1 x2 x3
     go_loopw[66] (fun v66 w7=>∃ q:Nat,q≤cn∧v66=.int .i64 (q:Int)∧Hid (allK (fun i=>classB P (clsOf P i)) q=true∧Below W1.heap.size W1 w7)) (fun iv _=>cn-(intOf iv).toNat)
     case atStart=>exact⟨0,Nat.zero_le _,rfl,hid ⟨rfl,HB6.out⟩⟩
     case round=>
      obtain⟨q,hq,rfl,HI⟩:=hrel
      by_cases hlt:q<cn
      ·have hltz:(q:Int)<(cn:Int):=by omega
       have hPI:=HP.out.since HI.out.2
       obtain⟨gs,os,cs,hsl,rfl,hl2,hscell,hqq⟩:=hPI.c.elem hlt
       obtain⟨X,hX⟩:∃ X,X=P.classes[q]:=⟨_,rfl⟩
       rw[←hX]at hqq
       have hso:clsOf P q=X:=by rw[clsOf_at hsl,hX]
       obtain⟨xv,mv,rfl,hxv,hmv⟩:=hqq
       have hxv':=hxv
       have hmv':=hmv
       obtain⟨xa,xn,xc,rfl,_⟩:=hxv'
       obtain⟨ma,mn,mc,rfl,_⟩:=hmv'
       have f0:=hscell 0 (by simp)
       have f1:=hscell 1 (by simp)
       simp only[Nat.add_zero,List.getElem_cons_zero,List.getElem_cons_succ]at f0 f1
       have HLT:=hid hlt
       have HSO:=hid hso
       obtain⟨x0,x1,x2,x3⟩:=HC.out wr HI.out.2
       clear hX hso
       go_upto_region 17 with fail
       obtain⟨Y,hY⟩:∃ u,u=wr.alloc (.cells #[.slice xa xn xc,.slice ma mn mc] 62):=⟨_,rfl⟩
       have hbY:Below wr.heap.size wr Y:=by rw[hY];exact(Below.refl _ wr).alloc (Nat.le_refl _) _
       have hcY:∀ j,Y.cell? ⟨wr.heap.size,j,none⟩=(#[.slice xa xn xc,.slice ma mn mc]:Array Value)[j]? :=fun j=>by rw[hY];exact World.cell?_alloc_mark _ _ _ _ _
       rw[←hY]
       have y0:=hcY 0
       have y1:=hcY 1
       have hbW:Below W1.heap.size W1 Y:=HI.out.2.trans (hbY.mono HI.out.2.size)
       have HBW:=hid hbW
       have CH:=hid (wclass_any g X xa xn xc ma mn mc Y (hPI.since hbY) (hxv.since hbY) (hmv.since hbY) HHB.out)
       clear hcY hY hbY hbW x0 x1 x2 x3 f0 f1 hscell hl2 hsl hxv hmv hPI
       obtain⟨x0,x1,x2,x3⟩:=HC.out Y HBW.out
       go_wp2_with(go_at_call 54;(with_reducible refine CH.out.mono ?_);intro e w8 hq;rcases hq.split with⟨hk,rfl,hb⟩|⟨hk,rfl,hb⟩;rotate_left;(exact⟨rfl,RulePost.bad (by rw[HR.out,allK_no (p:=fun i=>classB P (clsOf P i)) HLT.out (by simp only[HSO.out];exact hk)];simp) (HB.out.trans ((HBW.out.trans (hb.mono HBW.out.size)).mono HB.out.size))⟩);have HK5:Hid (allK (fun i=>classB P (clsOf P i)) (q+1)=true∧Below W1.heap.size W1 w8):=hid ⟨allK_more HI.out.1 (by simp only[HSO.out];exact hk),HBW.out.trans (hb.mono HBW.out.size)⟩;clear hk hb)
       go_roundw
       case rel=>exact⟨q+1,HLT.out,by go_num,HK5⟩
       case measure=>have:=HLT.out;simp[intOf];omega
      ·obtain rfl:q=cn:=by omega
       have hnn:¬ (q:Int)<(q:Int):=by omega
       have HKC:=hid HI.out.1
       have HBC:=hid HI.out.2
       obtain⟨x0,x1,x2,x3⟩:=HC.out wr HI.out.2
       clear HI hq
       go_upto_region 20 with fail
       clear x0 x1 x2 x3 hnn
       go_loopw[80] (fun v80 w9=>∃ b:Nat,b≤k∧v80=.int .i64 (b:Int)∧Hid (allK (fun i=>bodyB P (funcOf P i)) b=true∧Below W1.heap.size W1 w9)) (fun iv _=>k-(intOf iv).toNat)
       case atStart=>exact⟨0,Nat.zero_le _,rfl,hid ⟨rfl,HBC.out⟩⟩
       case round=>
        obtain⟨b,hb9,rfl,HI⟩:=hrel
        by_cases hlt:b<k
        ·have hltz:(b:Int)<(k:Int):=by omega
         have hPI:=HP.out.since HI.out.2
         obtain⟨gs,os,cs,hsl,hse,hl2,hscell,hqq⟩:=hPI.f.elem hlt
         cases hse
         obtain⟨X,hX⟩:∃ X,X=P.funcs[b]:=⟨_,rfl⟩
         rw[←hX]at hqq
         have hso:funcOf P b=X:=by rw[funcOf_at hsl,hX]
         have hXs:=HSZ.out X (by rw[hX];exact List.getElem_mem hsl)
         obtain⟨bv,rfl,hrr,hbr⟩:=hqq
         have hbr':=hbr
         obtain⟨ba,bn,bc,rfl,hbl,_⟩:=hbr'
         have f0:=hscell 0 (by simp)
         have f1:=hscell 1 (by simp)
         simp only[Nat.add_zero,List.getElem_cons_zero,List.getElem_cons_succ]at f0 f1
         have HLT:=hid hlt
         have HSO:=hid hso
         have HXS:=hid hXs
         have HXB:Hid (bn≤100000):=hid (by have:=hXs.1;omega)
         have HFQ:Hid (FuncQ wr [.int .i64 X.ret,.slice ba bn bc] X):=hid ⟨_,rfl,hrr,hbr⟩
         have HRR:=hid hrr
         obtain⟨x0,x1,x2,x3⟩:=HC.out wr HI.out.2
         clear hX hso hXs
         go_upto_region 22 with fail
         obtain⟨Y,hY⟩:∃ u,u=wr.alloc (.cells #[.int .i64 X.ret,.slice ba bn bc] 36):=⟨_,rfl⟩
         have hbY:Below wr.heap.size wr Y:=by rw[hY];exact(Below.refl _ wr).alloc (Nat.le_refl _) _
         have hcY:∀ j,Y.cell? ⟨wr.heap.size,j,none⟩=(#[.int .i64 X.ret,.slice ba bn bc]:Array Value)[j]? :=fun j=>by rw[hY];exact World.cell?_alloc_mark _ _ _ _ _
         have hpy:wr.heap.size<Y.heap.size:=by rw[hY];simp
         rw[←hY]
         obtain⟨p,hp⟩:∃ p,p=wr.heap.size:=⟨_,rfl⟩
         rw[←hp]at hcY hpy⊢
         have hbW:Below W1.heap.size W1 Y:=HI.out.2.trans (hbY.mono HI.out.2.size)
         have HBW:=hid hbW
         have HFY:Hid (FuncQ Y [.int .i64 X.ret,.slice ba bn bc] X):=hid (FuncQ.lasts _ _ _ _ hbY HFQ.out)
         have HPY:=hid (hPI.since hbY)
         have HFTY:Hid (FT Y):=hid (HFT.out.since hbW)
         have HYC:Hid (∀u,Below Y.heap.size Y u→u.cell? ⟨w.heap.size,0,none⟩=some (.pointer (some ⟨g,0,none⟩))∧u.cell? ⟨p,0,none⟩=some (.int .i64 X.ret)∧u.cell? ⟨p,1,none⟩=some (.slice ba bn bc)):=hid fun u hu=>⟨(HC.out u (HBW.out.trans (hu.mono HBW.out.size))).1,(hu.cell (p:=⟨p,0,none⟩) hpy).trans (hcY 0),(hu.cell (p:=⟨p,1,none⟩) hpy).trans (hcY 1)⟩
         clear hcY hY hbY hbW hpy hp x0 x1 x2 x3 f0 f1 hscell hl2 hsl hrr hbr hbl hPI HFQ
         refine wp_region_T (S:=(fun u:World=>u.cell? ⟨w.heap.size,0,none⟩=some (.pointer (some ⟨g,0,none⟩))∧u.cell? ⟨p,0,none⟩=some (.int .i64 X.ret)∧u.cell? ⟨p,1,none⟩=some (.slice ba bn bc))) 9 (by kernel_rfl) (HYC.out _ ((Below.refl _ Y).drew)) (fun hHeld=> ?_)
         refine wpAnyT_take (i:=0) (oi:=⟨some 84,_,_,_,_,_⟩) (v:= ?_) 8 rfl (by kernel_rfl) (by kernel_rfl) (by kernel_rfl) (by kernel_rfl) (by kernel_rfl) (fun _ _ _ h=>h) (Or.inl ⟨by rfl, ?_⟩) (by assumption) ?_
         rotate_left
         ·((intro w hSw;(try dsimp only at hSw);go_simp);try with_reducible rfl)
         (try simp only[Act.put,zA,zB,zC])
         refine wpAnyT_take (i:=1) (oi:=⟨some 85,_,_,_,_,_⟩) (v:= ?_) 8 rfl (by kernel_rfl) (by kernel_rfl) (by kernel_rfl) (by kernel_rfl) (by kernel_rfl) (fun _ _ _ h=>h) (Or.inl ⟨by rfl, ?_⟩) (by assumption) ?_
         rotate_left
         ·((intro w hSw;(try dsimp only at hSw);go_simp);try with_reducible rfl)
         (try simp only[Act.put,zA,zB,zC])
         refine wpAnyT_takeW (i:=3) (oi:=⟨some 87,_,_,_,_,_⟩) (v:= ?_) rfl (by kernel_rfl) (by kernel_rfl) (by kernel_rfl) (fun _ _ _ h=>h) (Or.inl ⟨by rfl, ?_⟩) ?_
         rotate_left
         ·((intro w _;go_simp);try with_reducible rfl)
         (try simp only[Act.put,zA,zB,zC])
         refine wpAnyT_take (i:=4) (oi:=⟨some 88,_,_,_,_,_⟩) (v:= ?_) 8 rfl (by kernel_rfl) (by kernel_rfl) (by kernel_rfl) (by kernel_rfl) (by kernel_rfl) (fun _ _ _ h=>h) (Or.inl ⟨by rfl, ?_⟩) (by assumption) ?_
         rotate_left
         ·((intro w hSw;(try dsimp only at hSw);go_simp);try with_reducible rfl)
         (try simp only[Act.put,zA,zB,zC])
         refine wpAnyT_take (i:=5) (oi:=⟨some 89,_,_,_,_,_⟩) (v:= ?_) 8 rfl (by kernel_rfl) (by kernel_rfl) (by kernel_rfl) (by kernel_rfl) (by kernel_rfl) (fun _ _ _ h=>h) (Or.inl ⟨by rfl, ?_⟩) (by assumption) ?_
         rotate_left
         ·((intro w hSw;(try dsimp only at hSw);go_simp);try with_reducible rfl)
         (try simp only[Act.put,zA,zB,zC])
         refine wpAnyT_one (i:=2) (by kernel_rfl) rfl (fun K hK=> ?_)
         rw[if_pos (by rfl)]
         go_simp
         (with_reducible refine(wscoped_any X.ret ba bn bc X _ ((funcQ_row HFY.out).1.since BlockQ.lasts ((Below.refl _ Y).drew)) HXB.out HXS.out.2).mono ?_)
         rintro e w2 ⟨va,vc,ua,uc,mm,UP,rfl,hsc,hb⟩
         have hb2:Below Y.heap.size Y w2:=(Below.refl _ Y).drew.trans (hb.mono (Nat.le_refl _))
         have HB2:=hid hb2
         have HSC:=hid hsc
         have HF2:=hid (FuncQ.lasts _ _ _ _ hb2 HFY.out)
         clear hb hb2 hsc
         refine hK.out _ _ (HYC.out _ HB2.out) (fun hHeld=> ?_)
         clear hK K
         (try simp only[Act.put,zA,zB,zC])
         refine wpAnyT_one (i:=6) (by kernel_rfl) rfl (fun K hK=> ?_)
         rw[if_pos (by rfl)]
         go_simp
         (with_reducible refine(wtypes_any g X.ret ba bn bc X w2 (HFTY.out.since HB2.out) (HPY.out.since HB2.out) HF2.out HXB.out HXS.out.2).mono ?_)
         rintro e w3 ⟨ta,tn,tc,rfl,hot,hb⟩
         have hb3:Below Y.heap.size Y w3:=HB2.out.trans (hb.mono HB2.out.size)
         have HB3:=hid hb3
         have hl8:P.classes.length≤140737488355328:=by have:=HPY.out.c.len;omega
         have HBA:Hid (BodyAt w3 g _ _ _ _ _ _ _ _ _ P ba bn bc X va ua mm UP ta tn (typesL P X)):=hid ⟨HPY.out.since hb3,HSC.out.since hb,hot.read,by have:=hot.read.1;rw[typesL_len]at this;omega,typesK_r HPY.out.r hl8 ((funcQ_row HFY.out).1).parR _,HRR.out,HFTY.out.since hb3⟩
         clear hb hb3 hot hl8
         refine hK.out _ _ (HYC.out _ HB3.out) (fun hHeld=> ?_)
         clear hK K
         (try simp only[Act.put,zA,zB,zC])
         refine wpAnyT_takeW (i:=7) (oi:=⟨some 91,_,_,_,_,_⟩) (v:= ?_) rfl (by kernel_rfl) (by kernel_rfl) (by kernel_rfl) (fun _ _ _ h=>h) (Or.inl ⟨by rfl, ?_⟩) ?_
         rotate_left
         ·((intro w _;go_simp);try with_reducible rfl)
         (try simp only[Act.put,zA,zB,zC])
         refine wpAnyT_one (i:=8) (by kernel_rfl) rfl (fun K hK=> ?_)
         rw[if_pos (by rfl)]
         go_simp
         (with_reducible refine(wbhold_any vc uc tc w3 HBA.out).mono ?_)
         intro e w6 hq
         rcases hq.split with⟨hk,rfl,hb⟩|⟨hk,rfl,hb⟩
         rotate_left
         ·exact⟨rfl,RulePost.bad (by rw[HR.out,allK_no (p:=fun i=>bodyB P (funcOf P i)) HLT.out (by simp only[HSO.out];exact hk)];simp) (HB.out.trans ((HBW.out.trans ((HB3.out.trans (hb.mono HB3.out.size)).mono HBW.out.size)).mono HB.out.size))⟩
         have hb6:Below Y.heap.size Y w6:=HB3.out.trans (hb.mono HB3.out.size)
         have HB6Y:=hid hb6
         have HK5:Hid (allK (fun i=>bodyB P (funcOf P i)) (b+1)=true∧Below W1.heap.size W1 w6):=hid ⟨allK_more HI.out.1 (by simp only[HSO.out];exact hk),HBW.out.trans (hb6.mono HBW.out.size)⟩
         clear hk hb hb6
         refine hK.out _ _ (HYC.out _ HB6Y.out) (fun hHeld=> ?_)
         clear hK K
         (try simp only[Act.put,zA,zB,zC])
         refine wpAnyT_done (by kernel_rfl) ?_
         go_wp2_with fail
         go_roundw
         case rel=>exact⟨b+1,HLT.out,by go_num,HK5⟩
         case measure=>have:=HLT.out;simp[intOf];omega
        ·obtain rfl:b=k:=by omega
         have hnn:¬ (b:Int)<(b:Int):=by omega
         have HE:Hid (rulesB P=true):=hid (by rw[HR.out,HK0.out,HKS.out,HKH.out,HSO0.out,HKM.out,HKC.out,HI.out.1];rfl)
         go_wp2_with fail
         go_end0
         exact RulePost.good HE.out (HB.out.trans (HI.out.2.mono HB.out.size))
theorem sumN_mem{α:Type}(f:α→Nat):∀ {xs:List α} {x:α},x∈xs→f x≤sumN f xs
 |y::xs,x,h=>by
  simp only[sumN]
  rcases List.mem_cons.1 h with rfl|h
  ·omega
  ·have:=sumN_mem f h;omega
 | [],x,h=>by cases h
theorem firstN_parts(f:FuncD):∀ i,i≤f.blocks.length→firstN f i≤sumN pBlock (f.blocks.take i)
 |0,_=>by simp[firstN]
 |i+1,h=>by
  have ih:=firstN_parts f i (by omega)
  rw[firstN_more (show i<f.blocks.length from h),sumN_take pBlock (show i<f.blocks.length from h)]
  have h3:pBlock f.blocks[i]=f.blocks[i].params.length+f.blocks[i].ops.length+f.blocks[i].fin.L.length+f.blocks[i].fin.M.length+sumN pOp f.blocks[i].ops:=rfl
  omega
theorem values_parts(f:FuncD):valuesN f≤pFunc f∧f.blocks.length≤pFunc f:=by
 have h:=firstN_parts f f.blocks.length (Nat.le_refl _)
 rw[List.take_of_length_le (Nat.le_refl _)]at h
 unfold pFunc
 exact⟨by unfold valuesN;omega,by omega⟩
theorem parts_func{P:ProgD}{m:Nat}(h:partsP P≤m){f:FuncD}(hf:f∈P.funcs):valuesN f≤m∧f.blocks.length≤m:=by
 have h1:=sumN_mem pFunc hf
 have h2:=values_parts f
 unfold partsP at h
 exact⟨by omega,by omega⟩
theorem prog_at{W:World}{g:Nat}{sa:Option Addr}{sn sc:Nat}{ca:Option Addr}{cn cc:Nat}{fa:Option Addr}{fn fc:Nat}{P:ProgD}(hc0:W.cell? ⟨g,0,none⟩=some (.slice sa sn sc))(hc1:W.cell? ⟨g,1,none⟩=some (.slice ca cn cc))(hc2:W.cell? ⟨g,2,none⟩=some (.slice fa fn fc))(hP:ProgQ W [.slice sa sn sc,.slice ca cn cc,.slice fa fn fc] P):ProgAt W g sa sn sc ca cn cc fa fn fc P:=by
 obtain⟨s,c,f,he,h1,h2,h3⟩:=hP
 simp only[List.cons.injEq,and_true]at he
 obtain⟨rfl,rfl,rfl⟩:=he
 exact⟨hc0,hc1,hc2,h1,h2,h3⟩
theorem ProgAt.q{W:World}{g:Nat}{sa:Option Addr}{sn sc:Nat}{ca:Option Addr}{cn cc:Nat}{fa:Option Addr}{fn fc:Nat}{P:ProgD}(h:ProgAt W g sa sn sc ca cn cc fa fn fc P):ProgQ W [.slice sa sn sc,.slice ca cn cc,.slice fa fn fc] P:=⟨_,_,_,rfl,h.s,h.c,h.f⟩
def WFuncC(W:World)(cs:List Value)(x:FuncD):Prop:=FuncQ W cs x∧∃ r a n c,cs=[r,.slice a n c]∧n≤c∧c≤9223372036854775807
def cutF(f:FuncD):FuncD:=⟨f.ret,f.blocks.take 12⟩
theorem wrow_take{α:Type}{Q:World→List Value→α→Prop}{k:Nat}{W:World}{a:Option Addr}{n c:Nat}{xs:List α}(h:RowV Q k W (.slice a n c) xs){m:Nat}(hm:m≤n):RowV Q k W (.slice a m c) (xs.take m):=by
 obtain⟨a',n',c',e,hl,h0,h8,hr⟩:=h
 cases e
 refine⟨a,m,c,rfl,by rw[List.length_take];omega,h0,by omega,fun hp=> ?_⟩
 obtain⟨g,off,ha,hg,hcs⟩:=hr (by omega)
 refine⟨g,off,ha,hg,fun i hi=> ?_⟩
 obtain⟨cs,h1,h2,h3⟩:=hcs i (by rw[List.length_take]at hi;omega)
 exact⟨cs,h1,h2,by rw[List.getElem_take];exact h3⟩
theorem wfuncc_cut{W:World}{r:Int}{a:Option Addr}{n c:Nat}{f:FuncD}(h:FuncQ W [.int .i64 r,.slice a n c] f)(h12:12<n):FuncQ W [.int .i64 r,.slice a 12 c] (cutF f):=by
 obtain⟨b,he,hr,hb⟩:=h
 simp only[List.cons.injEq,Value.int.injEq,true_and,and_true]at he
 obtain⟨rfl,rfl⟩:=he
 exact⟨_,rfl,hr,wrow_take hb (by omega)⟩
theorem wfuncc_all{W:World}{r:Int}{a:Option Addr}{n c:Nat}{f:FuncD}(h:FuncQ W [.int .i64 r,.slice a n c] f)(h12:n≤12):FuncQ W [.int .i64 r,.slice a n c] (cutF f):=by
 have hl:=(funcQ_row h).2
 obtain⟨b,he,hr,hb⟩:=h
 refine⟨b,he,hr, ?_⟩
 show RowV BlockQ 8 W b (f.blocks.take 12)
 rw[List.take_of_length_le (by omega)]
 exact hb
theorem cut_len(f:FuncD):(cutF f).blocks.length≤12∧(cutF f).blocks.length≤f.blocks.length:=by
 show(f.blocks.take 12).length≤12∧(f.blocks.take 12).length≤f.blocks.length
 rw[List.length_take]
 omega
theorem cut_vals(f:FuncD):valuesN (cutF f)≤valuesN f:=by
 unfold valuesN
 have h:∀ i,firstN (cutF f) i≤firstN f i:=fun i=>by
  have h1:firstN (cutF f) i=firstN f (min i 12):=by unfold firstN cutF;rw[List.take_take]
  rw[h1]
  exact firstN_mono f (by omega)
 exact Nat.le_trans (h _) (firstN_mono f (cut_len f).2)
def LfunPost(P:ProgD)(w:World)(e:Ending)(w':World):Prop:=
 ((e=.returned (.tuple #[.agg #[.int .i64 0,.slice none 0 0],.bool false]))∨∃ (F:FuncD) (ba:Option Addr) (m bc:Nat),F∈P.funcs∧e=.returned (.tuple #[.agg #[.int .i64 F.ret,.slice ba m bc],.bool true])∧FuncQ w' [.int .i64 F.ret,.slice ba m bc] (cutF F)∧m≤12)∧Below w.heap.size w w'
theorem rem_nat(a b:Nat):Int.tmod (a:Int) (b:Int)=((a%b:Nat):Int):=by
 exact(Int.ofNat_tmod a b).symm
theorem wtwo_set(W:World)(b:Nat)(v0 v1 u0 u1:Value)(h0:W.cell? ⟨b,0,none⟩=some u0)(h1:W.cell? ⟨b,1,none⟩=some u1):((W.setCell ⟨b,0,none⟩ v0).setCell ⟨b,1,none⟩ v1).cell? ⟨b,0,none⟩=some v0∧((W.setCell ⟨b,0,none⟩ v0).setCell ⟨b,1,none⟩ v1).cell? ⟨b,1,none⟩=some v1:=by
 have k:∀ (u:World) (i j:Nat) (v:Value),i≠j→(u.setCell ⟨b,i,none⟩ v).cell? ⟨b,j,none⟩=u.cell? ⟨b,j,none⟩:=fun u i j v h=>World.cell?_setCell_other _ _ _ _ (fun e=>h (by cases e;rfl))
 refine⟨?_,World.cell?_setCell_same _ _ _ (by rw[k _ 0 1 _ (by omega)];exact h1)⟩
 rw[k _ 1 0 _ (by omega)]
 exact World.cell?_setCell_same _ _ _ h0
set_option maxRecDepth 100000 in
set_option maxHeartbeats 4000000 in
theorem lfun_any(g:Nat){sa:Option Addr}{sn sc:Nat}{ca:Option Addr}{cn cc:Nat}{fa:Option Addr}{fn fc:Nat}{P:ProgD}(nn:Nat)(hnn:nn≤255)(w:World)(hP:ProgAt w g sa sn sc ca cn cc fa fn fc P)(hcap:RowV WFuncC 2 w (.slice fa fn fc) P.funcs):
 Calls Tryz.prog 13 #[.pointer (some ⟨g,0,none⟩),.int .u8 (nn:Int)] w (LfunPost P w):=by
 have c2:=hP.c2
 have hgl:g<w.heap.size:=World.block_lt_of_cell? _ _ c2
 by_cases h0:fn=0
 ·subst h0
  clear hP hcap
  go_enter Tryz.func13,Tryz.ntmps13
  go_wp2_with fail
  refine bodyPost_ret (v:=.tuple #[.agg #[.int .i64 0,.slice none 0 0],.bool false]) (by simp[results,Tryz.results13,go_sem]) rfl ⟨.inl rfl,(Below.refl _ w).alloc (Nat.le_refl _) _⟩
 ·have hfn8:=hP.f.len.2
  have hpos:0<nn%fn+1:=by omega
  have hkl:nn%fn<fn:=Nat.mod_lt _ (by omega)
  obtain⟨k,hk⟩:∃ k,k=nn%fn:=⟨_,rfl⟩
  rw[←hk]at hkl
  obtain⟨gs,os,cs,hsl,rfl,hl2,hscell,hq,r',ba,bn,bc,rfl,hbc,hbc8⟩:=hcap.elem hkl
  obtain⟨F,hF⟩:∃ F,F=P.funcs[k]:=⟨_,rfl⟩
  rw[←hF]at hq
  have hmem:F∈P.funcs:=by rw[hF];exact List.getElem_mem hsl
  obtain⟨bv,he,hrr,hbr⟩:=hq
  simp only[List.cons.injEq,and_true]at he
  obtain⟨rfl,rfl⟩:=he
  have f0:=hscell 0 (by simp)
  have f1:=hscell 1 (by simp)
  simp only[Nat.add_zero,List.getElem_cons_zero,List.getElem_cons_succ]at f0 f1
  have hgs:gs<w.heap.size:=World.block_lt_of_cell? _ _ f0
  have hfq:FuncQ w [.int .i64 F.ret,.slice ba bn bc] F:=⟨_,rfl,hrr,hbr⟩
  have HFQ:=hid hfq
  have HMEM:=hid hmem
  have hne:(fn==0)=false:=by rw[beq_eq_false_iff_ne];exact h0
  have hnez:((fn:Int)==0)=false:=by rw[beq_eq_false_iff_ne];omega
  have hfnz:¬ (fn:Int)=0:=by omega
  have hrem:Int.tmod (nn:Int) (fn:Int)=(k:Int):=by rw[rem_nat,←hk]
  have hwn:IntKind.i64.wrap (nn:Int)=(nn:Int):=wrap_small _ (by omega) (by omega)
  have hfn0:¬ fn=0:=h0
  have hk0:(0:Int)≤(k:Int):=by omega
  have hkz:(k:Int)<(fn:Int):=by omega
  obtain⟨W1,hW1⟩:∃ U,w.alloc (.cells #[.int .i64 0,.slice none 0 0] 36)=U:=⟨_,rfl⟩
  have hb1:Below w.heap.size w W1:=by rw[←hW1];exact(Below.refl _ w).alloc (Nat.le_refl _) _
  have hs1:W1.heap.size=w.heap.size+1:=by rw[←hW1];simp
  have hx1:W1.heap[w.heap.size]? =some (.cells #[.int .i64 0,.slice none 0 0] 36 (0,0)):=by rw[←hW1];exact heap_alloc_new w _
  have HB1:=hid hb1
  have HS1:=hid hs1
  have HX1:=hid hx1
  have HC:Hid (∀U,Below W1.heap.size W1 U→U.cell? ⟨g,2,none⟩=some (.slice (some ⟨gs,os,none⟩) fn fc)∧U.cell? ⟨gs,os+k*2,none⟩=some (.int .i64 F.ret)∧U.cell? ⟨gs,os+k*2+1,none⟩=some (.slice ba bn bc)):=hid fun U hU=>by
   have hbw:=hb1.trans (hU.mono hb1.size)
   exact⟨(hbw.cell (p:=⟨g,2,none⟩) hgl).trans c2,(hbw.cell (p:=⟨gs,os+k*2,none⟩) hgs).trans f0,(hbw.cell (p:=⟨gs,os+k*2+1,none⟩) hgs).trans f1⟩
  clear hP hcap hscell hl2 hF hmem hsl hrr hbr f0 f1 hgs hfq hb1 hs1 hx1 hk h0 hgl
  go_enter Tryz.func13,Tryz.ntmps13
  go_upto_region 1 with fail
  try rw[hW1]
  clear hW1 c2
  obtain⟨c2,q0,q1⟩:=HC.out W1 (Below.refl _ _)
  go_upto_region 3 with fail
  clear c2 q0 q1
  refine wp_region_T (S:=(fun u:World=>u.cell? ⟨g,2,none⟩=some (.slice (some ⟨gs,os,none⟩) fn fc)∧u.cell? ⟨gs,os+k*2,none⟩=some (.int .i64 F.ret)∧u.cell? ⟨gs,os+k*2+1,none⟩=some (.slice ba bn bc))) 15 (by kernel_rfl) (HC.out _ ((Below.refl _ W1).drew)) (fun hHeld=> ?_)
  refine wpAnyT_takeW (i:=0) (oi:=⟨some 18,_,_,_,_,_⟩) (v:= ?_) rfl (by kernel_rfl) (by kernel_rfl) (by kernel_rfl) (fun _ _ _ h=>h) (Or.inl ⟨by rfl, ?_⟩) ?_
  rotate_left
  ·((intro w _;go_simp);try with_reducible rfl)
  (try simp only[Act.put,zA,zB,zC])
  refine wpAnyT_takeW (i:=1) (oi:=⟨some 19,_,_,_,_,_⟩) (v:= ?_) rfl (by kernel_rfl) (by kernel_rfl) (by kernel_rfl) (fun _ _ _ h=>h) (Or.inl ⟨by rfl, ?_⟩) ?_
  rotate_left
  ·((intro w _;go_simp);try with_reducible rfl)
  (try simp only[Act.put,zA,zB,zC])
  refine wpAnyT_takeW (i:=2) (oi:=⟨some 20,_,_,_,_,_⟩) (v:= ?_) rfl (by kernel_rfl) (by kernel_rfl) (by kernel_rfl) (fun _ _ _ h=>h) (Or.inl ⟨by rfl, ?_⟩) ?_
  rotate_left
  ·((intro w _;go_simp);try with_reducible rfl)
  (try simp only[Act.put,zA,zB,zC])
  refine wpAnyT_take (i:=3) (oi:=⟨some 21,_,_,_,_,_⟩) (v:= ?_) 8 rfl (by kernel_rfl) (by kernel_rfl) (by kernel_rfl) (by kernel_rfl) (by kernel_rfl) (fun _ _ _ h=>h) (Or.inl ⟨by rfl, ?_⟩) (by assumption) ?_
  rotate_left
  ·((intro w hSw;(try dsimp only at hSw);go_simp);try with_reducible rfl)
  (try simp only[Act.put,zA,zB,zC])
  refine wpAnyT_takeW (i:=4) (oi:=⟨some 22,_,_,_,_,_⟩) (v:= ?_) rfl (by kernel_rfl) (by kernel_rfl) (by kernel_rfl) (fun _ _ _ h=>h) (Or.inl ⟨by rfl, ?_⟩) ?_
  rotate_left
  ·((intro w _;go_simp);try with_reducible rfl)
  (try simp only[Act.put,zA,zB,zC])
  refine wpAnyT_takeW (i:=5) (oi:=⟨some 23,_,_,_,_,_⟩) (v:= ?_) rfl (by kernel_rfl) (by kernel_rfl) (by kernel_rfl) (fun _ _ _ h=>h) (Or.inl ⟨by rfl, ?_⟩) ?_
  rotate_left
  ·((intro w _;go_simp);try with_reducible rfl)
  (try simp only[Act.put,zA,zB,zC])
  refine wpAnyT_takeW (i:=6) (oi:=⟨some 24,_,_,_,_,_⟩) (v:= ?_) rfl (by kernel_rfl) (by kernel_rfl) (by kernel_rfl) (fun _ _ _ h=>h) (Or.inl ⟨by rfl, ?_⟩) ?_
  rotate_left
  ·((intro w _;go_simp);try with_reducible rfl)
  (try simp only[Act.put,zA,zB,zC])
  refine wpAnyT_takeW (i:=7) (oi:=⟨some 25,_,_,_,_,_⟩) (v:= ?_) rfl (by kernel_rfl) (by kernel_rfl) (by kernel_rfl) (fun _ _ _ h=>h) (Or.inl ⟨by rfl, ?_⟩) ?_
  rotate_left
  ·((intro w _;go_simp);try with_reducible rfl)
  (try simp only[Act.put,zA,zB,zC])
  refine wpAnyT_takeW (i:=8) (oi:=⟨some 26,_,_,_,_,_⟩) (v:= ?_) rfl (by kernel_rfl) (by kernel_rfl) (by kernel_rfl) (fun _ _ _ h=>h) (Or.inl ⟨by rfl, ?_⟩) ?_
  rotate_left
  ·((intro w _;go_simp);try with_reducible rfl)
  (try simp only[Act.put,zA,zB,zC])
  refine wpAnyT_take (i:=9) (oi:=⟨some 27,_,_,_,_,_⟩) (v:= ?_) 8 rfl (by kernel_rfl) (by kernel_rfl) (by kernel_rfl) (by kernel_rfl) (by kernel_rfl) (fun _ _ _ h=>h) (Or.inl ⟨by rfl, ?_⟩) (by assumption) ?_
  rotate_left
  ·((intro w hSw;(try dsimp only at hSw);go_simp);try with_reducible rfl)
  (try simp only[Act.put,zA,zB,zC])
  refine wpAnyT_takeW (i:=10) (oi:=⟨some 28,_,_,_,_,_⟩) (v:= ?_) rfl (by kernel_rfl) (by kernel_rfl) (by kernel_rfl) (fun _ _ _ h=>h) (Or.inl ⟨by rfl, ?_⟩) ?_
  rotate_left
  ·((intro w _;go_simp);try with_reducible rfl)
  (try simp only[Act.put,zA,zB,zC])
  refine wpAnyT_takeW (i:=11) (oi:=⟨some 29,_,_,_,_,_⟩) (v:= ?_) rfl (by kernel_rfl) (by kernel_rfl) (by kernel_rfl) (fun _ _ _ h=>h) (Or.inl ⟨by rfl, ?_⟩) ?_
  rotate_left
  ·((intro w _;go_simp);try with_reducible rfl)
  (try simp only[Act.put,zA,zB,zC])
  refine wpAnyT_takeW (i:=12) (oi:=⟨some 30,_,_,_,_,_⟩) (v:= ?_) rfl (by kernel_rfl) (by kernel_rfl) (by kernel_rfl) (fun _ _ _ h=>h) (Or.inl ⟨by rfl, ?_⟩) ?_
  rotate_left
  ·((intro w _;go_simp);try with_reducible rfl)
  (try simp only[Act.put,zA,zB,zC])
  refine wpAnyT_take (i:=13) (oi:=⟨some 31,_,_,_,_,_⟩) (v:= ?_) 8 rfl (by kernel_rfl) (by kernel_rfl) (by kernel_rfl) (by kernel_rfl) (by kernel_rfl) (fun _ _ _ h=>h) (Or.inl ⟨by rfl, ?_⟩) (by assumption) ?_
  rotate_left
  ·((intro w hSw;(try dsimp only at hSw);go_simp);try with_reducible rfl)
  (try simp only[Act.put,zA,zB,zC])
  refine wpAnyT_one (i:=14) (by kernel_rfl) rfl (fun K hK=> ?_)
  rw[if_pos (by rfl)]
  go_simp
  refine hK.out _ _ (HC.out _ (((Below.refl _ W1).alloc (Nat.le_refl _) _).drew)) (fun hHeld=> ?_)
  clear hK K
  (try simp only[Act.put,zA,zB,zC])
  refine wpAnyT_end (i:=15) (by kernel_rfl) (by kernel_rfl) rfl (fun K hK=> ?_)
  rw[if_pos (by rfl)]
  go_simp
  refine hK.out _ _ ?_
  clear hK K
  (try simp only[Act.put,zA,zB,zC])
  refine wpAnyT_done (by kernel_rfl) ?_
  obtain⟨Y,hY⟩:∃ U,U=(W1.alloc (.cells #[.int .i64 F.ret,.slice ba bn bc] 36)).drew:=⟨_,rfl⟩
  have hbY:Below W1.heap.size W1 Y:=by rw[hY];exact((Below.refl _ W1).alloc (Nat.le_refl _) _).drew
  have hy:Y.heap[W1.heap.size]? =some (.cells #[.int .i64 F.ret,.slice ba bn bc] 36 (0,0)):=by rw[hY];exact heap_alloc_new W1 _
  have hx:Y.heap[w.heap.size]? =some (.cells #[.int .i64 0,.slice none 0 0] 36 (0,0)):=by rw[hbY.block _ (by have:=HS1.out;omega)];exact HX1.out
  rw[←hY]
  have hs:=HS1.out
  rw[hs]at hy⊢
  obtain⟨p,hp⟩:∃ p,p=w.heap.size:=⟨_,rfl⟩
  have HPP:=hid hp
  rw[←hp]at hy hx⊢
  have a0:Y.cell? ⟨p,0,none⟩=some (.int .i64 0):=by simp[World.cell?,hx]
  have a1:Y.cell? ⟨p,1,none⟩=some (.slice none 0 0):=by simp[World.cell?,hx]
  have a2:∀ j,Y.frozen? ⟨p,j,none⟩=false:=fun j=>by simp[World.frozen?,hx]
  have b0:Y.cell? ⟨p+1,0,none⟩=some (.int .i64 F.ret):=by simp[World.cell?,hy]
  have b1:Y.cell? ⟨p+1,1,none⟩=some (.slice ba bn bc):=by simp[World.cell?,hy]
  have b2:∀ j,Y.frozen? ⟨p+1,j,none⟩=false:=fun j=>by simp[World.frozen?,hy]
  have HBY:Hid (Below w.heap.size w Y):=hid (HB1.out.trans (hbY.mono HB1.out.size))
  have HY:=hid hy
  have HX:=hid hx
  clear hY hbY hy hx hs hp
  by_cases h12:12<bn
  ·have hi:(12:Int)<(bn:Int):=by omega
   have hc60:12≤bc:=by omega
   have hci:(12:Int)≤(bc:Int):=by omega
   have a0':(Y.setCell ⟨p+1,1,none⟩ (.slice ba 12 bc)).cell? ⟨p,0,none⟩=some (.int .i64 0):=(World.cell?_setCell_other _ _ _ _ (fun e=>by cases e)).trans a0
   have a1':(Y.setCell ⟨p+1,1,none⟩ (.slice ba 12 bc)).cell? ⟨p,1,none⟩=some (.slice none 0 0):=(World.cell?_setCell_other _ _ _ _ (fun e=>by cases e)).trans a1
   have HU:=hid (wtwo_set (Y.setCell ⟨p+1,1,none⟩ (.slice ba 12 bc)) p (.int .i64 F.ret) (.slice ba 12 bc) _ _ a0' a1')
   have HBU:Hid (Below w.heap.size w (((Y.setCell ⟨p+1,1,none⟩ (.slice ba 12 bc)).setCell ⟨p,0,none⟩ (.int .i64 F.ret)).setCell ⟨p,1,none⟩ (.slice ba 12 bc))):=hid (((HBY.out.setCell (p:=⟨p+1,1,none⟩) (by have:=HPP.out;simp only[];omega) _).setCell (p:=⟨p,0,none⟩) (by have:=HPP.out;simp only[];omega) _).setCell (p:=⟨p,1,none⟩) (by have:=HPP.out;simp only[];omega) _)
   have HL12:=hid h12
   clear a0' a1'
   go_wp2_with fail
   obtain⟨u0,u1⟩:=HU.out
   refine bodyPost_ret (v:=.tuple #[.agg #[.int .i64 F.ret,.slice ba 12 bc],.bool true]) (by simp[results,Tryz.results13,go_sem,u0,u1]) rfl ⟨.inr ⟨F,ba,12,bc,HMEM.out,rfl,FuncQ.lasts _ _ _ _ HBU.out (wfuncc_cut HFQ.out HL12.out),Nat.le_refl _⟩,HBU.out⟩
  ·have hi:¬ (12:Int)<(bn:Int):=by omega
   have HU:=hid (wtwo_set Y p (.int .i64 F.ret) (.slice ba bn bc) _ _ a0 a1)
   have HBU:Hid (Below w.heap.size w ((Y.setCell ⟨p,0,none⟩ (.int .i64 F.ret)).setCell ⟨p,1,none⟩ (.slice ba bn bc))):=hid ((HBY.out.setCell (p:=⟨p,0,none⟩) (by have:=HPP.out;simp only[];omega) _).setCell (p:=⟨p,1,none⟩) (by have:=HPP.out;simp only[];omega) _)
   have HL12:Hid (bn≤12):=hid (by omega)
   clear h12
   go_wp2_with fail
   obtain⟨u0,u1⟩:=HU.out
   refine bodyPost_ret (v:=.tuple #[.agg #[.int .i64 F.ret,.slice ba bn bc],.bool true]) (by simp[results,Tryz.results13,go_sem,u0,u1]) rfl ⟨.inr ⟨F,ba,bn,bc,HMEM.out,rfl,FuncQ.lasts _ _ _ _ HBU.out (wfuncc_all HFQ.out HL12.out),HL12.out⟩,HBU.out⟩
theorem wassert_errno(er:Int)(w:World):(Instr.typeAssert (.iface 30 (.int .i64 er)) 20 30 false).run Tryz.prog w=.ok (.int .i64 er) w:=by kernel_rfl
theorem wcatch_panic(p:Addr)(z er:Int)(w:World)(hc:w.cell? p=some (.int .i64 z))(hz:w.frozen? p=false):
 CallsD Tryz.prog 23 #[.pointer (some p)] (.panicking [{v:=.iface 30 (.int .i64 er),recovered:=false}]) w fun e u' w'=>
  e=.returned (.tuple #[])∧u'=.panicking [{v:=.iface 30 (.int .i64 er),recovered:=true}]∧w'=w.setCell p (.int .i64 er):=by
 refine callsD_of_wpS Tryz.func23 rfl fun c₀ cs hu=> ?_
 apply wpS_seq
 apply wpS_region
 simp[wpOpsS,go_sem,recoverD,hu,Tryz.ntmps23,Exit.thenS]
 apply wpS_seq
 apply wpS_region
 simp[wpOpsS,go_sem,Exit.thenS]
 refine wpS_cond (t:=true) (by simp[Act.eval,Array.replicate]) ?_
 simp only[if_true]
 apply wpS_region
 simp[wpOpsS,go_sem,wassert_errno,hc,hz,bodyPostS,results,Tryz.results23]
theorem wcatch_idle(p:Addr)(w:World):
 CallsD Tryz.prog 23 #[.pointer (some p)] .returning w fun e u' w'=>e=.returned (.tuple #[])∧u'=.returning∧w'=w:=by
 refine callsD_of_wpS Tryz.func23 rfl fun c₀ cs hu=> ?_
 apply wpS_seq
 apply wpS_region
 simp[wpOpsS,go_sem,recoverD,hu,Tryz.ntmps23,Exit.thenS]
 apply wpS_seq
 apply wpS_region
 simp[wpOpsS,go_sem,Exit.thenS]
 refine wpS_cond (t:=false) (by simp[Act.eval,Array.replicate]) ?_
 simp only[Bool.false_eq_true,if_false]
 refine wpS_of_wp (wp_skip ?_)
 cases c₀
 simp_all[bodyPostS,results,Tryz.results23]
theorem out_errs{P:ProgD}{er:Int}(h:outBytes (encProg (plainProg P))=.no er):er=2∨er=4:=by
 rcases out_or (encProg (plainProg P))with⟨l,hl⟩|⟨e,he⟩
 ·rw[hl]at h
  simp only[outBytes]at h
  split at h
  ·cases h;exact .inl rfl
  ·cases h
 ·rw[he]at h
  cases h
  exact errs_prog _ _ he
theorem err_box(w:World)(z:Int){U:World}(hU:w.alloc (.cells #[.int .i64 z] 30)=U):Below w.heap.size w U∧U.heap.size=w.heap.size+1∧U.heap[w.heap.size]? =some (.cells #[.int .i64 z] 30 (0,0)):=by
 rw[←hU]
 exact⟨(Below.refl _ w).alloc (Nat.le_refl _) _,by simp,heap_alloc_new w _⟩
theorem box_at{W:World}{b:Nat}{z:Int}{t:TypeId}(h:W.heap[b]? =some (.cells #[.int .i64 z] t (0,0))):W.cell? ⟨b,0,none⟩=some (.int .i64 z)∧W.frozen? ⟨b,0,none⟩=false:=⟨by simp[World.cell?,h],by simp[World.frozen?,h]⟩
theorem box_set{W:World}{b:Nat}{z y:Int}{t:TypeId}(h:W.heap[b]? =some (.cells #[.int .i64 z] t (0,0))):(W.setCell ⟨b,0,none⟩ (.int .i64 y)).heap[b]? =some (.cells #[.int .i64 y] t (0,0)):=by
 have:=(show Boxed W b t (.int .i64 z)from h).set (.int .i64 y)
 exact this
set_option maxHeartbeats 2000000 in
theorem wcheck_nil(w:World):Calls Tryz.prog 10 #[.pointer none] w fun e w'=>e=.returned (.int .i64 1)∧Below w.heap.size w w':=by
 have hmf:∀ (fn:Fn) (first cap:Array Value) (w:World),(Instr.makeFunc fn first cap).run Tryz.prog w=.ok (.func fn first cap) w:=fun _ _ _ _=>rfl
 obtain⟨W1,hW1⟩:∃ U,w.alloc (.cells #[.int .i64 0] 30)=U:=⟨_,rfl⟩
 obtain⟨hb,hs,hh⟩:=err_box w 0 hW1
 obtain⟨hc0,hf0⟩:=box_at hh
 have hh2:=box_set (y:=1) hh
 obtain⟨hc2,hf2⟩:=box_at hh2
 have HB:=hid hb
 have HC2:=hid hc2
 have HF2:=hid hf2
 clear hb hs hh hh2 hc2 hf2
 go_enter_defers Tryz.func10,Tryz.ntmps10
 go_upto_region 3 with(go_at_call 20;(with_reducible refine(encode_nil _).mono ?_);rintro e u ⟨rfl,rfl⟩)
 clear hc0 hf0
 have hc2:=HC2.out
 go_wp2_with(go_at_call 24;(with_reducible refine(must_no 1 _).mono ?_);rintro e u ⟨he,rfl⟩;unfold gaveUp at he;subst he)
 have hr:((W1.setCell ⟨w.heap.size,0,none⟩ (.int .i64 1)).setCell ⟨w.heap.size,0,none⟩ (.int .i64 1)).cell? ⟨w.heap.size,0,none⟩=some (.int .i64 1):=World.cell?_setCell_same _ _ _ hc2
 have HP:Hid (Below w.heap.size w ((W1.setCell ⟨w.heap.size,0,none⟩ (.int .i64 1)).setCell ⟨w.heap.size,0,none⟩ (.int .i64 1))):=hid ((HB.out.setCell (p:=⟨w.heap.size,0,none⟩) (Nat.le_refl _) _).setCell (p:=⟨w.heap.size,0,none⟩) (Nat.le_refl _) _)
 refine leaves_cons (f:=23) (args:=#[.pointer (some ⟨w.heap.size,0,none⟩)]) (by simp) (by simp[go_sem]) ?_
 refine(wcatch_panic ⟨w.heap.size,0,none⟩ 1 1 _ hc2 HF2.out).mono ?_
 rintro e u' w'' ⟨rfl,rfl,rfl⟩
 simp[Leaves,settle,results,Tryz.results10,go_sem,hr]
 exact HP.out
theorem must_any(b:Bool)(er:Int)(w:World):Calls Tryz.prog 24 #[.bool b,.int .i64 er] w fun e w'=>(b=true∧e=.returned (.tuple #[])∧w=w')∨(b=false∧e=.panicked [{v:=.iface 30 (.int .i64 er),recovered:=false}]∧w=w'):=by
 cases b with
 |true=>refine(must_ok er w).mono ?_;rintro e u ⟨rfl,rfl⟩;exact .inl ⟨rfl,rfl,rfl⟩
 |false=>refine(must_no er w).mono ?_;rintro e u ⟨rfl,rfl⟩;exact .inr ⟨rfl,rfl,rfl⟩
theorem err_back{w W:World}{z:Int}(h:W.heap[w.heap.size]? =some (.cells #[.int .i64 z] 30 (0,0)))(hb:Below w.heap.size w W)(er:Int):
 W.cell? ⟨w.heap.size,0,none⟩=some (.int .i64 z)∧W.frozen? ⟨w.heap.size,0,none⟩=false∧(W.setCell ⟨w.heap.size,0,none⟩ (.int .i64 er)).cell? ⟨w.heap.size,0,none⟩=some (.int .i64 er)∧Below w.heap.size w (W.setCell ⟨w.heap.size,0,none⟩ (.int .i64 er)):=
 ⟨(box_at h).1,(box_at h).2,World.cell?_setCell_same _ _ _ (box_at h).1,hb.setCell (p:=⟨w.heap.size,0,none⟩) (Nat.le_refl _) _⟩
def CheckPost(r:Int)(w:World)(e:Ending)(w':World):Prop:=e=.returned (.int .i64 r)∧Below w.heap.size w w'
set_option maxHeartbeats 4000000 in
theorem wcheck_any(g:Nat){sa:Option Addr}{sn sc:Nat}{ca:Option Addr}{cn cc:Nat}{fa:Option Addr}{fn fc:Nat}{P:ProgD}(w:World)(hP:ProgAt w g sa sn sc ca cn cc fa fn fc P)(hft:FT w)(hsz:SizedP P)(hsm:SmProg P):
 Calls Tryz.prog 10 #[.pointer (some ⟨g,0,none⟩)] w (CheckPost (checkI P) w):=by
 have hmf:∀ (fn:Fn) (first cap:Array Value) (w:World),(Instr.makeFunc fn first cap).run Tryz.prog w=.ok (.func fn first cap) w:=fun _ _ _ _=>rfl
 obtain⟨W1,hW1⟩:∃ U,w.alloc (.cells #[.int .i64 0] 30)=U:=⟨_,rfl⟩
 obtain⟨hb,hs,hh⟩:=err_box w 0 hW1
 have hP1:=hP.since hb
 have hft1:=hft.since hb
 have hgl:g<W1.heap.size:=World.block_lt_of_cell? _ _ hP1.c0
 have CE:=hid (encode_any g 0 _ _ _ P W1 hgl hP1.c0 hP1.c1 hP1.c2 ⟨_,_,_,rfl,hP1.s,hP1.c,hP1.f⟩ hft1 hsm)
 have HH1:=hid hh
 have HS1:=hid hs
 have HB:=hid hb
 have HP:=hid hP1
 have HFT:=hid hft1
 have HSZ:=hid hsz
 have HFL:=hid hP1.f.len.1
 have hfn8:=hP1.f.len.2
 have HC2:Hid (∀U,Below W1.heap.size W1 U→U.cell? ⟨g,2,none⟩=some (.slice fa fn fc)):=hid fun U hU=>(hU.cell (p:=⟨g,2,none⟩) hgl).trans hP1.c2
 have HBX:Hid (∀U,Below W1.heap.size W1 U→U.heap[w.heap.size]? =some (.cells #[.int .i64 0] 30 (0,0))):=hid fun U hU=>by rw[hU.block _ (by omega)];exact hh
 clear hP hft hsz hb hs hP1 hft1 hgl hsm hh
 rcases out_or (outBytes (encProg (plainProg P)))with⟨l,ho⟩|⟨er,ho⟩
 ·have HO:=hid ho
  rw[ho]at CE
  clear ho
  go_enter_defers Tryz.func10,Tryz.ntmps10
  obtain⟨hc0,hf0⟩:=box_at HH1.out
  clear hc0 hf0
  go_upto_region 3 with(go_at_call 20;(with_reducible refine CE.out.mono ?_);rintro e w2 (⟨l',va,vn,vc,ho,rfl,_,hb⟩|⟨er',ho,_⟩);rotate_left;(exfalso;cases ho);cases ho;have HB2:=hid hb;have hc:=(box_at (HBX.out _ hb)).1;have hf:=(box_at (HBX.out _ hb)).2;clear hb)
  rw[setCell_same hc]
  go_upto_region 4 with(go_at_call 24;(with_reducible refine(must_any _ _ _).mono ?_);intro e u hq;rcases hq with⟨_,rfl,rfl⟩|⟨hk,_⟩;rotate_left;(exfalso;cases hk))
  clear hc hf
  have p2:=HC2.out _ HB2.out
  go_upto_region 5 with fail
  clear p2
  have HCI:Hid (checkI P=if longB P=true then(if rulesB P=true then 0 else 4)else 2):=hid (by unfold checkI;rw[HO.out])
  go_loopw[20] (fun v20 wr=>∃ i:Nat,i≤fn∧v20=.int .i64 (i:Int)∧Hid (allK (fun i=>decide (valuesN (funcOf P i)≤700)) i=true∧Below W1.heap.size W1 wr)) (fun iv _=>fn-(intOf iv).toNat)
  case atStart=>exact⟨0,Nat.zero_le _,rfl,hid ⟨rfl,HB2.out⟩⟩
  case round=>
   obtain⟨i,hi,rfl,HI⟩:=hrel
   by_cases hlt:i<fn
   ·have hltz:(i:Int)<(fn:Int):=by omega
    have hPI:=HP.out.since HI.out.2
    obtain⟨gs,os,cs,hsl,rfl,hl2,hscell,hq⟩:=hPI.f.elem hlt
    obtain⟨X,hX⟩:∃ X,X=P.funcs[i]:=⟨_,rfl⟩
    rw[←hX]at hq
    have hso:funcOf P i=X:=by rw[funcOf_at hsl,hX]
    have hXs:=HSZ.out X (by rw[hX];exact List.getElem_mem hsl)
    obtain⟨bv,rfl,hrr,hbr⟩:=hq
    have hbr':=hbr
    obtain⟨ba,bn,bc,rfl,_⟩:=hbr'
    have f0:=hscell 0 (by simp)
    have f1:=hscell 1 (by simp)
    simp only[Nat.add_zero,List.getElem_cons_zero,List.getElem_cons_succ]at f0 f1
    have HLT:=hid hlt
    have HSO:=hid hso
    have HFQ:Hid (FuncQ wr [.int .i64 X.ret,.slice ba bn bc] X):=hid ⟨_,rfl,hrr,hbr⟩
    obtain⟨N,hN⟩:∃ N,N=valuesN X:=⟨_,rfl⟩
    have HNV:=hid hN
    have HVX:Hid (valuesOf X=(N:Int)):=hid (by rw[valuesOf_nat X hXs.2,hN])
    clear hX hso hXs hN
    go_upto_region 7 with fail
    obtain⟨Y,hY⟩:∃ u,u=wr.alloc (.cells #[.int .i64 X.ret,.slice ba bn bc] 36):=⟨_,rfl⟩
    have hbY:Below wr.heap.size wr Y:=by rw[hY];exact(Below.refl _ wr).alloc (Nat.le_refl _) _
    have hcY:∀ j,Y.cell? ⟨wr.heap.size,j,none⟩=(#[.int .i64 X.ret,.slice ba bn bc]:Array Value)[j]? :=fun j=>by rw[hY];exact World.cell?_alloc_mark _ _ _ _ _
    rw[←hY]
    have y0:=hcY 0
    have y1:=hcY 1
    have hbW:Below W1.heap.size W1 Y:=HI.out.2.trans (hbY.mono HI.out.2.size)
    have HBW:=hid hbW
    have CV:=hid (code_values X.ret ba bn bc X Y (FuncQ.lasts _ _ _ _ hbY HFQ.out))
    rw[HVX.out]at CV
    obtain⟨bb,hbb1⟩:∃ b,decide ((N:Int)≤700)=b:=⟨_,rfl⟩
    have hbb2:decide (N≤700)=bb:=by rw[←hbb1];exact decide_eq_decide.2 (by omega)
    have HBB:=hid hbb2
    clear hcY hY hbY hbW f0 f1 hscell hl2 hsl hrr hbr hPI HFQ
    go_wp2_with(first
     |(go_at_call 25;(with_reducible refine CV.out.mono ?_);rintro e w6 ⟨rfl,hb⟩;have HB6:=hid (HBW.out.trans (hb.mono HBW.out.size));clear hb)
     |(go_at_call 24;(with_reducible refine(must_any _ _ _).mono ?_);intro e u hq;rcases hq with⟨hk,rfl,rfl⟩|⟨hk,rfl,rfl⟩;rotate_left;(have HE:checkI P=2:=(by rw[HCI.out];have hlo:longB P=false:=(by unfold longB;rw[HFL.out];exact allK_no HLT.out (by simp only[HSO.out,←HNV.out,HBB.out];exact hk));rw[hlo];rfl);obtain⟨q0,q1,q2,q3⟩:=err_back (HBX.out _ HB6.out) (HB.out.trans (HB6.out.mono HB.out.size)) 2;refine leaves_cons (f:=23) (args:=#[.pointer (some ⟨w.heap.size,0,none⟩)]) (by simp) (by simp[go_sem]) ?_;refine(wcatch_panic ⟨w.heap.size,0,none⟩ 0 2 _ q0 q1).mono ?_;rintro e u' w'' ⟨rfl,rfl,rfl⟩;have HQ3:=hid q3;clear q3;simp[Leaves,settle,results,Tryz.results10,go_sem,q2,CheckPost,HE];exact HQ3.out);have HK5:Hid (allK (fun i=>decide (valuesN (funcOf P i)≤700)) (i+1)=true∧Below W1.heap.size W1 w6):=hid ⟨allK_more HI.out.1 (by simp only[HSO.out,←HNV.out,HBB.out];exact hk),HB6.out⟩;clear hk))
    go_roundw
    case rel=>exact⟨i+1,HLT.out,by go_num,HK5⟩
    case measure=>have:=HLT.out;simp[intOf];omega
   ·obtain rfl:i=fn:=by omega
    have hnn:¬ (i:Int)<(i:Int):=by omega
    have HLO:Hid (longB P=true):=hid (by unfold longB;rw[HFL.out];exact HI.out.1)
    have CH:=hid (wrhold_any g wr (HP.out.since HI.out.2) (HFT.out.since HI.out.2) HSZ.out)
    go_upto_region 10 with(go_at_call 26;(with_reducible refine CH.out.mono ?_);intro e w7 hq;rcases hq.split with⟨hk,rfl,hb⟩|⟨hk,rfl,hb⟩;rotate_left;(have HB7:=hid (HI.out.2.trans (hb.mono HI.out.2.size));have HE:checkI P=4:=(by rw[HCI.out,HLO.out,hk];rfl);obtain⟨q0,q1,q2,q3⟩:=err_back (HBX.out _ HB7.out) (HB.out.trans (HB7.out.mono HB.out.size)) 4;refine leaves_cons (f:=23) (args:=#[.pointer (some ⟨w.heap.size,0,none⟩)]) (by simp) (by simp[go_sem]) ?_;refine(wcatch_panic ⟨w.heap.size,0,none⟩ 0 4 _ q0 q1).mono ?_;rintro e u' w'' ⟨rfl,rfl,rfl⟩;have HQ3:=hid q3;clear q3;simp[Leaves,settle,results,Tryz.results10,go_sem,q2,CheckPost,HE];exact HQ3.out);have HB7:=hid (HI.out.2.trans (hb.mono HI.out.2.size));have HE:Hid (checkI P=0):=hid (by rw[HCI.out,HLO.out,hk];rfl);clear hk hb)
    have hc:=(box_at (HBX.out _ HB7.out)).1
    have hf:=(box_at (HBX.out _ HB7.out)).2
    have HC7:=hid hc
    have HBZ:=hid (HB.out.trans (HB7.out.mono HB.out.size))
    go_wp2_with fail
    rw[setCell_same HC7.out,HE.out]
    refine leaves_cons (f:=23) (args:=#[.pointer (some ⟨w.heap.size,0,none⟩)]) (by simp) (by simp[go_sem]) ?_
    refine(wcatch_idle ⟨w.heap.size,0,none⟩ _).mono ?_
    rintro e u' w'' ⟨rfl,rfl,rfl⟩
    simp[Leaves,settle,results,Tryz.results10,go_sem,HC7.out,CheckPost]
    exact HBZ.out
 ·have HE:Hid (checkI P=er):=hid (by unfold checkI;rw[ho])
  have her:(er==0)=false:=by rw[beq_eq_false_iff_ne];rcases out_errs ho with rfl|rfl<;>omega
  rw[ho]at CE
  clear ho
  go_enter_defers Tryz.func10,Tryz.ntmps10
  go_upto_region 3 with(go_at_call 20;(with_reducible refine CE.out.mono ?_);rintro e w2 (⟨_,_,_,_,ho,_⟩|⟨er',ho,rfl,hb⟩);(exfalso;cases ho);cases ho;have HB2:=hid hb;have hc:=(box_at (HBX.out _ hb)).1;have hf:=(box_at (HBX.out _ hb)).2;clear hb)
  have hset:=box_set (y:=er) (HBX.out _ HB2.out)
  have hc3:=(box_at hset).1
  have HST:=hid hset
  clear hc hf hset
  go_wp2_with(go_at_call 24;(with_reducible refine(must_no er _).mono ?_);rintro e u ⟨he,rfl⟩;unfold gaveUp at he;subst he)
  obtain⟨q0,q1,q2,q3⟩:=err_back (HST.out) ((HB.out.trans (HB2.out.mono HB.out.size)).setCell (p:=⟨w.heap.size,0,none⟩) (Nat.le_refl _) _) er;refine leaves_cons (f:=23) (args:=#[.pointer (some ⟨w.heap.size,0,none⟩)]) (by simp) (by simp[go_sem]) ?_;refine(wcatch_panic ⟨w.heap.size,0,none⟩ er er _ q0 q1).mono ?_;rintro e u' w'' ⟨rfl,rfl,rfl⟩;have HQ3:=hid q3;clear q3;simp[Leaves,settle,results,Tryz.results10,go_sem,q2,CheckPost,HE.out];exact HQ3.out
def NoZero{α:Type}(p:List UInt8→PR α):Prop:=∀ L e,p L=.no e→e≠0
theorem NoZero.bind{α β:Type}{p:List UInt8→PR α}{f:α→List UInt8→PR β}(h:NoZero p)(h':∀ x,NoZero (f x)):NoZero (fun L=>(p L).bind f):=by
 intro L e he
 simp only at he
 cases hp:p L with
 |no e'=>rw[hp]at he;cases he;exact h L _ hp
 |ok x r=>rw[hp]at he;exact h' x r e he
def liveOp:OpD:=⟨0,0,0,0,7,⟨#[]⟩,[],false⟩
def liveBlock:BlockD:=⟨[],[liveOp],⟨2,0,0,0,[],[]⟩⟩
def liveFunc:FuncD:=⟨0,[liveBlock]⟩
def liveProg:ProgD:=⟨[],[],[liveFunc]⟩
theorem ProgQ.rng{W:World}{cs:List Value}{P:ProgD}(h:ProgQ W cs P):RngProg P:=by
 have key:∀ {α:Type} {Q:World→List Value→α→Prop} {k:Nat} {v:Value} {xs:List α} {R:α→Prop},(∀cs x,Q W cs x→R x)→RowV Q k W v xs→∀ x∈xs,R x:=by
  intro α Q k v xs R hR hrow x hx
  obtain⟨a,n,c,_,hl,_,_,hpos⟩:=hrow
  obtain⟨i,hi,rfl⟩:=List.getElem_of_mem hx
  obtain⟨g,off,_,_,hcs⟩:=hpos (by omega)
  obtain⟨cs,_,_,hq⟩:=hcs i hi
  exact hR _ _ hq
 have nums:∀ {v:Value} {Z:List Int},NumsV W v Z→∀ z∈Z,InR z:=fun⟨_,_,_,_,_,_,_,h⟩=>h
 obtain⟨s,c,f,rfl,hs,hc,hf⟩:=h
 refine⟨key (fun cs x hx=> ?_) hs,key (fun cs x hx=> ?_) hc,key (fun cs x hx=> ?_) hf⟩
 ·obtain⟨p,_,h1,h2⟩:=hx;exact⟨nums h1,h2⟩
 ·obtain⟨p,q,_,h1,h2⟩:=hx;exact⟨nums h1,nums h2⟩
 ·obtain⟨b,_,h1,h2⟩:=hx
  refine⟨h1,key (fun cs x hx=> ?_) h2⟩
  obtain⟨p,o,es,_,h3,h4,l,m,_,r1,r2,r3,r4,h5,h6⟩:=hx
  refine⟨nums h3,key (fun cs x hx=> ?_) h4,r1,r2,r3,r4,nums h5,nums h6⟩
  obtain⟨l,_,r1,r2,r3,r4,r5,_,h⟩:=hx
  exact⟨r1,r2,r3,r4,r5,nums h⟩
theorem ProgQ.form{W:World}{s c f:Value}{P:ProgD}(h:ProgQ W [s,c,f] P):∃ sa sn sc ca cn cc fa fn fc,s=.slice sa sn sc∧c=.slice ca cn cc∧f=.slice fa fn fc:=by
 obtain⟨_,_,_,e,⟨sa,sn,sc,rfl,_⟩,⟨ca,cn,cc,rfl,_⟩,⟨fa,fn,fc,rfl,_⟩⟩:=h
 simp only[List.cons.injEq,and_true]at e
 obtain⟨rfl,rfl,rfl⟩:=e
 exact⟨_,_,_,_,_,_,_,_,_,rfl,rfl,rfl⟩
def liveBytes:List UInt8:=(match encProg liveProg with| .ok l=>l| .no _=>[])
theorem live_out:outBytes (encProg (plainProg liveProg))=.ok liveBytes:=by kernel_rfl
theorem live_sm:SmProg liveProg:=by
 refine⟨by decide,by decide,by decide,fun f hf=> ?_⟩
 simp only[liveProg,List.mem_singleton]at hf
 subst hf
 refine⟨by decide,fun b hb=> ?_⟩
 simp only[liveFunc,List.mem_singleton]at hb
 subst hb
 show [liveOp].length≤100000
 decide
structure LiveAt(w W:World):Prop where
 bel:Below w.heap.size w W
 size:W.heap.size=w.heap.size+4
 prog:ProgQ W [.slice none 0 0,.slice none 0 0,.slice (some ⟨w.heap.size+1+1,0,none⟩) 1 1] liveProg
 func:FuncQ W [.int .i64 0,.slice (some ⟨w.heap.size+1,0,none⟩) 1 1] liveFunc
 b3:W.heap[w.heap.size+1+1+1]? =some (.cells #[.slice none 0 0,.slice none 0 0,.slice (some ⟨w.heap.size+1+1,0,none⟩) 1 1] 26 (0,0))
 b2:W.heap[w.heap.size+1+1]? =some (.cells #[.int .i64 0,.slice (some ⟨w.heap.size+1,0,none⟩) 1 1] 36 (0,0))
theorem live_laid(w:World):LiveAt w ((((w.alloc (.cells #[.int .i64 0,.int .i64 0,.int .i64 0,.int .i64 0,.int .i64 7,.string ⟨#[]⟩,.slice none 0 0,.bool false] 64)).alloc (.cells #[.slice none 0 0,.slice (some ⟨w.heap.size,0,none⟩) 1 1,.int .i64 2,.int .i64 0,.int .i64 0,.int .i64 0,.slice none 0 0,.slice none 0 0] 51)).alloc (.cells #[.int .i64 0,.slice (some ⟨w.heap.size+1,0,none⟩) 1 1] 36)).alloc (.cells #[.slice none 0 0,.slice none 0 0,.slice (some ⟨w.heap.size+1+1,0,none⟩) 1 1] 26)):=by
 have hbel:Below w.heap.size w ((((w.alloc (.cells #[.int .i64 0,.int .i64 0,.int .i64 0,.int .i64 0,.int .i64 7,.string ⟨#[]⟩,.slice none 0 0,.bool false] 64)).alloc (.cells #[.slice none 0 0,.slice (some ⟨w.heap.size,0,none⟩) 1 1,.int .i64 2,.int .i64 0,.int .i64 0,.int .i64 0,.slice none 0 0,.slice none 0 0] 51)).alloc (.cells #[.int .i64 0,.slice (some ⟨w.heap.size+1,0,none⟩) 1 1] 36)).alloc (.cells #[.slice none 0 0,.slice none 0 0,.slice (some ⟨w.heap.size+1+1,0,none⟩) 1 1] 26)):=((((Below.refl _ _).alloc (Nat.le_refl _) _).alloc (by simp) _).alloc (by simp<;>omega) _).alloc (by simp<;>omega) _
 have h3:((((w.alloc (.cells #[.int .i64 0,.int .i64 0,.int .i64 0,.int .i64 0,.int .i64 7,.string ⟨#[]⟩,.slice none 0 0,.bool false] 64)).alloc (.cells #[.slice none 0 0,.slice (some ⟨w.heap.size,0,none⟩) 1 1,.int .i64 2,.int .i64 0,.int .i64 0,.int .i64 0,.slice none 0 0,.slice none 0 0] 51)).alloc (.cells #[.int .i64 0,.slice (some ⟨w.heap.size+1,0,none⟩) 1 1] 36)).alloc (.cells #[.slice none 0 0,.slice none 0 0,.slice (some ⟨w.heap.size+1+1,0,none⟩) 1 1] 26)).heap[w.heap.size+1+1+1]? =some (.cells #[.slice none 0 0,.slice none 0 0,.slice (some ⟨w.heap.size+1+1,0,none⟩) 1 1] 26 (0,0)):=by
  have:=heap_alloc_new (((w.alloc (.cells #[.int .i64 0,.int .i64 0,.int .i64 0,.int .i64 0,.int .i64 7,.string ⟨#[]⟩,.slice none 0 0,.bool false] 64)).alloc (.cells #[.slice none 0 0,.slice (some ⟨w.heap.size,0,none⟩) 1 1,.int .i64 2,.int .i64 0,.int .i64 0,.int .i64 0,.slice none 0 0,.slice none 0 0] 51)).alloc (.cells #[.int .i64 0,.slice (some ⟨w.heap.size+1,0,none⟩) 1 1] 36)) (.cells #[.slice none 0 0,.slice none 0 0,.slice (some ⟨w.heap.size+1+1,0,none⟩) 1 1] 26)
  simpa using this
 generalize hW:((((w.alloc (.cells #[.int .i64 0,.int .i64 0,.int .i64 0,.int .i64 0,.int .i64 7,.string ⟨#[]⟩,.slice none 0 0,.bool false] 64)).alloc (.cells #[.slice none 0 0,.slice (some ⟨w.heap.size,0,none⟩) 1 1,.int .i64 2,.int .i64 0,.int .i64 0,.int .i64 0,.slice none 0 0,.slice none 0 0] 51)).alloc (.cells #[.int .i64 0,.slice (some ⟨w.heap.size+1,0,none⟩) 1 1] 36)).alloc (.cells #[.slice none 0 0,.slice none 0 0,.slice (some ⟨w.heap.size+1+1,0,none⟩) 1 1] 26))=W at hbel h3⊢
 have hs:W.heap.size=w.heap.size+4:=by rw[←hW];simp
 have h0:W.heap[w.heap.size]? =some (.cells #[.int .i64 0,.int .i64 0,.int .i64 0,.int .i64 0,.int .i64 7,.string ⟨#[]⟩,.slice none 0 0,.bool false] 64 (0,0)):=by
  rw[←hW]
  exact(heap_alloc_old _ _ (by simp<;>omega)).trans ((heap_alloc_old _ _ (by simp<;>omega)).trans ((heap_alloc_old _ _ (by simp)).trans (heap_alloc_new w _)))
 have h1:W.heap[w.heap.size+1]? =some (.cells #[.slice none 0 0,.slice (some ⟨w.heap.size,0,none⟩) 1 1,.int .i64 2,.int .i64 0,.int .i64 0,.int .i64 0,.slice none 0 0,.slice none 0 0] 51 (0,0)):=by
  rw[←hW]
  exact(heap_alloc_old _ _ (by simp<;>omega)).trans ((heap_alloc_old _ _ (by simp)).trans (by
   have:=heap_alloc_new (w.alloc (.cells #[.int .i64 0,.int .i64 0,.int .i64 0,.int .i64 0,.int .i64 7,.string ⟨#[]⟩,.slice none 0 0,.bool false] 64)) (.cells #[.slice none 0 0,.slice (some ⟨w.heap.size,0,none⟩) 1 1,.int .i64 2,.int .i64 0,.int .i64 0,.int .i64 0,.slice none 0 0,.slice none 0 0] 51)
   simpa using this))
 have h2:W.heap[w.heap.size+1+1]? =some (.cells #[.int .i64 0,.slice (some ⟨w.heap.size+1,0,none⟩) 1 1] 36 (0,0)):=by
  rw[←hW]
  exact(heap_alloc_old _ _ (by simp)).trans (by
   have:=heap_alloc_new ((w.alloc (.cells #[.int .i64 0,.int .i64 0,.int .i64 0,.int .i64 0,.int .i64 7,.string ⟨#[]⟩,.slice none 0 0,.bool false] 64)).alloc (.cells #[.slice none 0 0,.slice (some ⟨w.heap.size,0,none⟩) 1 1,.int .i64 2,.int .i64 0,.int .i64 0,.int .i64 0,.slice none 0 0,.slice none 0 0] 51)) (.cells #[.int .i64 0,.slice (some ⟨w.heap.size+1,0,none⟩) 1 1] 36)
   simpa using this)
 clear hW
 have nil:∀ (v:Value),v=.slice none 0 0→NumsV W v []:=fun v hv=>⟨none,0,0,hv,NumsAt.nil _ _,fun _=>rfl,by decide,fun z hz=>(by cases hz)⟩
 have one:∀ {α:Type} {Q:World→List Value→α→Prop} {k b:Nat} {T:TypeId} {cur:Array Value} {x:α},W.heap[b]? =some (.cells cur T (0,0))→cur.size=k→Q W cur.toList x→RowV Q k W (.slice (some ⟨b,0,none⟩) 1 1) [x]:=by
  intro α Q k b T cur x hb hk hq
  refine⟨_,1,1,rfl,rfl,fun h=>(by cases h),by decide,fun _=>⟨b,0,rfl,(Array.getElem?_eq_some_iff.1 hb).1,fun i hi=> ?_⟩⟩
  have hi0:i=0:=by simpa using hi
  subst hi0
  refine⟨cur.toList,by simpa using hk,fun j hj=> ?_,hq⟩
  simp only[World.cell?,hb,Nat.zero_mul,Nat.zero_add]
  simp at hj⊢
 have z0:InR 0:=⟨by decide,by decide⟩
 have hf:FuncQ W [.int .i64 0,.slice (some ⟨w.heap.size+1,0,none⟩) 1 1] liveFunc:=by
  refine⟨_,rfl,z0,one h1 rfl ?_⟩
  refine⟨_,_,_,rfl,nil _ rfl,one h0 rfl ?_,_,_,rfl,⟨by decide,by decide⟩,z0,z0,z0,nil _ rfl,nil _ rfl⟩
  exact⟨_,rfl,z0,z0,z0,z0,⟨by decide,by decide⟩,Nat.zero_le _,nil _ rfl⟩
 exact⟨hbel,hs,⟨_,_,_,rfl,⟨none,0,0,rfl,rfl,fun _=>rfl,by decide,fun h=>absurd h (by omega)⟩,⟨none,0,0,rfl,rfl,fun _=>rfl,by decide,fun h=>absurd h (by omega)⟩,one h2 rfl hf⟩,hf,h3,h2⟩
theorem live_types:typesL liveProg liveFunc=[0]:=by kernel_rfl
theorem live_order:orderL liveFunc=[0]:=by kernel_rfl
theorem live_count:valuesN liveFunc=1:=by kernel_rfl
theorem live_sees:seesB liveFunc ((0:Nat):Int) ((1:Nat):Int) ((0:Nat):Int)=true:=by
 have hh:HomeB liveFunc 0 0:=⟨by decide+kernel,by decide+kernel⟩
 rw[sees_own (f:=liveFunc) (b:=0) (k:=1) (u:=0) (by decide+kernel) (by decide+kernel) (by rw[live_count];omega) hh]
 decide+kernel
theorem live_ended:endedB liveFunc [0] 0 0 0=true:=by
 unfold endedB usedB
 have h:=live_sees
 rw[show opsN liveFunc 0=1 from by decide+kernel]
 rw[show((0:Int))=(((0:Nat)):Int)from rfl,h]
 rfl
theorem live_body:bodyB liveProg liveFunc=true:=by
 unfold bodyB
 rw[live_types]
 rw[show liveFunc.blocks.length=1 from rfl]
 unfold allK blockB
 have h1:inL (orderL liveFunc) (((0:Nat)):Int)=true:=by rw[live_order];decide
 have h2:stepsB liveProg liveFunc [0] 0=true:=by
  unfold stepsB
  rw[show opsN liveFunc 0=1 from by decide+kernel]
  unfold allK stepB
  rw[show opAt liveFunc 0 0=liveOp from rfl,show usesO liveOp=[]from by decide+kernel]
  rw[show(resO liveProg liveOp [0]).2=true from by decide+kernel]
  rfl
 have h3:endB liveFunc [0] 0=true:=by
  unfold endB finB
  rw[show theEnd liveFunc 0=⟨2,0,0,0,[],[]⟩from rfl]
  simp only[show liveFunc.ret=0 from rfl]
  simp[live_ended,tgts,allK]
 rw[h1,h2,h3]
 rfl
theorem live_check:checkI liveProg=0:=by
 unfold checkI
 rw[live_out]
 have hf:funcOf liveProg 0=liveFunc:=rfl
 have h1:longB liveProg=true:=by
  unfold longB
  rw[show liveProg.funcs.length=1 from rfl]
  unfold allK
  rw[hf,live_count]
  rfl
 have h2:rulesB liveProg=true:=by
  unfold rulesB
  rw[show liveProg.funcs.length=1 from rfl,show liveProg.sigs.length=0 from rfl,show liveProg.classes.length=0 from rfl,hf]
  have a1:allK (fun i=>headB liveProg (funcOf liveProg i)) 1=true:=by decide+kernel
  have a2:mainB liveFunc=true:=by decide+kernel
  have a3:allK (fun i=>bodyB liveProg (funcOf liveProg i)) 1=true:=by unfold allK;rw[hf,live_body];rfl
  rw[a1,a2,a3]
  rfl
 simp only[h1,h2,if_true]
def emptyProg:ProgD:=⟨[],[],[]⟩
def emptyBytes:List UInt8:=(match encProg emptyProg with| .ok l=>l| .no _=>[])
theorem empty_out:outBytes (encProg (plainProg emptyProg))=.ok emptyBytes:=by kernel_rfl
theorem empty_check:checkI emptyProg=4:=by
 unfold checkI
 rw[empty_out]
 have h1:longB emptyProg=true:=rfl
 have h2:rulesB emptyProg=false:=rfl
 simp[h1,h2]
theorem live_sized:SizedP liveProg:=fun f hf=>by
 simp only[liveProg,List.mem_singleton]at hf
 subst hf
 exact⟨by decide,by rw[live_count];omega⟩
theorem empty_sized:SizedP emptyProg:=fun f hf=>by cases hf
theorem empty_sm:SmProg emptyProg:=⟨by decide,by decide,by decide,fun f hf=>by cases hf⟩
theorem empty_at{W:World}{g:Nat}(h:W.heap[g]? =some (.cells #[.slice none 0 0,.slice none 0 0,.slice none 0 0] 26 (0,0))):ProgAt W g none 0 0 none 0 0 none 0 0 emptyProg:=by
 have hc:∀ j,W.cell? ⟨g,j,none⟩=(#[.slice none 0 0,.slice none 0 0,.slice none 0 0]:Array Value)[j]? :=fun j=>by simp[World.cell?,h]
 refine⟨hc 0,hc 1,hc 2,⟨none,0,0,rfl,rfl,fun _=>rfl,by decide,fun h=>absurd h (by omega)⟩,⟨none,0,0,rfl,rfl,fun _=>rfl,by decide,fun h=>absurd h (by omega)⟩,⟨none,0,0,rfl,rfl,fun _=>rfl,by decide,fun h=>absurd h (by omega)⟩⟩
theorem live_at{w W:World}(h:LiveAt w W):ProgAt W (w.heap.size+1+1+1) none 0 0 none 0 0 (some ⟨w.heap.size+1+1,0,none⟩) 1 1 liveProg:=by
 have hc:∀ j,W.cell? ⟨w.heap.size+1+1+1,j,none⟩=(#[.slice none 0 0,.slice none 0 0,.slice (some ⟨w.heap.size+1+1,0,none⟩) 1 1]:Array Value)[j]? :=fun j=>by simp[World.cell?,h.b3]
 obtain⟨s,c,f,he,h1,h2,h3⟩:=h.prog
 simp only[List.cons.injEq,and_true]at he
 obtain⟨rfl,rfl,rfl⟩:=he
 exact⟨hc 0,hc 1,hc 2,h1,h2,h3⟩
set_option maxRecDepth 100000 in
set_option maxHeartbeats 4000000 in
theorem lives9(w:World)(hft:FT w):Calls Tryz.prog 9 #[] w fun e w'=>e=.returned (.bool true)∧Below w.heap.size w w':=by
 have HA:=hid (live_laid w)
 have HFT:=hid hft
 clear hft
 go_enter Tryz.func9,Tryz.ntmps9
 go_upto_region 2 with fail
 generalize hW:((((w.alloc (.cells #[.int .i64 0,.int .i64 0,.int .i64 0,.int .i64 0,.int .i64 7,.string ⟨#[]⟩,.slice none 0 0,.bool false] 64)).alloc (.cells #[.slice none 0 0,.slice (some ⟨w.heap.size,0,none⟩) 1 1,.int .i64 2,.int .i64 0,.int .i64 0,.int .i64 0,.slice none 0 0,.slice none 0 0] 51)).alloc (.cells #[.int .i64 0,.slice (some ⟨w.heap.size+1,0,none⟩) 1 1] 36)).alloc (.cells #[.slice none 0 0,.slice none 0 0,.slice (some ⟨w.heap.size+1+1,0,none⟩) 1 1] 26))=W at HA⊢
 clear hW
 have HB:=hid HA.out.bel
 have HP:=hid (live_at HA.out)
 have HF1:=hid (HFT.out.below HA.out.bel HFT.out.lt)
 have HFQ:=hid HA.out.func
 have hb2:w.heap.size+1+1<W.heap.size:=by have:=HA.out.size;omega
 have HFC:Hid (∀U,Below W.heap.size W U→U.cell? ⟨w.heap.size+1+1,0,none⟩=some (.int .i64 0)∧U.cell? ⟨w.heap.size+1+1,1,none⟩=some (.slice (some ⟨w.heap.size+1,0,none⟩) 1 1)):=hid fun U hU=>⟨(hU.cell (p:=⟨w.heap.size+1+1,0,none⟩) hb2).trans (by simp[World.cell?,HA.out.b2]),(hU.cell (p:=⟨w.heap.size+1+1,1,none⟩) hb2).trans (by simp[World.cell?,HA.out.b2])⟩
 have CL:Hid (∀U,Below W.heap.size W U→Calls Tryz.prog 10 #[.pointer (some ⟨w.heap.size+1+1+1,0,none⟩)] U (CheckPost 0 U)):=hid fun U hU=>by
  have h:=wcheck_any (w.heap.size+1+1+1) U (HP.out.since hU) (HF1.out.since hU) live_sized live_sm
  rw[live_check]at h
  exact h
 have CEM:Hid (∀U,Below W.heap.size W U→Calls Tryz.prog 10 #[.pointer (some ⟨U.heap.size,0,none⟩)] (U.alloc (.cells #[.slice none 0 0,.slice none 0 0,.slice none 0 0] 26)) fun e w'=>e=.returned (.int .i64 4)∧Below W.heap.size W w'):=hid fun U hU=>by
  have hb:Below U.heap.size U (U.alloc (.cells #[.slice none 0 0,.slice none 0 0,.slice none 0 0] 26)):=(Below.refl _ U).alloc (Nat.le_refl _) _
  have hbw:=hU.trans (hb.mono hU.size)
  have h:=wcheck_any U.heap.size (U.alloc (.cells #[.slice none 0 0,.slice none 0 0,.slice none 0 0] 26)) (empty_at (heap_alloc_new U _)) (HF1.out.since hbw) empty_sized empty_sm
  rw[empty_check]at h
  refine h.mono ?_
  rintro e w' ⟨rfl,hb'⟩
  exact⟨rfl,hbw.trans (hb'.mono hbw.size)⟩
 have CTY:Hid (∀U,Below W.heap.size W U→Calls Tryz.prog 15 #[.pointer (some ⟨w.heap.size+1+1+1,0,none⟩),.agg #[.int .i64 0,.slice (some ⟨w.heap.size+1,0,none⟩) 1 1]] U fun e w'=>∃ va vc,e=.returned (.slice va 1 vc)∧Below W.heap.size W w'):=hid fun U hU=>by
  refine(wtypes_any (w.heap.size+1+1+1) 0 (some ⟨w.heap.size+1,0,none⟩) 1 1 liveFunc U (HF1.out.since hU) (HP.out.since hU) (FuncQ.lasts _ _ _ _ hU HFQ.out) (by omega) (by rw[live_count];omega)).mono ?_
  rintro e w' ⟨va,vn,vc,rfl,ho,hb⟩
  have h1:=ho.read.1
  rw[live_types]at h1
  obtain rfl:vn=1:=h1.symm
  exact⟨va,vc,rfl,hU.trans (hb.mono hU.size)⟩
 have HPC:Hid (∀U,Below W.heap.size W U→U.cell? ⟨w.heap.size+1+1+1,2,none⟩=some (.slice (some ⟨w.heap.size+1+1,0,none⟩) 1 1)):=hid fun U hU=>(HP.out.since hU).c2
 clear hb2 HA HFT HP HF1 HFQ
 go_wp2_with(first
  |(go_at_call 10;(with_reducible refine(wcheck_nil _).mono ?_);rintro e w2 ⟨rfl,hb⟩;have HB2:=hid hb;clear hb)
  |(go_at_call 10;(with_reducible refine(CL.out _ HB2.out).mono ?_);rintro e w3 ⟨rfl,hb⟩;have HB3:=hid (HB2.out.trans (hb.mono HB2.out.size));clear hb)
  |(go_at_call 10;(with_reducible refine(CEM.out _ HB3.out).mono ?_);rintro e w4 ⟨rfl,hb⟩;have HB4:=hid hb;have x2:=HPC.out _ hb;obtain⟨y0,y1⟩:=HFC.out _ hb;clear hb)
  |(go_at_call 15;(with_reducible refine(CTY.out _ HB4.out).mono ?_);rintro e w5 ⟨va,vc,rfl,hb⟩;have HB5:=hid hb;clear hb))
 go_ret
 exact⟨rfl,HB.out.trans (HB5.out.mono HB.out.size)⟩
theorem see_box(w:World)(v0 v1 v2 x0 x1 x2:Value){W:World}(hW:(w.alloc (.cells #[v0,v1,v2] 26)).alloc (.cells #[x0,x1,x2] 44)=W):Below w.heap.size w W∧W.heap.size=w.heap.size+2∧(∀j,W.cell? ⟨w.heap.size,j,none⟩=(#[v0,v1,v2]:Array Value)[j]?)∧∀ j,W.cell? ⟨w.heap.size+1,j,none⟩=(#[x0,x1,x2]:Array Value)[j]? :=by
 have h2:=two_new_cells w #[v0,v1,v2] #[x0,x1,x2] 26 44
 rw[hW]at h2
 refine⟨?_, ?_,h2.1,h2.2⟩
 ·rw[←hW];exact((Below.refl _ w).alloc (Nat.le_refl _) _).alloc (by simp) _
 ·rw[←hW];simp
set_option maxRecDepth 100000 in
set_option maxHeartbeats 2000000 in
theorem wSees_any(r:Int)(a:Option Addr)(n c:Nat)(f:FuncD)(x t v:Int)(w:World)(hf:FuncQ w [.int .i64 r,.slice a n c] f)(hn:n≤100000)(hv:valuesN f≤1099511627776):
 Calls Tryz.prog 17 #[.agg #[.int .i64 r,.slice a n c],.int .i64 x,.int .i64 t,.int .i64 v] w fun e w'=>e=.returned (.bool (seesB f x t v))∧Below w.heap.size w w':=by
 obtain⟨W1,hW1⟩:∃ U,w.alloc (.cells #[.int .i64 r,.slice a n c] 36)=U:=⟨_,rfl⟩
 have hb1:Below w.heap.size w W1:=by rw[←hW1];exact(Below.refl _ w).alloc (Nat.le_refl _) _
 have hc:∀ j,W1.cell? ⟨w.heap.size,j,none⟩=(#[.int .i64 r,.slice a n c]:Array Value)[j]? :=fun j=>by rw[←hW1];exact World.cell?_alloc_mark _ _ _ _ _
 have hc0:=hc 0
 have hc1:=hc 1
 have HB1:=hid hb1
 have CS:=hid (wscoped_any r a n c f W1 ((funcQ_row hf).1.since BlockQ.lasts hb1) hn hv)
 clear hf hn hv hc hb1
 go_enter Tryz.func17,Tryz.ntmps17
 go_upto_region 1 with fail
 try rw[hW1]
 clear hW1
 go_wp2_with(first
  |(go_at_call 42;(with_reducible refine CS.out.mono ?_);rintro e w2 ⟨va,vc,ua,uc,mm,UP,rfl,hsc,hb⟩;have HB2:=hid hb;have HSC:=hid hsc;clear hb hsc)
  |(go_at_call 43;(with_reducible refine(wsees_any (r:=r) (fc:=vc) (uc:=uc) HSC.out x t v).mono ?_);rintro e w3 ⟨rfl,hb⟩;have HB3:=hid (HB2.out.trans (hb.mono HB2.out.size));clear hb))
 go_ret
 exact⟨rfl,HB1.out.trans (HB3.out.mono HB1.out.size)⟩
set_option maxRecDepth 100000 in
set_option maxHeartbeats 4000000 in
theorem wellup_walk(sa:Option Addr)(sn sc:Nat)(ca:Option Addr)(cn cc:Nat)(fa:Option Addr)(fn fc:Nat)(P:ProgD)(nn:Nat)(hnn:nn≤255)(x t v:Int)(w:World)(hft:FT w)
 (hP:ProgQ w [.slice sa sn sc,.slice ca cn cc,.slice fa fn fc] P)(hcap:RowV WFuncC 2 w (.slice fa fn fc) P.funcs):
 Calls Tryz.prog 6 #[.agg #[.slice sa sn sc,.slice ca cn cc,.slice fa fn fc],.int .u8 (nn:Int),.agg #[.int .i64 x,.int .i64 t,.int .i64 v]] w fun e w'=>e=.returned (.bool true)∧Below w.heap.size w w':=by
 obtain⟨W,hW⟩:∃ U,(w.alloc (.cells #[.slice sa sn sc,.slice ca cn cc,.slice fa fn fc] 26)).alloc (.cells #[.int .i64 x,.int .i64 t,.int .i64 v] 44)=U:=⟨_,rfl⟩
 obtain⟨hb0,hs0,hc,hd⟩:=see_box w _ _ _ _ _ _ hW
 have hPA:=prog_at (hc 0) (hc 1) (hc 2) (ProgQ.lasts _ _ _ _ hb0 hP)
 have HPA:=hid hPA
 have HFT:=hid (hft.since hb0)
 have HB0:=hid hb0
 have HD:Hid (∀U,Below W.heap.size W U→U.cell? ⟨w.heap.size+1,0,none⟩=some (.int .i64 x)∧U.cell? ⟨w.heap.size+1,1,none⟩=some (.int .i64 t)∧U.cell? ⟨w.heap.size+1,2,none⟩=some (.int .i64 v)):=hid fun U hU=>⟨(hU.cell (p:=⟨w.heap.size+1,0,none⟩) (by simp only[];omega)).trans (hd 0),(hU.cell (p:=⟨w.heap.size+1,1,none⟩) (by simp only[];omega)).trans (hd 1),(hU.cell (p:=⟨w.heap.size+1,2,none⟩) (by simp only[];omega)).trans (hd 2)⟩
 have hcap1:RowV WFuncC 2 W (.slice fa fn fc) P.funcs:=hcap.since (fun W W' cs x hb h=>⟨FuncQ.lasts _ _ _ _ hb h.1,h.2⟩) hb0
 have CF:=hid (lfun_any w.heap.size nn hnn W hPA hcap1)
 have CSM:Hid (∀u,Below W.heap.size W u→Calls Tryz.prog 8 #[.pointer (some ⟨w.heap.size,0,none⟩),.int .i64 2000] u (SmallPostM 2000 P u)):=hid fun u hu=>by
  have hp:=hPA.since hu
  exact ref_smallM 2000 (by omega) w.heap.size 0 sa sn sc ca cn cc fa fn fc P u (World.block_lt_of_cell? _ _ hp.c0) hp.c0 hp.c1 hp.c2 hp.q
 have CLI:Hid (∀u,Below W.heap.size W u→Calls Tryz.prog 9 #[] u fun e w'=>e=.returned (.bool true)∧Below W.heap.size W w'):=hid fun u hu=>(lives9 u (HFT.out.since hu)).mono fun e w' h=>⟨h.1,hu.trans (h.2.mono hu.size)⟩
 clear hP hft hb0 hs0 hc hd hPA hcap hcap1
 go_enter Tryz.func6,Tryz.ntmps6
 go_upto_region 2 with fail
 try rw[hW]
 clear hW
 go_wp2_with fail
 refine CF.out.mono ?_
 rintro e w2 ⟨rfl|⟨F,ba,m,bc,hmem,rfl,hfq,hm12⟩,hb2⟩
 ·have HB2:=hid hb2
  clear hb2
  go_wp2_with(go_at_call 9;(with_reducible refine(CLI.out _ (HB2.out.alloc HB2.out.size _)).mono ?_);rintro e w3 ⟨rfl,hb⟩;have HB3:=hid hb;clear hb)
  go_ret
  exact⟨rfl,HB0.out.trans (HB3.out.mono HB0.out.size)⟩
 ·obtain⟨rt,hrt⟩:∃ t,t=F.ret:=⟨_,rfl⟩
  rw[←hrt]at hfq⊢
  obtain⟨Y,hY⟩:∃ U,w2.alloc (.cells #[.int .i64 rt,.slice ba m bc] 36)=U:=⟨_,rfl⟩
  have hbY:Below w2.heap.size w2 Y:=by rw[←hY];exact(Below.refl _ w2).alloc (Nat.le_refl _) _
  have hcY:∀ j,Y.cell? ⟨w2.heap.size,j,none⟩=(#[.int .i64 rt,.slice ba m bc]:Array Value)[j]? :=fun j=>by rw[←hY];exact World.cell?_alloc_mark _ _ _ _ _
  have hpY:w2.heap.size<Y.heap.size:=by rw[←hY];simp
  have HBY:Hid (Below W.heap.size W Y):=hid (hb2.trans (hbY.mono hb2.size))
  have HFQ:Hid (FuncQ Y [.int .i64 rt,.slice ba m bc] (cutF F)):=hid (FuncQ.lasts _ _ _ _ hbY hfq)
  have HMEM:=hid hmem
  have HM12:Hid (m≤100000):=hid (by omega)
  have HYC:Hid (∀U,Below Y.heap.size Y U→U.cell? ⟨w2.heap.size,0,none⟩=some (.int .i64 rt)∧U.cell? ⟨w2.heap.size,1,none⟩=some (.slice ba m bc)):=hid fun U hU=>⟨(hU.cell (p:=⟨w2.heap.size,0,none⟩) hpY).trans (hcY 0),(hU.cell (p:=⟨w2.heap.size,1,none⟩) hpY).trans (hcY 1)⟩
  clear hb2 hbY hcY hpY hfq hmem hrt hm12
  go_upto_region 3 with fail
  try rw[hY]
  clear hY
  go_wp2_with fail
  refine(CSM.out _ HBY.out).mono ?_
  rintro e w3 ⟨b,rfl,hsm,hb3⟩
  have HB3:=hid hb3
  have HBW:Hid (Below W.heap.size W w3):=hid (HBY.out.trans (hb3.mono HBY.out.size))
  cases b with
  |false=>
   clear hsm hb3
   go_wp2_with(go_at_call 9;(with_reducible refine(CLI.out _ HBW.out).mono ?_);rintro e w4 ⟨rfl,hb⟩;have HB4:=hid hb;clear hb)
   go_ret
   exact⟨rfl,HB0.out.trans (HB4.out.mono HB0.out.size)⟩
  |true=>
   have hvn:valuesN (cutF F)≤1099511627776:=by
    have h1:=(parts_func (hsm rfl) HMEM.out).1
    have h2:=cut_vals F
    omega
   have HVN:=hid hvn
   have CS:Hid (∀u,Below Y.heap.size Y u→∀ x t v:Int,Calls Tryz.prog 17 #[.agg #[.int .i64 rt,.slice ba m bc],.int .i64 x,.int .i64 t,.int .i64 v] u fun e w'=>e=.returned (.bool (seesB (cutF F) x t v))∧Below u.heap.size u w'):=hid fun u hu x t v=>wSees_any rt ba m bc (cutF F) x t v u (FuncQ.lasts _ _ _ _ hu HFQ.out) HM12.out HVN.out
   have CO:Hid (∀u,Below Y.heap.size Y u→∀ x y:Int,Calls Tryz.prog 19 #[.agg #[.int .i64 rt,.slice ba m bc],.int .i64 x,.int .i64 y] u fun e w'=>e=.returned (.bool (overB (cutF F) x y))∧Below u.heap.size u w'):=hid fun u hu x y=>refover_any rt ba m bc (cutF F) x y u (funcQ_row (FuncQ.lasts _ _ _ _ hu HFQ.out)).1 (by have:=HM12.out;omega)
   have CLY:Hid (∀u,Below Y.heap.size Y u→Calls Tryz.prog 9 #[] u fun e w'=>e=.returned (.bool true)∧Below Y.heap.size Y w'):=hid fun u hu=>(lives9 u (HFT.out.since (HBY.out.trans (hu.mono HBY.out.size)))).mono fun e w' h=>⟨h.1,hu.trans (h.2.mono hu.size)⟩
   have HS0:Hid (∀u,Below Y.heap.size Y u→(u.cell? ⟨w2.heap.size,0,none⟩=some (.int .i64 rt)∧u.cell? ⟨w2.heap.size,1,none⟩=some (.slice ba m bc))∧u.cell? ⟨w.heap.size+1,0,none⟩=some (.int .i64 x)∧u.cell? ⟨w.heap.size+1,1,none⟩=some (.int .i64 t)∧u.cell? ⟨w.heap.size+1,2,none⟩=some (.int .i64 v)):=hid fun u hu=>⟨HYC.out u hu,HD.out u (HBY.out.trans (hu.mono HBY.out.size))⟩
   obtain⟨⟨y0,y1⟩,x0,_,x2⟩:=HS0.out _ HB3.out
   have hm100:=HM12.out
   have HEND:Hid (∀u,Below Y.heap.size Y u→Below w.heap.size w u):=hid fun u hu=>HB0.out.trans ((HBY.out.trans (hu.mono HBY.out.size)).mono HB0.out.size)
   clear hsm hb3 hvn HBW
   by_cases hx0:x<0
   ·go_wp2_with(go_at_call 9;(with_reducible refine(CLY.out _ HB3.out).mono ?_);rintro e w4 ⟨rfl,hb⟩;have HB4:=hid hb;clear hb)
    go_ret
    exact⟨rfl,HEND.out _ HB4.out⟩
   ·obtain⟨xn,rfl⟩:=Int.eq_ofNat_of_zero_le (show 0≤x by omega)
    by_cases hxm:(m:Int)≤(xn:Int)
    ·go_wp2_with(go_at_call 9;(with_reducible refine(CLY.out _ HB3.out).mono ?_);rintro e w4 ⟨rfl,hb⟩;have HB4:=hid hb;clear hb)
     go_ret
     exact⟨rfl,HEND.out _ HB4.out⟩
    ·have hxl:xn<m:=by omega
     obtain⟨g8,off8,cs,hif,rfl,hl8,hcell,hq⟩:=(funcQ_row HFQ.out).1.elem hxl
     obtain⟨pv,ov,es,rfl,_,⟨oa,on,oc,rfl,hol,_⟩,_⟩:=hq
     have hq1:=hcell 1 (by simp)
     simp only[List.getElem_cons_zero,List.getElem_cons_succ]at hq1
     have HG8:Hid (∀u,Below Y.heap.size Y u→u.cell? ⟨g8,off8+xn*8+1,none⟩=some (.slice oa on oc)):=hid fun u hu=>(hu.cell (p:=⟨g8,off8+xn*8+1,none⟩) (World.block_lt_of_cell? _ _ hq1)).trans hq1
     have HIF:=hid hif
     have HOL:Hid ((cutF F).blocks[xn].ops.length=on):=hid hol
     clear hl8 hcell hol hq1
     have HS1:Hid (∀u,Below Y.heap.size Y u→((u.cell? ⟨w2.heap.size,0,none⟩=some (.int .i64 rt)∧u.cell? ⟨w2.heap.size,1,none⟩=some (.slice (some ⟨g8,off8,none⟩) m bc))∧u.cell? ⟨w.heap.size+1,0,none⟩=some (.int .i64 (xn:Int))∧u.cell? ⟨w.heap.size+1,1,none⟩=some (.int .i64 t)∧u.cell? ⟨w.heap.size+1,2,none⟩=some (.int .i64 v))∧u.cell? ⟨g8,off8+xn*8+1,none⟩=some (.slice oa on oc)):=hid fun u hu=>⟨HS0.out u hu,HG8.out u hu⟩
     obtain⟨sb,hsb⟩:∃ b,b=seesB (cutF F) (xn:Int) (on:Int) v:=⟨_,rfl⟩
     have CS1:Hid (∀u,Below Y.heap.size Y u→Calls Tryz.prog 17 #[.agg #[.int .i64 rt,.slice (some ⟨g8,off8,none⟩) m bc],.int .i64 (xn:Int),.int .i64 (on:Int),.int .i64 v] u fun e w'=>e=.returned (.bool sb)∧Below u.heap.size u w'):=hid fun u hu=>by rw[hsb];exact CS.out u hu _ _ _
     have HSB:=hid hsb
     clear hsb HG8
     go_upto_region 5 with fail
     refine wp_region_T (S:=(fun u:World=>((u.cell? ⟨w2.heap.size,0,none⟩=some (.int .i64 rt)∧u.cell? ⟨w2.heap.size,1,none⟩=some (.slice (some ⟨g8,off8,none⟩) m bc))∧u.cell? ⟨w.heap.size+1,0,none⟩=some (.int .i64 (xn:Int))∧u.cell? ⟨w.heap.size+1,1,none⟩=some (.int .i64 t)∧u.cell? ⟨w.heap.size+1,2,none⟩=some (.int .i64 v))∧u.cell? ⟨g8,off8+xn*8+1,none⟩=some (.slice oa on oc))) 15 (by kernel_rfl) (HS1.out _ ((HB3.out).drew)) (fun hHeld=> ?_)
     refine wpAnyT_take (i:=0) (oi:=⟨some 38,_,_,_,_,_⟩) (v:= ?_) 8 rfl (by kernel_rfl) (by kernel_rfl) (by kernel_rfl) (by kernel_rfl) (by kernel_rfl) (fun _ _ _ h=>h) (Or.inl ⟨by rfl, ?_⟩) (by assumption) ?_
     rotate_left
     ·((intro w hSw;(try dsimp only at hSw);go_simp);try with_reducible rfl)
     (try simp only[Act.put,zA,zB,zC])
     refine wpAnyT_takeW (i:=1) (oi:=⟨some 39,_,_,_,_,_⟩) (v:= ?_) rfl (by kernel_rfl) (by kernel_rfl) (by kernel_rfl) (fun _ _ _ h=>h) (Or.inl ⟨by rfl, ?_⟩) ?_
     rotate_left
     ·((intro w _;go_simp);try with_reducible rfl)
     (try simp only[Act.put,zA,zB,zC])
     refine wpAnyT_take (i:=2) (oi:=⟨some 40,_,_,_,_,_⟩) (v:= ?_) 8 rfl (by kernel_rfl) (by kernel_rfl) (by kernel_rfl) (by kernel_rfl) (by kernel_rfl) (fun _ _ _ h=>h) (Or.inl ⟨by rfl, ?_⟩) (by assumption) ?_
     rotate_left
     ·((intro w hSw;(try dsimp only at hSw);go_simp);try with_reducible rfl)
     (try simp only[Act.put,zA,zB,zC])
     refine wpAnyT_takeW (i:=3) (oi:=⟨some 41,_,_,_,_,_⟩) (v:= ?_) rfl (by kernel_rfl) (by kernel_rfl) (by kernel_rfl) (fun _ _ _ h=>h) (Or.inl ⟨by rfl, ?_⟩) ?_
     rotate_left
     ·((intro w _;go_simp);try with_reducible rfl)
     (try simp only[Act.put,zA,zB,zC])
     refine wpAnyT_take (i:=4) (oi:=⟨some 42,_,_,_,_,_⟩) (v:= ?_) 8 rfl (by kernel_rfl) (by kernel_rfl) (by kernel_rfl) (by kernel_rfl) (by kernel_rfl) (fun _ _ _ h=>h) (Or.inl ⟨by rfl, ?_⟩) (by assumption) ?_
     rotate_left
     ·((intro w hSw;(try dsimp only at hSw);go_simp);try with_reducible rfl)
     (try simp only[Act.put,zA,zB,zC])
     refine wpAnyT_takeW (i:=5) (oi:=⟨some 43,_,_,_,_,_⟩) (v:= ?_) rfl (by kernel_rfl) (by kernel_rfl) (by kernel_rfl) (fun _ _ _ h=>h) (Or.inl ⟨by rfl, ?_⟩) ?_
     rotate_left
     ·((intro w _;go_simp);try with_reducible rfl)
     (try simp only[Act.put,zA,zB,zC])
     refine wpAnyT_take (i:=6) (oi:=⟨some 44,_,_,_,_,_⟩) (v:= ?_) 8 rfl (by kernel_rfl) (by kernel_rfl) (by kernel_rfl) (by kernel_rfl) (by kernel_rfl) (fun _ _ _ h=>h) (Or.inl ⟨by rfl, ?_⟩) (by assumption) ?_
     rotate_left
     ·((intro w hSw;(try dsimp only at hSw);go_simp);try with_reducible rfl)
     (try simp only[Act.put,zA,zB,zC])
     refine wpAnyT_takeW (i:=7) (oi:=⟨some 45,_,_,_,_,_⟩) (v:= ?_) rfl (by kernel_rfl) (by kernel_rfl) (by kernel_rfl) (fun _ _ _ h=>h) (Or.inl ⟨by rfl, ?_⟩) ?_
     rotate_left
     ·((intro w _;go_simp);try with_reducible rfl)
     (try simp only[Act.put,zA,zB,zC])
     refine wpAnyT_takeW (i:=8) (oi:=⟨some 46,_,_,_,_,_⟩) (v:= ?_) rfl (by kernel_rfl) (by kernel_rfl) (by kernel_rfl) (fun _ _ _ h=>h) (Or.inl ⟨by rfl, ?_⟩) ?_
     rotate_left
     ·((intro w _;go_simp);try with_reducible rfl)
     (try simp only[Act.put,zA,zB,zC])
     refine wpAnyT_take (i:=9) (oi:=⟨some 47,_,_,_,_,_⟩) (v:= ?_) 8 rfl (by kernel_rfl) (by kernel_rfl) (by kernel_rfl) (by kernel_rfl) (by kernel_rfl) (fun _ _ _ h=>h) (Or.inl ⟨by rfl, ?_⟩) (by assumption) ?_
     rotate_left
     ·((intro w hSw;(try dsimp only at hSw);go_simp);try with_reducible rfl)
     (try simp only[Act.put,zA,zB,zC])
     refine wpAnyT_takeW (i:=10) (oi:=⟨some 48,_,_,_,_,_⟩) (v:= ?_) rfl (by kernel_rfl) (by kernel_rfl) (by kernel_rfl) (fun _ _ _ h=>h) (Or.inl ⟨by rfl, ?_⟩) ?_
     rotate_left
     ·((intro w _;go_simp);try with_reducible rfl)
     (try simp only[Act.put,zA,zB,zC])
     refine wpAnyT_takeW (i:=11) (oi:=⟨some 49,_,_,_,_,_⟩) (v:= ?_) rfl (by kernel_rfl) (by kernel_rfl) (by kernel_rfl) (fun _ _ _ h=>h) (Or.inl ⟨by rfl, ?_⟩) ?_
     rotate_left
     ·((intro w _;go_simp);try with_reducible rfl)
     (try simp only[Act.put,zA,zB,zC])
     refine wpAnyT_take (i:=12) (oi:=⟨some 50,_,_,_,_,_⟩) (v:= ?_) 8 rfl (by kernel_rfl) (by kernel_rfl) (by kernel_rfl) (by kernel_rfl) (by kernel_rfl) (fun _ _ _ h=>h) (Or.inl ⟨by rfl, ?_⟩) (by assumption) ?_
     rotate_left
     ·((intro w hSw;(try dsimp only at hSw);go_simp);try with_reducible rfl)
     (try simp only[Act.put,zA,zB,zC])
     refine wpAnyT_one (i:=13) (by kernel_rfl) rfl (fun K hK=> ?_)
     rw[if_pos (by rfl)]
     go_simp
     (with_reducible refine(CS1.out _ ((HB3.out).drew)).mono ?_)
     rintro e w4 ⟨rfl,hb⟩
     have HB4:Hid (Below Y.heap.size Y w4):=hid (HB3.out.trans ((Below.refl _ w3).drew.mono HB3.out.size |>.trans (hb.mono HB3.out.size)))
     clear hb
     refine hK.out _ _ (HS1.out _ HB4.out) (fun hHeld=> ?_)
     clear hK K
     (try simp only[Act.put,zA,zB,zC])
     refine wpAnyT_takeW (i:=14) (oi:=⟨some 52,_,_,_,_,_⟩) (v:= ?_) rfl (by kernel_rfl) (by kernel_rfl) (by kernel_rfl) (fun _ _ _ h=>h) (Or.inl ⟨by rfl, ?_⟩) ?_
     rotate_left
     ·((intro w _;go_simp);try with_reducible rfl)
     (try simp only[Act.put,zA,zB,zC])
     refine wpAnyT_done (by kernel_rfl) ?_
     cases sb with
     |false=>
      go_wp2_with(go_at_call 9;(with_reducible refine(CLY.out _ HB4.out).mono ?_);rintro e w5 ⟨rfl,hb⟩;have HB5:=hid hb;clear hb)
      go_ret
      exact⟨rfl,HEND.out _ HB5.out⟩
     |true=>
      simp only[Bool.not_true]
      go_wp2_with fail
      go_loopw[10] (fun iv wr=>∃ k:Nat,k≤m∧iv=.int .i64 (k:Int)∧Hid (Below Y.heap.size Y wr)) (fun iv _=>m-(intOf iv).toNat)
      case atStart=>exact⟨0,Nat.zero_le _,rfl,HB4⟩
      case round=>
       obtain⟨k,hk,rfl,HK⟩:=hrel
       clear hHeld y0 y1 x0 x2
       obtain⟨⟨_,z1⟩,z0,_,z2⟩:=HS0.out _ HK.out
       have z00:=(HS0.out _ HK.out).1.1
       have hw:wrap64 ((k:Int)+1)=(k:Int)+1:=by unfold wrap64;omega
       by_cases hlt:k<m
       ·by_cases hkx:k=xn
        ·subst hkx
         go_wp2_with fail
         go_roundw
         case rel=>exact⟨k+1,hlt,by go_num,HK⟩
         case measure=>simp[intOf,hw];omega
        ·have hne:¬ (k:Int)=(xn:Int):=by omega
         obtain⟨ob,hob⟩:∃ b,b=overB (cutF F) (xn:Int) (k:Int):=⟨_,rfl⟩
         have CO1:Hid (Calls Tryz.prog 19 #[.agg #[.int .i64 rt,.slice (some ⟨g8,off8,none⟩) m bc],.int .i64 (xn:Int),.int .i64 (k:Int)] wr fun e w'=>e=.returned (.bool ob)∧Below wr.heap.size wr w'):=hid (by rw[hob];exact CO.out wr HK.out _ _)
         have CS2:Hid (ob=true→∀ u,Below Y.heap.size Y u→Calls Tryz.prog 17 #[.agg #[.int .i64 rt,.slice (some ⟨g8,off8,none⟩) m bc],.int .i64 (k:Int),.int .i64 0,.int .i64 v] u fun e w'=>e=.returned (.bool true)∧Below u.heap.size u w'):=hid fun ho u hu=>by
          have h1:seesB (cutF F) (k:Int) 0 v=true:=sees_up HIF.out (by rw[←(funcQ_row HFQ.out).2];exact hlt) ((congrArg (fun z:Nat=>seesB (cutF F) (xn:Int) (z:Int) v) HOL.out).trans HSB.out.symm) hkx (by rw[←hob];exact ho)
          rw[←h1];exact CS.out u hu _ _ _
         clear hob
         cases ob with
         |false=>
          go_wp2_with(go_at_call 19;(with_reducible refine CO1.out.mono ?_);rintro e w5 ⟨rfl,hb⟩;have HB5:Hid (Below Y.heap.size Y w5):=hid (HK.out.trans (hb.mono HK.out.size));clear hb)
          go_roundw
          case rel=>exact⟨k+1,hlt,by go_num,HB5⟩
          case measure=>simp[intOf,hw];omega
         |true=>
          have CS3:=hid (CS2.out rfl)
          clear CS2
          go_wp2_with(first
           |(go_at_call 19;(with_reducible refine CO1.out.mono ?_);rintro e w5 ⟨rfl,hb⟩;have HB5:Hid (Below Y.heap.size Y w5):=hid (HK.out.trans (hb.mono HK.out.size));clear hb;obtain⟨⟨v0,v1⟩,v2,_,v3⟩:=HS0.out _ HB5.out)
           |(go_at_call 17;(with_reducible refine(CS3.out _ HB5.out).mono ?_);rintro e w6 ⟨rfl,hb⟩;have HB6:Hid (Below Y.heap.size Y w6):=hid (HB5.out.trans (hb.mono HB5.out.size));clear hb))
          go_roundw
          case rel=>exact⟨k+1,hlt,by go_num,HB6⟩
          case measure=>simp[intOf,hw];omega
       ·obtain rfl:k=m:=by omega
        go_wp2_with(go_at_call 9;(with_reducible refine(CLY.out _ HK.out).mono ?_);rintro e w5 ⟨rfl,hb⟩;have HB5:=hid hb;clear hb)
        go_ret
        exact⟨rfl,HEND.out _ HB5.out⟩
end Go.Proofs.YtikoklagffbgiaaGreatDoor
