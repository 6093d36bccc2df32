/- Layer 5: Copy's lists (gen/cpeach.py). -/
import Derived.Test.YthjdeoppajlcoaaGreatDoorYCodeCa
import Derived.Test.YthjdeoppajlcoaaGreatDoorYT5

namespace Go.Proofs.YthjdeoppajlcoaaGreatDoor
set_option linter.unusedSimpArgs false
set_option linter.unusedVariables false
set_option maxHeartbeats 4000000
set_option maxRecDepth 100000
open Go.RowKit (wrap64 intOf Below Hid)
attribute [local go_sem ↓] Go.wp_at_zero Go.wp_at_succ
open Go.Lib (hid)
theorem Bn:(Tryz.prog.info? 51).map (fun i=>(i.zero,i.size,i.bytes))=some (some (.agg #[.slice none 0 0,.slice none 0 0,.int .i64 0,.int .i64 0,.int .i64 0,.int .i64 0,.slice none 0 0,.slice none 0 0]),8,128):=by kernel_rfl
def uh(xs:List dD)(w:World)(e:Ending)(w':World):Prop:=∃ va vn vc,e=.returned (.slice va vn vc)∧gW 51 8 fU w' (From w.heap.size) (.slice va vn vc) (xs.map eU)∧Below w.heap.size w w'
theorem BO(a:Option Addr)(n c:Nat)(xs:List dD)(w:World)(h:gG aM 8 w (.slice a n c) xs)(hlen:xs.length≤100000)(hft:FT w)(hsm:∀ x∈xs,tV x):
 Calls Tryz.prog 114 #[.slice a n c,.func (.func 115) #[] #[]] w (uh xs w):=by
 obtain⟨a',c',g,off,he,hnil,hcap,hg⟩:=h.cells
 cases he
 have HG:=hid hg
 have HLN:=hid hlen
 obtain⟨ln,hln⟩:∃ ln,ln=xs.length:=⟨_,rfl⟩
 have HL:=hid hln
 rw[←hln]at hlen
 have hcap':ln≤140737488351232:=by omega
 have HFT:=hid hft
 clear hft
 have HSM:=hid hsm
 clear hsm
 clear hg hln h
 rw[←HL.out]
 go_enter Tryz.func114,Tryz.ntmps114
 go_wp2_with fail
 go_loopw[5,10] (fun sv iv wr=>∃ (k:Nat) (va:Option Addr) (vn vc:Nat),k≤ln∧iv=.int .i64 (k:Int)∧sv=.slice va vn vc∧Hid (gW 51 8 fU wr (From w.heap.size) (.slice va vn vc) ((xs.take k).map eU)∧Below w.heap.size w wr)) (fun _ iv _=>ln-(intOf iv).toNat)
 case atStart=>exact⟨0,none,0,0,Nat.zero_le _,rfl,rfl,hid ⟨gW.none _ _,Below.refl _ _⟩⟩
 case round=>
  obtain⟨k,va,vn,vc,hk,rfl,rfl,HR⟩:=hrel
  by_cases hlt:k<ln
  ·have hkx:k<xs.length:=by rw[←HL.out];exact hlt
   obtain⟨rfl,hgl,hcs⟩:=HG.out (by omega)
   obtain⟨cs,hc8,hcell,hq⟩:=hcs k hkx
   replace hq:=aM.lasts _ _ _ _ HR.out.2 hq
   replace hcell:∀ j (hj:j<cs.length),wr.cell? ⟨g,off+k*8+j,none⟩=some cs[j]:=fun j hj=>(HR.out.2.cell (p:=⟨g,off+k*8+j,none⟩) hgl).trans (hcell j hj)
   obtain⟨y,hy⟩:∃ y,y=xs[k]:=⟨_,rfl⟩
   rw[←hy]at hq
   have HY:=hid hy
   obtain⟨pv,ov,es,rfl,hpv,hov,hes⟩:=hq
   obtain⟨pa,pn,pc,rfl,hpv'⟩:=hpv
   obtain⟨oa,oc,og,oo,rfl,hov1,hov2,hov3⟩:=hov.cells
   obtain⟨on,hon⟩:∃ n,n=y.ops.length:=⟨_,rfl⟩
   obtain⟨l1,m1,rfl,r1,r2,r3,r4,hl1,hm1⟩:=hes
   obtain⟨la,ln',lc,rfl,hl1'⟩:=hl1
   obtain⟨ma,mn,mc,rfl,hm1'⟩:=hm1
   have hq:aM wr [.slice pa pn pc,.slice oa y.ops.length oc,.int .i64 y.fin.K,.int .i64 y.fin.A,.int .i64 y.fin.To,.int .i64 y.fin.Else,.slice la ln' lc,.slice ma mn mc] y:=⟨_,_,_,rfl,⟨pa,pn,pc,rfl,hpv'⟩,hov,⟨_,_,rfl,r1,r2,r3,r4,⟨la,ln',lc,rfl,hl1'⟩,⟨ma,mn,mc,rfl,hm1'⟩⟩⟩
   rw[←hon]at hq hcell
   clear hpv' hov hov1 hov2 hov3 r1 r2 r3 r4 hl1' hm1' hon
   have hc0:=hcell 0 (by simp)
   have hc1:=hcell 1 (by simp)
   have hc2:=hcell 2 (by simp)
   have hc3:=hcell 3 (by simp)
   have hc4:=hcell 4 (by simp)
   have hc5:=hcell 5 (by simp)
   have hc6:=hcell 6 (by simp)
   have hc7:=hcell 7 (by simp)
   simp only[Nat.add_zero,List.getElem_cons_zero,List.getElem_cons_succ]at hc0 hc1 hc2 hc3 hc4 hc5 hc6 hc7
   have hbl:Below wr.heap.size wr (wr.alloc (.cells #[.slice pa pn pc,.slice oa on oc,.int .i64 y.fin.K,.int .i64 y.fin.A,.int .i64 y.fin.To,.int .i64 y.fin.Else,.slice la ln' lc,.slice ma mn mc] 51)):=(Below.refl _ _).alloc (Nat.le_refl _) _
   have HQ1:=hid (aM.lasts _ _ _ _ hbl hq)
   have HF1:=hid ((HFT.out.since HR.out.2).since hbl)
   have HS1:=hid (show tV y from by rw[hy];exact HSM.out xs[k] (List.getElem_mem hkx))
   have hwz:w.heap.size≤wr.heap.size:=HR.out.2.size
   have HKX:=hid hkx
   clear hcell hq hcs hbl hc8 hy 
   go_wp2_with fail
   refine(vS pa oa la ma pn pc on oc ln' lc mn mc y _ HQ1.out HF1.out HS1.out).mono ?_
   rintro e w1 ⟨va1,vn1,vc1,ua,un,uc,q1,q2,q3,q4,ta,tn,tc,sa,sn,sc,rfl,hq1,hb1⟩
   have hb2:=kH ((Below.refl wr.heap.size wr).alloc (Nat.le_refl _) _) hb1
   have hrow:=HR.out.1.holds fU.holds (w':=w1) (S':=From w.heap.size) (fun b hb hS=>⟨hb2.block b hb,hS⟩)
   have hfar:∀ b,(Value.slice va vn vc).ownBlock=some b→b<wr.heap.size+1:=fun b hb=>by have:=(HR.out.1.own hb).2;omega
   have hw1:w.heap.size≤w1.heap.size:=Nat.le_trans hwz hb2.size
   have hbw:=HR.out.2.trans (hb2.mono hwz)
   have HQ2:=hid (fU.holds.wider hq1 (S':=From (wr.heap.size+1)) (fun b _ hb=>by simpa [From]using hb))
   have HRW:=hid hrow
   have HFA:=hid hfar
   have HBW:=hid hbw
   have HTK:Hid (((xs.take k).map eU).length≤100000):=hid (by simp only[List.length_map,List.length_take];have:=HLN.out;omega)
   clear hb1 hb2 hq1 hrow hfar hbw HQ1
   go_wp2_with(at_builtin;refine cO w1 rfl _ _ 34 rfl 51 Tryz.underlying34 _ 8 128 Bn rfl (by decide) (by decide) fU.holds w.heap.size (.slice va vn vc) ((xs.take k).map eU) rfl HRW.out hw1 _ 1 w1.heap.size rfl rfl rfl (by intro u hu;simp at hu;rcases hu with rfl|rfl|rfl|rfl|rfl|rfl|rfl|rfl<;>rfl) (eU y) (wr.heap.size+1) HQ2.out (by omega) HFA.out HTK.out ?_;intro va2 vn2 vc2 w2 hrow2 hb3)
   have HK':Hid (gW 51 8 fU w2 (From w.heap.size) (.slice va2 vn2 vc2) ((xs.take (k+1)).map eU)∧Below w.heap.size w w2):=hid ⟨by rw[List.take_succ_eq_append_getElem HKX.out,List.map_append,List.map_cons,List.map_nil,←HY.out];exact hrow2,HBW.out.trans hb3⟩
   clear hrow2 hb3 HRW HFA HBW HTK HQ2
   go_wp2_with fail
   go_roundw
   case rel=>exact⟨k+1,va2,vn2,vc2,by omega,by go_num,rfl,HK'⟩
   case measure=>simp[intOf];omega
  ·have HE:Hid (gW 51 8 fU wr (From w.heap.size) (.slice va vn vc) (xs.map eU)∧Below w.heap.size w wr):=hid (by have h:=HR.out;rw[List.take_of_length_le (by rw[←HL.out];omega)]at h;exact h)
   go_wp2_with fail
   go_ret
   exact⟨va,vn,vc,rfl,HE.out⟩
def He(y:ak)(w:World)(e:Ending)(w':World):Prop:=∃ va vn vc,e=.returned (.agg #[.int .i64 y.ret,.slice va vn vc])∧jS w' (From w.heap.size) [.int .i64 y.ret,.slice va vn vc] (plainFunc y)∧Below w.heap.size w w'
theorem xZ(ba:Option Addr)(bn bc:Nat)(y:ak)(w:World)(h:bO w [.int .i64 y.ret,.slice ba bn bc] y)(hft:FT w)(hsm:zP y):
 Calls Tryz.prog 83 #[.agg #[.int .i64 y.ret,.slice ba bn bc]] w (He y w):=by
 obtain⟨bv,he,hr,hb⟩:=h
 cases he
 have hl0:=qJ.start w #[.int .i64 y.ret,.slice ba bn bc] #[.int .i64 0,.slice none 0 0] 36 36
 have HL0:=hid hl0
 have HB:=hid (hb.since aM.lasts hl0.bel)
 have HF:=hid (hft.since hl0.bel)
 have HS1:=hid hsm.1
 have HS2:=hid hsm.2
 have HR:=hid hr
 clear hb hr hft hsm hl0
 go_enter Tryz.func83,Tryz.ntmps83
 go_wp2_with fail
 go_region_held3 (fun u=>u.cell? ⟨w.heap.size,0,none⟩=some (.int .i64 y.ret)∧u.cell? ⟨w.heap.size,1,none⟩=some (.slice ba bn bc)) (first|(exact⟨by simp,by simp⟩)|(with_reducible exact⟨hj0,hj1⟩)|(rw[y8 (by simp),y8 (by simp)];with_reducible exact⟨hj0,hj1⟩))
  (first|(go_at_call 114;(with_reducible refine(BO ba bn bc y.blocks _ HB.out HS1.out HF.out HS2.out).mono ?_);rintro e w1 ⟨va,vn,vc,rfl,hn1,hb1⟩;have hl1:=HL0.out.step hb1;have hn2:=hn1.wider fU.holds (S':=From (w.heap.size+2)) (fun b _ hb=>Nat.le_trans HL0.out.size hb);have hz:=hl1.c0;have hj0:w1.cell? ⟨w.heap.size,0,none⟩=some (.int .i64 y.ret):=hz 0;have hj1:w1.cell? ⟨w.heap.size,1,none⟩=some (.slice ba bn bc):=hz 1;clear hz;have hc1:=hl1.c1;have hf1:=hl1.f1))
 all_goals
  have HN:=hid hn2
  have HL:=hid hl1
  clear hn1 hn2 hl1
  go_wp2_with fail
  refine bodyPost_ret (v:=.agg #[.int .i64 y.ret,.slice va vn vc]) (by simp[results,Tryz.results83,go_sem,hc1]) rfl ⟨va,vn,vc,rfl,⟨_,rfl,HR.out,HN.out.past fU.holds (((Off.refl (fun b=>b=w.heap.size+1) _).setCell (.inl rfl) _).setCell (.inl rfl) _)⟩,((HL.out.bel.setCell (by simp) _).setCell (by simp) _)⟩
theorem Eb:(Tryz.prog.info? 36).map (fun i=>(i.zero,i.size,i.bytes))=some (some (.agg #[.int .i64 0,.slice none 0 0]),2,32):=by kernel_rfl
def wF(xs:List ak)(w:World)(e:Ending)(w':World):Prop:=∃ va vn vc,e=.returned (.slice va vn vc)∧gW 36 2 jS w' (From w.heap.size) (.slice va vn vc) (xs.map plainFunc)∧Below w.heap.size w w'
theorem EC(a:Option Addr)(n c:Nat)(xs:List ak)(w:World)(h:gG bO 2 w (.slice a n c) xs)(hlen:xs.length≤100000)(hft:FT w)(hsm:∀ x∈xs,zP x):
 Calls Tryz.prog 82 #[.slice a n c,.func (.func 83) #[] #[]] w (wF xs w):=by
 obtain⟨a',c',g,off,he,hnil,hcap,hg⟩:=h.cells
 cases he
 have HG:=hid hg
 have HLN:=hid hlen
 obtain⟨ln,hln⟩:∃ ln,ln=xs.length:=⟨_,rfl⟩
 have HL:=hid hln
 rw[←hln]at hlen
 have hcap':ln≤140737488351232:=by omega
 have HFT:=hid hft
 clear hft
 have HSM:=hid hsm
 clear hsm
 clear hg hln h
 rw[←HL.out]
 go_enter Tryz.func82,Tryz.ntmps82
 go_wp2_with fail
 go_loopw[5,10] (fun sv iv wr=>∃ (k:Nat) (va:Option Addr) (vn vc:Nat),k≤ln∧iv=.int .i64 (k:Int)∧sv=.slice va vn vc∧Hid (gW 36 2 jS wr (From w.heap.size) (.slice va vn vc) ((xs.take k).map plainFunc)∧Below w.heap.size w wr)) (fun _ iv _=>ln-(intOf iv).toNat)
 case atStart=>exact⟨0,none,0,0,Nat.zero_le _,rfl,rfl,hid ⟨gW.none _ _,Below.refl _ _⟩⟩
 case round=>
  obtain⟨k,va,vn,vc,hk,rfl,rfl,HR⟩:=hrel
  by_cases hlt:k<ln
  ·have hkx:k<xs.length:=by rw[←HL.out];exact hlt
   obtain⟨rfl,hgl,hcs⟩:=HG.out (by omega)
   obtain⟨cs,hc8,hcell,hq⟩:=hcs k hkx
   replace hq:=bO.lasts _ _ _ _ HR.out.2 hq
   replace hcell:∀ j (hj:j<cs.length),wr.cell? ⟨g,off+k*2+j,none⟩=some cs[j]:=fun j hj=>(HR.out.2.cell (p:=⟨g,off+k*2+j,none⟩) hgl).trans (hcell j hj)
   obtain⟨y,hy⟩:∃ y,y=xs[k]:=⟨_,rfl⟩
   rw[←hy]at hq
   have HY:=hid hy
   obtain⟨bv,rfl,r1,hbv⟩:=hq
   obtain⟨ba,bc,bg,bo,rfl,hbv1,hbv2,hbv3⟩:=hbv.cells
   obtain⟨bn,hbn⟩:∃ n,n=y.blocks.length:=⟨_,rfl⟩
   have hq:bO wr [.int .i64 y.ret,.slice ba y.blocks.length bc] y:=⟨_,rfl,r1,hbv⟩
   rw[←hbn]at hq hcell
   clear hbv hbv1 hbv2 hbv3 r1 hbn
   have hc0:=hcell 0 (by simp)
   have hc1:=hcell 1 (by simp)
   simp only[Nat.add_zero,List.getElem_cons_zero,List.getElem_cons_succ]at hc0 hc1
   have hbl:Below wr.heap.size wr (wr.alloc (.cells #[.int .i64 y.ret,.slice ba bn bc] 36)):=(Below.refl _ _).alloc (Nat.le_refl _) _
   have HQ1:=hid (bO.lasts _ _ _ _ hbl hq)
   have HF1:=hid ((HFT.out.since HR.out.2).since hbl)
   have HS1:=hid (show zP y from by rw[hy];exact HSM.out xs[k] (List.getElem_mem hkx))
   have hwz:w.heap.size≤wr.heap.size:=HR.out.2.size
   have HKX:=hid hkx
   clear hcell hq hcs hbl hc8 hy 
   go_wp2_with fail
   refine(xZ ba bn bc y _ HQ1.out HF1.out HS1.out).mono ?_
   rintro e w1 ⟨ua,un,uc,rfl,hq1,hb1⟩
   have hb2:=kH ((Below.refl wr.heap.size wr).alloc (Nat.le_refl _) _) hb1
   have hrow:=HR.out.1.holds jS.holds (w':=w1) (S':=From w.heap.size) (fun b hb hS=>⟨hb2.block b hb,hS⟩)
   have hfar:∀ b,(Value.slice va vn vc).ownBlock=some b→b<wr.heap.size+1:=fun b hb=>by have:=(HR.out.1.own hb).2;omega
   have hw1:w.heap.size≤w1.heap.size:=Nat.le_trans hwz hb2.size
   have hbw:=HR.out.2.trans (hb2.mono hwz)
   have HQ2:=hid (jS.holds.wider hq1 (S':=From (wr.heap.size+1)) (fun b _ hb=>by simpa [From]using hb))
   have HRW:=hid hrow
   have HFA:=hid hfar
   have HBW:=hid hbw
   have HTK:Hid (((xs.take k).map plainFunc).length≤100000):=hid (by simp only[List.length_map,List.length_take];have:=HLN.out;omega)
   clear hb1 hb2 hq1 hrow hfar hbw HQ1
   go_wp2_with(at_builtin;refine cO w1 rfl _ _ 24 rfl 36 Tryz.underlying24 _ 2 32 Eb rfl (by decide) (by decide) jS.holds w.heap.size (.slice va vn vc) ((xs.take k).map plainFunc) rfl HRW.out hw1 _ 1 w1.heap.size rfl rfl rfl (by intro u hu;simp at hu;rcases hu with rfl|rfl<;>rfl) (plainFunc y) (wr.heap.size+1) HQ2.out (by omega) HFA.out HTK.out ?_;intro va2 vn2 vc2 w2 hrow2 hb3)
   have HK':Hid (gW 36 2 jS w2 (From w.heap.size) (.slice va2 vn2 vc2) ((xs.take (k+1)).map plainFunc)∧Below w.heap.size w w2):=hid ⟨by rw[List.take_succ_eq_append_getElem HKX.out,List.map_append,List.map_cons,List.map_nil,←HY.out];exact hrow2,HBW.out.trans hb3⟩
   clear hrow2 hb3 HRW HFA HBW HTK HQ2
   go_wp2_with fail
   go_roundw
   case rel=>exact⟨k+1,va2,vn2,vc2,by omega,by go_num,rfl,HK'⟩
   case measure=>simp[intOf];omega
  ·have HE:Hid (gW 36 2 jS wr (From w.heap.size) (.slice va vn vc) (xs.map plainFunc)∧Below w.heap.size w wr):=hid (by have h:=HR.out;rw[List.take_of_length_le (by rw[←HL.out];omega)]at h;exact h)
   go_wp2_with fail
   go_ret
   exact⟨va,vn,vc,rfl,HE.out⟩
def Hg(P:aB)(w:World)(e:Ending)(w':World):Prop:=
 ∃b s c f,e=.returned (.pointer (some ⟨b,0,none⟩))∧w.heap.size≤b∧dm w' b 0 [s,c,f]∧yw w' (fun k=>w.heap.size≤k∧k≠b) [s,c,f] P∧Below w.heap.size w w'
theorem EI(g off:Nat)(s c f:Value)(P:aB)(w:World)(hg:g<w.heap.size)(hc0:w.cell? ⟨g,off,none⟩=some s)(hc1:w.cell? ⟨g,off+1,none⟩=some c)(hc2:w.cell? ⟨g,off+2,none⟩=some f)(h:oZ w [s,c,f] P)(hft:FT w)(hsm:wz P):
 Calls Tryz.prog 46 #[.pointer (some ⟨g,off,none⟩)] w (Hg (dJ P) w):=by
 obtain⟨s',c',f',he,hs,hc,hf⟩:=h
 cases he
 obtain⟨sa,sc,sg,so,rfl,_,_,_⟩:=hs.cells
 obtain⟨ca,cc,cg,co,rfl,_,_,_⟩:=hc.cells
 obtain⟨fa,fc,fg,fo,rfl,_,_,_⟩:=hf.cells
 obtain⟨sn,hsn⟩:∃ n,n=P.sigs.length:=⟨_,rfl⟩
 obtain⟨cn,hcn⟩:∃ n,n=P.classes.length:=⟨_,rfl⟩
 obtain⟨fn,hfn⟩:∃ n,n=P.funcs.length:=⟨_,rfl⟩
 rw[←hsn]at hs hc0
 rw[←hcn]at hc hc1
 rw[←hfn]at hf hc2
 have hd:Below w.heap.size w w.drew:=(Below.refl _ _).drew
 have HD:=hid hd
 have H1:=hid (hs.since Cf.lasts hd)
 have H2:=hid (hc.since jy.lasts hd)
 have H3:=hid (hf.since bO.lasts hd)
 have HF:=hid (hft.since hd)
 have HS1:=hid hsm.1
 have HS2:=hid hsm.2.1
 have HS3:=hid hsm.2.2.1
 have HS4:=hid hsm.2.2.2
 have hd0:w.drew.cell? ⟨g,off,none⟩=_:=hc0
 have hd1:w.drew.cell? ⟨g,off+1,none⟩=_:=hc1
 have hd2:w.drew.cell? ⟨g,off+2,none⟩=_:=hc2
 clear hs hc hf hft hsm hsn hcn hfn hd
 go_enter Tryz.func46,Tryz.ntmps46
 go_wp2_with fail
 go_region_held3 (fun u=>u.cell? ⟨g,off,none⟩=some (.slice sa sn sc)∧u.cell? ⟨g,off+1,none⟩=some (.slice ca cn cc)∧u.cell? ⟨g,off+2,none⟩=some (.slice fa fn fc))
  (first|(with_reducible exact⟨hd0,hd1,hd2⟩)|(with_reducible exact⟨hj0,hj1,hj2⟩)|(with_reducible exact⟨hk0,hk1,hk2⟩)|(with_reducible exact⟨hm0,hm1,hm2⟩)|(with_reducible exact⟨hz0 _,hz1 _,hz2 _⟩))
  (first
    |(go_at_call 78;(with_reducible refine(Gz sa sn sc P.sigs _ H1.out HS1.out).mono ?_);rintro e w1 ⟨va,vn,vc,rfl,hs1,hb1⟩;have hk1:=kH HD.out hb1;have hj0:=(hk1.cell (p:=⟨g,off,none⟩) hg).trans hc0;have hj1:=(hk1.cell (p:=⟨g,off+1,none⟩) hg).trans hc1;have hj2:=(hk1.cell (p:=⟨g,off+2,none⟩) hg).trans hc2;have h2:=H2.out.since jy.lasts hb1;have h3:=H3.out.since bO.lasts hb1;have hf1:=HF.out.since hb1;have hs1':=hs1.wider qK.holds (S':=From w.heap.size) (fun b _ hb=>Nat.le_trans HD.out.size hb);have HK1:=hid hk1;clear hk1)
    |(go_at_call 80;(with_reducible refine(GA ca cn cc P.classes _ h2 HS2.out).mono ?_);rintro e w2 ⟨ua,un,uc,rfl,hs2,hb2⟩;have hq2:=kH HK1.out hb2;have hk0:=(hq2.cell (p:=⟨g,off,none⟩) hg).trans hc0;have hk1:=(hq2.cell (p:=⟨g,off+1,none⟩) hg).trans hc1;have hk2:=(hq2.cell (p:=⟨g,off+2,none⟩) hg).trans hc2;have h3':=h3.since bO.lasts hb2;have hf2:=hf1.since hb2;have hs1'':=hs1'.off qK.holds (X:=fun _=>False) (Off.since hb2) (fun _ _ h=>h);have hs2':=hs2.wider fD.holds (S':=From w.heap.size) (fun b _ hb=>Nat.le_trans HK1.out.size hb);have HK2:=hid hq2;clear hq2)
    |(go_at_call 82;(with_reducible refine(EC fa fn fc P.funcs _ h3' HS3.out hf2 HS4.out).mono ?_);rintro e w3 ⟨ta,tn,tc,rfl,hs3,hb3⟩;have hq3:=kH HK2.out hb3;have hm0:=(hq3.cell (p:=⟨g,off,none⟩) hg).trans hc0;have hm1:=(hq3.cell (p:=⟨g,off+1,none⟩) hg).trans hc1;have hm2:=(hq3.cell (p:=⟨g,off+2,none⟩) hg).trans hc2;have hs1f:=hs1''.off qK.holds (X:=fun _=>False) (Off.since hb3) (fun _ _ h=>h);have hs2f:=hs2'.off fD.holds (X:=fun _=>False) (Off.since hb3) (fun _ _ h=>h);have hs3f:=hs3.wider jS.holds (S':=From w.heap.size) (fun b _ hb=>Nat.le_trans HK2.out.size hb);have hw3:∀ o,Below w3.heap.size w3 (w3.alloc o):=fun o=>(Below.refl _ _).alloc (Nat.le_refl _) o;have hg3:g<w3.heap.size:=Nat.lt_of_lt_of_le hg hq3.size;have hz0:∀ o,(w3.alloc o).cell? ⟨g,off,none⟩=_:=fun o=>((hw3 o).cell (p:=⟨g,off,none⟩) hg3).trans hm0;have hz1:∀ o,(w3.alloc o).cell? ⟨g,off+1,none⟩=_:=fun o=>((hw3 o).cell (p:=⟨g,off+1,none⟩) hg3).trans hm1;have hz2:∀ o,(w3.alloc o).cell? ⟨g,off+2,none⟩=_:=fun o=>((hw3 o).cell (p:=⟨g,off+2,none⟩) hg3).trans hm2))
 all_goals
  have HX1:=hid hs1f
  have HX2:=hid hs2f
  have HX3:=hid hs3f
  have HK3:=hid hq3
  clear hs1 hs1' hs1'' hs2 hs2' hs3 hs1f hs2f hs3f hq3 h2 h3 h3' hf1 hf2
  go_wp2_with fail
  go_ret
  have hal:=(Below.refl w3.heap.size w3).alloc (Nat.le_refl _) (.cells #[.slice va vn vc,.slice ua un uc,.slice ta tn tc] 26)
  have hne:∀ b,b<w3.heap.size→From w.heap.size b→(w.heap.size≤b∧b≠w3.heap.size):=fun b hb h=>⟨h,by omega⟩
  have hh:∀ b,b<w3.heap.size→From w.heap.size b→(w3.alloc (.cells #[.slice va vn vc,.slice ua un uc,.slice ta tn tc] 26)).heap[b]? =w3.heap[b]? ∧(w.heap.size≤b∧b≠w3.heap.size):=fun b hb h=>⟨hal.block b hb,hne b hb h⟩
  exact⟨w3.heap.size,_,_,_,rfl,HK3.out.size,⟨_,_,heap_alloc_new w3 _,fun j hj=>by rw[Nat.zero_add];simp⟩,⟨_,_,_,rfl,HX1.out.holds qK.holds hh,HX2.out.holds fD.holds hh,HX3.out.holds jS.holds hh⟩,kH HK3.out hal⟩
end Go.Proofs.YthjdeoppajlcoaaGreatDoor
