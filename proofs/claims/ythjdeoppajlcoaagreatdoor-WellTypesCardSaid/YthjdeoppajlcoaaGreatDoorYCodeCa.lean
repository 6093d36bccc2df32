/- Layer 5: Copy's lists (gen/cpeach.py). -/
import Derived.Test.YthjdeoppajlcoaaGreatDoorYT4

namespace Go.Proofs.YthjdeoppajlcoaaGreatDoor
set_option linter.unusedSimpArgs false
set_option linter.unusedVariables false
set_option maxHeartbeats 4000000
set_option maxRecDepth 100000
open Go.RowKit (wrap64 intOf Below Hid)
attribute [local go_sem ↓] Go.wp_at_zero Go.wp_at_succ
open Go.Lib (hid)
theorem Gg:(Tryz.prog.info? 60).map (fun i=>(i.zero,i.size,i.bytes))=some (some (.agg #[.slice none 0 0,.int .i64 0]),2,32):=by kernel_rfl
def yC(xs:List wC)(w:World)(e:Ending)(w':World):Prop:=∃ va vn vc,e=.returned (.slice va vn vc)∧gW 60 2 qK w' (From w.heap.size) (.slice va vn vc) (xs)∧Below w.heap.size w w'
theorem Gz(a:Option Addr)(n c:Nat)(xs:List wC)(w:World)(h:gG Cf 2 w (.slice a n c) xs)(hlen:xs.length≤100000):
 Calls Tryz.prog 78 #[.slice a n c,.func (.func 79) #[] #[]] w (yC xs w):=by
 obtain⟨a',c',g,off,he,hnil,hcap,hg⟩:=h.cells
 cases he
 have HG:=hid hg
 have HLN:=hid hlen
 obtain⟨ln,hln⟩:∃ ln,ln=xs.length:=⟨_,rfl⟩
 have HL:=hid hln
 rw[←hln]at hlen
 have hcap':ln≤140737488351232:=by omega
 clear hg hln h
 rw[←HL.out]
 go_enter Tryz.func78,Tryz.ntmps78
 go_wp2_with fail
 go_loopw[5,10] (fun sv iv wr=>∃ (k:Nat) (va:Option Addr) (vn vc:Nat),k≤ln∧iv=.int .i64 (k:Int)∧sv=.slice va vn vc∧Hid (gW 60 2 qK wr (From w.heap.size) (.slice va vn vc) (xs.take k)∧Below w.heap.size w wr)) (fun _ iv _=>ln-(intOf iv).toNat)
 case atStart=>exact⟨0,none,0,0,Nat.zero_le _,rfl,rfl,hid ⟨gW.none _ _,Below.refl _ _⟩⟩
 case round=>
  obtain⟨k,va,vn,vc,hk,rfl,rfl,HR⟩:=hrel
  by_cases hlt:k<ln
  ·have hkx:k<xs.length:=by rw[←HL.out];exact hlt
   obtain⟨rfl,hgl,hcs⟩:=HG.out (by omega)
   obtain⟨cs,hc8,hcell,hq⟩:=hcs k hkx
   replace hq:=Cf.lasts _ _ _ _ HR.out.2 hq
   replace hcell:∀ j (hj:j<cs.length),wr.cell? ⟨g,off+k*2+j,none⟩=some cs[j]:=fun j hj=>(HR.out.2.cell (p:=⟨g,off+k*2+j,none⟩) hgl).trans (hcell j hj)
   obtain⟨y,hy⟩:∃ y,y=xs[k]:=⟨_,rfl⟩
   rw[←hy]at hq
   have HY:=hid hy
   obtain⟨pv,rfl,hpv,hret⟩:=hq
   obtain⟨pa,pn,pc,rfl,hpv'⟩:=hpv
   have hq:Cf wr [.slice pa pn pc,.int .i64 y.ret] y:=⟨_,rfl,⟨pa,pn,pc,rfl,hpv'⟩,hret⟩
   clear hpv' hret
   have hc0:=hcell 0 (by simp)
   have hc1:=hcell 1 (by simp)
   simp only[Nat.add_zero,List.getElem_cons_zero,List.getElem_cons_succ]at hc0 hc1
   have hbl:Below wr.heap.size wr (wr.alloc (.cells #[.slice pa pn pc,.int .i64 y.ret] 60)):=(Below.refl _ _).alloc (Nat.le_refl _) _
   have HQ1:=hid (Cf.lasts _ _ _ _ hbl hq)
   have hwz:w.heap.size≤wr.heap.size:=HR.out.2.size
   have HKX:=hid hkx
   clear hcell hq hcs hbl hc8 hy 
   go_wp2_with fail
   refine(BQ pa pn pc y _ HQ1.out).mono ?_
   rintro e w1 ⟨ua,un,uc,rfl,hq1,hb1⟩
   have hb2:=kH ((Below.refl wr.heap.size wr).alloc (Nat.le_refl _) _) hb1
   have hrow:=HR.out.1.holds qK.holds (w':=w1) (S':=From w.heap.size) (fun b hb hS=>⟨hb2.block b hb,hS⟩)
   have hfar:∀ b,(Value.slice va vn vc).ownBlock=some b→b<wr.heap.size+1:=fun b hb=>by have:=(HR.out.1.own hb).2;omega
   have hw1:w.heap.size≤w1.heap.size:=Nat.le_trans hwz hb2.size
   have hbw:=HR.out.2.trans (hb2.mono hwz)
   have HQ2:=hid (qK.holds.wider hq1 (S':=From (wr.heap.size+1)) (fun b _ hb=>by simpa [From]using hb))
   have HRW:=hid hrow
   have HFA:=hid hfar
   have HBW:=hid hbw
   have HTK:Hid ((xs.take k).length≤100000):=hid (by simp only[List.length_take];have:=HLN.out;omega)
   clear hb1 hb2 hq1 hrow hfar hbw HQ1
   go_wp2_with(at_builtin;refine cO w1 rfl _ _ 22 rfl 60 Tryz.underlying22 _ 2 32 Gg rfl (by decide) (by decide) qK.holds w.heap.size (.slice va vn vc) (xs.take k) rfl HRW.out hw1 _ 1 w1.heap.size rfl rfl rfl (by intro u hu;simp at hu;rcases hu with rfl|rfl<;>rfl) y (wr.heap.size+1) HQ2.out (by omega) HFA.out HTK.out ?_;intro va2 vn2 vc2 w2 hrow2 hb3)
   have HK':Hid (gW 60 2 qK w2 (From w.heap.size) (.slice va2 vn2 vc2) (xs.take (k+1))∧Below w.heap.size w w2):=hid ⟨by rw[List.take_succ_eq_append_getElem HKX.out,←HY.out];exact hrow2,HBW.out.trans hb3⟩
   clear hrow2 hb3 HRW HFA HBW HTK HQ2
   go_wp2_with fail
   go_roundw
   case rel=>exact⟨k+1,va2,vn2,vc2,by omega,by go_num,rfl,HK'⟩
   case measure=>simp[intOf];omega
  ·have HE:Hid (gW 60 2 qK wr (From w.heap.size) (.slice va vn vc) (xs)∧Below w.heap.size w wr):=hid (by have h:=HR.out;rw[List.take_of_length_le (by rw[←HL.out];omega)]at h;exact h)
   go_wp2_with fail
   go_ret
   exact⟨va,vn,vc,rfl,HE.out⟩
theorem Gh:(Tryz.prog.info? 62).map (fun i=>(i.zero,i.size,i.bytes))=some (some (.agg #[.slice none 0 0,.slice none 0 0]),2,48):=by kernel_rfl
def yD(xs:List iE)(w:World)(e:Ending)(w':World):Prop:=∃ va vn vc,e=.returned (.slice va vn vc)∧gW 62 2 fD w' (From w.heap.size) (.slice va vn vc) (xs)∧Below w.heap.size w w'
theorem GA(a:Option Addr)(n c:Nat)(xs:List iE)(w:World)(h:gG jy 2 w (.slice a n c) xs)(hlen:xs.length≤100000):
 Calls Tryz.prog 80 #[.slice a n c,.func (.func 81) #[] #[]] w (yD xs w):=by
 obtain⟨a',c',g,off,he,hnil,hcap,hg⟩:=h.cells
 cases he
 have HG:=hid hg
 have HLN:=hid hlen
 obtain⟨ln,hln⟩:∃ ln,ln=xs.length:=⟨_,rfl⟩
 have HL:=hid hln
 rw[←hln]at hlen
 have hcap':ln≤140737488351232:=by omega
 clear hg hln h
 rw[←HL.out]
 go_enter Tryz.func80,Tryz.ntmps80
 go_wp2_with fail
 go_loopw[5,10] (fun sv iv wr=>∃ (k:Nat) (va:Option Addr) (vn vc:Nat),k≤ln∧iv=.int .i64 (k:Int)∧sv=.slice va vn vc∧Hid (gW 62 2 fD wr (From w.heap.size) (.slice va vn vc) (xs.take k)∧Below w.heap.size w wr)) (fun _ iv _=>ln-(intOf iv).toNat)
 case atStart=>exact⟨0,none,0,0,Nat.zero_le _,rfl,rfl,hid ⟨gW.none _ _,Below.refl _ _⟩⟩
 case round=>
  obtain⟨k,va,vn,vc,hk,rfl,rfl,HR⟩:=hrel
  by_cases hlt:k<ln
  ·have hkx:k<xs.length:=by rw[←HL.out];exact hlt
   obtain⟨rfl,hgl,hcs⟩:=HG.out (by omega)
   obtain⟨cs,hc8,hcell,hq⟩:=hcs k hkx
   replace hq:=jy.lasts _ _ _ _ HR.out.2 hq
   replace hcell:∀ j (hj:j<cs.length),wr.cell? ⟨g,off+k*2+j,none⟩=some cs[j]:=fun j hj=>(HR.out.2.cell (p:=⟨g,off+k*2+j,none⟩) hgl).trans (hcell j hj)
   obtain⟨y,hy⟩:∃ y,y=xs[k]:=⟨_,rfl⟩
   rw[←hy]at hq
   have HY:=hid hy
   obtain⟨pv,qv,rfl,hpv,hqv⟩:=hq
   obtain⟨pa,pn,pc,rfl,hpv'⟩:=hpv
   obtain⟨qa,qn,qc,rfl,hqv'⟩:=hqv
   have hq:jy wr [.slice pa pn pc,.slice qa qn qc] y:=⟨_,_,rfl,⟨pa,pn,pc,rfl,hpv'⟩,⟨qa,qn,qc,rfl,hqv'⟩⟩
   clear hpv' hqv'
   have hc0:=hcell 0 (by simp)
   have hc1:=hcell 1 (by simp)
   simp only[Nat.add_zero,List.getElem_cons_zero,List.getElem_cons_succ]at hc0 hc1
   have hbl:Below wr.heap.size wr (wr.alloc (.cells #[.slice pa pn pc,.slice qa qn qc] 62)):=(Below.refl _ _).alloc (Nat.le_refl _) _
   have HQ1:=hid (jy.lasts _ _ _ _ hbl hq)
   have hwz:w.heap.size≤wr.heap.size:=HR.out.2.size
   have HKX:=hid hkx
   clear hcell hq hcs hbl hc8 hy 
   go_wp2_with fail
   refine(vR pa qa pn pc qn qc y _ HQ1.out).mono ?_
   rintro e w1 ⟨ua,un,uc,ta,tn,tc,rfl,hq1,hb1⟩
   have hb2:=kH ((Below.refl wr.heap.size wr).alloc (Nat.le_refl _) _) hb1
   have hrow:=HR.out.1.holds fD.holds (w':=w1) (S':=From w.heap.size) (fun b hb hS=>⟨hb2.block b hb,hS⟩)
   have hfar:∀ b,(Value.slice va vn vc).ownBlock=some b→b<wr.heap.size+1:=fun b hb=>by have:=(HR.out.1.own hb).2;omega
   have hw1:w.heap.size≤w1.heap.size:=Nat.le_trans hwz hb2.size
   have hbw:=HR.out.2.trans (hb2.mono hwz)
   have HQ2:=hid (fD.holds.wider hq1 (S':=From (wr.heap.size+1)) (fun b _ hb=>by simpa [From]using hb))
   have HRW:=hid hrow
   have HFA:=hid hfar
   have HBW:=hid hbw
   have HTK:Hid ((xs.take k).length≤100000):=hid (by simp only[List.length_take];have:=HLN.out;omega)
   clear hb1 hb2 hq1 hrow hfar hbw HQ1
   go_wp2_with(at_builtin;refine cO w1 rfl _ _ 23 rfl 62 Tryz.underlying23 _ 2 48 Gh rfl (by decide) (by decide) fD.holds w.heap.size (.slice va vn vc) (xs.take k) rfl HRW.out hw1 _ 1 w1.heap.size rfl rfl rfl (by intro u hu;simp at hu;rcases hu with rfl|rfl<;>rfl) y (wr.heap.size+1) HQ2.out (by omega) HFA.out HTK.out ?_;intro va2 vn2 vc2 w2 hrow2 hb3)
   have HK':Hid (gW 62 2 fD w2 (From w.heap.size) (.slice va2 vn2 vc2) (xs.take (k+1))∧Below w.heap.size w w2):=hid ⟨by rw[List.take_succ_eq_append_getElem HKX.out,←HY.out];exact hrow2,HBW.out.trans hb3⟩
   clear hrow2 hb3 HRW HFA HBW HTK HQ2
   go_wp2_with fail
   go_roundw
   case rel=>exact⟨k+1,va2,vn2,vc2,by omega,by go_num,rfl,HK'⟩
   case measure=>simp[intOf];omega
  ·have HE:Hid (gW 62 2 fD wr (From w.heap.size) (.slice va vn vc) (xs)∧Below w.heap.size w wr):=hid (by have h:=HR.out;rw[List.take_of_length_le (by rw[←HL.out];omega)]at h;exact h)
   go_wp2_with fail
   go_ret
   exact⟨va,vn,vc,rfl,HE.out⟩
end Go.Proofs.YthjdeoppajlcoaaGreatDoor
