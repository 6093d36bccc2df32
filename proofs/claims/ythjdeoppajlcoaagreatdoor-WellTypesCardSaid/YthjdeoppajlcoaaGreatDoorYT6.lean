/- Layer 8: package dom's Above and Over; the blocks from which a way back goes to a head. -/
import Derived.Test.YthjdeoppajlcoaaGreatDoorYCodeCd
import Derived.Test.YthjdeoppajlcoaaGreatDoorYDomJ

namespace Go.Proofs.YthjdeoppajlcoaaGreatDoor
set_option linter.unusedSimpArgs false
set_option linter.unusedVariables false
open Go.RowKit (wrap64 intOf Below Hid)
open Go.Lib (hid)
set_option maxRecDepth 100000 in
theorem EW(r:Int)(a:Option Addr)(n c:Nat)(f:ak)(w:World)(hrow:gG aM 8 w (.slice a n c) f.blocks)(hn:n≤100000):
 Calls Tryz.prog 71 #[.agg #[.int .i64 r,.slice a n c]] w fun e w'=>∃ g UP m,e=.returned (.slice (some ⟨g,0,none⟩) n n)∧aj w' w.heap.size 3 (.slice (some ⟨g,0,none⟩) n n) UP∧fK (kJ f) (iH f) (plF f) n UP m∧Below w.heap.size w w':=by
 obtain⟨W1,hW1⟩:∃ W,w.alloc (.cells #[.int .i64 r,.slice a n c] 36)=W:=⟨_,rfl⟩
 have hb1:Below w.heap.size w W1:=by rw[←hW1];exact(Below.refl _ w).alloc (Nat.le_refl _) _
 have HB1:=hid hb1
 have CG:=hid (BP r a n c f W1 (hrow.since aM.lasts hb1) hn)
 have hc:∀ j,W1.cell? ⟨w.heap.size,j,none⟩=(#[.int .i64 r,.slice a n c]:Array Value)[j]? :=fun j=>by rw[←hW1];exact World.cell?_alloc_mark _ _ _ _ _
 have hc0:=hc 0
 have hc1:=hc 1
 clear hrow hb1 hc
 go_enter Tryz.func71,Tryz.ntmps71
 go_upto_region 1 with fail
 try rw[hW1]
 clear hW1
 go_wp2_with(go_at_call 104;refine CG.out.mono ?_;rintro e w2 ⟨p,g,Z,ov,gf,vs,rd,m,rfl,hG,_,hb⟩;have HG:=hid hG;have HB2:=hid hb;have c3:w2.cell? ⟨p,3,none⟩=some (.slice (some ⟨g 1,0,none⟩) n n):=(by simp[World.cell?,hG.at_.blk]);clear hG hb)
 go_ret
 exact⟨g 1,Z 1,m,rfl,(HG.out.at_.rows.own 1 (by omega)).mono HB1.out.size,HG.out.set,HB1.out.trans (HB2.out.mono HB1.out.size)⟩
theorem iN(W:World)(A B:Array Value)(S T:TypeId):(∀j,((W.alloc (.cells A S)).alloc (.cells B T)).cell? ⟨W.heap.size,j,none⟩=A[j]?)∧∀ j,((W.alloc (.cells A S)).alloc (.cells B T)).cell? ⟨W.heap.size+1,j,none⟩=B[j]? :=by
 constructor
 ·intro j
  rw[World.cell?_of_block (a:=⟨W.heap.size,j,none⟩) ((World.grownBy_alloc (W.alloc (.cells A S)) _ none).block W.heap.size (by simp) (fun e=>by cases e))]
  exact World.cell?_alloc_mark _ _ _ _ _
 ·intro j
  rw[show W.heap.size+1=(W.alloc (.cells A S)).heap.size by simp]
  exact World.cell?_alloc_mark _ _ _ _ _
theorem Gp(w:World)(b:Nat)(v0 v1 v2 v3 u0 u1 u2 u3:Value)(h0:w.cell? ⟨b,0,none⟩=some u0)(h1:w.cell? ⟨b,1,none⟩=some u1)(h2:w.cell? ⟨b,2,none⟩=some u2)(h3:w.cell? ⟨b,3,none⟩=some u3){U:World}(hU:((((w.setCell ⟨b,0,none⟩ v0).setCell ⟨b,1,none⟩ v1).setCell ⟨b,2,none⟩ v2).setCell ⟨b,3,none⟩ v3)=U):
 U.cell? ⟨b,0,none⟩=some v0∧U.cell? ⟨b,1,none⟩=some v1∧U.cell? ⟨b,2,none⟩=some v2∧U.cell? ⟨b,3,none⟩=some v3:=by
 have k:∀ (u:World) (i j:Nat) (v:Value),i≠j→(u.setCell ⟨b,i,none⟩ v).cell? ⟨b,j,none⟩=u.cell? ⟨b,j,none⟩:=fun u i j v h=>World.cell?_setCell_other _ _ _ _ (fun e=>h (by cases e;rfl))
 rw[←hU]
 refine⟨?_, ?_, ?_, ?_⟩
 ·rw[k _ 3 0 _ (by omega),k _ 2 0 _ (by omega),k _ 1 0 _ (by omega)]
  exact World.cell?_setCell_same _ _ _ h0
 ·rw[k _ 3 1 _ (by omega),k _ 2 1 _ (by omega)]
  exact World.cell?_setCell_same _ _ _ (by rw[k _ 0 1 _ (by omega)];exact h1)
 ·rw[k _ 3 2 _ (by omega)]
  exact World.cell?_setCell_same _ _ _ (by rw[k _ 1 2 _ (by omega),k _ 0 2 _ (by omega)];exact h2)
 ·exact World.cell?_setCell_same _ _ _ (by rw[k _ 2 3 _ (by omega),k _ 1 3 _ (by omega),k _ 0 3 _ (by omega)];exact h3)
def sw(r:Int)(a:Option Addr)(n c:Nat)(f:ak)(w:World)(e:Ending)(w':World):Prop:=
 ∃fa fc ua uc m UP,e=.returned (.agg #[.int .i64 r,.slice a n c,.slice fa (n+1) fc,.slice ua n uc])∧fM w' a n c f fa ua m UP∧Below w.heap.size w w'
set_option maxRecDepth 100000 in
set_option maxHeartbeats 2000000 in
theorem wM(r:Int)(a:Option Addr)(n c:Nat)(f:ak)(w:World)(hrow:gG aM 8 w (.slice a n c) f.blocks)(hn:n≤100000)(hv:aV f≤1099511627776):
 Calls Tryz.prog 42 #[.agg #[.int .i64 r,.slice a n c]] w (sw r a n c f w):=by
 obtain⟨W1,hW1⟩:∃ U,(w.alloc (.cells #[.int .i64 r,.slice a n c] 36)).alloc (.cells #[.int .i64 0,.slice none 0 0,.slice none 0 0,.slice none 0 0] 80)=U:=⟨_,rfl⟩
 have hb1:Below w.heap.size w W1:=by rw[←hW1];exact((Below.refl _ w).alloc (Nat.le_refl _) _).alloc (by simp) _
 have hs1:W1.heap.size=w.heap.size+2:=by rw[←hW1];simp
 have h2:=iN w #[.int .i64 r,.slice a n c] #[.int .i64 0,.slice none 0 0,.slice none 0 0,.slice none 0 0] 36 80
 rw[hW1]at h2
 obtain⟨hc,hd⟩:=h2
 have HB1:=hid hb1
 have HC:Hid (∀U,Below W1.heap.size W1 U→U.cell? ⟨w.heap.size,0,none⟩=some (.int .i64 r)∧U.cell? ⟨w.heap.size,1,none⟩=some (.slice a n c)):=hid fun U hU=>⟨(hU.cell (p:=⟨w.heap.size,0,none⟩) (by simp only[];omega)).trans (hc 0),(hU.cell (p:=⟨w.heap.size,1,none⟩) (by simp only[];omega)).trans (hc 1)⟩
 have HD:Hid (∀U,Below W1.heap.size W1 U→∀ j,U.cell? ⟨w.heap.size+1,j,none⟩=(#[.int .i64 0,.slice none 0 0,.slice none 0 0,.slice none 0 0]:Array Value)[j]?):=hid fun U hU j=>(hU.cell (p:=⟨w.heap.size+1,j,none⟩) (by simp only[];omega)).trans (hd j)
 have HFZ:Hid (∀U,Below W1.heap.size W1 U→∀ j,U.frozen? ⟨w.heap.size+1,j,none⟩=false):=hid fun U hU j=>by
  have hb:U.heap[w.heap.size+1]? =some (.cells #[.int .i64 0,.slice none 0 0,.slice none 0 0,.slice none 0 0] 80 (0,0)):=by
   rw[hU.block _ (by omega),←hW1]
   have e:=heap_alloc_new (w.alloc (.cells #[.int .i64 r,.slice a n c] 36)) (.cells #[.int .i64 0,.slice none 0 0,.slice none 0 0,.slice none 0 0] 80)
   simpa using e
  simp[World.frozen?,hb]
 have HR:=hid hrow
 have HV:=hid hv
 have HS:=hid hs1
 clear hrow hv hb1 hs1 hc hd
 go_enter Tryz.func42,Tryz.ntmps42
 go_upto_region 1 with fail
 try rw[hW1]
 clear hW1
 refine bM (S:=(fun u:World=>u.cell? ⟨w.heap.size,0,none⟩=some (.int .i64 r)∧u.cell? ⟨w.heap.size,1,none⟩=some (.slice a n c))) 6 (by kernel_rfl) (HC.out _ (below_drewN 1 (Below.refl _ _))) (fun hHeld=> ?_)
 refine zT 0 3 8 ?_
 (try simp only[Act.put,zA,zB,zC])
 refine zT 1 4 8 ?_
 (try simp only[Act.put,zA,zB,zC])
 refine zT 3 6 8 ?_
 (try simp only[Act.put,zA,zB,zC])
 refine aO (i:=2) (by kernel_rfl) rfl (fun K hK=> ?_)
 rw[if_pos (by rfl)]
 go_simp
 refine(pK r a n c f _ (HR.out.since aM.lasts (HB1.out.trans ((below_drewN 1 (Below.refl _ W1)).mono HB1.out.size))) hn HV.out).mono ?_
 rintro e w2 ⟨fa,fc,rfl,ho,hb⟩
 have hb2:Below W1.heap.size W1 w2:=(below_drewN 1 (Below.refl _ W1)).trans (hb.mono (Nat.le_refl _))
 have HO2:Hid (aj w2 W1.heap.size 3 (.slice fa (n+1) fc) (jM f)):=hid (ho.mono (Nat.le_refl _))
 have HB2:=hid hb2
 clear ho hb hb2
 refine hK.out _ _ (HC.out _ HB2.out) (fun hHeld=> ?_)
 clear hK K
 (try simp only[Act.put,zA,zB,zC])
 refine aO (i:=4) (by kernel_rfl) rfl (fun K hK=> ?_)
 rw[if_pos (by rfl)]
 go_simp
 refine(EW r a n c f _ (HR.out.since aM.lasts (HB1.out.trans (HB2.out.mono HB1.out.size))) hn).mono ?_
 rintro e w3 ⟨ga,UP,m,rfl,ho,hset,hb⟩
 have hb3:Below W1.heap.size W1 w3:=HB2.out.trans (hb.mono HB2.out.size)
 have HO3:Hid (aj w3 W1.heap.size 3 (.slice (some ⟨ga,0,none⟩) n n) UP):=hid (ho.mono HB2.out.size)
 have HO2B:Hid (aj w3 W1.heap.size 3 (.slice fa (n+1) fc) (jM f)):=hid (aj.below HO2.out hb)
 have HB3:=hid hb3
 have HSET:=hid hset
 clear ho hb hb3 hset
 refine hK.out _ _ (HC.out _ HB3.out) (fun hHeld=> ?_)
 clear hK K
 (try simp only[Act.put,zA,zB,zC])
 refine zW 5 8 ?_
 (try simp only[Act.put,zA,zB,zC])
 have x0:=HD.out w3 HB3.out 0
 have x1:=HD.out w3 HB3.out 1
 have x2:=HD.out w3 HB3.out 2
 have x3:=HD.out w3 HB3.out 3
 have z0:=HFZ.out w3 HB3.out 0
 have z1:=HFZ.out w3 HB3.out 1
 have z2:=HFZ.out w3 HB3.out 2
 have z3:=HFZ.out w3 HB3.out 3
 refine jE (i:=6) (by kernel_rfl) (by kernel_rfl) rfl (fun K hK=> ?_)
 rw[if_pos (by rfl)]
 go_simp
 refine hK.out _ _ ?_
 clear hK K
 (try simp only[Act.put,zA,zB,zC])
 refine bH (by kernel_rfl) ?_
 obtain⟨U4,hU4⟩:∃ u,((((w3.setCell ⟨w.heap.size+1,0,none⟩ (.int .i64 r)).setCell ⟨w.heap.size+1,1,none⟩ (.slice a n c)).setCell ⟨w.heap.size+1,2,none⟩ (.slice fa (n+1) fc)).setCell ⟨w.heap.size+1,3,none⟩ (.slice (some ⟨ga,0,none⟩) n n))=u:=⟨_,rfl⟩
 obtain⟨y0,y1,y2,y3⟩:=Gp _ _ _ _ _ _ _ _ _ _ (HD.out w3 HB3.out 0) (HD.out w3 HB3.out 1) (HD.out w3 HB3.out 2) (HD.out w3 HB3.out 3) hU4
 have hbU:Below w.heap.size w U4:=by rw[←hU4];exact((((HB1.out.trans (HB3.out.mono HB1.out.size)).setCell (p:=⟨w.heap.size+1,0,none⟩) (Nat.le_succ _) _).setCell (p:=⟨w.heap.size+1,1,none⟩) (Nat.le_succ _) _).setCell (p:=⟨w.heap.size+1,2,none⟩) (Nat.le_succ _) _).setCell (p:=⟨w.heap.size+1,3,none⟩) (Nat.le_succ _) _
 have hlt:w.heap.size+1<W1.heap.size:=by have:=HS.out;omega
 have hoF:aj U4 W1.heap.size 3 (.slice fa (n+1) fc) (jM f):=by rw[←hU4];exact(((HO2B.out.setCell ⟨w.heap.size+1,0,none⟩ _ hlt).setCell ⟨w.heap.size+1,1,none⟩ _ hlt).setCell ⟨w.heap.size+1,2,none⟩ _ hlt).setCell ⟨w.heap.size+1,3,none⟩ _ hlt
 have hoU:aj U4 W1.heap.size 3 (.slice (some ⟨ga,0,none⟩) n n) UP:=by rw[←hU4];exact(((HO3.out.setCell ⟨w.heap.size+1,0,none⟩ _ hlt).setCell ⟨w.heap.size+1,1,none⟩ _ hlt).setCell ⟨w.heap.size+1,2,none⟩ _ hlt).setCell ⟨w.heap.size+1,3,none⟩ _ hlt
 have HP:Hid (sw r a n c f w (.returned (.agg #[.int .i64 r,.slice a n c,.slice fa (n+1) fc,.slice (some ⟨ga,0,none⟩) n n])) U4):=hid ⟨fa,fc,some ⟨ga,0,none⟩,n,m,UP,rfl,⟨HR.out.since aM.lasts hbU,hoF.read,hoU.read,HSET.out,HV.out,hn⟩,hbU⟩
 rw[hU4]
 clear hU4 hbU hoF hoU hlt x0 x1 x2 x3 z0 z1 z2 z3
 go_wp2_with fail
 refine bodyPost_ret (v:=.agg #[.int .i64 r,.slice a n c,.slice fa (n+1) fc,.slice (some ⟨ga,0,none⟩) n n]) ?_ rfl HP.out
 simp[results,Tryz.results42,go_sem,y0,y1,y2,y3]
def eP(f:ak)(i:Nat):List Int:=aD f++((List.range i).filter fun(k:Nat)=> !inL (aD f) (k:Int)).map fun k=>((k:Nat):Int)
def fu(f:ak):List Int:=eP f f.blocks.length
theorem rz(f:ak):eP f 0=aD f:=by simp[eP]
theorem uJ{f:ak}{i:Nat}(h:inL (aD f) (i:Int)=true):eP f (i+1)=eP f i:=by
 unfold eP
 rw[List.range_succ,List.filter_append]
 simp[h]
theorem uI{f:ak}{i:Nat}(h:inL (aD f) (i:Int)=false):eP f (i+1)=eP f i++ [(i:Int)]:=by
 unfold eP
 rw[List.range_succ,List.filter_append,List.map_append,List.append_assoc]
 simp[h]
theorem nk(f:ak)(i:Nat):(eP f i).length≤(aD f).length+i:=by
 unfold eP
 rw[List.length_append,List.length_map]
 have:=List.length_filter_le (fun(k:Nat)=> !inL (aD f) ((k:Nat):Int)) (List.range i)
 rw[List.length_range]at this
 omega
structure si(w:World)(B g n:Nat)(f:ak)(v:Value)(i:Nat)(wr:World):Prop where
 own:aj wr B 3 v (eP f i)
 met:∀ j:Nat,j<n→wr.cell? ⟨g,j,none⟩=some (.bool (inL (aD f) (j:Int)))
 ne:∀ k,v.ownBlock=some k→k≠g
 lt:g<wr.heap.size
 le:B≤wr.heap.size
 below:Below w.heap.size w wr
theorem si.more{w:World}{B g n:Nat}{f:ak}{v v2:Value}{i:Nat}{wr w4:World}{C:Array Value}{e:TypeId}{z:Int}(h:si w B g n f v i wr)(hBw:w.heap.size≤B)(hE:eP f (i+1)=eP f i++ [z])(ho:aj w4 B 3 v2 (eP f i++ [z]))(hg:(wr.alloc (.cells C e)).grownBy w4 v.ownBlock)(hw:∀ k,v2.ownBlock=some k→v.ownBlock=some k∨wr.heap.size≤k):si w B g n f v2 (i+1) w4:=by
 have hsz:=hg.size
 have hal:(wr.alloc (.cells C e)).heap.size=wr.heap.size+1:=by simp
 refine⟨by rw[hE];exact ho,fun j hj=> ?_,fun k hk e'=> ?_,by have:=h.lt;omega,by have:=h.le;omega, ?_⟩
 ·exact hg.cell (a:=⟨g,j,none⟩) ((World.cell?_alloc_some _ ⟨g,j,none⟩ _ (by rw[h.met j hj];rfl)).trans (h.met j hj)) (fun e'=>h.ne g e'.symm rfl)
 ·rcases hw k hk with h1|h1
  ·exact h.ne k h1 e'
  ·have:=h.lt;omega
 ·exact Below.grown (h.below.alloc (by have:=h.le;omega) _) hg (by have:=h.le;omega) (fun k hk=>by have:=(h.own.lt k hk).1;omega)
def GX(f:ak)(w:World)(e:Ending)(w':World):Prop:=∃ va vn vc,e=.returned (.slice va vn vc)∧aj w' w.heap.size 3 (.slice va vn vc) (fu f)∧Below w.heap.size w w'
set_option maxRecDepth 100000 in
set_option maxHeartbeats 2000000 in
theorem uq(r:Int)(a:Option Addr)(n c:Nat)(f:ak)(w:World)(hrow:gG aM 8 w (.slice a n c) f.blocks)(hn:n≤100000):
 Calls Tryz.prog 36 #[.agg #[.int .i64 r,.slice a n c]] w (GX f w):=by
 obtain⟨W1,hW1⟩:∃ U,w.alloc (.cells #[.int .i64 r,.slice a n c] 36)=U:=⟨_,rfl⟩
 have hb1:Below w.heap.size w W1:=by rw[←hW1];exact(Below.refl _ w).alloc (Nat.le_refl _) _
 have hs1:W1.heap.size=w.heap.size+1:=by rw[←hW1];simp
 have hc:∀ j,W1.cell? ⟨w.heap.size,j,none⟩=(#[.int .i64 r,.slice a n c]:Array Value)[j]? :=fun j=>by rw[←hW1];exact World.cell?_alloc_mark _ _ _ _ _
 have hc0:=hc 0
 have hc1:=hc 1
 have HC:Hid (∀U,Below W1.heap.size W1 U→U.cell? ⟨w.heap.size,0,none⟩=some (.int .i64 r)∧U.cell? ⟨w.heap.size,1,none⟩=some (.slice a n c)):=hid fun U hU=>⟨(hU.cell (p:=⟨w.heap.size,0,none⟩) (by simp only[];omega)).trans (hc 0),(hU.cell (p:=⟨w.heap.size,1,none⟩) (by simp only[];omega)).trans (hc 1)⟩
 have HL:Hid (f.blocks.length=n):=hid (by obtain⟨_,_,_,e,h,_⟩:=hrow;cases e;exact h)
 have HR:=hid hrow
 have HB1:=hid hb1
 have HS1:=hid hs1
 have HN:=hid hn
 have hn2:n≤1099511627776:=by omega
 have CO:=hid (uY r a n c f W1 (hrow.since aM.lasts hb1) hn2)
 clear hrow hb1 hc hs1
 go_enter Tryz.func36,Tryz.ntmps36
 go_upto_region 1 with fail
 try rw[hW1]
 clear hW1
 go_upto_region 2 with(go_at_call 65;refine CO.out.mono ?_;rintro e w2 ⟨va,vn,vc,rfl,ho,hb⟩;have HO2:=hid ho;have HB2:=hid hb;obtain⟨d0,d1⟩:=HC.out w2 hb;clear ho hb hc0 hc1)
 have CR:=hid (p9 r a n c f w2 (HR.out.since aM.lasts (HB1.out.trans (HB2.out.mono HB1.out.size))) hn2)
 clear hn2
 go_upto_region 3 with(go_at_call 66;refine CR.out.mono ?_;rintro e w3 ⟨g,rfl,ho,hb⟩;have HO3:=hid ho;have HB3:=hid hb;clear ho hb)
 have hx:si w W1.heap.size g n f (.slice va vn vc) 0 w3:=by
  have hlt:=HO3.out.lt g rfl
  have h2:=HB2.out.size
  have h3:=HB3.out.size
  refine⟨by rw[rz];exact aj.below HO2.out HB3.out,fun j hj=> ?_,fun k hk e=> ?_,hlt.2,by omega,(HB1.out.trans (HB2.out.mono HB1.out.size)).trans (HB3.out.mono (by have:=HB1.out.size;omega))⟩
  ·have h:=World.ownsRow.cells HO3.out (g:=g) rfl j (.bool (inL (aD f) (j:Int))) (by rw[lN hj];rfl)
   rw[aU,Nat.zero_add]at h
   exact h
  ·have:=(HO2.out.lt k hk).2
   omega
 have HX:=hid hx
 clear hx d0 d1
 go_loopw[3,11] (fun v3 v11 wr=>∃ (i:Nat) (va:Option Addr) (vn vc:Nat),i≤n∧v3=.slice va vn vc∧v11=.int .i64 (i:Int)∧Hid (si w W1.heap.size g n f (.slice va vn vc) i wr)) (fun _ iv _=>n-(intOf iv).toNat)
 case atStart=>exact⟨0,_,_,_,Nat.zero_le _,rfl,rfl,HX⟩
 case round=>
  obtain⟨i,xa,xn,xc,hi,rfl,rfl,HI⟩:=hrel
  by_cases hlt:i<n
  ·have hltz:(i:Int)<(n:Int):=by omega
   have hi0:(0:Int)≤(i:Int):=by omega
   have hm:=HI.out.met i hlt
   cases hb:inL (aD f) (i:Int)with
   |true=>
    rw[hb]at hm
    have HE:=hid (uJ hb)
    clear hb
    go_wp2_with fail
    go_roundw
    case rel=>exact⟨i+1,_,_,_,hlt,rfl,by go_num,hid ⟨by rw[HE.out];exact HI.out.own,HI.out.met,HI.out.ne,HI.out.lt,HI.out.le,HI.out.below⟩⟩
    case measure=>simp[intOf];omega
   |false=>
    rw[hb]at hm
    have HE:=hid (uI hb)
    have HLN:Hid (((eP f i).length+1)*8≤140737488355328):=hid (by
     have h1:=nk f i
     have h2:=dZ f
     have h3:=HL.out
     have h4:=HN.out
     omega)
    clear hb
    go_wp2_with((with_reducible refine jm _ rfl _ _ 40 rfl 3 Tryz.underlying40 aT W1.heap.size (.slice xa xn xc) (eP f i) ?_ ?_ ?_ _ 1 wr.heap.size (i:Int) ?_ ?_ ?_ ?_ ?_);(next=>rfl);(next=>exact HI.out.own);(next=>exact HI.out.le);(next=>rfl);(next=>rfl);(next=>rfl);(next=>exact HLN.out);intro ya yn yc w4 ho4 hg4 hw4;have HX4:Hid (si w W1.heap.size g n f (.slice ya yn yc) (i+1) w4):=hid (HI.out.more HB1.out.size HE.out ho4 hg4 hw4);clear ho4 hg4 hw4)
    go_roundw
    case rel=>exact⟨i+1,_,_,_,hlt,rfl,by go_num,HX4⟩
    case measure=>simp[intOf];omega
  ·obtain rfl:i=n:=by omega
   have hnn:¬ (i:Int)<(i:Int):=by omega
   have HE:Hid (eP f i=fu f):=hid (by unfold fu;rw[HL.out])
   go_wp2_with fail
   go_ret
   exact⟨xa,xn,xc,rfl,by rw[←HE.out];exact HI.out.own.mono (by have:=HS1.out;omega),HI.out.below⟩
def sj(m:Nat)(P:aB)(w:World)(e:Ending)(w':World):Prop:=∃ b:Bool,e=.returned (.bool b)∧(b=true→zh P≤m)∧Below w.heap.size w w'
set_option maxRecDepth 100000 in
set_option maxHeartbeats 16000000 in
theorem Ay(
 m:Nat) (hm:m≤100000) (g off:Nat) (sa:Option Addr) (sn sc:Nat) (ca:Option Addr) (cn cc:Nat) (fa:Option Addr) (fn fc:Nat) (P:aB) (w:World) (hg:g<w.heap.size)
 (hc0:w.cell? ⟨g,off,none⟩=some (.slice sa sn sc)) (hc1:w.cell? ⟨g,off+1,none⟩=some (.slice ca cn cc)) (hc2:w.cell? ⟨g,off+2,none⟩=some (.slice fa fn fc))
 (hP:oZ w [.slice sa sn sc,.slice ca cn cc,.slice fa fn fc] P):
 Calls Tryz.prog 8 #[.pointer (some ⟨g,off,none⟩),.int .i64 (m:Int)] w (sj m P w):=by
 obtain⟨_,_,_,he,hS,hC,hF⟩:=hP
 simp only[List.cons.injEq,and_true]at he
 obtain⟨rfl,rfl,rfl⟩:=he
 obtain⟨hsl,hsm⟩:=jH hS
 obtain⟨hcl,hcm⟩:=jH hC
 obtain⟨hfl,hfm⟩:=jH hF
 have HS:=hid hS
 have HC:=hid hC
 have HF:=hid hF
 have HSL:=hid hsl
 have HCL:=hid hcl
 have HFL:=hid hfl
 clear hS hC hF hsl hcl hfl
 go_enter Tryz.func8,Tryz.ntmps8
 go_wp2_with fail
 go_quiet (fail)
 go_wp2_with fail
 go_loopw[5,6] (fun nv iv wr=>∃ n i:Nat,i≤sn∧Hid (sn+cn+fn+lH pSig (P.sigs.take i)≤n)∧n≤1000000000000000∧nv=.int .i64 (n:Int)∧iv=.int .i64 (i:Int)∧∃ q,wr=w.drewN q) (fun _ iv _=>sn-(intOf iv).toNat)
 case atStart=>exact⟨sn+cn+fn,0,Nat.zero_le _,hid (by simp[lH]),by omega,by go_num,rfl,_,rfl⟩
 case round=>
  obtain⟨n,i,hi,hn0,hn1,rfl,rfl,q,rfl⟩:=hrel
  by_cases hlt:i<sn
  ·by_cases hn4:n≤m
   ·have hn4':(n:Int)≤(m:Int):=by omega
    obtain⟨g1,o1,rfl,hg1,hcs1⟩:=mD HS.out (by omega)
    have hi1:i<P.sigs.length:=by rw[HSL.out];exact hlt
    obtain⟨cs1,hc21,hcell1,hq1⟩:=hcs1 i hi1
    obtain⟨v1,rfl,⟨pa,pn,pc,rfl,hpat,_,hpm,_⟩,_⟩:=hq1
    have hd0:=hcell1 0 (by simp)
    simp only[Nat.add_zero,List.getElem_cons_zero]at hd0
    have HPA:Hid (pSig P.sigs[i]=pn):=hid hpat.1
    clear hcell1 hcs1 hpat
    go_wp2_with fail
    go_roundw
    case rel=>exact⟨n+pn,i+1,by omega,hid (by rw[jG _ hi1];have h1:=hn0.out;have h2:=HPA.out;omega),by omega,by go_num,by go_num,_,rfl⟩
    case measure=>simp[intOf];omega
   ·have hn4':¬ (n:Int)≤(m:Int):=by omega
    go_wp2_with fail
    go_loopw[5,7] (fun nv iv wr=>nv=.int .i64 (n:Int)∧iv=.int .i64 0∧∃ q,wr=w.drewN q) (fun _ _ _=>0)
    case atStart=>exact⟨rfl,rfl,_,rfl⟩
    case round=>
     obtain⟨rfl,rfl,q,rfl⟩:=hrel
     by_cases hlt2:0<cn
     ·go_wp2_with fail
      go_loopw[5,8] (fun nv iv wr=>nv=.int .i64 (n:Int)∧iv=.int .i64 0∧∃ q,wr=w.drewN q) (fun _ _ _=>0)
      case atStart=>exact⟨rfl,rfl,_,rfl⟩
      case round=>
       obtain⟨rfl,rfl,q,rfl⟩:=hrel
       by_cases hlt3:0<fn
       ·go_wp2_with fail
        go_ret
        exact⟨_,rfl,fun h=>absurd h (by first|(simp;done)|(simp;omega)),below_drewN _ (Below.refl _ _)⟩
       ·obtain rfl:fn=0:=by omega
        go_wp2_with fail
        go_ret
        exact⟨_,rfl,fun h=>absurd h (by first|(simp;done)|(simp;omega)),below_drewN _ (Below.refl _ _)⟩
     ·obtain rfl:cn=0:=by omega
      go_wp2_with fail
      go_loopw[5,8] (fun nv iv wr=>nv=.int .i64 (n:Int)∧iv=.int .i64 0∧∃ q,wr=w.drewN q) (fun _ _ _=>0)
      case atStart=>exact⟨rfl,rfl,_,rfl⟩
      case round=>
       obtain⟨rfl,rfl,q,rfl⟩:=hrel
       by_cases hlt3:0<fn
       ·go_wp2_with fail
        go_ret
        exact⟨_,rfl,fun h=>absurd h (by first|(simp;done)|(simp;omega)),below_drewN _ (Below.refl _ _)⟩
       ·obtain rfl:fn=0:=by omega
        go_wp2_with fail
        go_ret
        exact⟨_,rfl,fun h=>absurd h (by first|(simp;done)|(simp;omega)),below_drewN _ (Below.refl _ _)⟩
  ·have HN1:Hid (sn+cn+fn+lH pSig P.sigs≤n):=hid (by have h1:=hn0.out;rwa [List.take_of_length_le (by rw[HSL.out];omega)]at h1)
   go_wp2_with fail
   go_loopw[5,7] (fun nv iv wr=>∃ n i:Nat,i≤cn∧Hid (sn+cn+fn+lH pSig P.sigs+lH pCls (P.classes.take i)≤n)∧n≤1000000000000000∧nv=.int .i64 (n:Int)∧iv=.int .i64 (i:Int)∧∃ q,wr=w.drewN q) (fun _ iv _=>cn-(intOf iv).toNat)
   case atStart=>exact⟨n,0,Nat.zero_le _,hid (by have:=HN1.out;simpa [lH]using this),by omega,rfl,rfl,_,rfl⟩
   case round=>
    clear hi hn0 hn1
    obtain⟨n,i,hi,hn0,hn1,rfl,rfl,q,rfl⟩:=hrel
    by_cases hlt:i<cn
    ·by_cases hn4:n≤m
     ·have hn4':(n:Int)≤(m:Int):=by omega
      obtain⟨g1,o1,rfl,hg1,hcs1⟩:=mD HC.out (by omega)
      have hi1:i<P.classes.length:=by rw[HCL.out];exact hlt
      obtain⟨cs1,hc21,hcell1,hq1⟩:=hcs1 i hi1
      obtain⟨v1,v2,rfl,⟨pa,pn,pc,rfl,hpat,_,hpm,_⟩,⟨ma,mn,mc,rfl,hmat,_,hmm,_⟩⟩:=hq1
      have hd0:=hcell1 0 (by simp)
      have hd1:=hcell1 1 (by simp)
      simp only[Nat.add_zero,List.getElem_cons_zero,List.getElem_cons_succ]at hd0 hd1
      have HPA:Hid (pCls P.classes[i]=pn+mn):=hid (by unfold pCls;rw[hpat.1,hmat.1])
      clear hcell1 hcs1 hpat hmat
      go_wp2_with fail
      go_quiet (fail)
      go_wp2_with fail
      go_roundw
      case rel=>exact⟨n+pn+mn,i+1,by omega,hid (by rw[jG _ hi1];have h1:=hn0.out;have h2:=HPA.out;omega),by omega,by go_num,by go_num,_,rfl⟩
      case measure=>simp[intOf];omega
     ·have hn4':¬ (n:Int)≤(m:Int):=by omega
      go_wp2_with fail
      go_loopw[5,8] (fun nv iv wr=>nv=.int .i64 (n:Int)∧iv=.int .i64 0∧∃ q,wr=w.drewN q) (fun _ _ _=>0)
      case atStart=>exact⟨rfl,rfl,_,rfl⟩
      case round=>
       obtain⟨rfl,rfl,q,rfl⟩:=hrel
       by_cases hlt3:0<fn
       ·go_wp2_with fail
        go_ret
        exact⟨_,rfl,fun h=>absurd h (by first|(simp;done)|(simp;omega)),below_drewN _ (Below.refl _ _)⟩
       ·obtain rfl:fn=0:=by omega
        go_wp2_with fail
        go_ret
        exact⟨_,rfl,fun h=>absurd h (by first|(simp;done)|(simp;omega)),below_drewN _ (Below.refl _ _)⟩
    ·have HN2:Hid (sn+cn+fn+lH pSig P.sigs+lH pCls P.classes≤n):=hid (by have h1:=hn0.out;rwa [List.take_of_length_le (by rw[HCL.out];omega)]at h1)
     go_wp2_with fail
     go_loopw[5,8] (fun nv iv wr=>∃ n i:Nat,i≤fn∧0≤n∧n≤1000000000000000∧nv=.int .i64 (n:Int)∧iv=.int .i64 (i:Int)∧Hid ((n≤m→sn+cn+fn+lH pSig P.sigs+lH pCls P.classes+lH uV (P.funcs.take i)≤n)∧Below w.heap.size w wr)) (fun _ iv _=>fn-(intOf iv).toNat)
     case atStart=>exact⟨n,0,Nat.zero_le _,by omega,by omega,rfl,rfl,hid ⟨fun _=>by have:=HN2.out;simpa [lH]using this,below_drewN _ (Below.refl _ _)⟩⟩
     case round=>
      clear hi hn0 hn1
      obtain⟨n,i,hi,hn0,hn1,rfl,rfl,HI⟩:=hrel
      have hb0:=(HI.out.2.cell (p:=⟨g,off,none⟩) hg).trans hc0
      have hb1:=(HI.out.2.cell (p:=⟨g,off+1,none⟩) hg).trans hc1
      have hb2:=(HI.out.2.cell (p:=⟨g,off+2,none⟩) hg).trans hc2
      by_cases hlt:i<fn
      ·by_cases hn4:n≤m
       ·have hn4':(n:Int)≤(m:Int):=by omega
        obtain⟨g1,o1,rfl,hg1,hcs1⟩:=mD (HF.out.since bO.lasts HI.out.2) (by omega)
        have hi1:i<P.funcs.length:=by rw[HFL.out];exact hlt
        obtain⟨cs1,hc21,hcell1,hq1⟩:=hcs1 i hi1
        obtain⟨X,hX⟩:∃ X,X=P.funcs[i]:=⟨_,rfl⟩
        rw[←hX]at hq1
        obtain⟨v1,rfl,_,hrow⟩:=hq1
        obtain⟨ba,bn,bc,rfl,hbl,_⟩:=id hrow
        have hbm:=(jH hrow).2
        have hd1:=hcell1 1 (by simp)
        simp only[List.getElem_cons_zero,List.getElem_cons_succ]at hd1
        have HR:=hid hrow
        have HX:=hid hX
        have HBL:=hid hbl
        clear hcell1 hcs1 hrow hX hbl hc21
        go_wp2_with fail
        obtain⟨w3,rfl⟩:∃ u,u=wr:=⟨wr,rfl⟩
        go_loopw[5,9] (fun nv kv wk=>∃ n2 k:Nat,k≤bn∧n+bn≤n2∧n2≤1000000000000000∧nv=.int .i64 (n2:Int)∧kv=.int .i64 (k:Int)∧Hid ((n2≤m→n+bn+lH oI (X.blocks.take k)≤n2)∧Below w3.heap.size w3 wk)) (fun _ kv _=>bn-(intOf kv).toNat)
        case atStart=>exact⟨n+bn,0,Nat.zero_le _,Nat.le_refl _,by omega,by go_num,rfl,hid ⟨fun _=>by simp[lH],Below.refl _ _⟩⟩
        case round=>
         obtain⟨n2,k,hk,hk0,hk9,rfl,rfl,HK⟩:=hrel
         have hw0:g<w3.heap.size:=Nat.lt_of_lt_of_le hg HI.out.2.size
         have hf2:=(HK.out.2.cell (p:=⟨g,off+2,none⟩) hw0).trans hb2
         have hfd:=(HK.out.2.cell (p:=⟨g1,o1+i*2+1,none⟩) hg1).trans hd1
         by_cases hlk:k<bn
         ·by_cases hn5:n2≤m
          ·have hn5':(n2:Int)≤(m:Int):=by omega
           obtain⟨g2,o2,rfl,hg2,hcs2⟩:=mD (HR.out.since aM.lasts HK.out.2) (by omega)
           have hk1:k<X.blocks.length:=by rw[HBL.out];exact hlk
           obtain⟨cs2,hc82,hcell2,hbq2⟩:=hcs2 k hk1
           obtain⟨Y,hY⟩:∃ Y,Y=X.blocks[k]:=⟨_,rfl⟩
           rw[←hY]at hbq2
           obtain⟨pa,pn,pc,oa,on,oc,la,ln,lc,ma,mn,mc,rfl,hon⟩:=hbq2.form
           have hpm:=hbq2.params.2
           have hom:=(jH hbq2.ops).2
           have hlm:ln≤140737488351232:=by obtain⟨_,_,e,_,_,_,_,⟨_,_,_,rfl,_,_,h,_⟩,_⟩:=hbq2.fin;simp only[List.cons.injEq,Value.slice.injEq]at e;omega
           have hmm:mn≤140737488351232:=by obtain⟨_,_,e,_,_,_,_,_,⟨_,_,_,rfl,_,_,h,_⟩⟩:=hbq2.fin;simp only[List.cons.injEq,Value.slice.injEq]at e;omega
           have hd10:=hcell2 0 (by simp)
           have hd11:=hcell2 1 (by simp)
           have hd12:=hcell2 2 (by simp)
           have hd13:=hcell2 3 (by simp)
           have hd14:=hcell2 4 (by simp)
           have hd15:=hcell2 5 (by simp)
           have hd16:=hcell2 6 (by simp)
           have hd17:=hcell2 7 (by simp)
           simp only[Nat.add_zero,List.getElem_cons_zero,List.getElem_cons_succ]at hd10 hd11 hd12 hd13 hd14 hd15 hd16 hd17
           have hll:Y.fin.L.length=ln:=by obtain⟨_,_,e,_,_,_,_,⟨_,_,_,rfl,hat,_⟩,_⟩:=hbq2.fin;simp only[List.cons.injEq,Value.slice.injEq]at e;have:=hat.1;omega
           have hml:Y.fin.M.length=mn:=by obtain⟨_,_,e,_,_,_,_,_,⟨_,_,_,rfl,hat,_⟩⟩:=hbq2.fin;simp only[List.cons.injEq,Value.slice.injEq]at e;have:=hat.1;omega
           have HPB:Hid (oI X.blocks[k]=pn+on+ln+mn+lH pOp Y.ops):=hid (by rw[←hY];unfold oI;rw[hbq2.params.1.1,hon,hll,hml])
           clear hll hml
           have HOY:=hid hbq2.ops
           have HYL:=hid hon
           have HY:=hid hY
           clear hcell2 hcs2 hbq2 hY hon hc82
           go_wp2_with fail
           have hal:Below wr.heap.size wr (wr.alloc (.cells #[.slice pa pn pc,.slice oa on oc,.int .i64 Y.fin.K,.int .i64 Y.fin.A,.int .i64 Y.fin.To,.int .i64 Y.fin.Else,.slice la ln lc,.slice ma mn mc] 51)):=(Below.refl _ _).alloc (Nat.le_refl _) _
           have hblk:=heap_alloc_new wr (.cells #[.slice pa pn pc,.slice oa on oc,.int .i64 Y.fin.K,.int .i64 Y.fin.A,.int .i64 Y.fin.To,.int .i64 Y.fin.Else,.slice la ln lc,.slice ma mn mc] 51)
           obtain⟨w4,rfl⟩:∃ u,u=wr:=⟨wr,rfl⟩
           generalize (w4.alloc (.cells #[.slice pa pn pc,.slice oa on oc,.int .i64 Y.fin.K,.int .i64 Y.fin.A,.int .i64 Y.fin.To,.int .i64 Y.fin.Else,.slice la ln lc,.slice ma mn mc] 51))=wy at hal hblk⊢
           have hby1:wy.cell? ⟨w4.heap.size,1,none⟩=some (.slice oa on oc):=by simp[World.cell?,hblk]
           have hby:w4.heap.size<wy.heap.size:=(Array.getElem?_eq_some_iff.1 hblk).1
           have HBY:=hid hal
           clear hal hblk hd10 hd11 hd12 hd13 hd14 hd15 hd16 hd17
           go_loopw[5,11] (fun nv jv wj=>∃ n3 j:Nat,j≤on∧Hid (n2+pn+on+ln+mn+lH pOp (Y.ops.take j)≤n3)∧n2≤n3∧n3≤1000000000000000∧nv=.int .i64 (n3:Int)∧jv=.int .i64 (j:Int)∧Hid (Below wy.heap.size wy wj)) (fun _ jv _=>on-(intOf jv).toNat)
           case atStart=>exact⟨n2+pn+on+ln+mn,0,Nat.zero_le _,hid (by simp[lH]),by omega,by omega,by go_num,rfl,hid (Below.refl _ _)⟩
           case round=>
            obtain⟨n3,j,hj,hj0,hj2,hj1,rfl,rfl,HJ⟩:=hrel
            have hy1:=(HJ.out.cell (p:=⟨w4.heap.size,1,none⟩) hby).trans hby1
            by_cases hlj:j<on
            ·by_cases hn6:n3≤m
             ·have hn6':(n3:Int)≤(m:Int):=by omega
              obtain⟨g3,o3,rfl,hg3,hcs3⟩:=mD ((HOY.out.since OpQ.lasts HBY.out).since OpQ.lasts HJ.out) (by omega)
              have hj9:j<Y.ops.length:=by rw[HYL.out];exact hlj
              obtain⟨cs3,hc83,hcell3,hoq3⟩:=hcs3 j hj9
              obtain⟨O,hO⟩:∃ O,O=Y.ops[j]:=⟨_,rfl⟩
              rw[←hO]at hoq3
              obtain⟨l3,rfl,_,_,_,_,_,hos,⟨la3,ln3,lc3,rfl,hlat,_,hlm,_⟩⟩:=hoq3
              have hm5:=hcell3 5 (by simp)
              have hm6:=hcell3 6 (by simp)
              simp only[List.getElem_cons_zero,List.getElem_cons_succ]at hm5 hm6
              have hq8:((O.S.size:Nat):Int).tdiv 8=((O.S.size/8:Nat):Int):=rfl
              have hs8:O.S.size/8≤140737488351232:=by omega
              have HPO:Hid (pOp Y.ops[j]=ln3+O.S.size/8):=hid (by rw[←hO];unfold pOp;rw[hlat.1])
              clear hcell3 hcs3 hlat hO hc83
              go_wp2_with fail
              go_quiet (fail)
              go_wp2_with fail
              go_roundw
              case rel=>exact⟨n3+ln3+O.S.size/8,j+1,by omega,hid (by rw[jG _ hj9];have h1:=hj0.out;have h2:=HPO.out;omega),by omega,by omega,by go_num,by go_num,hid (below_drewN _ HJ.out)⟩
              case measure=>simp[intOf];omega
             ·have hn6':¬ (n3:Int)≤(m:Int):=by omega
              go_wp2_with fail
              go_roundw
              case rel=>exact⟨n3,k+1,by omega,by omega,by omega,rfl,by go_num,hid ⟨fun h4=>absurd h4 hn6,kH HK.out.2 (kH HBY.out HJ.out)⟩⟩
              case measure=>simp[intOf];omega
            ·obtain rfl:j=on:=by omega
             go_wp2_with fail
             go_roundw
             case rel=>exact⟨n3,k+1,by omega,by omega,by omega,rfl,by go_num,hid ⟨fun h4=>by have h1:=hj0.out;rw[List.take_of_length_le (by rw[HYL.out];exact Nat.le_refl _)]at h1;have h2:=HK.out.1 (by omega);have h3:=HPB.out;rw[jG _ hk1];omega,kH HK.out.2 (kH HBY.out HJ.out)⟩⟩
             case measure=>simp[intOf];omega
          ·have hn5':¬ (n2:Int)≤(m:Int):=by omega
           go_wp2_with fail
           go_roundw
           case rel=>exact⟨n2,i+1,by omega,by omega,by omega,rfl,by go_num,hid ⟨fun h4=>absurd h4 hn5,kH HI.out.2 HK.out.2⟩⟩
           case measure=>simp[intOf];omega
         ·obtain rfl:k=bn:=by omega
          go_wp2_with fail
          go_roundw
          case rel=>exact⟨n2,i+1,by omega,by omega,by omega,rfl,by go_num,hid ⟨fun h4=>by have h1:=HI.out.1 hn4;have h2:=HK.out.1 h4;rw[List.take_of_length_le (by rw[HBL.out];exact Nat.le_refl _)]at h2;have h3:uV P.funcs[i]=k+lH oI X.blocks:=(by rw[←HX.out];unfold uV;rw[HBL.out]);rw[jG _ hi1];omega,kH HI.out.2 HK.out.2⟩⟩
          case measure=>simp[intOf];omega
       ·have hn4':¬ (n:Int)≤(m:Int):=by omega
        go_wp2_with fail
        go_ret
        exact⟨_,rfl,fun h=>absurd h (by first|(simp;done)|(simp;omega)),HI.out.2⟩
      ·obtain rfl:i=fn:=by omega
       go_wp2_with fail
       go_ret
       refine⟨_,rfl,fun h=> ?_,HI.out.2⟩
       have h4:n≤m:=by simp at h;omega
       have h1:=HI.out.1 h4
       rw[List.take_of_length_le (by rw[HFL.out];exact Nat.le_refl _)]at h1
       unfold zh
       have h2:=HSL.out
       have h3:=HCL.out
       have h5:=HFL.out
       omega
end Go.Proofs.YthjdeoppajlcoaaGreatDoor
