/- Layer 8: package dom's Above and Over; the blocks from which a way back goes to a head. -/
import Derived.Test.YtikoklagffbgiaaGreatDoorSCodeRm
import Derived.Test.YtikoklagffbgiaaGreatDoorSDomJ

namespace Go.Proofs.YtikoklagffbgiaaGreatDoor
open Go.RowKit (wrap64 intOf Below)
set_option linter.unusedVariables false
set_option linter.unusedSimpArgs false
section
variable {W W' : World} {f : FuncD} {B p n : Nat} {g : Nat → Nat} {Z : Nat → List Int} {ov : Value} {gf : Nat} {vs : List Value} {rd m : Nat}
theorem GrownSt.since(h:GrownSt W f B p n g Z ov gf vs rd m)(hb:Below W.heap.size W W'):GrownSt W' f B p n g Z ov gf vs rd m:=
 ⟨h.at_.since hb,h.len,h.vsl,h.place,h.set,h.over,h.pass⟩
theorem GrownSt.met(h:GrownSt W f B p n g Z ov gf vs rd m)(z:Int):Calls Tryz.prog 140 #[.pointer (some ⟨p,0,none⟩),.int .i64 z] W fun e w'=>e=.returned (.bool (metZ f z))∧w'=W:=by
 rw[←placed_met h.len h.place]
 exact dmet_any (gp:=g 0) (c:=n) (by simp[World.cell?,h.at_.blk]) (fun j hj=>h.at_.cell (i:=0) (by omega) hj) z
end
set_option maxRecDepth 100000 in
theorem above_any(r:Int)(a:Option Addr)(n c:Nat)(f:FuncD)(w:World)(hrow:RowV BlockQ 8 w (.slice a n c) f.blocks)(hn:n≤100000):
 Calls Tryz.prog 71 #[.agg #[.int .i64 r,.slice a n c]] w fun e w'=>∃ g UP m,e=.returned (.slice (some ⟨g,0,none⟩) n n)∧OwnsI w' w.heap.size 3 (.slice (some ⟨g,0,none⟩) n n) UP∧Settled (EdgeF f) (MetF f) (plF f) n UP m∧Below w.heap.size w w':=by
 obtain⟨W1,hW1⟩:∃ W,w.alloc (.cells #[.int .i64 r,.slice a n c] 36)=W:=⟨_,rfl⟩
 have hb1:Below w.heap.size w W1:=by rw[←hW1];exact(Below.refl _ w).alloc (Nat.le_refl _) _
 have HB1:=Lib.hid hb1
 have CG:=Lib.hid (dgrown_any r a n c f W1 (hrow.since BlockQ.lasts hb1) hn)
 have hc:∀ j,W1.cell? ⟨w.heap.size,j,none⟩=(#[.int .i64 r,.slice a n c]:Array Value)[j]? :=fun j=>by rw[←hW1];exact World.cell?_alloc_mark _ _ _ _ _
 have hc0:=hc 0
 have hc1:=hc 1
 clear hrow hb1 hc
 go_enter Tryz.func71,Tryz.ntmps71
 go_upto_region 1 with fail
 try rw[hW1]
 clear hW1
 go_wp2_with(go_at_call 104;refine CG.out.mono ?_;rintro e w2 ⟨p,g,Z,ov,gf,vs,rd,m,rfl,hG,_,hb⟩;have HG:=Lib.hid hG;have HB2:=Lib.hid hb;have c3:w2.cell? ⟨p,3,none⟩=some (.slice (some ⟨g 1,0,none⟩) n n):=(by simp[World.cell?,hG.at_.blk]);clear hG hb)
 go_ret
 exact⟨g 1,Z 1,m,rfl,(HG.out.at_.rows.own 1 (by omega)).mono HB1.out.size,HG.out.set,HB1.out.trans (HB2.out.mono HB1.out.size)⟩
end Go.Proofs.YtikoklagffbgiaaGreatDoor

namespace Go.Proofs.YtikoklagffbgiaaGreatDoor
set_option linter.unusedSimpArgs false
set_option linter.unusedVariables false
open Go.RowKit (wrap64 intOf Below Hid)
open Go.Lib (hid)
theorem two_new_cells(W:World)(A B:Array Value)(S T:TypeId):(∀j,((W.alloc (.cells A S)).alloc (.cells B T)).cell? ⟨W.heap.size,j,none⟩=A[j]?)∧∀ j,((W.alloc (.cells A S)).alloc (.cells B T)).cell? ⟨W.heap.size+1,j,none⟩=B[j]? :=by
 constructor
 ·intro j
  rw[World.cell?_of_block (a:=⟨W.heap.size,j,none⟩) ((World.grownBy_alloc (W.alloc (.cells A S)) _ none).block W.heap.size (by simp) (fun e=>by cases e))]
  exact World.cell?_alloc_mark _ _ _ _ _
 ·intro j
  rw[show W.heap.size+1=(W.alloc (.cells A S)).heap.size by simp]
  exact World.cell?_alloc_mark _ _ _ _ _
theorem four_set(w:World)(b:Nat)(v0 v1 v2 v3 u0 u1 u2 u3:Value)(h0:w.cell? ⟨b,0,none⟩=some u0)(h1:w.cell? ⟨b,1,none⟩=some u1)(h2:w.cell? ⟨b,2,none⟩=some u2)(h3:w.cell? ⟨b,3,none⟩=some u3){U:World}(hU:((((w.setCell ⟨b,0,none⟩ v0).setCell ⟨b,1,none⟩ v1).setCell ⟨b,2,none⟩ v2).setCell ⟨b,3,none⟩ v3)=U):
 U.cell? ⟨b,0,none⟩=some v0∧U.cell? ⟨b,1,none⟩=some v1∧U.cell? ⟨b,2,none⟩=some v2∧U.cell? ⟨b,3,none⟩=some v3:=by
 have k:∀ (u:World) (i j:Nat) (v:Value),i≠j→(u.setCell ⟨b,i,none⟩ v).cell? ⟨b,j,none⟩=u.cell? ⟨b,j,none⟩:=fun u i j v h=>World.cell?_setCell_other _ _ _ _ (fun e=>h (by cases e;rfl))
 rw[←hU]
 refine⟨?_, ?_, ?_, ?_⟩
 ·rw[k _ 3 0 _ (by omega),k _ 2 0 _ (by omega),k _ 1 0 _ (by omega)]
  exact World.cell?_setCell_same _ _ _ h0
 ·rw[k _ 3 1 _ (by omega),k _ 2 1 _ (by omega)]
  exact World.cell?_setCell_same _ _ _ (by rw[k _ 0 1 _ (by omega)];exact h1)
 ·rw[k _ 3 2 _ (by omega)]
  exact World.cell?_setCell_same _ _ _ (by rw[k _ 1 2 _ (by omega),k _ 0 2 _ (by omega)];exact h2)
 ·exact World.cell?_setCell_same _ _ _ (by rw[k _ 2 3 _ (by omega),k _ 1 3 _ (by omega),k _ 0 3 _ (by omega)];exact h3)
def ScopedPost(r:Int)(a:Option Addr)(n c:Nat)(f:FuncD)(w:World)(e:Ending)(w':World):Prop:=
 ∃fa fc ua uc m UP,e=.returned (.agg #[.int .i64 r,.slice a n c,.slice fa (n+1) fc,.slice ua n uc])∧ScopeAt w' a n c f fa ua m UP∧Below w.heap.size w w'
set_option maxRecDepth 100000 in
set_option maxHeartbeats 2000000 in
theorem wscoped_any(r:Int)(a:Option Addr)(n c:Nat)(f:FuncD)(w:World)(hrow:RowV BlockQ 8 w (.slice a n c) f.blocks)(hn:n≤100000)(hv:valuesN f≤1099511627776):
 Calls Tryz.prog 42 #[.agg #[.int .i64 r,.slice a n c]] w (ScopedPost r a n c f w):=by
 obtain⟨W1,hW1⟩:∃ U,(w.alloc (.cells #[.int .i64 r,.slice a n c] 36)).alloc (.cells #[.int .i64 0,.slice none 0 0,.slice none 0 0,.slice none 0 0] 80)=U:=⟨_,rfl⟩
 have hb1:Below w.heap.size w W1:=by rw[←hW1];exact((Below.refl _ w).alloc (Nat.le_refl _) _).alloc (by simp) _
 have hs1:W1.heap.size=w.heap.size+2:=by rw[←hW1];simp
 have h2:=two_new_cells w #[.int .i64 r,.slice a n c] #[.int .i64 0,.slice none 0 0,.slice none 0 0,.slice none 0 0] 36 80
 rw[hW1]at h2
 obtain⟨hc,hd⟩:=h2
 have HB1:=hid hb1
 have HC:Hid (∀U,Below W1.heap.size W1 U→U.cell? ⟨w.heap.size,0,none⟩=some (.int .i64 r)∧U.cell? ⟨w.heap.size,1,none⟩=some (.slice a n c)):=hid fun U hU=>⟨(hU.cell (p:=⟨w.heap.size,0,none⟩) (by simp only[];omega)).trans (hc 0),(hU.cell (p:=⟨w.heap.size,1,none⟩) (by simp only[];omega)).trans (hc 1)⟩
 have HD:Hid (∀U,Below W1.heap.size W1 U→∀ j,U.cell? ⟨w.heap.size+1,j,none⟩=(#[.int .i64 0,.slice none 0 0,.slice none 0 0,.slice none 0 0]:Array Value)[j]?):=hid fun U hU j=>(hU.cell (p:=⟨w.heap.size+1,j,none⟩) (by simp only[];omega)).trans (hd j)
 have HFZ:Hid (∀U,Below W1.heap.size W1 U→∀ j,U.frozen? ⟨w.heap.size+1,j,none⟩=false):=hid fun U hU j=>by
  have hb:U.heap[w.heap.size+1]? =some (.cells #[.int .i64 0,.slice none 0 0,.slice none 0 0,.slice none 0 0] 80 (0,0)):=by
   rw[hU.block _ (by omega),←hW1]
   have e:=heap_alloc_new (w.alloc (.cells #[.int .i64 r,.slice a n c] 36)) (.cells #[.int .i64 0,.slice none 0 0,.slice none 0 0,.slice none 0 0] 80)
   simpa using e
  simp[World.frozen?,hb]
 have HR:=hid hrow
 have HV:=hid hv
 have HS:=hid hs1
 clear hrow hv hb1 hs1 hc hd
 go_enter Tryz.func42,Tryz.ntmps42
 go_upto_region 1 with fail
 try rw[hW1]
 clear hW1
 refine wp_region_T (S:=(fun u:World=>u.cell? ⟨w.heap.size,0,none⟩=some (.int .i64 r)∧u.cell? ⟨w.heap.size,1,none⟩=some (.slice a n c))) 6 (by kernel_rfl) (HC.out _ (below_drewN 1 (Below.refl _ _))) (fun hHeld=> ?_)
 refine wpAnyT_take (i:=0) (oi:=⟨some 3,_,_,_,_,_⟩) (v:= ?_) 8 rfl (by kernel_rfl) (by kernel_rfl) (by kernel_rfl) (by kernel_rfl) (by kernel_rfl) (fun _ _ _ h=>h) (Or.inl ⟨by rfl, ?_⟩) (by assumption) ?_
 rotate_left
 ·((intro w hSw;(try dsimp only at hSw);go_simp);try with_reducible rfl)
 (try simp only[Act.put,zA,zB,zC])
 refine wpAnyT_take (i:=1) (oi:=⟨some 4,_,_,_,_,_⟩) (v:= ?_) 8 rfl (by kernel_rfl) (by kernel_rfl) (by kernel_rfl) (by kernel_rfl) (by kernel_rfl) (fun _ _ _ h=>h) (Or.inl ⟨by rfl, ?_⟩) (by assumption) ?_
 rotate_left
 ·((intro w hSw;(try dsimp only at hSw);go_simp);try with_reducible rfl)
 (try simp only[Act.put,zA,zB,zC])
 refine wpAnyT_take (i:=3) (oi:=⟨some 6,_,_,_,_,_⟩) (v:= ?_) 8 rfl (by kernel_rfl) (by kernel_rfl) (by kernel_rfl) (by kernel_rfl) (by kernel_rfl) (fun _ _ _ h=>h) (Or.inl ⟨by rfl, ?_⟩) (by assumption) ?_
 rotate_left
 ·((intro w hSw;(try dsimp only at hSw);go_simp);try with_reducible rfl)
 (try simp only[Act.put,zA,zB,zC])
 refine wpAnyT_one (i:=2) (by kernel_rfl) rfl (fun K hK=> ?_)
 rw[if_pos (by rfl)]
 go_simp
 refine(wfirsts_any r a n c f _ (HR.out.since BlockQ.lasts (HB1.out.trans ((below_drewN 1 (Below.refl _ W1)).mono HB1.out.size))) hn HV.out).mono ?_
 rintro e w2 ⟨fa,fc,rfl,ho,hb⟩
 have hb2:Below W1.heap.size W1 w2:=(below_drewN 1 (Below.refl _ W1)).trans (hb.mono (Nat.le_refl _))
 have HO2:Hid (OwnsI w2 W1.heap.size 3 (.slice fa (n+1) fc) (firstL f)):=hid (ho.mono (Nat.le_refl _))
 have HB2:=hid hb2
 clear ho hb hb2
 refine hK.out _ _ (HC.out _ HB2.out) (fun hHeld=> ?_)
 clear hK K
 (try simp only[Act.put,zA,zB,zC])
 refine wpAnyT_one (i:=4) (by kernel_rfl) rfl (fun K hK=> ?_)
 rw[if_pos (by rfl)]
 go_simp
 refine(above_any r a n c f _ (HR.out.since BlockQ.lasts (HB1.out.trans (HB2.out.mono HB1.out.size))) hn).mono ?_
 rintro e w3 ⟨ga,UP,m,rfl,ho,hset,hb⟩
 have hb3:Below W1.heap.size W1 w3:=HB2.out.trans (hb.mono HB2.out.size)
 have HO3:Hid (OwnsI w3 W1.heap.size 3 (.slice (some ⟨ga,0,none⟩) n n) UP):=hid (ho.mono HB2.out.size)
 have HO2B:Hid (OwnsI w3 W1.heap.size 3 (.slice fa (n+1) fc) (firstL f)):=hid (OwnsI.below HO2.out hb)
 have HB3:=hid hb3
 have HSET:=hid hset
 clear ho hb hb3 hset
 refine hK.out _ _ (HC.out _ HB3.out) (fun hHeld=> ?_)
 clear hK K
 (try simp only[Act.put,zA,zB,zC])
 refine wpAnyT_takeW (i:=5) (oi:=⟨some 8,_,_,_,_,_⟩) (v:= ?_) rfl (by kernel_rfl) (by kernel_rfl) (by kernel_rfl) (fun _ _ _ h=>h) (Or.inl ⟨by rfl, ?_⟩) ?_
 rotate_left
 ·((intro w _;go_simp);try with_reducible rfl)
 (try simp only[Act.put,zA,zB,zC])
 have x0:=HD.out w3 HB3.out 0
 have x1:=HD.out w3 HB3.out 1
 have x2:=HD.out w3 HB3.out 2
 have x3:=HD.out w3 HB3.out 3
 have z0:=HFZ.out w3 HB3.out 0
 have z1:=HFZ.out w3 HB3.out 1
 have z2:=HFZ.out w3 HB3.out 2
 have z3:=HFZ.out w3 HB3.out 3
 refine wpAnyT_end (i:=6) (by kernel_rfl) (by kernel_rfl) rfl (fun K hK=> ?_)
 rw[if_pos (by rfl)]
 go_simp
 refine hK.out _ _ ?_
 clear hK K
 (try simp only[Act.put,zA,zB,zC])
 refine wpAnyT_done (by kernel_rfl) ?_
 obtain⟨U4,hU4⟩:∃ u,((((w3.setCell ⟨w.heap.size+1,0,none⟩ (.int .i64 r)).setCell ⟨w.heap.size+1,1,none⟩ (.slice a n c)).setCell ⟨w.heap.size+1,2,none⟩ (.slice fa (n+1) fc)).setCell ⟨w.heap.size+1,3,none⟩ (.slice (some ⟨ga,0,none⟩) n n))=u:=⟨_,rfl⟩
 obtain⟨y0,y1,y2,y3⟩:=four_set _ _ _ _ _ _ _ _ _ _ (HD.out w3 HB3.out 0) (HD.out w3 HB3.out 1) (HD.out w3 HB3.out 2) (HD.out w3 HB3.out 3) hU4
 have hbU:Below w.heap.size w U4:=by rw[←hU4];exact((((HB1.out.trans (HB3.out.mono HB1.out.size)).setCell (p:=⟨w.heap.size+1,0,none⟩) (Nat.le_succ _) _).setCell (p:=⟨w.heap.size+1,1,none⟩) (Nat.le_succ _) _).setCell (p:=⟨w.heap.size+1,2,none⟩) (Nat.le_succ _) _).setCell (p:=⟨w.heap.size+1,3,none⟩) (Nat.le_succ _) _
 have hlt:w.heap.size+1<W1.heap.size:=by have:=HS.out;omega
 have hoF:OwnsI U4 W1.heap.size 3 (.slice fa (n+1) fc) (firstL f):=by rw[←hU4];exact(((HO2B.out.setCell ⟨w.heap.size+1,0,none⟩ _ hlt).setCell ⟨w.heap.size+1,1,none⟩ _ hlt).setCell ⟨w.heap.size+1,2,none⟩ _ hlt).setCell ⟨w.heap.size+1,3,none⟩ _ hlt
 have hoU:OwnsI U4 W1.heap.size 3 (.slice (some ⟨ga,0,none⟩) n n) UP:=by rw[←hU4];exact(((HO3.out.setCell ⟨w.heap.size+1,0,none⟩ _ hlt).setCell ⟨w.heap.size+1,1,none⟩ _ hlt).setCell ⟨w.heap.size+1,2,none⟩ _ hlt).setCell ⟨w.heap.size+1,3,none⟩ _ hlt
 have HP:Hid (ScopedPost r a n c f w (.returned (.agg #[.int .i64 r,.slice a n c,.slice fa (n+1) fc,.slice (some ⟨ga,0,none⟩) n n])) U4):=hid ⟨fa,fc,some ⟨ga,0,none⟩,n,m,UP,rfl,⟨HR.out.since BlockQ.lasts hbU,hoF.read,hoU.read,HSET.out,HV.out,hn⟩,hbU⟩
 rw[hU4]
 clear hU4 hbU hoF hoU hlt x0 x1 x2 x3 z0 z1 z2 z3
 go_wp2_with fail
 refine bodyPost_ret (v:=.agg #[.int .i64 r,.slice a n c,.slice fa (n+1) fc,.slice (some ⟨ga,0,none⟩) n n]) ?_ rfl HP.out
 simp[results,Tryz.results42,go_sem,y0,y1,y2,y3]
def thruK(f:FuncD)(i:Nat):List Int:=orderL f++((List.range i).filter fun(k:Nat)=> !inL (orderL f) (k:Int)).map fun k=>((k:Nat):Int)
def thruL(f:FuncD):List Int:=thruK f f.blocks.length
theorem thruK_zero(f:FuncD):thruK f 0=orderL f:=by simp[thruK]
theorem thruK_met{f:FuncD}{i:Nat}(h:inL (orderL f) (i:Int)=true):thruK f (i+1)=thruK f i:=by
 unfold thruK
 rw[List.range_succ,List.filter_append]
 simp[h]
theorem thruK_not{f:FuncD}{i:Nat}(h:inL (orderL f) (i:Int)=false):thruK f (i+1)=thruK f i++ [(i:Int)]:=by
 unfold thruK
 rw[List.range_succ,List.filter_append,List.map_append,List.append_assoc]
 simp[h]
theorem thruK_len(f:FuncD)(i:Nat):(thruK f i).length≤(orderL f).length+i:=by
 unfold thruK
 rw[List.length_append,List.length_map]
 have:=List.length_filter_le (fun(k:Nat)=> !inL (orderL f) ((k:Nat):Int)) (List.range i)
 rw[List.length_range]at this
 omega
structure ThruSt(w:World)(B g n:Nat)(f:FuncD)(v:Value)(i:Nat)(wr:World):Prop where
 own:OwnsI wr B 3 v (thruK f i)
 met:∀ j:Nat,j<n→wr.cell? ⟨g,j,none⟩=some (.bool (inL (orderL f) (j:Int)))
 ne:∀ k,v.ownBlock=some k→k≠g
 lt:g<wr.heap.size
 le:B≤wr.heap.size
 below:Below w.heap.size w wr
theorem ThruSt.more{w:World}{B g n:Nat}{f:FuncD}{v v2:Value}{i:Nat}{wr w4:World}{C:Array Value}{e:TypeId}{z:Int}(h:ThruSt w B g n f v i wr)(hBw:w.heap.size≤B)(hE:thruK f (i+1)=thruK f i++ [z])(ho:OwnsI w4 B 3 v2 (thruK f i++ [z]))(hg:(wr.alloc (.cells C e)).grownBy w4 v.ownBlock)(hw:∀ k,v2.ownBlock=some k→v.ownBlock=some k∨wr.heap.size≤k):ThruSt w B g n f v2 (i+1) w4:=by
 have hsz:=hg.size
 have hal:(wr.alloc (.cells C e)).heap.size=wr.heap.size+1:=by simp
 refine⟨by rw[hE];exact ho,fun j hj=> ?_,fun k hk e'=> ?_,by have:=h.lt;omega,by have:=h.le;omega, ?_⟩
 ·exact hg.cell (a:=⟨g,j,none⟩) ((World.cell?_alloc_some _ ⟨g,j,none⟩ _ (by rw[h.met j hj];rfl)).trans (h.met j hj)) (fun e'=>h.ne g e'.symm rfl)
 ·rcases hw k hk with h1|h1
  ·exact h.ne k h1 e'
  ·have:=h.lt;omega
 ·exact Below.grown (h.below.alloc (by have:=h.le;omega) _) hg (by have:=h.le;omega) (fun k hk=>by have:=(h.own.lt k hk).1;omega)
def ThruPost(f:FuncD)(w:World)(e:Ending)(w':World):Prop:=∃ va vn vc,e=.returned (.slice va vn vc)∧OwnsI w' w.heap.size 3 (.slice va vn vc) (thruL f)∧Below w.heap.size w w'
set_option maxRecDepth 100000 in
set_option maxHeartbeats 2000000 in
theorem wthrough_any(r:Int)(a:Option Addr)(n c:Nat)(f:FuncD)(w:World)(hrow:RowV BlockQ 8 w (.slice a n c) f.blocks)(hn:n≤100000):
 Calls Tryz.prog 36 #[.agg #[.int .i64 r,.slice a n c]] w (ThruPost f w):=by
 obtain⟨W1,hW1⟩:∃ U,w.alloc (.cells #[.int .i64 r,.slice a n c] 36)=U:=⟨_,rfl⟩
 have hb1:Below w.heap.size w W1:=by rw[←hW1];exact(Below.refl _ w).alloc (Nat.le_refl _) _
 have hs1:W1.heap.size=w.heap.size+1:=by rw[←hW1];simp
 have hc:∀ j,W1.cell? ⟨w.heap.size,j,none⟩=(#[.int .i64 r,.slice a n c]:Array Value)[j]? :=fun j=>by rw[←hW1];exact World.cell?_alloc_mark _ _ _ _ _
 have hc0:=hc 0
 have hc1:=hc 1
 have HC:Hid (∀U,Below W1.heap.size W1 U→U.cell? ⟨w.heap.size,0,none⟩=some (.int .i64 r)∧U.cell? ⟨w.heap.size,1,none⟩=some (.slice a n c)):=hid fun U hU=>⟨(hU.cell (p:=⟨w.heap.size,0,none⟩) (by simp only[];omega)).trans (hc 0),(hU.cell (p:=⟨w.heap.size,1,none⟩) (by simp only[];omega)).trans (hc 1)⟩
 have HL:Hid (f.blocks.length=n):=hid (by obtain⟨_,_,_,e,h,_⟩:=hrow;cases e;exact h)
 have HR:=hid hrow
 have HB1:=hid hb1
 have HS1:=hid hs1
 have HN:=hid hn
 have hn2:n≤1099511627776:=by omega
 have CO:=hid (order_any r a n c f W1 (hrow.since BlockQ.lasts hb1) hn2)
 clear hrow hb1 hc hs1
 go_enter Tryz.func36,Tryz.ntmps36
 go_upto_region 1 with fail
 try rw[hW1]
 clear hW1
 go_upto_region 2 with(go_at_call 65;refine CO.out.mono ?_;rintro e w2 ⟨va,vn,vc,rfl,ho,hb⟩;have HO2:=hid ho;have HB2:=hid hb;obtain⟨d0,d1⟩:=HC.out w2 hb;clear ho hb hc0 hc1)
 have CR:=hid (reached_any r a n c f w2 (HR.out.since BlockQ.lasts (HB1.out.trans (HB2.out.mono HB1.out.size))) hn2)
 clear hn2
 go_upto_region 3 with(go_at_call 66;refine CR.out.mono ?_;rintro e w3 ⟨g,rfl,ho,hb⟩;have HO3:=hid ho;have HB3:=hid hb;clear ho hb)
 have hx:ThruSt w W1.heap.size g n f (.slice va vn vc) 0 w3:=by
  have hlt:=HO3.out.lt g rfl
  have h2:=HB2.out.size
  have h3:=HB3.out.size
  refine⟨by rw[thruK_zero];exact OwnsI.below HO2.out HB3.out,fun j hj=> ?_,fun k hk e=> ?_,hlt.2,by omega,(HB1.out.trans (HB2.out.mono HB1.out.size)).trans (HB3.out.mono (by have:=HB1.out.size;omega))⟩
  ·have h:=World.ownsRow.cells HO3.out (g:=g) rfl j (.bool (inL (orderL f) (j:Int))) (by rw[metVals_at hj];rfl)
   rw[addr_plain,Nat.zero_add]at h
   exact h
  ·have:=(HO2.out.lt k hk).2
   omega
 have HX:=hid hx
 clear hx d0 d1
 go_loopw[3,11] (fun v3 v11 wr=>∃ (i:Nat) (va:Option Addr) (vn vc:Nat),i≤n∧v3=.slice va vn vc∧v11=.int .i64 (i:Int)∧Hid (ThruSt w W1.heap.size g n f (.slice va vn vc) i wr)) (fun _ iv _=>n-(intOf iv).toNat)
 case atStart=>exact⟨0,_,_,_,Nat.zero_le _,rfl,rfl,HX⟩
 case round=>
  obtain⟨i,xa,xn,xc,hi,rfl,rfl,HI⟩:=hrel
  by_cases hlt:i<n
  ·have hltz:(i:Int)<(n:Int):=by omega
   have hi0:(0:Int)≤(i:Int):=by omega
   have hm:=HI.out.met i hlt
   cases hb:inL (orderL f) (i:Int)with
   |true=>
    rw[hb]at hm
    have HE:=hid (thruK_met hb)
    clear hb
    go_wp2_with fail
    go_roundw
    case rel=>exact⟨i+1,_,_,_,hlt,rfl,by go_num,hid ⟨by rw[HE.out];exact HI.out.own,HI.out.met,HI.out.ne,HI.out.lt,HI.out.le,HI.out.below⟩⟩
    case measure=>simp[intOf];omega
   |false=>
    rw[hb]at hm
    have HE:=hid (thruK_not hb)
    have HLN:Hid (((thruK f i).length+1)*8≤140737488355328):=hid (by
     have h1:=thruK_len f i
     have h2:=order_len f
     have h3:=HL.out
     have h4:=HN.out
     omega)
    clear hb
    go_wp2_with((with_reducible refine wpList_append_numW _ rfl _ _ 40 rfl 3 Tryz.underlying40 info_int W1.heap.size (.slice xa xn xc) (thruK f i) ?_ ?_ ?_ _ 1 wr.heap.size (i:Int) ?_ ?_ ?_ ?_ ?_);(next=>rfl);(next=>exact HI.out.own);(next=>exact HI.out.le);(next=>rfl);(next=>rfl);(next=>rfl);(next=>exact HLN.out);intro ya yn yc w4 ho4 hg4 hw4;have HX4:Hid (ThruSt w W1.heap.size g n f (.slice ya yn yc) (i+1) w4):=hid (HI.out.more HB1.out.size HE.out ho4 hg4 hw4);clear ho4 hg4 hw4)
    go_roundw
    case rel=>exact⟨i+1,_,_,_,hlt,rfl,by go_num,HX4⟩
    case measure=>simp[intOf];omega
  ·obtain rfl:i=n:=by omega
   have hnn:¬ (i:Int)<(i:Int):=by omega
   have HE:Hid (thruK f i=thruL f):=hid (by unfold thruL;rw[HL.out])
   go_wp2_with fail
   go_ret
   exact⟨xa,xn,xc,rfl,by rw[←HE.out];exact HI.out.own.mono (by have:=HS1.out;omega),HI.out.below⟩
end Go.Proofs.YtikoklagffbgiaaGreatDoor

namespace Go.Proofs.YtikoklagffbgiaaGreatDoor
open Go.RowKit (wrap64 intOf Below)
set_option linter.unusedVariables false
set_option linter.unusedSimpArgs false
def rdField(o:OpD)(f:UInt8)(L:List UInt8):PR OpD:=
 if f=78 then(rdNum L).bind fun n r=>.ok {o with N:=n} r else if f=83 then(rdText L).bind fun s r=>.ok {o with S:=s} r
 else if f=65 then(rdNum L).bind fun n r=>.ok {o with A:=n} r else if f=66 then(rdNum L).bind fun n r=>.ok {o with B:=n} r
 else if f=67 then(rdNum L).bind fun n r=>.ok {o with C:=n} r else if f=76 then(rdNums 8 L).bind fun l r=>.ok {o with L:=l} r
 else(rdTruth L).bind fun t r=>.ok {o with T:=t} r
def rdFields:OpD→List UInt8→List UInt8→PR OpD
 |o,[],L=>.ok o L
 |o,f::fs,L=>(rdField o f L).bind fun o' r=>rdFields o' fs r
def opZero(k:Int):OpD:=⟨k,0,0,0,0,⟨#[]⟩,[],false⟩
def rdOp(L:List UInt8):PR OpD:=(rdBelow 26 L).bind fun k r=>rdFields (opZero k) (fieldsL k) r
theorem rdFields_append:∀ (fs gs:List UInt8) (o:OpD) (L:List UInt8),rdFields o (fs++gs) L=(rdFields o fs L).bind fun o' r=>rdFields o' gs r
 | [],gs,o,L=>rfl
 |f::fs,gs,o,L=>by
  simp only[List.cons_append,rdFields]
  cases rdField o f L with
  |no e=>rfl
  |ok o' r=>simp only[PR.bind];exact rdFields_append fs gs o' r
theorem rdFields_more{fs:List UInt8}{j:Nat}(h:j<fs.length){o o' o'':OpD}{L r r':List UInt8}(h1:rdFields o (fs.take j) L=.ok o' r)(h2:rdField o' fs[j] r=.ok o'' r'):rdFields o (fs.take (j+1)) L=.ok o'' r':=by
 rw[List.take_succ_eq_append_getElem h,rdFields_append,h1]
 simp only[PR.bind,rdFields,h2]
theorem rdFields_no{fs:List UInt8}{j:Nat}(h:j<fs.length){o o':OpD}{L r:List UInt8}{e:Int}(h1:rdFields o (fs.take j) L=.ok o' r)(h2:rdField o' fs[j] r=.no e):rdFields o fs L=.no e:=by
 conv=>lhs;rw[←List.take_append_drop j fs]
 rw[rdFields_append,h1,List.drop_eq_getElem_cons h]
 simp only[PR.bind,rdFields,h2]
def opCells(o:OpD)(l:Value):List Value:=[.int .i64 o.K,.int .i64 o.A,.int .i64 o.B,.int .i64 o.C,.int .i64 o.N,.string o.S,l,.bool o.T]
structure OpR(r B g off:Nat)(w:World)(bx ib:Nat)(K:Int)(L1:List UInt8)(j p:Nat)(u:World)(o:OpD)(l:Value)(rest:List UInt8):Prop where
 st:RSt r B g off 8 w bx rest u (opCells o l)
 rd:rdFields (opZero K) ((fieldsL K).take j) L1=.ok o rest
 nums:NumsO u (From (w.heap.size+1)) l o.L
 nil:(76:UInt8)∉(fieldsL K).take j→l=.slice none 0 0
 rng:InR o.K∧InR o.A∧InR o.B∧InR o.C∧InR o.N∧o.S.size≤140737488351232
 it:u.heap[ib]? =some (.stringIter (fstr K) p)
 ir:ib≠r
 ig:ib≠g
 ix:ib≠bx
 ge:w.heap.size+1≤ib
 il:∀ b,l.ownBlock=some b→b≠ib
section
variable {r B g off : Nat} {w : World} {bx ib : Nat} {K : Int} {L1 : List UInt8} {j p : Nat} {u : World} {o : OpD} {l : Value} {rest : List UInt8}
theorem OpR.start{c:World}(h:RSt r B g off 8 w bx L1 c (opCells (opZero K) (.slice none 0 0)))(hs:w.heap.size+1≤c.heap.size)(hK:InR K):OpR r B g off w bx c.heap.size K L1 0 0 (c.iter (fstr K) 0) (opZero K) (.slice none 0 0) L1:=by
 have hb:bx<c.heap.size:=(Array.getElem?_eq_some_iff.1 h.box).1
 have hbl:Below c.heap.size c (c.iter (fstr K) 0):=(Below.refl _ _).alloc (Nat.le_refl _) _
 have hrl:=h.rd.lt
 have hgl:=h.cells.lt
 refine⟨h.read (h.rd.since hbl) (Off.since hbl),rfl,NumsO.none _ _,fun _=>rfl,⟨hK,InR.zero,InR.zero,InR.zero,InR.zero,Nat.zero_le _⟩, ?_,by omega,by omega,by omega,hs,fun b hb=>by cases hb⟩
 have h:=World.iter_heap c (fstr K) 0
 simpa [World.iter]using h
theorem OpR.move(h:OpR r B g off w bx ib K L1 j p u o l rest):OpR r B g off w bx ib K L1 j (p+1) (u.iterAt ib (fstr K) (p+1)) o l rest:=by
 have hs:=iterAt_same u ib (fstr K) (p+1)
 have hb:=hs.bel 0 (Nat.zero_le _)
 have ho:Off (fun i=>i=ib) u (u.iterAt ib (fstr K) (p+1)):=⟨hb.os,hb.tape,hb.output,hb.size,fun i _ hi=>hs.same i hi⟩
 have hib:ib<u.heap.size:=(Array.getElem?_eq_some_iff.1 h.it).1
 have hrl:=h.st.rd.lt
 obtain⟨c1,c2,T,e1,e2,e3,e4⟩:=h.st.win.obj
 have hge:=h.ge
 refine⟨⟨h.st.rd.stays ho (fun i hi=>by have hi:i=ib:=hi;subst hi;refine⟨?_,h.ir⟩;have hgl:g<w.heap.size:=(Array.getElem?_eq_some_iff.1 e1).1;have:=h.st.gB;omega),⟨ho.os.trans h.st.win.os,ho.tape.trans h.st.win.tape,ho.output.trans h.st.win.output,Nat.le_trans h.st.win.size ho.size,fun i hi h1 h2=>(hs.same i (by omega)).trans (h.st.win.block i hi h1 h2),c1,c2,T,e1,(hs.same g (fun e=>h.ig e.symm)).trans e2,e3,e4⟩,h.st.cells.kept (hs.same g (fun e=>h.ig e.symm)),h.st.len,(hs.same bx (fun e=>h.ix e.symm)).trans h.st.box,h.st.nr,h.st.ng,h.st.gB,h.st.gr⟩,h.rd, ?_,h.nil,h.rng,Lib.iterAt_heap _ _ _ _ _ h.it,h.ir,h.ig,h.ix,h.ge,h.il⟩
 exact⟨ownsRow_heap h.nums.1 (fun b hb _=>hs.same b (h.il b hb)),h.nums.2⟩
theorem OpR.drew(h:OpR r B g off w bx ib K L1 j p u o l rest):OpR r B g off w bx ib K L1 j p u.drew o l rest:=
 ⟨h.st.drew,h.rd,h.nums.holds (fun b _ hb=>⟨rfl,hb⟩),h.nil,h.rng,h.it,h.ir,h.ig,h.ix,h.ge,h.il⟩
end
end Go.Proofs.YtikoklagffbgiaaGreatDoor
