/- Layer 8: a tree that grows, up to where it is settled (mk_dom.py J). -/
import Derived.Test.YthjdeoppajlcoaaGreatDoorYT5

namespace Go.Proofs.YthjdeoppajlcoaaGreatDoor
set_option linter.unusedSimpArgs false
set_option linter.unusedVariables false
open Go.RowKit (wrap64 intOf Below Hid)
open Go.Lib (hid)
set_option maxRecDepth 100000 in
set_option maxHeartbeats 8000000 in
theorem BP(
 r:Int) (a:Option Addr) (n c:Nat) (f:ak) (w:World) (hrow:gG aM 8 w (.slice a n c) f.blocks) (hn:n≤100000):
 Calls Tryz.prog 104 #[.agg #[.int .i64 r,.slice a n c]] w fun e w'=>∃ p g Z ov gf vs rd m,e=.returned (.pointer (some ⟨p,0,none⟩))∧GrownSt w' f w.heap.size p n g Z ov gf vs rd m∧rd≤1000010000100000∧Below w.heap.size w w':=by
 have HROW:=hid hrow
 have HLEN:Hid (n=f.blocks.length):=hid (by obtain⟨_,_,_,e,h,_⟩:=hrow;cases e;exact h.symm)
 clear hrow
 go_enter Tryz.func104,Tryz.ntmps104
 obtain⟨W1,hW1⟩:∃ W,w.alloc (.cells #[.int .i64 r,.slice a n c] 36)=W:=⟨_,rfl⟩
 have hc:∀ j,W1.cell? ⟨w.heap.size,j,none⟩=(#[.int .i64 r,.slice a n c]:Array Value)[j]? :=fun j=>by rw[←hW1];exact World.cell?_alloc_mark _ _ _ _ _
 have HC:=hid hc
 have hc1:=hc 1
 have HB1:Hid (Below w.heap.size w W1):=hid (by rw[←hW1];exact(Below.refl _ w).alloc (Nat.le_refl _) _)
 have HZ1:Hid (W1.heap.size=w.heap.size+1):=hid (by rw[←hW1];simp)
 clear hc
 go_wp2_with fail
 try rw[hW1]
 clear hW1 hc1
 refine wp_region_any (by kernel_rfl) ?_
 change wpAny _ _ _ _ _ _ _ (World.drew W1)
 obtain⟨W2,hW2⟩:∃ W,W1.drew=W:=⟨_,rfl⟩
 rw[hW2]
 have HB2:Hid (GB W1 W2):=hid (by rw[←hW2];exact(Below.refl _ W1).drew)
 clear hW2
 refine zV (DL:=qX) (DS:=qW) (RL:=[0,1,2,3,4,5,6,7,8,9,10,11,12,13,14,15,16,17,18]) (z:=19) (n:=76) (G:=GB) (R:=GrR r a n c f W1.heap.size) (D:=GrD n) (by kernel_rfl) (by kernel_rfl) rfl rfl (GB.refl _) (fun _ _ _=>GB.trans) (fun i vals w w'=>gr_mono i vals w w') gr_deps gr_dlt gr_dk ?steps ?last
 case steps=>
  intro i hi
  have h19:i=0∨i=1∨i=2∨i=3∨i=4∨i=5∨i=6∨i=7∨i=8∨i=9∨i=10∨i=11∨i=12∨i=13∨i=14∨i=15∨i=16∨i=17∨i=18:=by omega
  rcases h19 with rfl|rfl|rfl|rfl|rfl|rfl|rfl|rfl|rfl|rfl|rfl|rfl|rfl|rfl|rfl|rfl|rfl|rfl|rfl
  all_goals intro o ho vals wi hG hd K hK
  all_goals simp only[List.getElem?_toArray,List.getElem?_cons_succ,List.getElem?_cons_zero,Option.some.injEq]at ho
  all_goals subst ho
  ·simp only[aZ,oh,nO,qX,qW,List.getD_cons_succ,List.getD_cons_zero,List.foldl_cons,List.foldl_nil,Act.put,List.setIfInBounds_toArray,List.set_cons_zero,List.set_cons_succ]at hK⊢
   have hbw:Below W1.heap.size W1 wi:=GB.trans HB2.out hG
   have d0:wi.cell? ⟨w.heap.size,0,none⟩=some (.int .i64 r):=(hbw.cell (p:=⟨w.heap.size,0,none⟩) (show w.heap.size<W1.heap.size by have:=HZ1.out;omega)).trans (HC.out 0)
   have d1:wi.cell? ⟨w.heap.size,1,none⟩=some (.slice a n c):=(hbw.cell (p:=⟨w.heap.size,1,none⟩) (show w.heap.size<W1.heap.size by have:=HZ1.out;omega)).trans (HC.out 1)
   go_simp
   exact hK.out _ _ (GB.refl _) rfl (fun k hk=>hk.elim)
  ·simp only[aZ,oh,nO,qX,qW,List.getD_cons_succ,List.getD_cons_zero,List.foldl_cons,List.foldl_nil,Act.put,List.setIfInBounds_toArray,List.set_cons_zero,List.set_cons_succ]at hK⊢
   have d0:vals 0=.agg #[.int .i64 r,.slice a n c]:=hd 0 (by decide)
   rw[d0]at hK⊢
   have hbw:Below w.heap.size w wi:=HB1.out.trans ((GB.trans HB2.out hG).mono HB1.out.size)
   have CO:=hid (uY r a n c f wi (HROW.out.since aM.lasts hbw) (by omega))
   have HBW:Hid (W1.heap.size≤wi.heap.size):=hid (GB.trans HB2.out hG).size
   clear hd d0 hbw
   go_simp
   go_at_call 65
   refine CO.out.mono ?_
   rintro e w5 ⟨va,vn,vc,rfl,ho,hb⟩
   exact hK.out _ _ hb ⟨va,vn,vc,rfl,ho.mono HBW.out⟩ (fun k hk=>(ho.lt k hk).1)
  ·simp only[aZ,oh,nO,qX,qW,List.getD_cons_succ,List.getD_cons_zero,List.foldl_cons,List.foldl_nil,Act.put,List.setIfInBounds_toArray,List.set_cons_zero,List.set_cons_succ]at hK⊢
   go_simp
   exact hK.out _ _ ((Below.refl _ wi).alloc (Nat.le_refl _) _) ⟨wi.heap.size,rfl,World.cell?_alloc_mark _ _ _ _ _⟩ (fun k hk=>hk.elim)
  ·simp only[aZ,oh,nO,qX,qW,List.getD_cons_succ,List.getD_cons_zero,List.foldl_cons,List.foldl_nil,Act.put,List.setIfInBounds_toArray,List.set_cons_zero,List.set_cons_succ]at hK⊢
   go_simp
   exact hK.out _ _ (GB.refl _) rfl (fun k hk=>hk.elim)
  ·simp only[aZ,oh,nO,qX,qW,List.getD_cons_succ,List.getD_cons_zero,List.foldl_cons,List.foldl_nil,Act.put,List.setIfInBounds_toArray,List.set_cons_zero,List.set_cons_succ]at hK⊢
   have d2:=hd 2 (by decide)
   have d3:vals 3=.int .i64 (n:Int):=hd 3 (by decide)
   obtain⟨q,e2,hq⟩:=d2
   rw[e2,d3]at hK⊢
   have CR:=hid (rD q 1 (-1) n wi hq (by omega))
   have HBW:Hid (W1.heap.size≤wi.heap.size):=hid (GB.trans HB2.out hG).size
   clear hd d3 e2 hq
   go_simp
   go_at_call 136
   refine CR.out.mono ?_
   rintro e w5 ⟨rfl,ho,hb⟩
   exact hK.out _ _ hb ⟨_,rfl,ho.mono HBW.out⟩ (fun k hk=>by cases hk;exact Nat.le_refl _)
  ·simp only[aZ,oh,nO,qX,qW,List.getD_cons_succ,List.getD_cons_zero,List.foldl_cons,List.foldl_nil,Act.put,List.setIfInBounds_toArray,List.set_cons_zero,List.set_cons_succ]at hK⊢
   have hbw:Below W1.heap.size W1 wi:=GB.trans HB2.out hG
   have d0:wi.cell? ⟨w.heap.size,0,none⟩=some (.int .i64 r):=(hbw.cell (p:=⟨w.heap.size,0,none⟩) (show w.heap.size<W1.heap.size by have:=HZ1.out;omega)).trans (HC.out 0)
   have d1:wi.cell? ⟨w.heap.size,1,none⟩=some (.slice a n c):=(hbw.cell (p:=⟨w.heap.size,1,none⟩) (show w.heap.size<W1.heap.size by have:=HZ1.out;omega)).trans (HC.out 1)
   go_simp
   exact hK.out _ _ (GB.refl _) rfl (fun k hk=>hk.elim)
  ·simp only[aZ,oh,nO,qX,qW,List.getD_cons_succ,List.getD_cons_zero,List.foldl_cons,List.foldl_nil,Act.put,List.setIfInBounds_toArray,List.set_cons_zero,List.set_cons_succ]at hK⊢
   have d0:vals 5=.agg #[.int .i64 r,.slice a n c]:=hd 5 (by decide)
   rw[d0]at hK⊢
   have hbw:Below w.heap.size w wi:=HB1.out.trans ((GB.trans HB2.out hG).mono HB1.out.size)
   have CO:=hid (ER r a n c f wi (HROW.out.since aM.lasts hbw) (by omega))
   have HBW:Hid (W1.heap.size≤wi.heap.size):=hid (GB.trans HB2.out hG).size
   clear hd d0 hbw
   go_simp
   go_at_call 137
   refine CO.out.mono ?_
   rintro e w5 ⟨vs,rfl,hA⟩
   refine hK.out _ _ hA.bel ⟨_,vs,rfl,hA.row.mono (by have:=HBW.out;omega),hA.len⟩ (fun k hk=> ?_)
   rcases hk with hk|⟨g,j,x,hg,hj,hx,hk⟩
   ·cases hk;exact Nat.le_succ _
   ·cases hg
    have hj2:j<vs.length:=by rw[hA.len];exact hj
    have:=hA.row.cell hj2
    rw[hx]at this
    cases this
    have:=((hA.row.own j hj2 (by rw[←hA.row.len];exact hj2)).lt k hk).1
    omega
  ·simp only[aZ,oh,nO,qX,qW,List.getD_cons_succ,List.getD_cons_zero,List.foldl_cons,List.foldl_nil,Act.put,List.setIfInBounds_toArray,List.set_cons_zero,List.set_cons_succ]at hK⊢
   go_simp
   exact hK.out _ _ ((Below.refl _ wi).alloc (Nat.le_refl _) _) ⟨wi.heap.size,rfl,World.cell?_alloc_mark _ _ _ _ _⟩ (fun k hk=>hk.elim)
  ·simp only[aZ,oh,nO,qX,qW,List.getD_cons_succ,List.getD_cons_zero,List.foldl_cons,List.foldl_nil,Act.put,List.setIfInBounds_toArray,List.set_cons_zero,List.set_cons_succ]at hK⊢
   go_simp
   exact hK.out _ _ (GB.refl _) rfl (fun k hk=>hk.elim)
  ·simp only[aZ,oh,nO,qX,qW,List.getD_cons_succ,List.getD_cons_zero,List.foldl_cons,List.foldl_nil,Act.put,List.setIfInBounds_toArray,List.set_cons_zero,List.set_cons_succ]at hK⊢
   have d2:=hd 7 (by decide)
   have d3:vals 8=.int .i64 (n:Int):=hd 8 (by decide)
   obtain⟨q,e2,hq⟩:=d2
   rw[e2,d3]at hK⊢
   have CR:=hid (rD q 1 (-1) n wi hq (by omega))
   have HBW:Hid (W1.heap.size≤wi.heap.size):=hid (GB.trans HB2.out hG).size
   clear hd d3 e2 hq
   go_simp
   go_at_call 136
   refine CR.out.mono ?_
   rintro e w5 ⟨rfl,ho,hb⟩
   exact hK.out _ _ hb ⟨_,rfl,ho.mono HBW.out⟩ (fun k hk=>by cases hk;exact Nat.le_refl _)
  ·simp only[aZ,oh,nO,qX,qW,List.getD_cons_succ,List.getD_cons_zero,List.foldl_cons,List.foldl_nil,Act.put,List.setIfInBounds_toArray,List.set_cons_zero,List.set_cons_succ]at hK⊢
   go_simp
   exact hK.out _ _ (GB.refl _) rfl (fun k hk=>hk.elim)
  ·simp only[aZ,oh,nO,qX,qW,List.getD_cons_succ,List.getD_cons_zero,List.foldl_cons,List.foldl_nil,Act.put,List.setIfInBounds_toArray,List.set_cons_zero,List.set_cons_succ]at hK⊢
   have d3:vals 10=.int .i64 (n:Int):=hd 10 (by decide)
   rw[d3]at hK⊢
   have hmk:=jK n n rfl (by omega)
   have HBW:Hid (W1.heap.size≤wi.heap.size):=hid (GB.trans HB2.out hG).size
   clear hd d3
   go_simp
   exact hK.out _ _ ((Below.refl _ wi).alloc (Nat.le_refl _) _) ⟨_,rfl,nD HBW.out (by unfold maxLen;omega)⟩ (fun k hk=>by cases hk;exact Nat.le_refl _)
  ·simp only[aZ,oh,nO,qX,qW,List.getD_cons_succ,List.getD_cons_zero,List.foldl_cons,List.foldl_nil,Act.put,List.setIfInBounds_toArray,List.set_cons_zero,List.set_cons_succ]at hK⊢
   go_simp
   exact hK.out _ _ (GB.refl _) rfl (fun k hk=>hk.elim)
  ·simp only[aZ,oh,nO,qX,qW,List.getD_cons_succ,List.getD_cons_zero,List.foldl_cons,List.foldl_nil,Act.put,List.setIfInBounds_toArray,List.set_cons_zero,List.set_cons_succ]at hK⊢
   have d3:vals 12=.int .i64 (n:Int):=hd 12 (by decide)
   rw[d3]at hK⊢
   have hmk:=jK n n rfl (by omega)
   have HBW:Hid (W1.heap.size≤wi.heap.size):=hid (GB.trans HB2.out hG).size
   clear hd d3
   go_simp
   exact hK.out _ _ ((Below.refl _ wi).alloc (Nat.le_refl _) _) ⟨_,rfl,nD HBW.out (by unfold maxLen;omega)⟩ (fun k hk=>by cases hk;exact Nat.le_refl _)
  ·simp only[aZ,oh,nO,qX,qW,List.getD_cons_succ,List.getD_cons_zero,List.foldl_cons,List.foldl_nil,Act.put,List.setIfInBounds_toArray,List.set_cons_zero,List.set_cons_succ]at hK⊢
   go_simp
   exact hK.out _ _ (GB.refl _) rfl (fun k hk=>hk.elim)
  ·simp only[aZ,oh,nO,qX,qW,List.getD_cons_succ,List.getD_cons_zero,List.foldl_cons,List.foldl_nil,Act.put,List.setIfInBounds_toArray,List.set_cons_zero,List.set_cons_succ]at hK⊢
   have d3:vals 14=.int .i64 (n:Int):=hd 14 (by decide)
   rw[d3]at hK⊢
   have hmk:=jK n n rfl (by omega)
   have HBW:Hid (W1.heap.size≤wi.heap.size):=hid (GB.trans HB2.out hG).size
   clear hd d3
   go_simp
   exact hK.out _ _ ((Below.refl _ wi).alloc (Nat.le_refl _) _) ⟨_,rfl,nD HBW.out (by unfold maxLen;omega)⟩ (fun k hk=>by cases hk;exact Nat.le_refl _)
  ·simp only[aZ,oh,nO,qX,qW,List.getD_cons_succ,List.getD_cons_zero,List.foldl_cons,List.foldl_nil,Act.put,List.setIfInBounds_toArray,List.set_cons_zero,List.set_cons_succ]at hK⊢
   obtain⟨va,vn,vc,e1,_⟩:GrR r a n c f W1.heap.size 1 vals wi:=hd 1 (by decide)
   obtain⟨q4,e4,_⟩:GrR r a n c f W1.heap.size 4 vals wi:=hd 4 (by decide)
   obtain⟨q6,_,e6,_⟩:GrR r a n c f W1.heap.size 6 vals wi:=hd 6 (by decide)
   obtain⟨q9,e9,_⟩:GrR r a n c f W1.heap.size 9 vals wi:=hd 9 (by decide)
   obtain⟨q11,e11,_⟩:GrR r a n c f W1.heap.size 11 vals wi:=hd 11 (by decide)
   obtain⟨q13,e13,_⟩:GrR r a n c f W1.heap.size 13 vals wi:=hd 13 (by decide)
   obtain⟨q15,e15,_⟩:GrR r a n c f W1.heap.size 15 vals wi:=hd 15 (by decide)
   have HE:=hid (And.intro e1 (And.intro e4 (And.intro e6 (And.intro e9 (And.intro e11 (And.intro e13 e15))))))
   rw[e1,e4,e6,e9,e11,e13,e15]at hK⊢
   clear hd e1 e4 e6 e9 e11 e13 e15
   go_simp
   refine hK.out _ _ (GB.refl _) ?_ (fun k hk=>hk.elim)
   show _=Value.agg #[vals 1,vals 4,vals 6,vals 9,vals 11,vals 13,vals 15,.int .i64 0]
   obtain⟨e1,e4,e6,e9,e11,e13,e15⟩:=HE.out
   rw[e1,e4,e6,e9,e11,e13,e15]
   rfl
  ·simp only[aZ,oh,nO,qX,qW,List.getD_cons_succ,List.getD_cons_zero,List.foldl_cons,List.foldl_nil,Act.put,List.setIfInBounds_toArray,List.set_cons_zero,List.set_cons_succ]at hK⊢
   have d16:vals 16=.agg #[vals 1,vals 4,vals 6,vals 9,vals 11,vals 13,vals 15,.int .i64 0]:=hd 16 (by decide)
   have HBW:Hid (W1.heap.size≤wi.heap.size):=hid (GB.trans HB2.out hG).size
   have D16:=hid d16
   rw[d16]at hK⊢
   clear hd d16
   go_simp
   exact hK.out _ _ ((Below.refl _ wi).alloc (Nat.le_refl _) _) ⟨wi.heap.size,_,rfl,HBW.out,D16.out,World.alloc_heap_new _ _⟩ (fun k hk=>by cases hk;exact Nat.le_refl _)
  ·simp only[aZ,oh,nO,qX,qW,List.getD_cons_succ,List.getD_cons_zero,List.foldl_cons,List.foldl_nil,Act.put,List.setIfInBounds_toArray,List.set_cons_zero,List.set_cons_succ]at hK⊢
   have HBW:Hid (W1.heap.size≤wi.heap.size):=hid (GB.trans HB2.out hG).size
   clear hd
   go_simp
   exact hK.out _ _ ((Below.refl _ wi).alloc (Nat.le_refl _) _) ⟨wi.heap.size,rfl,HBW.out,World.alloc_heap_new _ _⟩ (fun k hk=>by cases hk;exact Nat.le_refl _)
 case last=>
  intro vals wi hG hR hD o ho N hN K hK
  simp only[aZ,nO,qW,List.getD_cons_succ,List.getD_cons_zero,List.foldl_cons,List.foldl_nil,Act.put,List.setIfInBounds_toArray,List.set_cons_zero,List.set_cons_succ]
  have ho2:=Option.some.inj ho
  subst ho2
  clear ho
  obtain⟨p,bt,q0,q1,q2,q3,q4,gf,va,vn,vc,vs,e1,e4,e6,e9,e11,e13,e15,e17,e18,hA,hvl,hOA,hbt,hbB⟩:=gr_tree hR hD
  have e0:vals 0=.agg #[.int .i64 r,.slice a n c]:=hR 0 (by omega)
  have e3:vals 3=.int .i64 (n:Int):=hR 3 (by omega)
  have e5:vals 5=.agg #[.int .i64 r,.slice a n c]:=hR 5 (by omega)
  have e8:vals 8=.int .i64 (n:Int):=hR 8 (by omega)
  have e10:vals 10=.int .i64 (n:Int):=hR 10 (by omega)
  have e12:vals 12=.int .i64 (n:Int):=hR 12 (by omega)
  have e14:vals 14=.int .i64 (n:Int):=hR 14 (by omega)
  have e16:vals 16=.agg #[vals 1,vals 4,vals 6,vals 9,vals 11,vals 13,vals 15,.int .i64 0]:=hR 16 (by omega)
  obtain⟨l2,e2,_⟩:GrR r a n c f W1.heap.size 2 vals wi:=hR 2 (by omega)
  obtain⟨l7,e7,_⟩:GrR r a n c f W1.heap.size 7 vals wi:=hR 7 (by omega)
  rw[e1,e4,e6,e9,e11,e13,e15]at e16
  rw[e0,e1,e2,e3,e4,e5,e6,e7,e8,e9,e10,e11,e12,e13,e14,e15,e16,e17,e18]
  have hcb:wi.cell? ⟨bt,0,none⟩=some (.pointer none):=by simp[World.cell?,hbt]
  have hfb:wi.frozen? ⟨bt,0,none⟩=false:=by simp[World.frozen?,hbt]
  have HBW:Hid (Below w.heap.size w (wi.setCell ⟨bt,0,none⟩ (.pointer (some ⟨p,0,none⟩)))):=hid ((HB1.out.trans ((GB.trans HB2.out hG).mono HB1.out.size)).setCell (p:=⟨bt,0,none⟩) (by have:=HZ1.out;show w.heap.size≤bt;omega) _)
  have HBT:Hid (lU (wi.setCell ⟨bt,0,none⟩ (.pointer (some ⟨p,0,none⟩))) bt p):=hid (by unfold lU;rw[heap_setCell_same wi bt 0 _ _ (.pointer (some ⟨p,0,none⟩)) hbt];rfl)
  have HA:Hid (aI (wi.setCell ⟨bt,0,none⟩ (.pointer (some ⟨p,0,none⟩))) W1.heap.size p n (g5 q0 q1 q2 q3 q4) (Z2 n) (.slice va vn vc) (.slice (some ⟨gf,0,none⟩) n n) (aD f) vs (dR f n 0) 0):=hid (hA.keptT (X:=fun i=>i=bt) (Off.setCell (X:=fun i=>i=bt) (p:=⟨bt,0,none⟩) (Off.refl _ wi) (.inl rfl) _) (fun i hi C t ht e=>by
   have h':i=bt:=hi
   rw[h',hbt]at e
   rcases ht with rfl|rfl|rfl<;>simp at e))
  have HVL:=hid hvl
  have HOA:=hid hOA
  generalize g5 q0 q1 q2 q3 q4=g at HA
  clear hR hD e0 e1 e2 e3 e4 e5 e6 e7 e8 e9 e10 e11 e12 e13 e14 e15 e16 e17 e18 hA hvl hOA hbt hbB hG
  go_simp
  refine hK.out _ _ ?_
  clear hK K hcb hfb
  obtain⟨W3,hW3⟩:∃ W,wi.setCell ⟨bt,0,none⟩ (.pointer (some ⟨p,0,none⟩))=W:=⟨_,rfl⟩
  rw[hW3]at HBW HBT HA⊢
  clear hW3
  have HB0:Hid (w.heap.size≤W1.heap.size):=hid HB1.out.size
  obtain⟨B,hB⟩:∃ B,B=W1.heap.size:=⟨_,rfl⟩
  rw[←hB]at HA HB0
  clear hB HC HB1 HZ1 HB2
  have hvnn:vn≤n:=by have h1:=HA.out.ord.read.1;have h2:=dZ f;have:=HLEN.out;omega
  have HVN:Hid (vn=(aD f).length):=hid HA.out.ord.read.1.symm
  have c1:=HBT.out.cell
  have c0:W3.cell? ⟨p,0,none⟩=some (.slice va vn vc):=by simp[World.cell?,HA.out.blk]
  have HS0:Hid (aI W3 B p n g (ZP (Z2 n) (List.replicate n (-1))) (.slice va vn vc) (.slice (some ⟨gf,0,none⟩) n n) (aD f) vs (dR f n 0) 0∧lU W3 bt p∧Below w.heap.size w W3∧∀ v,v<n→nth (List.replicate n (-1)) v=dO f 0 v):=hid ⟨by rw[show List.replicate n (-1:Int)=Z2 n 0 from rfl,ZP_same];exact HA.out,HBT.out,HBW.out,fun v hv=>by rw[AL,bN (by simpa using hv)];simp⟩
  rw[hN.out]
  clear hN N HA HBT HBW
  go_wp2_with fail
  clear c1 c0
  go_loopw[34] (fun v34 wr=>∃ (i:Nat) (PL:List Int),i≤vn∧v34=.int .i64 (i:Int)∧Hid (aI wr B p n g (ZP (Z2 n) PL) (.slice va vn vc) (.slice (some ⟨gf,0,none⟩) n n) (aD f) vs (dR f n 0) 0∧lU wr bt p∧Below w.heap.size w wr∧∀ v,v<n→nth PL v=dO f i v)) (fun v34 _=>vn-(intOf v34).toNat)
  case atStart=>exact⟨0,_,Nat.zero_le _,rfl,HS0⟩
  case round=>
   obtain⟨i,PL,hi,rfl,HI⟩:=hrel
   clear HS0
   obtain⟨wo,hwo⟩:∃ u,u=wr:=⟨_,rfl⟩
   rw[←hwo]at HI⊢
   clear hwo
   have c1:=HI.out.2.1.cell
   by_cases hlt:i<vn
   ·have HIL:Hid (i<(aD f).length):=hid (by have:=HVN.out;omega)
    obtain⟨b,hb,hbn⟩:=sQ HIL.out
    have hbn':b<n:=by have:=HLEN.out;omega
    obtain⟨g0,rfl,hBg,hgl⟩:=zi HI.out.1.ord (by have:=HIL.out;omega)
    have hcb:wo.cell? ⟨g0,i,none⟩=some (.int .i64 (b:Int)):=by
     have h:=iP HI.out.1.ord HIL.out
     rw[bN HIL.out,hb]at h
     exact h
    have HB:=hid hb
    have cp:wo.cell? ⟨p,1,none⟩=some (.slice (some ⟨g 0,0,none⟩) n n):=by simp[World.cell?,HI.out.1.blk]
    have co:wo.cell? ⟨g 0,b,none⟩=some (.int .i64 (nth PL b)):=HI.out.1.cell (i:=0) (by omega) hbn'
    have cf:wo.frozen? ⟨g 0,b,none⟩=false:=HI.out.1.free (by omega) b
    have hbi:(b:Int)<(n:Int):=by omega
    have hbi0:(0:Int)≤(b:Int):=by omega
    have HNX:Hid (aI (wo.setCell ⟨g 0,b,none⟩ (.int .i64 (i:Int))) B p n g (ZP (Z2 n) (PL.set b (i:Int))) (.slice (some ⟨g0,0,none⟩) vn vc) (.slice (some ⟨gf,0,none⟩) n n) (aD f) vs (dR f n 0) 0∧lU (wo.setCell ⟨g 0,b,none⟩ (.int .i64 (i:Int))) bt p∧Below w.heap.size w (wo.setCell ⟨g 0,b,none⟩ (.int .i64 (i:Int)))∧∀ v,v<n→nth (PL.set b (i:Int)) v=dO f (i+1) v):=hid ⟨by
     have h:=HI.out.1.put (i:=0) (by omega) b (i:Int)
     rw[ZP_put,ZP_zero]at h
     exact h,HI.out.2.1.kept (X:=fun k=>k=g 0) (Off.setCell (X:=fun k=>k=g 0) (p:=⟨g 0,b,none⟩) (Off.refl _ wo) (.inl rfl) _) (HI.out.2.1.ne HI.out.1 (by omega)),HI.out.2.2.1.setCell (p:=⟨g 0,b,none⟩) (by
      obtain⟨_,_,h⟩:=HI.out.1.gblk (i:=0) (by omega)
      have:=HB0.out
      show w.heap.size≤g 0
      omega) _,AO (by have:=HI.out.1.len (i:=0) (by omega);simpa [ZP]using this) HI.out.2.2.2 HIL.out HB.out hbn'⟩
    clear hb hBg hgl
    go_wp2_with fail
    go_roundw
    case rel=>exact⟨i+1,_,hlt,by go_num,HNX⟩
    case measure=>simp[intOf];omega
   ·obtain rfl:i=vn:=by omega
    have HPL:Hid (∀v,v<n→nth PL v=dO f (aD f).length v):=hid (by have h:=HI.out.2.2.2;rw[HVN.out]at h;exact h)
    have cp2:wo.cell? ⟨p,2,none⟩=some (.slice (some ⟨gf,0,none⟩) n n):=by simp[World.cell?,HI.out.1.blk]
    have HF0:Hid (aI wo B p n g (ZP (Z2 n) PL) (.slice va i vc) (.slice (some ⟨gf,0,none⟩) n n) (aD f) vs (kY f n (fun z=> !dF n PL z) 0) 0∧lV (.slice va i vc) gf vs∧vs.length=n∧lU wo bt p∧Below w.heap.size w wo):=hid ⟨by rw[Bw HLEN.out];exact HI.out.1,HOA.out,HVL.out,HI.out.2.1,HI.out.2.2.1⟩
    clear HI
    go_wp2_with fail
    clear c1 cp2
    go_loopw[52] (fun v52 wr=>∃ (j:Nat) (vs:List Value),j≤n∧v52=.int .i64 (j:Int)∧Hid (aI wr B p n g (ZP (Z2 n) PL) (.slice va i vc) (.slice (some ⟨gf,0,none⟩) n n) (aD f) vs (kY f n (fun z=> !dF n PL z) j) 0∧lV (.slice va i vc) gf vs∧vs.length=n∧lU wr bt p∧Below w.heap.size w wr)) (fun v52 _=>n-(intOf v52).toNat)
    case atStart=>exact⟨0,_,Nat.zero_le _,rfl,HF0⟩
    case round=>
     obtain⟨j,vs,hj,rfl,HJ⟩:=hrel
     clear HF0
     obtain⟨wq,hwq⟩:∃ u,u=wr:=⟨_,rfl⟩
     rw[←hwq]at HJ⊢
     clear hwq
     by_cases hjn:j<n
     ·have hjv:j<vs.length:=by rw[HJ.out.2.2.1];exact hjn
      have hjF:j<(kY f n (fun z=> !dF n PL z) j).length:=by rw[Eg];exact hjn
      have hown:=HJ.out.1.fr.own j hjv hjF
      rw[lS hjF,if_neg (by omega)]at hown
      obtain⟨xa,xn,xc,hxv,hxn⟩:=hown.nums
      have hxl:xn≤n:=by have h1:=hxn.1;have h2:=yj f n j;omega
      have hcf:wq.cell? ⟨gf,j,none⟩=some (.slice xa xn xc):=by rw[←hxv];exact HJ.out.1.fr.cell hjv
      have HXV:=hid hxv
      rw[hxv]at hown
      have HOW:=hid hown
      have hffr:wq.frozen? ⟨gf,j,none⟩=false:=HJ.out.1.fr.free HJ.out.2.2.1.symm
      have c1:=HJ.out.2.2.2.1.cell
      have c2:wq.cell? ⟨p,2,none⟩=some (.slice (some ⟨gf,0,none⟩) n n):=by simp[World.cell?,HJ.out.1.blk]
      have HJV:=hid hjv
      have HXB:Hid (∀k,(Value.slice xa xn xc).ownBlock=some k→k≠bt∧k≠p∧k≠gf∧k≠g 0∧w.heap.size≤k∧k<wq.heap.size):=hid fun k hk=>by
       obtain⟨cur,hc,hBk⟩:=bL hown hk
       refine⟨fun e=> ?_,fun e=> ?_,fun e=> ?_,fun e=> ?_,by have:=HB0.out;omega,(Array.getElem?_eq_some_iff.1 hc).1⟩
       ·have h2:wq.heap[bt]? =_:=HJ.out.2.2.2.1
        rw[←e,hc]at h2;simp at h2
       ·have h2:=HJ.out.1.blk
        rw[←e,hc]at h2;simp at h2
       ·obtain⟨cur',hc',_⟩:=dG HJ.out.1.fr.row (i:=gf) rfl
        rw[←e,hc]at hc';simp at hc'
       ·exact HJ.out.1.frne 0 (by omega) j hjv (by rw[hxv,hk,e])
      have hbtl:=HJ.out.2.2.2.1.lt
      have hpl:=HJ.out.1.plt
      have hgfl:gf<wq.heap.size:=World.block_lt_of_cell? (a:=⟨gf,j,none⟩) _ hcf
      have HLT:=hid (And.intro hbtl (And.intro hpl hgfl))
      have HCD:Hid (∀(q:Nat),∀z U,Off (fun k=>(Value.slice xa xn xc).ownBlock=some k) (wq.drewN q) U→Calls Tryz.prog 139 #[.int .i64 z,.pointer (some ⟨bt,0,none⟩)] U fun e w'=>e=.returned (.bool (!dF n PL z))∧w'=U):=hid fun q z U hU=>by
       have hU':Off (fun k=>(Value.slice xa xn xc).ownBlock=some k) wq U:=⟨hU.os,hU.tape,hU.output,hU.size,fun k hk hx=>hU.block k hk hx⟩
       have hTA:=HJ.out.1
       refine Gl (p:=p) (gp:=g 0) (n:=n) (c:=n) ((hU'.cell (p:=⟨bt,0,none⟩) hbtl (fun h=>(HXB.out bt h).1 rfl)).trans c1) ((hU'.cell (p:=⟨p,1,none⟩) hpl (fun h=>(HXB.out p h).2.1 rfl)).trans (by simp[World.cell?,hTA.blk])) (fun k hk=> ?_) z
       have h1:=hTA.cell (i:=0) (by omega) hk
       exact(hU'.cell (p:=⟨g 0,k,none⟩) (World.block_lt_of_cell? (a:=⟨g 0,k,none⟩) _ h1) (fun h=>(HXB.out (g 0) h).2.2.2.1 rfl)).trans h1
      have HFR:Hid (wq.frozen? ⟨gf,j,none⟩=false):=hid hffr
      clear hown hxv hxn hjF hbtl hpl hgfl hffr
      have hji:(j:Int)<(n:Int):=by omega
      have hj0:(0:Int)≤(j:Int):=by omega
      go_wp2_with fail
      have k1:wq.drew.cell? ⟨bt,0,none⟩=some (.pointer (some ⟨p,0,none⟩)):=c1
      have k2:wq.drew.cell? ⟨p,2,none⟩=some (.slice (some ⟨gf,0,none⟩) n n):=c2
      have kf:wq.drew.cell? ⟨gf,j,none⟩=some (.slice xa xn xc):=hcf
      clear c1 c2 hcf
      refine pI (S:=(fun u:World=>u.cell? ⟨bt,0,none⟩=some (.pointer (some ⟨p,0,none⟩))∧u.cell? ⟨p,2,none⟩=some (.slice (some ⟨gf,0,none⟩) n n)∧u.cell? ⟨gf,j,none⟩=some (.slice xa xn xc))) 15 (by kernel_rfl) ⟨k1,k2,kf⟩ (fun hHeld=> ?_)
      refine zZ 0 55 ?_
      (try simp only[Act.put,zA,zB,zC])
      refine zZ 1 56 ?_
      (try simp only[Act.put,zA,zB,zC])
      refine zZ 2 57 ?_
      (try simp only[Act.put,zA,zB,zC])
      refine zZ 3 58 ?_
      (try simp only[Act.put,zA,zB,zC])
      refine zZ 4 59 ?_
      (try simp only[Act.put,zA,zB,zC])
      refine zZ 5 60 ?_
      (try simp only[Act.put,zA,zB,zC])
      refine zZ 6 61 ?_
      (try simp only[Act.put,zA,zB,zC])
      refine zZ 7 62 ?_
      (try simp only[Act.put,zA,zB,zC])
      refine zZ 8 63 ?_
      (try simp only[Act.put,zA,zB,zC])
      refine zZ 9 64 ?_
      (try simp only[Act.put,zA,zB,zC])
      refine zZ 10 65 ?_
      (try simp only[Act.put,zA,zB,zC])
      refine zZ 11 66 ?_
      (try simp only[Act.put,zA,zB,zC])
      refine zZ 12 67 ?_
      (try simp only[Act.put,zA,zB,zC])
      refine lu (i:=13) (by kernel_rfl) rfl (fun K hK=> ?_)
      rw[if_pos (by rfl)]
      go_simp
      go_at_call 138
      refine(xY (B:=B) bt xa xn xc (ahL f n j) (HOW.out.below (Below.refl _ _).drew) (by omega) (HCD.out 1)).mono ?_
      rintro e w5 ⟨m,rfl,ho5,hoff5⟩
      have hoff5':Off (fun k=>(Value.slice xa xn xc).ownBlock=some k) wq w5:=⟨hoff5.os,hoff5.tape,hoff5.output,hoff5.size,fun k hk hx=>hoff5.block k hk hx⟩
      have HO5:=hid ho5
      have HF5:=hid hoff5'
      have s1:w5.cell? ⟨bt,0,none⟩=some (.pointer (some ⟨p,0,none⟩)):=(hoff5'.cell (p:=⟨bt,0,none⟩) HLT.out.1 (fun h=>(HXB.out bt h).1 rfl)).trans k1
      have s2:w5.cell? ⟨p,2,none⟩=some (.slice (some ⟨gf,0,none⟩) n n):=(hoff5'.cell (p:=⟨p,2,none⟩) HLT.out.2.1 (fun h=>(HXB.out p h).2.1 rfl)).trans k2
      have s3:w5.cell? ⟨gf,j,none⟩=some (.slice xa xn xc):=(hoff5'.cell (p:=⟨gf,j,none⟩) HLT.out.2.2 (fun h=>(HXB.out gf h).2.2.1 rfl)).trans kf
      have sf:w5.frozen? ⟨gf,j,none⟩=false:=(hoff5'.frozen (p:=⟨gf,j,none⟩) HLT.out.2.2 (fun h=>(HXB.out gf h).2.2.1 rfl)).trans HFR.out
      clear ho5 hoff5 hoff5' k1 k2 kf
      refine hK.out _ _ ⟨s1,s2,s3⟩ (fun hHeld=> ?_)
      clear hK K
      (try simp only[Act.put,zA,zB,zC])
      refine zZ 14 69 ?_
      (try simp only[Act.put,zA,zB,zC])
      refine dW (by kernel_rfl) rfl (by kernel_rfl) (fun K hK=> ?_)
      rw[if_pos (by rfl)]
      go_simp
      refine hK.out _ _ ?_
      clear hK K
      (try simp only[Act.put,zA,zB,zC])
      have hrf:=HJ.out.1.refrom HJ.out.2.1 HJ.out.2.2.1 hjv (w1:=w5) (v':=.slice xa m xc) (Z':=(ahL f n j).filter (fun z=> !!dF n PL z)) (by rw[HXV.out];exact HF5.out) HO5.out (fun k hk=>by rw[HXV.out,own_len xa xn m xc];exact hk)
      rw[Bz hjn]at hrf
      obtain⟨hr1,hr2,hr3⟩:=hrf
      have hbg:bt≠gf:=fun e=>by
       obtain⟨cur',hc',_⟩:=dG HJ.out.1.fr.row (i:=gf) rfl
       have h2:wq.heap[bt]? =_:=HJ.out.2.2.2.1
       rw[e,hc']at h2;simp at h2
      have HNX:Hid (aI (w5.setCell ⟨gf,j,none⟩ (.slice xa m xc)) B p n g (ZP (Z2 n) PL) (.slice va i vc) (.slice (some ⟨gf,0,none⟩) n n) (aD f) (vs.set j (.slice xa m xc)) (kY f n (fun z=> !dF n PL z) (j+1)) 0∧lV (.slice va i vc) gf (vs.set j (.slice xa m xc))∧(vs.set j (.slice xa m xc)).length=n∧lU (w5.setCell ⟨gf,j,none⟩ (.slice xa m xc)) bt p∧Below w.heap.size w (w5.setCell ⟨gf,j,none⟩ (.slice xa m xc))):=hid ⟨hr1,hr2,by rw[List.length_set];exact HJ.out.2.2.1,HJ.out.2.2.2.1.kept hr3 (fun h=>by
       rcases h with h|h
       ·rw[HXV.out]at h;exact(HXB.out bt h).1 rfl
       ·exact hbg h),HJ.out.2.2.2.2.trans (hr3.below HJ.out.2.2.2.2.size (fun k hk=>by
       rcases hk with h|h
       ·rw[HXV.out]at h;exact(HXB.out k h).2.2.2.2.1
       ·obtain⟨cur',hc',hBg⟩:=dG HJ.out.1.fr.row (i:=gf) rfl
        have:=HB0.out
        have h':k=gf:=h
        omega))⟩
      clear hr1 hr2 hr3 hbg s1 s2 s3 sf hHeld
      go_wp2_with fail
      go_roundw
      case rel=>exact⟨j+1,_,hjn,by go_num,HNX⟩
      case measure=>simp[intOf];omega
     ·obtain rfl:j=n:=by omega
      have HT:Hid (aI wq B p j g (ZP (Z2 j) PL) (.slice va i vc) (.slice (some ⟨gf,0,none⟩) j j) (aD f) vs (frL f j) 0):=hid (by have h:=HJ.out.1;rw[Eh HLEN.out HPL.out]at h;exact h)
      have c1:=HJ.out.2.2.2.1.cell
      have CS:=hid (xq HT.out HLEN.out HPL.out HJ.out.2.2.1 rfl (fun v hv=>by
       have:ZP (Z2 j) PL 4=List.replicate j 0:=rfl
       rw[this,bN (by simpa using hv)]
       simp) hn)
      go_upto_region 14 with(go_at_call 141;refine CS.out.mono ?_;rintro e w5 ⟨rfl,UP,PS,rr,m,hSS,hSE,hrr⟩;have HSS:=hid hSS;have HSE:=hid hSE;have HRR:=hid hrr;clear hSS hSE hrr)
      have hbne:bt≠p∧bt≠g 1∧bt≠g 4:=⟨fun e=>by
       have h2:wq.heap[bt]? =_:=HJ.out.2.2.2.1
       have h3:=HJ.out.1.blk
       rw[e,h3]at h2;simp at h2,HJ.out.2.2.2.1.ne HJ.out.1 (by omega),HJ.out.2.2.2.1.ne HJ.out.1 (by omega)⟩
      have HBX:Hid (lU w5 bt p):=hid (HJ.out.2.2.2.1.kept HSS.out.off (fun h=>by
       rcases h with h|h|h
       ·exact hbne.1 h
       ·exact hbne.2.1 h
       ·exact hbne.2.2 h))
      have c2:=HBX.out.cell
      have CC:=hid (EH (M:=iH f) (pl:=plF f) (up:=gH j UP) (o:=ordF f) (K:=(aD f).length) HSS.out.at_ (Gc HSE.out) (fun v hv=>(pO hv).symm) (fun v hv=>by have:=iJ hv;have:=HLEN.out;omega) rfl (fun k hk=>sS hk) (fun v hv=>by
       have:ZU (ZP (Z2 j) PL) UP PS 2=List.replicate j 0:=rfl
       rw[this,bN (by have:=iJ hv;have:=HLEN.out;simp;omega)]
       simp) (fun v hv=>by
       have:ZU (ZP (Z2 j) PL) UP PS 3=List.replicate j 0:=rfl
       rw[this,bN (by have:=iJ hv;have:=HLEN.out;simp;omega)]
       simp) hn (by have:=dZ f;have:=HLEN.out;omega) (root_of HSE.out))
      clear c1 CS
      go_upto_region 15 with(go_at_call 142;refine CC.out.mono ?_;rintro e w6 ⟨rfl,NU,EN,S,N,hTA,hOf,hNB,hNU,hEN⟩;have HTA:=hid hTA;have HOf:=hid hOf;have HNB:=hid (And.intro hNB (And.intro hNU hEN));clear hTA hOf hNB hNU hEN)
      have HBY:Hid (lU w6 bt p):=hid (HBX.out.kept HOf.out (fun h=>by
       rcases h with h|h
       ·exact HJ.out.2.2.2.1.ne HJ.out.1 (i:=2) (by omega) h
       ·exact HJ.out.2.2.2.1.ne HJ.out.1 (i:=3) (by omega) h))
      clear c2 CC
      have c3:=HBY.out.cell
      go_wp2_with fail
      go_ret
      have hgB:∀ k,k<5→w.heap.size≤g k:=fun k hk=>by obtain⟨_,_,h⟩:=HJ.out.1.gblk hk;have:=HB0.out;omega
      have hpB:w.heap.size≤p:=by have:=HJ.out.1.ge;have:=HB0.out;omega
      refine⟨p,g,_,_,gf,vs,rr,m,rfl,⟨HTA.out.base HB0.out,HLEN.out,HJ.out.2.2.1,HPL.out,HSE.out,over_of HSE.out HNB.out.1 HNB.out.2.1 HNB.out.2.2,HSS.out.le⟩,HRR.out,(HJ.out.2.2.2.2.trans (HSS.out.off.below HJ.out.2.2.2.2.size (fun k hk=> ?_))).trans (HOf.out.below (Nat.le_trans HJ.out.2.2.2.2.size HSS.out.off.size) (fun k hk=> ?_))⟩
      ·rcases hk with h|h|h
       ·have h':k=p:=h;omega
       ·have h':k=g 1:=h;have:=hgB 1 (by omega);omega
       ·have h':k=g 4:=h;have:=hgB 4 (by omega);omega
      ·rcases hk with h|h
       ·have h':k=g 2:=h;have:=hgB 2 (by omega);omega
       ·have h':k=g 3:=h;have:=hgB 3 (by omega);omega
end Go.Proofs.YthjdeoppajlcoaaGreatDoor
