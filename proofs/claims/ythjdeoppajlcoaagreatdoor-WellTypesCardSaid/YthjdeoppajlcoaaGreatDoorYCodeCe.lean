/- Layer 5: Copy's plain, of an end (written by a program). -/
import Derived.Test.YthjdeoppajlcoaaGreatDoorYT4

namespace Go.Proofs.YthjdeoppajlcoaaGreatDoor
set_option linter.unusedSimpArgs false
set_option linter.unusedVariables false
open Go.RowKit (wrap64 intOf Below Hid)
attribute [local go_sem ↓] Go.wp_at_zero Go.wp_at_succ
open Go.Lib (hid)
theorem fw{u:World}{b o:Nat}{v:Value}{p:Addr}(h:p.block≠b):(u.setCell ⟨b,o,none⟩ v).cell? p=u.cell? p:=
 World.cell?_of_block (Below.heap_setCell _ _ _ _ h)
theorem iO{u:World}{b o0 o1 o2 o3 o4 o5:Nat}{v0 v1 v2 v3 v4 v5:Value}{p:Addr}(h:p.block≠b):((((((u.setCell ⟨b,o0,none⟩ v0).setCell ⟨b,o1,none⟩ v1).setCell ⟨b,o2,none⟩ v2).setCell ⟨b,o3,none⟩ v3).setCell ⟨b,o4,none⟩ v4).setCell ⟨b,o5,none⟩ v5).cell? p=u.cell? p:=by
 rw[fw h,fw h,fw h,fw h,fw h,fw h]
def EndPost(y:mV)(w:World)(e:Ending)(w':World):Prop:=∃ k x t l va vn vc ua un uc,e=.returned (.agg #[.int .i64 k,.int .i64 x,.int .i64 t,.int .i64 l,.slice va vn vc,.slice ua un uc])∧
 Hf w' (From w.heap.size) [.int .i64 k,.int .i64 x,.int .i64 t,.int .i64 l,.slice va vn vc,.slice ua un uc] (gZ y)∧Below w.heap.size w w'
theorem eH.none(w:World)(S:Nat→Prop):eH w S (.slice none 0 0) []:=⟨World.ownsRow_nil _ _ _ 1,(fun b h=>by cases h),by decide,(fun z h=>by cases h)⟩
theorem InR.zero:InR 0:=⟨by decide,by decide⟩
set_option maxRecDepth 100000 in
set_option maxHeartbeats 2000000 in
theorem Ey(k x t l:Int)(a b:Option Addr)(n c m d:Nat)(y:mV)(w:World)(h:Fj w [.int .i64 k,.int .i64 x,.int .i64 t,.int .i64 l,.slice a n c,.slice b m d] y):
 Calls Tryz.prog 150 #[.agg #[.int .i64 k,.int .i64 x,.int .i64 t,.int .i64 l,.slice a n c,.slice b m d]] w (EndPost y w):=by
 obtain⟨p,q,he,rk,rx,rt,rl,hp,hq⟩:=h
 simp only[List.cons.injEq,Value.int.injEq,true_and,and_true]at he
 obtain⟨e1,e2,e3,e4,rfl,rfl⟩:=he
 have hl0:=qJ.start w #[.int .i64 k,.int .i64 x,.int .i64 t,.int .i64 l,.slice a n c,.slice b m d] #[.int .i64 0,.int .i64 0,.int .i64 0,.int .i64 0,.slice none 0 0,.slice none 0 0] 49 49
 have HL0:=hid hl0
 have HP:=hid (hp.since hl0.bel)
 have HQ:=hid (hq.since hl0.bel)
 have HRK:Hid (InR k):=hid (by rw[e1];exact rk)
 have HRX:Hid (InR x):=hid (by rw[e2];exact rx)
 have HRT:Hid (InR t):=hid (by rw[e3];exact rt)
 have HRL:Hid (InR l):=hid (by rw[e4];exact rl)
 clear hp hq hl0 rk rx rt rl
 by_cases h0:k=0
 ·have HE:Hid (gZ y=⟨k,0,t,0,y.L,[]⟩):=hid (by unfold gZ;rw[if_pos (by rw[←e1];exact h0),e1,e3])
  clear e1 e2 e3 e4
  subst h0
  go_enter Tryz.func150,Tryz.ntmps150
  go_wp2_with fail
  have hi:=HL0.out.c0
  have hi0:=hi 0
  have hi2:=hi 2
  have hi4:=hi 4
  clear hi
  simp only[List.getElem?_toArray,List.getElem?_cons_zero,List.getElem?_cons_succ]at hi0 hi2 hi4
  go_region_held3 (fun u=>u.cell? ⟨w.heap.size,0,none⟩=some (.int .i64 0)∧u.cell? ⟨w.heap.size,2,none⟩=some (.int .i64 t)∧u.cell? ⟨w.heap.size,4,none⟩=some (.slice a n c)) (first|(with_reducible exact⟨hi0,hi2,hi4⟩)|(with_reducible exact⟨hj0,hj2,hj4⟩)|(rw[iO (by simp),iO (by simp),iO (by simp)];with_reducible exact⟨hj0,hj2,hj4⟩))
   (first|(go_at_call 113;(with_reducible refine(mP a n c y.L _ HP.out).mono ?_);rintro e w1 ⟨va,vn,vc,rfl,hn1,hb1⟩;have hl1:=HL0.out.step hb1;have hn2:=hn1.first HL0.out;have hc0:=hl1.c0;have hj0:w1.cell? ⟨w.heap.size,0,none⟩=some (.int .i64 0):=hc0 0;have hj2:w1.cell? ⟨w.heap.size,2,none⟩=some (.int .i64 t):=hc0 2;have hj4:w1.cell? ⟨w.heap.size,4,none⟩=some (.slice a n c):=hc0 4;clear hc0;have hc1:=hl1.c1;have hf1:=hl1.f1))
  all_goals
   have HN:=hid hn2
   have HL:=hid hl1
   clear hn1 hn2 hl1
   go_wp2_with fail
   refine bodyPost_ret (v:=.agg #[.int .i64 0,.int .i64 0,.int .i64 t,.int .i64 0,.slice va vn vc,.slice none 0 0]) (by simp[results,Tryz.results150,go_sem,hc1]) rfl ⟨_,_,_,_,_,_,_,_,_,_,rfl, ?_,((((((HL.out.bel).setCell (by simp) _).setCell (by simp) _).setCell (by simp) _).setCell (by simp) _).setCell (by simp) _).setCell (by simp) _⟩
   rw[HE.out]
   exact⟨_,_,rfl,HRK.out,InR.zero,HRT.out,InR.zero,HN.out.past (((((((Off.refl (fun b=>b=w.heap.size+1) _).setCell (.inl rfl) _).setCell (.inl rfl) _).setCell (.inl rfl) _).setCell (.inl rfl) _).setCell (.inl rfl) _).setCell (.inl rfl) _),eH.none _ _⟩
 ·have hf0:(k==0)=false:=by rw[beq_eq_false_iff_ne];exact h0
  by_cases h1:k=1
  ·have HE:Hid (gZ y=⟨k,x,t,l,y.L,y.M⟩):=hid (by unfold gZ;rw[if_neg (by rw[←e1];exact h0),if_pos (by rw[←e1];exact h1),e1,e2,e3,e4])
   clear e1 e2 e3 e4 h0
   subst h1
   go_enter Tryz.func150,Tryz.ntmps150
   go_wp2_with fail
   have hi:=HL0.out.c0
   have hi0:=hi 0
   have hi1:=hi 1
   have hi2:=hi 2
   have hi3:=hi 3
   have hi4:=hi 4
   have hi5:=hi 5
   clear hi
   simp only[List.getElem?_toArray,List.getElem?_cons_zero,List.getElem?_cons_succ]at hi0 hi1 hi2 hi3 hi4 hi5
   go_region_held3 (fun u=>u.cell? ⟨w.heap.size,0,none⟩=some (.int .i64 1)∧u.cell? ⟨w.heap.size,1,none⟩=some (.int .i64 x)∧u.cell? ⟨w.heap.size,2,none⟩=some (.int .i64 t)∧u.cell? ⟨w.heap.size,3,none⟩=some (.int .i64 l)∧u.cell? ⟨w.heap.size,4,none⟩=some (.slice a n c)∧u.cell? ⟨w.heap.size,5,none⟩=some (.slice b m d)) (first|(with_reducible exact⟨hi0,hi1,hi2,hi3,hi4,hi5⟩)|(with_reducible exact⟨hj0,hj1,hj2,hj3,hj4,hj5⟩)|(with_reducible exact⟨hk0,hk1,hk2,hk3,hk4,hk5⟩)|(rw[iO (by simp),iO (by simp),iO (by simp),iO (by simp),iO (by simp),iO (by simp)];with_reducible exact⟨hk0,hk1,hk2,hk3,hk4,hk5⟩))
    (first
      |(go_at_call 113;(with_reducible refine(mP a n c y.L _ HP.out).mono ?_);rintro e w1 ⟨va,vn,vc,rfl,hn1,hb1⟩;have hl1:=HL0.out.step hb1;have hn2:=hn1.first HL0.out;have hc0:=hl1.c0;have hj0:w1.cell? ⟨w.heap.size,0,none⟩=some (.int .i64 1):=hc0 0;have hj1:w1.cell? ⟨w.heap.size,1,none⟩=some (.int .i64 x):=hc0 1;have hj2:w1.cell? ⟨w.heap.size,2,none⟩=some (.int .i64 t):=hc0 2;have hj3:w1.cell? ⟨w.heap.size,3,none⟩=some (.int .i64 l):=hc0 3;have hj4:w1.cell? ⟨w.heap.size,4,none⟩=some (.slice a n c):=hc0 4;have hj5:w1.cell? ⟨w.heap.size,5,none⟩=some (.slice b m d):=hc0 5;clear hc0;have hq1:=HQ.out.since hb1)
      |(go_at_call 113;(with_reducible refine(mP b m d y.M _ hq1).mono ?_);rintro e w2 ⟨ua,un,uc,rfl,hm1,hb2⟩;have hl2:=hl1.step hb2;have hm2:=hm1.first hl1;have hn3:=hn2.off (X:=fun _=>False) (Off.since hb2) (fun _ _ h=>h);have hd0:=hl2.c0;have hk0:w2.cell? ⟨w.heap.size,0,none⟩=some (.int .i64 1):=hd0 0;have hk1:w2.cell? ⟨w.heap.size,1,none⟩=some (.int .i64 x):=hd0 1;have hk2:w2.cell? ⟨w.heap.size,2,none⟩=some (.int .i64 t):=hd0 2;have hk3:w2.cell? ⟨w.heap.size,3,none⟩=some (.int .i64 l):=hd0 3;have hk4:w2.cell? ⟨w.heap.size,4,none⟩=some (.slice a n c):=hd0 4;have hk5:w2.cell? ⟨w.heap.size,5,none⟩=some (.slice b m d):=hd0 5;clear hd0;have hc1:=hl2.c1;have hf1:=hl2.f1))
   all_goals
    have HN:=hid hn3
    have HM:=hid hm2
    have HL:=hid hl2
    clear hn1 hn2 hn3 hm1 hm2 hl1 hl2 hq1
    go_wp2_with fail
    refine bodyPost_ret (v:=.agg #[.int .i64 1,.int .i64 x,.int .i64 t,.int .i64 l,.slice va vn vc,.slice ua un uc]) (by simp[results,Tryz.results150,go_sem,hc1]) rfl ⟨_,_,_,_,_,_,_,_,_,_,rfl, ?_,((((((HL.out.bel).setCell (by simp) _).setCell (by simp) _).setCell (by simp) _).setCell (by simp) _).setCell (by simp) _).setCell (by simp) _⟩
    rw[HE.out]
    exact⟨_,_,rfl,HRK.out,HRX.out,HRT.out,HRL.out,HN.out.past (((((((Off.refl (fun b=>b=w.heap.size+1) _).setCell (.inl rfl) _).setCell (.inl rfl) _).setCell (.inl rfl) _).setCell (.inl rfl) _).setCell (.inl rfl) _).setCell (.inl rfl) _),HM.out.past (((((((Off.refl (fun b=>b=w.heap.size+1) _).setCell (.inl rfl) _).setCell (.inl rfl) _).setCell (.inl rfl) _).setCell (.inl rfl) _).setCell (.inl rfl) _).setCell (.inl rfl) _)⟩
  ·have hf1:(k==1)=false:=by rw[beq_eq_false_iff_ne];exact h1
   by_cases h2:k=2∨k=3
   ·have HE:Hid (gZ y=⟨k,x,0,0,[],[]⟩):=hid (by unfold gZ;rw[if_neg (by rw[←e1];exact h0),if_neg (by rw[←e1];exact h1),if_pos (by rw[←e1];exact h2),e1,e2])
    clear e1 e2 e3 e4 h0 h1
    obtain⟨k',hk'⟩:∃ k',k'=k:=⟨_,rfl⟩
    have ht:(k==2)=true∨((k==2)=false∧(k==3)=true):=by rcases h2 with rfl|rfl<;>simp
    clear h2 hk'
    rcases ht with ht|⟨ht,ht'⟩
    all_goals
     go_enter Tryz.func150,Tryz.ntmps150
     go_wp2_with fail
     refine bodyPost_ret (v:=.agg #[.int .i64 k,.int .i64 x,.int .i64 0,.int .i64 0,.slice none 0 0,.slice none 0 0]) (by simp[results,Tryz.results150,go_sem]) rfl ⟨_,_,_,_,_,_,_,_,_,_,rfl, ?_,(((Below.refl _ _).alloc (Nat.le_refl _) _).alloc (by simp) _)⟩
     rw[HE.out]
     exact⟨_,_,rfl,HRK.out,HRX.out,InR.zero,InR.zero,eH.none _ _,eH.none _ _⟩
   ·have HE:Hid (gZ y=⟨k,0,0,0,[],[]⟩):=hid (by unfold gZ;rw[if_neg (by rw[←e1];exact h0),if_neg (by rw[←e1];exact h1),if_neg (by rw[←e1];exact h2),e1])
    have hf2:(k==2)=false:=by rw[beq_eq_false_iff_ne];omega
    have hf3:(k==3)=false:=by rw[beq_eq_false_iff_ne];omega
    clear e1 e2 e3 e4 h0 h1 h2
    go_enter Tryz.func150,Tryz.ntmps150
    go_wp2_with fail
    refine bodyPost_ret (v:=.agg #[.int .i64 k,.int .i64 0,.int .i64 0,.int .i64 0,.slice none 0 0,.slice none 0 0]) (by simp[results,Tryz.results150,go_sem]) rfl ⟨_,_,_,_,_,_,_,_,_,_,rfl, ?_,(((Below.refl _ _).alloc (Nat.le_refl _) _).alloc (by simp) _)⟩
    rw[HE.out]
    exact⟨_,_,rfl,HRK.out,InR.zero,InR.zero,InR.zero,eH.none _ _,eH.none _ _⟩
end Go.Proofs.YthjdeoppajlcoaaGreatDoor
