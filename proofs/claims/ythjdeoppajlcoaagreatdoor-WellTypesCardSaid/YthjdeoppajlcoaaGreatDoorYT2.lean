/- Layer 7: package cfg's Order: the blocks as the walk leaves them, turned about. -/
import Derived.Test.YthjdeoppajlcoaaGreatDoorYCfgD
import Derived.Test.YthjdeoppajlcoaaGreatDoorYKindPlainR
import Derived.Test.YthjdeoppajlcoaaGreatDoorYT1
import Derived.Test.YthjdeoppajlcoaaGreatDoorShelf
import Derived.Lib.OwnBridge
import Derived.Lib.OthersKept
namespace Go.Proofs.YthjdeoppajlcoaaGreatDoor
set_option linter.unusedSimpArgs false
set_option linter.unusedVariables false
open Go.RowKit
attribute [local go_sem] Oper.semAt_some
open Go.Lib (hid)
theorem xA(v:Value)(Z:List Int)(B:Nat)(w:World)(h:aj w B 3 v Z):
 Calls Tryz.prog 96 #[v] w fun e w'=>e=.returned (.tuple #[])∧aj w' B 3 v Z.reverse∧w.grownBy w' v.ownBlock:=by
 by_cases hv:v=.slice none 0 0
 ·subst hv
  obtain rfl:Z=[]:=by
   rcases h.2 with⟨_,h0⟩|⟨_,_,_,e,_⟩
   ·exact List.eq_nil_of_length_eq_zero h0
   ·cases e
  refine(Tryz.slices_Reverse_int_empty none 0 w).mono ?_
  rintro e w' ⟨rfl,rfl⟩
  exact⟨rfl,h,⟨rfl,rfl,rfl,Nat.le_refl _,fun _ _ _=>rfl⟩⟩
 ·obtain⟨g,cap,rfl,hB,hlt,hn,hm,_,hH⟩:=Lib.holds_of_ownsRow (enc:=Value.int .i64) (zs:=Z) h hv
  refine(Tryz.slices_Reverse_int g 0 cap Z w hH (by unfold maxLen at hm;omega)).mono ?_
  rintro e w' ⟨rfl,q,rfl⟩
  have ho:=Lib.ownsRow_putRow (enc:=Value.int .i64) (q:=q) (k:=Z.length) (ys:=Z.reverse) (zs:=Z) h (by simp) (Nat.le_refl _)
  refine⟨rfl, ?_,⟨rfl,rfl,rfl,by simp[Sort.putRow,Sort.mapBlock,Sort.ahead],fun k hk hne=> ?_⟩⟩
  ·show World.ownsRow _ B _ 1 _ Z.reverse.length (Z.reverse.map dN)
   rw[List.take_of_length_le (by simp)]at ho
   rw[List.length_reverse]
   exact ho
  ·have hgk:g≠k:=fun e=>hne (by rw[e];rfl)
   simp[Sort.putRow,Sort.mapBlock,Sort.ahead,Array.getElem?_modify,hgk]
theorem zy(r:Int)(a:Option Addr)(n c:Nat)(w:World):
 Calls Tryz.prog 95 #[.agg #[.int .i64 r,.slice a n c]] w fun e w'=>e=.returned (.func (.func 124) #[] #[.pointer (some ⟨w.heap.size,0,none⟩)])∧w'=w.alloc (.cells #[.int .i64 r,.slice a n c] 36):=by
 go_enter Tryz.func95,Tryz.ntmps95
 go_wp2_with fail
 go_ret
 exact⟨rfl,rfl⟩
structure yx(w W:World)(v:Value)(Z:List Int):Prop where
 box:Boxed W (w.heap.size+1) 40 v
 own:aj W (w.heap.size+3) 3 v Z
 bel:Below w.heap.size w W
 siz:w.heap.size+3≤W.heap.size
theorem yx.lies{w W:World}{v:Value}{Z:List Int}(h:yx w W v Z):oQ (w.heap.size+1) 40 W:=by
 intro i hi
 rcases hi with rfl|⟨v',hb,hv⟩
 ·exact⟨_,h.box,rfl⟩
 ·have e:v'=v:=by have h1:=hb;have h2:=h.box;unfold Boxed at h1 h2;rw[h1]at h2;cases h2;rfl
  subst e
  obtain⟨cur,hc,_⟩:=eT h.own hv
  exact⟨_,hc,rfl⟩
theorem yx.grown{w W W':World}{v:Value}{Z:List Int}{row:Option Nat}(h:yx w W v Z)(hg:W.grownBy W' row)(hr:∀ r,row=some r→w.heap.size≤r∧¬ dS (w.heap.size+1) 40 W r):yx w W' v Z:=
 ⟨h.box.kept hg (fun e=>(hr _ e.symm).2 (.inl rfl)),World.ownsRow.kept h.own hg (p8 fun r e hv=>(hr r e).2 (.inr ⟨v,h.box,hv⟩)),h.bel.trans ((Below.grown (Below.refl w.heap.size W) hg (by have:=h.siz;omega) (fun k e=>(hr k e).1))),Nat.le_trans h.siz hg.size⟩
set_option maxRecDepth 100000 in
set_option maxHeartbeats 2000000 in
theorem uY(r:Int)(a:Option Addr)(n c:Nat)(f:ak)(w:World)(hrow:gG aM 8 w (.slice a n c) f.blocks)(hn:n≤1099511627776):
 Calls Tryz.prog 65 #[.agg #[.int .i64 r,.slice a n c]] w fun e w'=>∃ va vn vc,e=.returned (.slice va vn vc)∧aj w' w.heap.size 3 (.slice va vn vc) (aD f)∧Below w.heap.size w w':=by
 have hlen:n=f.blocks.length:=by obtain⟨_,_,_,e,h,_⟩:=hrow;cases e;exact h.symm
 have hgl:∀ g off,a=some ⟨g,off,none⟩→0<n→g<w.heap.size:=fun g off e h0=>by
  obtain⟨_,_,_,e',_,_,_,h'⟩:=hrow;cases e';obtain⟨g',off',e2,hl,_⟩:=h' h0;rw[e]at e2;cases e2;exact hl
 refine(callsIn_wide (n:=9)).1 ?_
 refine callsIn_of_wp_marks Tryz.func65 rfl trivial ?_ rfl
 simp only[Tryz.ntmps65,List.size_toArray,List.length_cons,List.length_nil,Nat.reduceAdd,Nat.reduceSub,Array.replicate_succ,Array.replicate_zero,List.push_toArray,List.append_toArray,List.nil_append,List.cons_append]
 have HROW:=hid hrow
 have HLEN:=hid hlen
 have HGL:=hid hgl
 clear hrow hlen hgl
 gi_wp2_with (refine⟨trivial, ?_⟩;gi_at_call 95;refine(callsIn_wide.2 (zy r a n c _)).mono ?_;rintro e w' ⟨rfl,rfl⟩)
 obtain⟨W0,hW0⟩:∃ W0,(((w.alloc (.cells #[.int .i64 r,.slice a n c] 36)).alloc (.cells #[.slice none 0 0] 40)).alloc (.cells #[.int .i64 r,.slice a n c] 36))=W0:=⟨_,rfl⟩
 have hz0:W0.heap.size=w.heap.size+3:=by rw[←hW0];simp
 have hbw:Below w.heap.size w W0:=by rw[←hW0];exact(((Below.refl w.heap.size w).alloc (Nat.le_refl _) _).alloc (by simp) _).alloc (by simp<;>omega) _
 have hbx:Boxed W0 (w.heap.size+1) 40 (.slice none 0 0):=by
  rw[←hW0]
  have h:=(Boxed.new (w.alloc (.cells #[.int .i64 r,.slice a n c] 36)) 40 (.slice none 0 0)).alloc (.cells #[.int .i64 r,.slice a n c] 36)
  rw[World.size_alloc]at h
  exact h
 have hcb:∀ j,W0.cell? ⟨w.heap.size+1+1,j,none⟩=(#[.int .i64 r,.slice a n c]:Array Value)[j]? :=by
  intro j
  rw[←hW0,show w.heap.size+1+1=((w.alloc (.cells #[.int .i64 r,.slice a n c] 36)).alloc (.cells #[.slice none 0 0] 40)).heap.size by simp]
  exact World.cell?_alloc_mark _ _ _ _ _
 have HS0:Hid (yx w W0 (.slice none 0 0) []):=hid ⟨hbx,World.ownsRow_nil _ _ _ 1,hbw,by omega⟩
 rw[hW0]
 clear hW0
 have hseq:=zx r a n c f (w.heap.size+1+1) (w.heap.size+1) 40 W0 (HROW.out.since aM.lasts hbw) hn hcb (fun W hb hl=>by
  have h1:W.heap[w.heap.size+1]? =_:=(hb.block _ (by omega)).trans hbx
  have h2:∀ i,dS (w.heap.size+1) 40 W i→i=w.heap.size+1:=fun i hi=>by
   rcases hi with hi|⟨v,hv,ho⟩
   ·exact hi
   ·unfold Boxed at hv;rw[h1]at hv;cases hv;cases ho
  exact⟨fun h=>by have:=h2 _ h;omega,fun g off e h0 h=>by have:=h2 _ h;have:=HGL.out g off e h0;omega⟩)
 clear hbx hcb hbw
 refine kz rfl (by omega) (gf:=124) (lb:=#[.pointer (some ⟨w.heap.size+1+1,0,none⟩)]) rfl trivial (enters_of Tryz.func124 (by kernel_rfl) rfl) hseq (Below.refl _ _) (fun _=>rfl)
  (fun pre W=>∃ v,yx w W v pre) (fun s W ⟨v,h⟩=>h.lies) ?hI ⟨_,HS0.out⟩
  (fun x a' _=>a'={tmps:=#[.agg #[.int .i64 r,.slice a n c],.pointer (some ⟨w.heap.size,0,none⟩),.slice none 0 0,.pointer (some ⟨w.heap.size+1,0,none⟩),.int .i64 x,.agg #[.int .i64 r,.slice a n c],.func (.func 124) #[] #[.pointer (some ⟨w.heap.size+1+1,0,none⟩)],.int .i64 x,undef,undef,undef,undef,undef,undef,undef],defers:=[]})
  (fun _ _ _ _ _ _ h _ _=>h) ?assign ?body ?ran
 case hI=>
  rintro s W W' row ⟨v,h⟩ hg hr
  exact⟨v,h.grown hg (fun r e=>⟨by have:=(hr r e).1;omega,(hr r e).2⟩)⟩
 case assign=>
  rintro l pre x W K' hI hK'
  gi_wp2
  exact hK' _ _ (ou.refl _ _ _) hI rfl
 case body=>
  rintro l pre x a' W hl0 _ ⟨v,hS⟩ rfl _ hlen
  have HS:=hid hS
  have hv:=Boxed.cell hS.box
  have hvf:=Boxed.frozen hS.box
  have HLN:Hid ((pre.length+1)*8≤140737488355328):=hid (by omega)
  have HSZ:=hid hS.siz
  have HOW:=hid hS.own
  clear hS
  gi_wp2_with (gi_at_builtin;refine iI W rfl _ _ 40 rfl 3 Tryz.underlying40 aT (w.heap.size+3) v pre rfl HOW.out HSZ.out _ 1 _ x rfl rfl rfl HLN.out ?_;intro va vn vc w1 hown1 hgrow1 hwh;obtain⟨hb1,hb2,ho2,hk2,hoff2⟩:=zf HS.out.box HS.out.own (by omega) ((Below.refl W.heap.size W).alloc (Nat.le_refl _) _) hown1 hgrow1;have hc1:=hb1.cell;have hf1:=hb1.frozen;have hoff3:=hid hoff2;have hb3:=hid hb2;have ho3:=hid ho2;have hwh3:=hid hwh;clear hb1 hb2 ho2 hk2 hoff2 hown1 hgrow1 hwh)
  have hge:∀ i,tX (w.heap.size+1) v i→w.heap.size≤i:=fun i hi=>by
   rcases hi with rfl|hi
   ·omega
   ·have:=(HOW.out.lt i hi).1;omega
  refine⟨⟨hoff3.out.size,fun i hi hn=>hoff3.out.block i hi (fun hx=>hn (by
   rcases hx with hx|hx
   ·exact .inl hx
   ·exact .inr ⟨v,HS.out.box,hx⟩)),fun i ho hi=> ?_⟩,_,⟨hb3.out,ho3.out,HS.out.bel.trans (hoff3.out.below (by have:=HSZ.out;omega) hge),Nat.le_trans HSZ.out hoff3.out.size⟩⟩
  rcases ho with ho|⟨v',hv',ho⟩
  ·exact .inl ho
  ·have e:v'=.slice va vn vc:=by have h1:=hv';have h2:=hb3.out;unfold Boxed at h1 h2;rw[h1]at h2;cases h2;rfl
   subst e
   rcases hwh3.out i ho with h|h
   ·exact .inr ⟨v,HS.out.box,h⟩
   ·omega
 case ran=>
  rintro D ys U hD rfl ⟨v,hS⟩ hK
  have HR:=hid (xA v _ _ U hS.own)
  have hv:=Boxed.cell hS.box
  have HS:=hid hS
  have HK:=hid hK
  clear hS hK
  gi_wp2_with (refine⟨trivial, ?_⟩;gi_at_call 96;refine(callsIn_wide.2 HR.out).mono ?_;rintro e U2 ⟨rfl,ho2,hg2⟩;have hv2:U2.cell? ⟨w.heap.size+1,0,none⟩=some v:=(World.cell?_of_block (hg2.block _ HS.out.box.lt (fun e=>by
   obtain⟨cur,hc,_⟩:=eT HS.out.own e.symm
   have h2:=HS.out.box
   unfold Boxed at h2
   rw[hc]at h2
   simp at h2))).trans hv;have HO2:=hid ho2;have HG2:=hid hg2;clear ho2 hg2)
  have hge:∀ k,v.ownBlock=some k→w.heap.size+3≤k:=fun k hk=>(HS.out.own.lt k hk).1
  have hk2:U2.heap[D]? =some (.deferred (some [])):=(HG2.out.block D (Array.getElem?_eq_some_iff.1 HK.out).1 (fun e=>by
   obtain⟨cur,hc,_⟩:=eT HS.out.own e.symm
   rw[HK.out]at hc
   cases hc)).trans HK.out
  refine⟨by simp,.inl ⟨_,_,rfl,run_takeDeferred hk2, ?_⟩⟩
  have ho:=HO2.out
  rw[List.reverse_reverse]at ho
  obtain⟨va,vn,vc,rfl,_⟩:=ho.nums
  refine⟨_,results_tmp rfl _ _ _,va,vn,vc,rfl,(aj.grownRow ho (grownBy_putObj' U2 D _) (fun r e=>by cases e;exact⟨_,hk2,rfl⟩)).mono (by omega), ?_⟩
  have hb1:=HS.out.bel.trans (Below.grown (Below.refl w.heap.size U) HG2.out (by have:=HS.out.siz;omega) (fun k e=>by have:=hge k e;omega))
  exact hb1.trans (Below.grown (Below.refl w.heap.size U2) (grownBy_putObj' U2 D _) (by have:=HG2.out.size;have:=HS.out.siz;omega) (fun k e=>by cases e;omega))
structure oW(w:World)(n:Nat)(W:World)(Z:List Int):Prop where
 box:Boxed W (w.heap.size+2) 111 (.slice (some ⟨w.heap.size+1,0,none⟩) n n)
 row:W.ownsRow (w.heap.size+1) 4 1 (.slice (some ⟨w.heap.size+1,0,none⟩) n n) n (eu n Z)
 bel:Below w.heap.size w W
 siz:w.heap.size+4≤W.heap.size
theorem oW.owns{w W:World}{n:Nat}{Z:List Int}(h:oW w n W Z)(i:Nat):dS (w.heap.size+2) 111 W i↔i=w.heap.size+2∨i=w.heap.size+1:=by
 constructor
 ·rintro (hi|⟨v,hb,hv⟩)
  ·exact .inl hi
  ·have h1:=hb;have h2:=h.box
   unfold Boxed at h1 h2
   rw[h1]at h2
   cases h2
   cases hv
   exact .inr rfl
 ·rintro (hi|hi)
  ·exact .inl hi
  ·exact .inr ⟨_,h.box,by rw[hi];rfl⟩
theorem oW.blk{w W:World}{n:Nat}{Z:List Int}(h:oW w n W Z):∃ cur,W.heap[w.heap.size+1]? =some (.cells cur 4 (0,0)):=by
 rcases h.row.2 with⟨e,_⟩|⟨g,cap,cur,e,_,hh,_⟩
 ·cases e
 ·cases e;exact⟨cur,hh⟩
theorem oW.lies{w W:World}{n:Nat}{Z:List Int}(h:oW w n W Z):oQ (w.heap.size+2) 111 W:=by
 intro i hi
 rcases(h.owns i).1 hi with rfl|rfl
 ·exact⟨_,h.box,rfl⟩
 ·obtain⟨cur,hc⟩:=h.blk
  exact⟨_,hc,rfl⟩
theorem oW.grown{w W W':World}{n:Nat}{Z:List Int}{row:Option Nat}(h:oW w n W Z)(hg:W.grownBy W' row)(hr:∀ r,row=some r→w.heap.size≤r∧¬ dS (w.heap.size+2) 111 W r):oW w n W' Z:=
 ⟨h.box.kept hg (fun e=>(hr _ e.symm).2 ((h.owns _).2 (.inl rfl))),World.ownsRow.kept h.row hg (.inr fun e=>(hr _ e.symm).2 ((h.owns _).2 (.inr rfl))),h.bel.trans (Below.grown (Below.refl w.heap.size W) hg (by have:=h.siz;omega) (fun k e=>(hr k e).1)),Nat.le_trans h.siz hg.size⟩
set_option maxRecDepth 100000 in
set_option maxHeartbeats 2000000 in
theorem p9(r:Int)(a:Option Addr)(n c:Nat)(f:ak)(w:World)(hrow:gG aM 8 w (.slice a n c) f.blocks)(hn:n≤1099511627776):
 Calls Tryz.prog 66 #[.agg #[.int .i64 r,.slice a n c]] w fun e w'=>∃ g,e=.returned (.slice (some ⟨g,0,none⟩) n n)∧w'.ownsRow w.heap.size 4 1 (.slice (some ⟨g,0,none⟩) n n) n (eu n (aD f))∧Below w.heap.size w w':=by
 have hgl:∀ g off,a=some ⟨g,off,none⟩→0<n→g<w.heap.size:=fun g off e h0=>by
  obtain⟨_,_,_,e',_,_,_,h'⟩:=hrow;cases e';obtain⟨g',off',e2,hl,_⟩:=h' h0;rw[e]at e2;cases e2;exact hl
 refine(callsIn_wide (n:=9)).1 ?_
 refine callsIn_of_wp_marks Tryz.func66 rfl trivial ?_ rfl
 simp only[Tryz.ntmps66,List.size_toArray,List.length_cons,List.length_nil,Nat.reduceAdd,Nat.reduceSub,Array.replicate_succ,Array.replicate_zero,List.push_toArray,List.append_toArray,List.nil_append,List.cons_append]
 have HROW:=hid hrow
 have HGL:=hid hgl
 have hmk:=rM n n rfl hn
 clear hrow hgl
 gi_wp2_with (refine⟨trivial, ?_⟩;gi_at_call 95;refine(callsIn_wide.2 (zy r a n c _)).mono ?_;rintro e w' ⟨rfl,rfl⟩)
 obtain⟨W0,hW0⟩:∃ W0,((((w.alloc (.cells #[.int .i64 r,.slice a n c] 36)).alloc (.cells (madeCells #[.bool false] n) 4)).alloc (.cells #[.slice (some ⟨w.heap.size+1,0,none⟩) n n] 111)).alloc (.cells #[.int .i64 r,.slice a n c] 36))=W0:=⟨_,rfl⟩
 have hz0:W0.heap.size=w.heap.size+4:=by rw[←hW0];simp
 have hbw:Below w.heap.size w W0:=by rw[←hW0];exact((((Below.refl w.heap.size w).alloc (Nat.le_refl _) _).alloc (by simp) _).alloc (by simp<;>omega) _).alloc (by simp<;>omega) _
 have hbx:Boxed W0 (w.heap.size+2) 111 (.slice (some ⟨w.heap.size+1,0,none⟩) n n):=by
  rw[←hW0]
  have h:=(Boxed.new ((w.alloc (.cells #[.int .i64 r,.slice a n c] 36)).alloc (.cells (madeCells #[.bool false] n) 4)) 111 (.slice (some ⟨w.heap.size+1,0,none⟩) n n)).alloc (.cells #[.int .i64 r,.slice a n c] 36)
  rw[show((w.alloc (.cells #[.int .i64 r,.slice a n c] 36)).alloc (.cells (madeCells #[.bool false] n) 4)).heap.size=w.heap.size+2 by simp]at h
  exact h
 have hrw:W0.ownsRow (w.heap.size+1) 4 1 (.slice (some ⟨w.heap.size+1,0,none⟩) n n) n (eu n []):=by
  rw[←hW0]
  have h:=World.ownsRow_lit (base:=w.heap.size+1) (e:=4) (size:=1) (w.alloc (.cells #[.int .i64 r,.slice a n c] 36)) (madeCells #[Value.bool false] n) n (by simp) (by unfold maxLen;omega) (by simp[size_madeCells])
  rw[oK,show(w.alloc (.cells #[.int .i64 r,.slice a n c] 36)).heap.size=w.heap.size+1 by simp]at h
  exact(h.alloc _).alloc _
 have hcb:∀ j,W0.cell? ⟨w.heap.size+1+1+1,j,none⟩=(#[.int .i64 r,.slice a n c]:Array Value)[j]? :=by
  intro j
  rw[←hW0,show w.heap.size+1+1+1=(((w.alloc (.cells #[.int .i64 r,.slice a n c] 36)).alloc (.cells (madeCells #[.bool false] n) 4)).alloc (.cells #[.slice (some ⟨w.heap.size+1,0,none⟩) n n] 111)).heap.size by simp]
  exact World.cell?_alloc_mark _ _ _ _ _
 have HS0:Hid (oW w n W0 []):=hid ⟨hbx,hrw,hbw,by omega⟩
 rw[hW0]
 clear hW0
 have hseq:=zx r a n c f (w.heap.size+1+1+1) (w.heap.size+2) 111 W0 (HROW.out.since aM.lasts hbw) hn hcb (fun W hb hl=>by
  have h1:W.heap[w.heap.size+2]? =_:=(hb.block _ (by omega)).trans hbx
  have h2:∀ i,dS (w.heap.size+2) 111 W i→i=w.heap.size+2∨i=w.heap.size+1:=fun i hi=>by
   rcases hi with hi|⟨v,hv,ho⟩
   ·exact .inl hi
   ·unfold Boxed at hv;rw[h1]at hv;cases hv;cases ho;exact .inr rfl
  exact⟨fun h=>by have:=h2 _ h;omega,fun g off e h0 h=>by have:=h2 _ h;have:=HGL.out g off e h0;omega⟩)
 clear hbx hcb hbw hrw hmk
 refine kz rfl (by omega) (gf:=124) (lb:=#[.pointer (some ⟨w.heap.size+1+1+1,0,none⟩)]) rfl trivial (enters_of Tryz.func124 (by kernel_rfl) rfl) hseq (Below.refl _ _) (fun _=>rfl)
  (fun pre W=>oW w n W pre) (fun s W h=>h.lies) ?hI HS0.out
  (fun x a' _=>a'={tmps:=#[.agg #[.int .i64 r,.slice a n c],.pointer (some ⟨w.heap.size,0,none⟩),.slice none 0 0,.pointer (some ⟨w.heap.size+1+1,0,none⟩),.int .i64 x,.pointer (some ⟨w.heap.size,1,none⟩),.slice a n c,.int .i64 n,.slice (some ⟨w.heap.size+1,0,none⟩) n n,.agg #[.int .i64 r,.slice a n c],.func (.func 124) #[] #[.pointer (some ⟨w.heap.size+1+1+1,0,none⟩)],.int .i64 x,undef,undef,undef,undef],defers:=[]})
  (fun _ _ _ _ _ _ h _ _=>h) ?assign ?body ?ran
 case hI=>
  rintro s W W' row h hg hr
  exact h.grown hg (fun r e=>⟨by have:=(hr r e).1;omega,(hr r e).2⟩)
 case assign=>
  rintro l pre x W K' hI hK'
  gi_wp2
  exact hK' _ _ (ou.refl _ _ _) hI rfl
 case body=>
  rintro l pre x a' W hl0 _ hS rfl hT hlen
  obtain⟨j,rfl⟩:∃ j:Nat,x=j:=Int.eq_ofNat_of_zero_le hT.1
  have hj:j<n:=by have:=hT.2;omega
  have hji:(j:Int)<(n:Int):=by omega
  have hv:=Boxed.cell hS.box
  have hcj:W.cell? ⟨w.heap.size+1,j,none⟩=some (.bool (decide ((j:Int)∈pre))):=by
   have:=World.ownsRow.cells hS.row rfl j _ (lN (met:=pre) hj)
   rwa [aU,Nat.zero_add]at this
  have hfj:=World.ownsRow.frozenAt hS.row j
  have HS:=hid hS
  have HST:=hid (World.ownsRow.stored hS.row j (.bool true))
  clear hS
  gi_wp2
  have hg:=HST.out.2
  have hr:=HST.out.1
  rw[kV hj]at hr
  have hb2:Boxed (W.setCell ⟨w.heap.size+1,j,none⟩ (.bool true)) (w.heap.size+2) 111 (.slice (some ⟨w.heap.size+1,0,none⟩) n n):=HS.out.box.kept hg (fun e=>by have:=Option.some.inj e;omega)
  have hS2:oW w n (W.setCell ⟨w.heap.size+1,j,none⟩ (.bool true)) (pre++ [(j:Int)]):=⟨hb2,hr,HS.out.bel.setCell (p:=⟨w.heap.size+1,j,none⟩) (by show w.heap.size≤w.heap.size+1;omega) _,Nat.le_trans HS.out.siz hg.size⟩
  exact⟨⟨hg.size,fun i hi hn=>hg.block i hi (fun e=>hn ((HS.out.owns i).2 (.inr (Option.some.inj e)))),fun i ho hi=>(HS.out.owns i).2 ((hS2.owns i).1 ho)⟩,hS2⟩
 case ran=>
  rintro D ys U hD rfl hS hK
  have hv:=Boxed.cell hS.box
  have HS:=hid hS
  have HK:=hid hK
  clear hS hK
  gi_wp2
  refine⟨by simp,.inl ⟨_,_,rfl,run_takeDeferred HK.out, ?_⟩⟩
  have hfree:=HS.out.lies.not HK.out rfl
  have h2:=HS.out.grown (grownBy_putObj' U D (.deferred none)) (fun r e=>by cases e;exact⟨by omega,hfree⟩)
  have hm:eu n (aD f).reverse=eu n (aD f):=by unfold eu;simp
  refine⟨_,results_tmp rfl _ _ _,w.heap.size+1,rfl, ?_,h2.bel⟩
  have h3:=h2.row
  rw[hm]at h3
  exact⟨h3.1,by
   rcases h3.2 with hn|⟨g,cap,cur,e,hB,rest⟩
   ·exact .inl hn
   ·exact .inr ⟨g,cap,cur,e,by omega,rest⟩⟩
end Go.Proofs.YthjdeoppajlcoaaGreatDoor

namespace Go.Proofs.YthjdeoppajlcoaaGreatDoor
set_option linter.unusedSimpArgs false
set_option linter.unusedVariables false
open Go.RowKit (wrap64 intOf Below)
theorem own_cap{w:World}{B:Nat}{e:TypeId}{va:Option Addr}{vn vc:Nat}{Z:List Int}(h:aj w B e (.slice va vn vc) Z):vn≤vc:=by
 rcases h.2 with⟨e,h0⟩|⟨g,cap,cur,e,_,_,h1,_⟩
 ·cases e;omega
 ·cases e;exact h1
theorem zo(e:mV):(iQ e).length≤2:=by
 unfold iQ
 split
 ·simp
 ·split
  ·split<;>simp
  ·simp
theorem rG(f:ak):0<(aD f).length↔0<f.blocks.length:=by
 constructor
 ·intro h;have:=dZ f;omega
 ·intro h;obtain⟨r,hr⟩:=rH h;rw[hr];simp
theorem sQ{f:ak}{k:Nat}(hk:k<(aD f).length):∃ p:Nat,(aD f)[k]=(p:Int)∧p<f.blocks.length:=by
 have h:=(fI f).there _ (List.getElem_mem hk)
 exact⟨(aD f)[k].toNat,by have:=h.1;omega,by have:=h.1;have:=h.2;omega⟩
def BlockAt(u:World)(g off p:Nat)(e:mV)(pa:Option Addr)(pn pc:Nat)(oa:Option Addr)(on oc:Nat)(la:Option Addr)(ln lc:Nat)(ma:Option Addr)(mn mc:Nat):Prop:=
 u.cell? ⟨g,off+p*8,none⟩=some (.slice pa pn pc)∧u.cell? ⟨g,off+p*8+1,none⟩=some (.slice oa on oc)∧u.cell? ⟨g,off+p*8+2,none⟩=some (.int .i64 e.K)∧u.cell? ⟨g,off+p*8+3,none⟩=some (.int .i64 e.A)∧u.cell? ⟨g,off+p*8+4,none⟩=some (.int .i64 e.To)∧u.cell? ⟨g,off+p*8+5,none⟩=some (.int .i64 e.Else)∧u.cell? ⟨g,off+p*8+6,none⟩=some (.slice la ln lc)∧u.cell? ⟨g,off+p*8+7,none⟩=some (.slice ma mn mc)
theorem zL{W:World}{a:Option Addr}{n c:Nat}{f:ak}(h:gG aM 8 W (.slice a n c) f.blocks){p:Nat}(hp:p<n):∃ g off pa pn pc oa on oc la ln lc ma mn mc,a=some ⟨g,off,none⟩∧g<W.heap.size∧∀ u,Below W.heap.size W u→BlockAt u g off p (aN f p) pa pn pc oa on oc la ln lc ma mn mc:=by
 obtain⟨a',n',c',e,hl,_,_,hrow⟩:=h
 cases e
 obtain⟨g,off,rfl,hg,hcs⟩:=hrow (by omega)
 obtain⟨cs,h8,hc,pv,ov,es,rfl,hpv,hov,l,m,rfl,_,_,_,_,hL,hM⟩:=hcs p (by omega)
 obtain⟨pa,pn,pc,rfl,_⟩:=hpv
 obtain⟨oa,on,oc,rfl,_⟩:=hov
 obtain⟨la,ln,lc,rfl,_⟩:=hL
 obtain⟨ma,mn,mc,rfl,_⟩:=hM
 refine⟨g,off,pa,pn,pc,oa,on,oc,la,ln,lc,ma,mn,mc,rfl,hg,fun u hb=> ?_⟩
 rw[pR (by omega)]
 have hk:∀ j (hj:j<8),u.cell? ⟨g,off+p*8+j,none⟩=_:=fun j hj=>(hb.cell (p:=⟨g,off+p*8+j,none⟩) hg).trans (hc j hj)
 exact⟨hk 0 (by omega),hk 1 (by omega),hk 2 (by omega),hk 3 (by omega),hk 4 (by omega),hk 5 (by omega),hk 6 (by omega),hk 7 (by omega)⟩
theorem nV{B:Nat}{w u u':World}(h1:Below B w u)(hB:B≤w.heap.size)(h2:Below u.heap.size u u'):Below B w u':=h1.trans (h2.mono (Nat.le_trans hB h1.size))
theorem rW{w w2:World}{C0 C1:Array Value}{t0 t1:TypeId}(hb:Below (w.heap.size+2) ((w.alloc (.cells C0 t0)).alloc (.cells C1 t1)) w2):
 (∀j,w2.cell? ⟨w.heap.size,j,none⟩=C0[j]?)∧(∀j,w2.cell? ⟨w.heap.size+1,j,none⟩=C1[j]?)∧(∀j,w2.frozen? ⟨w.heap.size,j,none⟩=false)∧(∀j,w2.frozen? ⟨w.heap.size+1,j,none⟩=false):=by
 refine⟨fun j=> ?_,fun j=> ?_,fun j=> ?_,fun j=> ?_⟩
 ·rw[hb.cell (p:=⟨w.heap.size,j,none⟩) (by simp),World.cell?_alloc_lt _ _ _ (by simp),World.cell?_alloc_mark]
 ·have h1:w.heap.size+1=(w.alloc (.cells C0 t0)).heap.size:=by simp
  rw[hb.cell (p:=⟨w.heap.size+1,j,none⟩) (by simp),h1,World.cell?_alloc_mark]
 ·rw[hb.frozen (p:=⟨w.heap.size,j,none⟩) (by simp),RowKit.frozen?_alloc_cells,World.frozen?_alloc_at _ _ _ _ rfl]
 ·rw[hb.frozen (p:=⟨w.heap.size+1,j,none⟩) (by simp),World.frozen?_alloc_at _ _ _ _ (by simp)]
def Box(u:World)(g:Nat)(P:Array Value):Prop:=(∀j,u.cell? ⟨g,j,none⟩=P[j]?)∧(∀j,u.frozen? ⟨g,j,none⟩=false)
theorem Box.below{u u':World}{g B:Nat}{P:Array Value}(h:Box u g P)(hb:Below B u u')(hg:g<B):Box u' g P:=
 ⟨fun j=>by rw[hb.cell (p:=⟨g,j,none⟩) hg];exact h.1 j,fun j=>by rw[hb.frozen (p:=⟨g,j,none⟩) hg];exact h.2 j⟩
theorem Box.other{u:World}{g g':Nat}{P:Array Value}(h:Box u g P)(hg:g'≠g)(j':Nat)(v:Value):Box (u.setCell ⟨g',j',none⟩ v) g P:=
 ⟨fun j=>(World.cell?_setCell_other (w:=u) (a:=⟨g',j',none⟩) (b:=⟨g,j,none⟩) (v:=v) (by intro he;cases he;exact hg rfl)).trans (h.1 j),fun j=>by rw[World.frozen?_setCell];exact h.2 j⟩
theorem Box.set{u:World}{g:Nat}{P P':Array Value}(h:Box u g P)(j:Nat)(v:Value)(hj:j<P.size)(hP:P'=P.setIfInBounds j v):Box (u.setCell ⟨g,j,none⟩ v) g P':=by
 subst hP
 refine⟨fun i=> ?_,fun i=>by rw[World.frozen?_setCell];exact h.2 i⟩
 by_cases hij:i=j
 ·subst hij
  exact(World.cell?_setCell_same (w:=u) (a:=⟨g,i,none⟩) (v:=v) (u:=P[i]) (by rw[h.1 i];exact Array.getElem?_eq_getElem hj)).trans (by rw[Array.getElem?_setIfInBounds_self_of_lt hj])
 ·exact(World.cell?_setCell_other (w:=u) (a:=⟨g,j,none⟩) (b:=⟨g,i,none⟩) (v:=v) (by intro he;cases he;exact hij rfl)).trans (by rw[h.1 i,Array.getElem?_setIfInBounds_ne (Ne.symm hij)])
theorem BG{B:Nat}{w u:World}(h:Below B w u)(g:Nat)(hg:B≤g)(v0 v1 v2 v3 v4 v5 v6 v7:Value):
 Below B w ((((((((u.setCell ⟨g,0,none⟩ v0).setCell ⟨g,1,none⟩ v1).setCell ⟨g,2,none⟩ v2).setCell ⟨g,3,none⟩ v3).setCell ⟨g,4,none⟩ v4).setCell ⟨g,5,none⟩ v5).setCell ⟨g,6,none⟩ v6).setCell ⟨g,7,none⟩ v7):=
 (((((((h.setCell hg _).setCell hg _).setCell hg _).setCell hg _).setCell hg _).setCell hg _).setCell hg _).setCell hg _
theorem Gr{B:Nat}{e:TypeId}{v:Value}{Z:List Int}{u:World}(h:aj u B e v Z)(g:Nat)(hg:g<B)(v0 v1 v2 v3 v4 v5 v6 v7:Value):
 aj ((((((((u.setCell ⟨g,0,none⟩ v0).setCell ⟨g,1,none⟩ v1).setCell ⟨g,2,none⟩ v2).setCell ⟨g,3,none⟩ v3).setCell ⟨g,4,none⟩ v4).setCell ⟨g,5,none⟩ v5).setCell ⟨g,6,none⟩ v6).setCell ⟨g,7,none⟩ v7) B e v Z:=
 (((((((h.setCell _ _ hg).setCell _ _ hg).setCell _ _ hg).setCell _ _ hg).setCell _ _ hg).setCell _ _ hg).setCell _ _ hg).setCell _ _ hg
structure yt(r:Nat)(u u':World):Prop where
 size:u'.heap.size=u.heap.size
 same:∀ i,i≠r→u'.heap[i]? =u.heap[i]?
 bel:∀ B,B≤r→Below B u u'
 cell:∀ p:Addr,p.block≠r→u'.cell? p=u.cell? p
 frozen:∀ p:Addr,p.block≠r→u'.frozen? p=u.frozen? p
theorem mI(u:World)(r:Nat)(s:ByteArray)(pos:Nat):yt r u (u.iterAt r s pos):=by
 refine⟨Lib.iterAt_size u r s pos,fun i hi=>Lib.iterAt_other u r i s pos hi,fun B hB=>Lib.below_iterAt (Below.refl B u) hB s pos,fun p hp=> ?_,fun p hp=> ?_⟩
 ·simp only[World.cell?,Lib.iterAt_other u r p.block s pos hp]
 ·simp only[World.frozen?,Lib.iterAt_other u r p.block s pos hp]
theorem Box.same{u u':World}{r g:Nat}{P:Array Value}(h:Box u g P)(hs:yt r u u')(hg:g≠r):Box u' g P:=
 ⟨fun j=>by rw[hs.cell ⟨g,j,none⟩ hg];exact h.1 j,fun j=>by rw[hs.frozen ⟨g,j,none⟩ hg];exact h.2 j⟩
theorem Box.new(w:World)(C:Array Value)(t:TypeId){n:Nat}(hn:n=w.heap.size):Box (w.alloc (.cells C t)) n C:=by
 subst hn
 exact⟨fun j=>World.cell?_alloc_mark _ _ _ _ _,fun j=>World.frozen?_alloc_at _ _ _ _ rfl⟩
theorem Box.alloc{u:World}{g:Nat}{P:Array Value}(h:Box u g P)(hg:g<u.heap.size)(o:Obj):Box (u.alloc o) g P:=h.below ((Below.refl u.heap.size u).alloc (Nat.le_refl _) o) hg
theorem aj.same{u u':World}{r B:Nat}{e:TypeId}{v:Value}{Z:List Int}(h:aj u B e v Z)(hs:yt r u u')(hr:r<B):aj u' B e v Z:=by
 refine⟨h.1, ?_⟩
 rcases h.2 with hn|⟨g,cap,cur,rfl,hg,hh,rest⟩
 ·exact .inl hn
 ·refine .inr ⟨g,cap,cur,rfl,hg, ?_,rest⟩
  rw[hs.same g (by omega)]
  exact hh
def lY(K:Int)(k:Nat)(f:UInt8):Bool:=((av K).take k).contains f
theorem vH(K:Int)(f:UInt8):lY K 0 f=false:=by simp[lY]
theorem jb{K:Int}{k:Nat}{g:UInt8}(f:UInt8)(hk:k<(av K).length)(hg:(av K)[k]=g):lY K (k+1) f=(lY K k f||f==g):=by
 unfold lY
 rw[List.take_succ_eq_append_getElem hk,hg,Bool.eq_iff_iff]
 simp
theorem Gi{K:Int}{k:Nat}(f:UInt8)(hk:(av K).length≤k):lY K k f=hasB K f:=by
 unfold lY hasB
 rw[List.take_of_length_le hk]
theorem letters(K:Int):∀ f∈av K,f=78∨f=83∨f=65∨f=66∨f=67∨f=76∨f=75:=by
 rcases kinds K with h|h
 ·rcases h with rfl|rfl|rfl|rfl|rfl|rfl|rfl|rfl|rfl|rfl|rfl|rfl|rfl|rfl|rfl|rfl|rfl|rfl|rfl|rfl|rfl|rfl|rfl|rfl|rfl|rfl
  all_goals decide
 ·rw[gV h]
  intro f hf
  cases hf
def fstr(K:Int):ByteArray:=mk (av K)
def bP(K A B C N:Int)(S:ByteArray)(T:Bool)(k:Nat)(l:Value):Array Value:=#[.int .i64 K,.int .i64 (jk (lY K k 65) A),.int .i64 (jk (lY K k 66) B),.int .i64 (jk (lY K k 67) C),.int .i64 (jk (lY K k 78) N),.string (uS (lY K k 83) S),l,.bool (lY K k 75&&T)]
structure Fh(w:World)(u:World)(K A B C N:Int)(S:ByteArray)(la:Option Addr)(ln lc:Nat)(T:Bool)(L:List Int)(k:Nat)(va:Option Addr)(vn vc:Nat):Prop where
 inb:Box u w.heap.size #[.int .i64 K,.int .i64 A,.int .i64 B,.int .i64 C,.int .i64 N,.string S,.slice la ln lc,.bool T]
 res:Box u (w.heap.size+1) #[.int .i64 0,.int .i64 0,.int .i64 0,.int .i64 0,.int .i64 0,.string ⟨#[]⟩,.slice none 0 0,.bool false]
 box:Box u (w.heap.size+2) (bP K A B C N S T k (.slice va vn vc))
 it:u.heap[w.heap.size+3]? =some (.stringIter (fstr K) k)
 own:aj u (w.heap.size+4) 3 (.slice va vn vc) (dA (lY K k 76) L)
 bel:Below w.heap.size w u
 siz:w.heap.size+4≤u.heap.size
structure PlMv(w:World)(u:World)(K A B C N:Int)(S:ByteArray)(la:Option Addr)(ln lc:Nat)(T:Bool)(L:List Int)(k:Nat)(va:Option Addr)(vn vc:Nat):Prop where
 inb:Box u w.heap.size #[.int .i64 K,.int .i64 A,.int .i64 B,.int .i64 C,.int .i64 N,.string S,.slice la ln lc,.bool T]
 res:Box u (w.heap.size+1) #[.int .i64 0,.int .i64 0,.int .i64 0,.int .i64 0,.int .i64 0,.string ⟨#[]⟩,.slice none 0 0,.bool false]
 box:Box u (w.heap.size+2) (bP K A B C N S T k (.slice va vn vc))
 it:u.heap[w.heap.size+3]? =some (.stringIter (fstr K) (k+1))
 own:aj u (w.heap.size+4) 3 (.slice va vn vc) (dA (lY K k 76) L)
 bel:Below w.heap.size w u
 siz:w.heap.size+4≤u.heap.size
theorem Fh.move{w u:World}{K A B C N:Int}{S:ByteArray}{la:Option Addr}{ln lc:Nat}{T:Bool}{L:List Int}{k:Nat}{va:Option Addr}{vn vc:Nat}(h:Fh w u K A B C N S la ln lc T L k va vn vc):
 PlMv w (u.iterAt (w.heap.size+3) (fstr K) (k+1)) K A B C N S la ln lc T L k va vn vc:=
 have hs:=mI u (w.heap.size+3) (fstr K) (k+1)
 ⟨h.inb.same hs (by omega),h.res.same hs (by omega),h.box.same hs (by omega),Lib.iterAt_heap _ _ _ _ _ h.it,h.own.same hs (by omega),h.bel.trans (hs.bel _ (by omega)),by rw[hs.size];exact h.siz⟩
theorem heap_setCell_other{u:World}{p:Addr}{v:Value}{i:Nat}(h:i≠p.block):(u.setCell p v).heap[i]? =u.heap[i]? :=Below.heap_setCell u p v i h
theorem dB(u:World)(p:Addr)(v:Value):(u.setCell p v).heap.size=u.heap.size:=by
 show(u.heap.modify _ _).size=_
 rw[Array.size_modify]
theorem PlMv.put{w u:World}{K A B C N:Int}{S:ByteArray}{la:Option Addr}{ln lc:Nat}{T:Bool}{L:List Int}{k:Nat}{va:Option Addr}{vn vc:Nat}(h:PlMv w u K A B C N S la ln lc T L k va vn vc)
 (j:Nat)(v:Value)(hj:j<8)(hP:bP K A B C N S T (k+1) (.slice va vn vc)=(bP K A B C N S T k (.slice va vn vc)).setIfInBounds j v)(hL:lY K (k+1) 76=lY K k 76):
 Fh w (u.setCell ⟨w.heap.size+2,j,none⟩ v) K A B C N S la ln lc T L (k+1) va vn vc:=
 ⟨h.inb.other (by omega) _ _,h.res.other (by omega) _ _,h.box.set j v hj hP,by rw[heap_setCell_other (by show w.heap.size+3≠w.heap.size+2;omega)];exact h.it,by rw[hL];exact h.own.setCell _ _ (by show w.heap.size+2<w.heap.size+4;omega),h.bel.setCell (by show w.heap.size≤w.heap.size+2;omega) _,by rw[dB];exact h.siz⟩
theorem PlMv.dU{w u u':World}{K A B C N:Int}{S:ByteArray}{la:Option Addr}{ln lc:Nat}{T:Bool}{L:List Int}{k:Nat}{va va':Option Addr}{vn vc vn' vc':Nat}(h:PlMv w u K A B C N S la ln lc T L k va vn vc)
 (hb:Below (w.heap.size+4) u u')(ho:aj u' (w.heap.size+4) 3 (.slice va' vn' vc') L)(hP:bP K A B C N S T (k+1) (.slice va' vn' vc')=(bP K A B C N S T k (.slice va vn vc)).setIfInBounds 6 (.slice va' vn' vc'))(hL:lY K (k+1) 76=true):
 Fh w (u'.setCell ⟨w.heap.size+2,6,none⟩ (.slice va' vn' vc')) K A B C N S la ln lc T L (k+1) va' vn' vc':=
 ⟨(h.inb.below hb (by omega)).other (by omega) _ _,(h.res.below hb (by omega)).other (by omega) _ _,(h.box.below hb (by omega)).set 6 _ (by simp[bP]) hP,by rw[heap_setCell_other (by show w.heap.size+3≠w.heap.size+2;omega),hb.block _ (by omega)];exact h.it,by rw[hL];exact ho.setCell _ _ (by show w.heap.size+2<w.heap.size+4;omega),(h.bel.trans (hb.mono (by omega))).setCell (by show w.heap.size≤w.heap.size+2;omega) _,by rw[dB];exact Nat.le_trans h.siz hb.size⟩
section
variable {K A B C N : Int} {S : ByteArray} {T : Bool} {k : Nat} {l : Value}
theorem xE(K A B C N:Int)(S:ByteArray)(T:Bool)(l:Value):bP K A B C N S T 0 l=#[.int .i64 K,.int .i64 0,.int .i64 0,.int .i64 0,.int .i64 0,.string ⟨#[]⟩,l,.bool false]:=by
 simp[bP,vH,jk,uS]
theorem put_N(hk:k<(av K).length)(hg:(av K)[k]=78):bP K A B C N S T (k+1) l=(bP K A B C N S T k l).setIfInBounds 4 (.int .i64 N)∧lY K (k+1) 76=lY K k 76:=by
 simp[bP,jb _ hk hg,jk]
theorem put_S(hk:k<(av K).length)(hg:(av K)[k]=83):bP K A B C N S T (k+1) l=(bP K A B C N S T k l).setIfInBounds 5 (.string S)∧lY K (k+1) 76=lY K k 76:=by
 simp[bP,jb _ hk hg,uS]
theorem put_A(hk:k<(av K).length)(hg:(av K)[k]=65):bP K A B C N S T (k+1) l=(bP K A B C N S T k l).setIfInBounds 1 (.int .i64 A)∧lY K (k+1) 76=lY K k 76:=by
 simp[bP,jb _ hk hg,jk]
theorem put_B(hk:k<(av K).length)(hg:(av K)[k]=66):bP K A B C N S T (k+1) l=(bP K A B C N S T k l).setIfInBounds 2 (.int .i64 B)∧lY K (k+1) 76=lY K k 76:=by
 simp[bP,jb _ hk hg,jk]
theorem put_C(hk:k<(av K).length)(hg:(av K)[k]=67):bP K A B C N S T (k+1) l=(bP K A B C N S T k l).setIfInBounds 3 (.int .i64 C)∧lY K (k+1) 76=lY K k 76:=by
 simp[bP,jb _ hk hg,jk]
theorem put_K(hk:k<(av K).length)(hg:(av K)[k]=75):bP K A B C N S T (k+1) l=(bP K A B C N S T k l).setIfInBounds 7 (.bool T)∧lY K (k+1) 76=lY K k 76:=by
 simp[bP,jb _ hk hg]
theorem put_L{l':Value}(hk:k<(av K).length)(hg:(av K)[k]=76):bP K A B C N S T (k+1) l'=(bP K A B C N S T k l).setIfInBounds 6 l'∧lY K (k+1) 76=true:=by
 simp[bP,jb _ hk hg]
end
theorem xO{K:Int}{k:Nat}(h:k<(av K).length)(h':k<(fstr K).size):(fstr K)[k]=(av K)[k]:=by
 show(av K).toArray[k]'(by simpa using h)=_
 rfl
end Go.Proofs.YthjdeoppajlcoaaGreatDoor

namespace Go.Proofs.YthjdeoppajlcoaaGreatDoor
set_option linter.unusedVariables false
set_option maxRecDepth 100000
open Go.RowKit (wrap64 intOf Below Hid)
open Go.Lib (hid)
def Fg(n:Nat)(t:Int):Bool:=decide ((0≤t∧t≤5)∨(6≤t∧t-6<n))
theorem yT{n:Nat}{t:Int}(h:(0≤t∧t≤5)∨(6≤t∧t-6<n)):Fg n t=true:=decide_eq_true h
theorem C8{n:Nat}{t:Int}(h:¬ ((0≤t∧t≤5)∨(6≤t∧t-6<n))):Fg n t=false:=decide_eq_false h
theorem vD(g:Nat)(ca:Option Addr)(cn cc:Nat)(t:Int)(w:World)(hc:w.cell? ⟨g,1,none⟩=some (.slice ca cn cc))(ht: -9223372036854775808≤t∧t≤9223372036854775807)(hn:cn≤140737488355328):
 Calls Tryz.prog 86 #[.pointer (some ⟨g,0,none⟩),.int .i64 t] w fun e w'=>e=.returned (.bool (Fg cn t))∧w=w':=by
 obtain⟨ht0,ht1⟩:=ht
 by_cases h0:t<0
 ·have HT:=hid (C8 (n:=cn) (t:=t) (by omega))
  have HD:=hid (decide_eq_false (show ¬0≤t by omega))
  have h6:t<6:=by omega
  go_enter Tryz.func86,Tryz.ntmps86
  go_wp2
  go_ret
  exact⟨by rw[HT.out];show Ending.returned (.bool (decide (0≤t)))=_;rw[HD.out],rfl⟩
 ·by_cases h5:t≤5
  ·have HT:=hid (yT (n:=cn) (t:=t) (by omega))
   have h0':0≤t:=by omega
   have h6:t<6:=by omega
   go_enter Tryz.func86,Tryz.ntmps86
   go_wp2
   all_goals go_ret
   all_goals exact⟨by rw[HT.out];rfl,rfl⟩
  ·have h6:6≤t:=by omega
   by_cases hl:t-6<cn
   ·have HT:=hid (yT (n:=cn) (t:=t) (by omega))
    go_enter Tryz.func86,Tryz.ntmps86
    go_wp2
    all_goals go_ret
    all_goals exact⟨by rw[HT.out];rfl,rfl⟩
   ·have HT:=hid (C8 (n:=cn) (t:=t) (by omega))
    go_enter Tryz.func86,Tryz.ntmps86
    go_wp2
    all_goals go_ret
    all_goals exact⟨by rw[HT.out];rfl,rfl⟩
theorem Ap(s:Int):(s=0∨s=1∨s=2∨s=3∨s=4∨s=5∨s=6∨s=7∨s=8∨s=9∨s=10∨s=11∨s=12∨s=13)∨¬ (0≤s∧s≤13):=by omega
def tlV(s:Int):Int:=if 0≤s∧s≤13 then(if 10≤s then 1 else 0)else -1
theorem tl_no(s:Int)(w:World)(hs:¬ (0≤s∧s≤13)):
 Calls Tryz.prog 130 #[.int .i64 s] w fun e w'=>e=.returned (.int .i64 (tlV s))∧w=w':=by
 have e1:tlV s= -1:=by unfold tlV;rw[if_neg hs]
 rw[e1]
 clear e1
 have t0:(s==0)=false:=by simp;omega
 have t1:(s==1)=false:=by simp;omega
 have t2:(s==2)=false:=by simp;omega
 have t3:(s==3)=false:=by simp;omega
 have t4:(s==4)=false:=by simp;omega
 have t5:(s==5)=false:=by simp;omega
 have t6:(s==6)=false:=by simp;omega
 have t7:(s==7)=false:=by simp;omega
 have t8:(s==8)=false:=by simp;omega
 have t9:(s==9)=false:=by simp;omega
 have t10:(s==10)=false:=by simp;omega
 have t11:(s==11)=false:=by simp;omega
 have t12:(s==12)=false:=by simp;omega
 have t13:(s==13)=false:=by simp;omega
 go_enter Tryz.func130,Tryz.ntmps130
 go_wp2
 go_ret
 exact⟨rfl,rfl⟩
theorem C9(s:Int)(w:World):
 Calls Tryz.prog 130 #[.int .i64 s] w fun e w'=>e=.returned (.int .i64 (tlV s))∧w=w':=by
 rcases Ap s with(rfl|rfl|rfl|rfl|rfl|rfl|rfl|rfl|rfl|rfl|rfl|rfl|rfl|rfl)|hs
 case inr=>exact tl_no s w hs
 all_goals
  go_enter Tryz.func130,Tryz.ntmps130
  go_wp2
  go_ret
  exact⟨rfl,rfl⟩
theorem EM(s:Int)(w:World):
 Calls Tryz.prog 131 #[.int .i64 s] w fun e w'=>e=.returned (.bool (tlV s != -1))∧w=w':=by
 go_enter Tryz.func131,Tryz.ntmps131
 go_wp2_with(go_at_call 130;(with_reducible refine(C9 s _).mono ?_);rintro e w' ⟨rfl,rfl⟩)
 go_ret
 exact⟨rfl,rfl⟩
theorem can_yes(s:Int)(w:World)(h:0≤s∧s≤13):
 Calls Tryz.prog 131 #[.int .i64 s] w fun e w'=>e=.returned (.bool true)∧w=w':=by
 have e:(tlV s != -1)=true:=by unfold tlV;rw[if_pos h];split<;>rfl
 have c:=EM s w
 rw[e]at c
 exact c
theorem can_no(s:Int)(w:World)(h:¬ (0≤s∧s≤13)):
 Calls Tryz.prog 131 #[.int .i64 s] w fun e w'=>e=.returned (.bool false)∧w=w':=by
 have e:(tlV s != -1)=false:=by unfold tlV;rw[if_neg h];rfl
 have c:=EM s w
 rw[e]at c
 exact c
theorem rt_any(s:Int)(w:World):
 Calls Tryz.prog 103 #[.int .i64 s] w fun e w'=>e=.returned (.int .i64 (tlV s))∧w=w':=by
 rcases(show s<0∨13<s∨(10≤s∧s≤13)∨(0≤s∧s<10) by omega)with h|h|h|h
 ·have e1:tlV s= -1:=by unfold tlV;rw[if_neg (by omega)]
  rw[e1]
  clear e1
  go_enter Tryz.func103,Tryz.ntmps103
  go_wp2
  go_ret
  exact⟨rfl,rfl⟩
 ·have e1:tlV s= -1:=by unfold tlV;rw[if_neg (by omega)]
  rw[e1]
  clear e1
  go_enter Tryz.func103,Tryz.ntmps103
  go_wp2
  go_ret
  exact⟨rfl,rfl⟩
 ·have e1:tlV s=1:=by unfold tlV;rw[if_pos (by omega),if_pos (by omega)]
  rw[e1]
  clear e1
  go_enter Tryz.func103,Tryz.ntmps103
  go_wp2
  go_ret
  exact⟨rfl,rfl⟩
 ·have e1:tlV s=0:=by unfold tlV;rw[if_pos (by omega),if_neg (by omega)]
  rw[e1]
  clear e1
  go_enter Tryz.func103,Tryz.ntmps103
  go_wp2
  go_ret
  exact⟨rfl,rfl⟩
def vE(n m:Int):Bool:=decide (0≤n∧n<m)
theorem eF(n m:Int)(w:World):Calls Tryz.prog 98 #[.int .i64 n,.int .i64 m] w fun e w'=>e=.returned (.bool (vE n m))∧w=w':=by
 by_cases h0:0≤n
 ·by_cases h1:n<m
  ·have HB:=hid (show vE n m=true from decide_eq_true ⟨h0,h1⟩)
   go_enter Tryz.func98,Tryz.ntmps98
   go_wp2
   go_ret
   exact⟨by rw[HB.out];rfl,rfl⟩
  ·have HB:=hid (show vE n m=false from decide_eq_false (fun h=>h1 h.2))
   have h1':m≤n:=by omega
   go_enter Tryz.func98,Tryz.ntmps98
   go_wp2
   go_ret
   exact⟨by rw[HB.out];rfl,rfl⟩
 ·have HB:=hid (show vE n m=false from decide_eq_false (fun h=>h0 h.1))
  have h0':n<0:=by omega
  go_enter Tryz.func98,Tryz.ntmps98
  go_wp2
  go_ret
  exact⟨by rw[HB.out];rfl,rfl⟩
theorem sK(n:Int)(w:World):Calls Tryz.prog 99 #[.int .i64 n] w fun e w'=>e=.returned (.tuple #[.int .i64 (tlV n),.bool (decide (0≤n∧n≤13))])∧w=w':=by
 by_cases h:0≤n∧n≤13
 ·have HB:=hid (decide_eq_true h)
  go_enter Tryz.func99,Tryz.ntmps99
  go_wp2_with(first|(go_at_call 130;(with_reducible refine(C9 n _).mono ?_);rintro e w' ⟨rfl,rfl⟩)|(go_at_call 131;(with_reducible refine(can_yes n _ h).mono ?_);rintro e w' ⟨rfl,rfl⟩))
  refine bodyPost_ret (v:=.tuple #[.int .i64 (tlV n),.bool (decide (0≤n∧n≤13))]) (by rw[HB.out];simp[results,Tryz.results99,go_sem]) rfl ⟨rfl,rfl⟩
 ·have HB:=hid (decide_eq_false h)
  go_enter Tryz.func99,Tryz.ntmps99
  go_wp2_with(first|(go_at_call 130;(with_reducible refine(C9 n _).mono ?_);rintro e w' ⟨rfl,rfl⟩)|(go_at_call 131;(with_reducible refine(can_no n _ h).mono ?_);rintro e w' ⟨rfl,rfl⟩))
  refine bodyPost_ret (v:=.tuple #[.int .i64 (tlV n),.bool (decide (0≤n∧n≤13))]) (by rw[HB.out];simp[results,Tryz.results99,go_sem]) rfl ⟨rfl,rfl⟩
def aQ(ts:List Int)(v:Int):Int:=nth ts v.toNat
def Among(vs:List Int)(n:Nat):Prop:=∀ v∈vs,0≤v∧v<(n:Int)
def gJ(ts:List Int)(t:Int)(vs:List Int):Bool:=vs.all fun v=>aQ ts v==t
theorem ai.type{w:World}{a:Option Addr}{n:Nat}{ts:List Int}(h:ai w a n ts){v:Int}(hv:0≤v∧v<(n:Int)):∃ (g off k:Nat),a=some ⟨g,off,none⟩∧v=(k:Int)∧k<n∧w.cell? ⟨g,off+k,none⟩=some (.int .i64 (aQ ts v)):=by
 obtain⟨k,rfl⟩:=Int.eq_ofNat_of_zero_le hv.1
 have hk:k<n:=by omega
 obtain⟨g,off,e,_,hc⟩:=h.2 (by omega)
 refine⟨g,off,k,e,rfl,hk, ?_⟩
 have hl:=h.1
 rw[hc k (by omega)]
 show some (Value.int .i64 _)=_
 rw[show aQ ts (k:Int)=nth ts k from rfl,bN (by omega)]
theorem aR(ta:Option Addr)(tn tc:Nat)(ts:List Int)(t:Int)(va:Option Addr)(vn vc:Nat)(vs:List Int)(w:World)(ht:ai w ta tn ts)(hv:ai w va vn vs)(ham:Among vs tn)(hvn:vn≤140737488355328)(htn:tn≤140737488355328):
 Calls Tryz.prog 100 #[.slice ta tn tc,.int .i64 t,.slice va vn vc] w fun e w'=>e=.returned (.bool (gJ ts t vs))∧w=w':=by
 have HT:=hid ht
 have HV:=hid hv
 have HAM:=hid ham
 have HVL:=hid hv.1
 clear ht hv ham
 go_enter Tryz.func100,Tryz.ntmps100
 go_wp2_with fail
 go_loop [11] (fun iv=>∃ k:Nat,k≤vn∧iv=.int .i64 (k:Int)∧Hid (gJ ts t (vs.take k)=true)) (fun iv=>vn-(intOf iv).toNat)
 case atStart=>exact⟨0,Nat.zero_le _,rfl,hid rfl⟩
 case round=>
  obtain⟨k,hk,rfl,HA⟩:=hrel
  by_cases hlt:k<vn
  ·have hkl:k<vs.length:=by rw[HVL.out];exact hlt
   obtain⟨vg,vo,rfl,_,hvc⟩:=HV.out.2 (by omega)
   have hcv:=hvc k hkl
   unfold dN at hcv
   obtain⟨v,hv⟩:∃ v,vs[k]=v:=⟨_,rfl⟩
   obtain⟨tg,tq,j,rfl,e2,hj,hct⟩:=HT.out.type (HAM.out v (by rw[←hv];exact List.getElem_mem _))
   rw[hv,e2]at hcv
   have HN:Hid (gJ ts t (vs.take (k+1))=(gJ ts t (vs.take k)&&(aQ ts v==t))):=hid (by
    unfold gJ
    rw[List.take_succ_eq_append_getElem hkl,hv,List.all_append]
    simp)
   obtain⟨y,hy⟩:∃ y,aQ ts v=y:=⟨_,rfl⟩
   rw[hy]at hct HN
   clear hvc hv e2 hy
   by_cases hyt:y=t
   ·subst hyt
    go_wp2_with fail
    go_round
    case rel=>exact⟨k+1,by omega,by go_num,hid (by rw[HN.out,HA.out];simp)⟩
    case measure=>simp[intOf];omega
   ·have hd:(y !=t)=true:=by simpa using hyt
    have HE:Hid (gJ ts t vs=false):=hid (by
     have h1:=HN.out
     have h2:gJ ts t (vs.take (k+1))=false:=by rw[h1,show(y==t)=false by simpa using hyt];simp
     unfold gJ at h2⊢
     rw[List.all_eq_false]at h2⊢
     obtain⟨x,hx,hp⟩:=h2
     exact⟨x,List.mem_of_mem_take hx,hp⟩)
    clear hyt
    go_wp2_with fail
    go_ret
    exact⟨by rw[HE.out];rfl,rfl⟩
  ·obtain rfl:k=vn:=by omega
   have HE:Hid (gJ ts t vs=true):=hid (by
    have:=HA.out
    rwa [List.take_of_length_le (by rw[HVL.out];exact Nat.le_refl _)]at this)
   go_wp2_with fail
   go_ret
   exact⟨by rw[HE.out];rfl,rfl⟩
theorem A9(b:Nat)(ta:Option Addr)(tn tc:Nat)(ts:List Int)(v want:Int)(w:World)(ht:ai w ta tn ts)(hb:w.cell? ⟨b,0,none⟩=some (.slice ta tn tc))(hv:0≤v∧v<(tn:Int))(htn:tn≤140737488355328):
 Calls Tryz.prog 154 #[.int .i64 v,.int .i64 want,.pointer (some ⟨b,0,none⟩)] w fun e w'=>e=.returned (.bool (aQ ts v==want))∧w=w':=by
 obtain⟨tg,tq,j,rfl,rfl,hj,hct⟩:=ht.type hv
 obtain⟨y,hy⟩:∃ y,aQ ts (j:Int)=y:=⟨_,rfl⟩
 rw[hy]at hct⊢
 clear hy hv ht
 go_enter Tryz.func154,Tryz.ntmps154
 go_wp2_with fail
 go_ret
 exact⟨rfl,rfl⟩
def iB(ts vs ws:List Int):Bool:=decide (vs.map (aQ ts)=ws)
theorem eqf_any(b:Nat)(ta:Option Addr)(tn tc:Nat)(ts:List Int)(va:Option Addr)(vn vc:Nat)(vs:List Int)(wa:Option Addr)(wn wc:Nat)(ws:List Int)(w:World)(ht:ai w ta tn ts)(hb:w.cell? ⟨b,0,none⟩=some (.slice ta tn tc))(hv:ai w va vn vs)(hw:ai w wa wn ws)(ham:Among vs tn)(hvn:vn≤140737488355328)(hwn:wn≤140737488355328)(htn:tn≤140737488355328):
 Calls Tryz.prog 153 #[.slice va vn vc,.slice wa wn wc,.func (.func 154) #[] #[.pointer (some ⟨b,0,none⟩)]] w fun e w'=>e=.returned (.bool (iB ts vs ws))∧w=w':=by
 have HVL:=hid hv.1
 have HWL:=hid hw.1
 by_cases hne:vn=wn
 ·subst hne
  have HV:=hid hv
  have HW:=hid hw
  have HAM:=hid ham
  have HC:=hid (fun v want hv=>A9 b ta tn tc ts v want w ht hb hv htn)
  clear hv hw ham ht hb
  go_enter Tryz.func153,Tryz.ntmps153
  go_wp2_with fail
  go_loop [17] (fun iv=>∃ k:Nat,k≤vn∧iv=.int .i64 (k:Int)∧Hid ((vs.take k).map (aQ ts)=ws.take k)) (fun iv=>vn-(intOf iv).toNat)
  case atStart=>exact⟨0,Nat.zero_le _,rfl,hid rfl⟩
  case round=>
   obtain⟨k,hk,rfl,HA⟩:=hrel
   by_cases hlt:k<vn
   ·have hkl:k<vs.length:=by rw[HVL.out];exact hlt
    have hkw:k<ws.length:=by rw[HWL.out];exact hlt
    obtain⟨vg,vo,rfl,_,hvc⟩:=HV.out.2 (by omega)
    obtain⟨wg,wo,rfl,_,hwc⟩:=HW.out.2 (by omega)
    have hcv:=hvc k hkl
    have hcw:=hwc k hkw
    unfold dN at hcv hcw
    obtain⟨v,hv⟩:∃ v,vs[k]=v:=⟨_,rfl⟩
    obtain⟨x,hx⟩:∃ x,ws[k]=x:=⟨_,rfl⟩
    rw[hv]at hcv
    rw[hx]at hcw
    have HR:=hid (HAM.out v (by rw[←hv];exact List.getElem_mem _))
    clear hvc hwc
    by_cases hyt:aQ ts v=x
    ·have HN:Hid ((vs.take (k+1)).map (aQ ts)=ws.take (k+1)):=hid (by
      rw[List.take_succ_eq_append_getElem hkl,List.take_succ_eq_append_getElem hkw,List.map_append,HA.out,hv,hx,List.map_cons,hyt];rfl)
     have HB:=hid (show(aQ ts v==x)=true by simpa using hyt)
     clear hyt hv hx
     go_wp2_with(go_at_call 154;(with_reducible refine(HC.out v x HR.out).mono ?_);rintro e w' ⟨rfl,rfl⟩;rw[HB.out])
     go_round
     case rel=>exact⟨k+1,by omega,by go_num,HN⟩
     case measure=>simp[intOf];omega
    ·have HE:Hid (iB ts vs ws=false):=hid (by
      unfold iB
      rw[decide_eq_false_iff_not]
      intro he
      apply hyt
      have h1:(vs.map (aQ ts))[k]? =ws[k]? :=by rw[he]
      rw[List.getElem?_map,List.getElem?_eq_getElem hkl,List.getElem?_eq_getElem hkw,hv,hx]at h1
      simpa using h1)
     have HB:=hid (show(aQ ts v==x)=false by simpa using hyt)
     clear hyt hv hx
     go_wp2_with(go_at_call 154;(with_reducible refine(HC.out v x HR.out).mono ?_);rintro e w' ⟨rfl,rfl⟩;rw[HB.out])
     go_ret
     exact⟨by rw[HE.out];rfl,rfl⟩
   ·obtain rfl:k=vn:=by omega
    have HE:Hid (iB ts vs ws=true):=hid (by
     have:=HA.out
     rw[List.take_of_length_le (by rw[HVL.out];exact Nat.le_refl _),List.take_of_length_le (by rw[HWL.out];exact Nat.le_refl _)]at this
     exact decide_eq_true this)
    go_wp2_with fail
    go_ret
    exact⟨by rw[HE.out];rfl,rfl⟩
 ·have HE:Hid (iB ts vs ws=false):=hid (by
   unfold iB
   rw[decide_eq_false_iff_not]
   intro he
   have:=congrArg List.length he
   rw[List.length_map,HVL.out,HWL.out]at this
   exact hne this)
  have hd:((vn:Int) !=(wn:Int))=true:=by simp;omega
  clear hne hv hw ham ht hb
  go_enter Tryz.func153,Tryz.ntmps153
  go_wp2_with fail
  go_ret
  exact⟨by rw[HE.out];rfl,rfl⟩
theorem ql(ta:Option Addr)(tn tc:Nat)(ts:List Int)(va:Option Addr)(vn vc:Nat)(vs:List Int)(wa:Option Addr)(wn wc:Nat)(ws:List Int)(w:World)(ht:ai w ta tn ts)(hv:ai w va vn vs)(hw:ai w wa wn ws)(ham:Among vs tn)(hvn:vn≤140737488355328)(hwn:wn≤140737488355328)(htn:tn≤140737488355328):
 Calls Tryz.prog 132 #[.slice ta tn tc,.slice va vn vc,.slice wa wn wc] w fun e w'=>e=.returned (.bool (iB ts vs ws))∧Below w.heap.size w w':=by
 have HB:Hid (Below w.heap.size w (w.alloc (.cells #[.slice ta tn tc] 40))):=hid ((Below.refl _ w).alloc (Nat.le_refl _) _)
 have HC:=hid (eqf_any w.heap.size ta tn tc ts va vn vc vs wa wn wc ws (w.alloc (.cells #[.slice ta tn tc] 40)) (ht.since HB.out) (World.cell?_alloc_mark _ _ _ _ _) (hv.since HB.out) (hw.since HB.out) ham hvn hwn htn)
 clear ht hv hw ham
 go_enter Tryz.func132,Tryz.ntmps132
 go_wp2_with(go_at_call 153;(refine(HC.out).mono ?_);rintro e w' ⟨rfl,rfl⟩)
 go_ret
 exact⟨rfl,HB.out⟩
def Az(n:Nat)(t:Int):Bool:=decide (6≤t∧t-6<n)
theorem qd(g:Nat)(ca:Option Addr)(cn cc:Nat)(t:Int)(w:World)(hc:w.cell? ⟨g,1,none⟩=some (.slice ca cn cc))(ht: -9223372036854775808≤t∧t≤9223372036854775807)(hn:cn≤140737488355328):
 Calls Tryz.prog 134 #[.pointer (some ⟨g,0,none⟩),.int .i64 t] w fun e w'=>e=.returned (.bool (Az cn t))∧w=w':=by
 have HC:=hid (vD g ca cn cc t w hc ht hn)
 clear hc
 by_cases h6:6≤t
 ·have HB:Hid (Fg cn t=Az cn t):=hid (by
   unfold Fg Az
   rw[decide_eq_decide]
   omega)
  go_enter Tryz.func134,Tryz.ntmps134
  go_wp2_with(go_at_call 86;(with_reducible refine(HC.out).mono ?_);rintro e w' ⟨rfl,rfl⟩;rw[HB.out])
  go_ret
  exact⟨rfl,rfl⟩
 ·have HB:=hid (show Az cn t=false from decide_eq_false (fun h=>h6 h.1))
  have h6':t<6:=by omega
  go_enter Tryz.func134,Tryz.ntmps134
  go_wp2_with fail
  go_ret
  exact⟨by rw[HB.out];rfl,rfl⟩
structure aX(W:World)(g:Nat)(sa:Option Addr)(sn sc:Nat)(ca:Option Addr)(cn cc:Nat)(fa:Option Addr)(fn fc:Nat)(P:aB):Prop where
 c0:W.cell? ⟨g,0,none⟩=some (.slice sa sn sc)
 c1:W.cell? ⟨g,1,none⟩=some (.slice ca cn cc)
 c2:W.cell? ⟨g,2,none⟩=some (.slice fa fn fc)
 s:gG Cf 2 W (.slice sa sn sc) P.sigs
 c:gG jy 2 W (.slice ca cn cc) P.classes
 f:gG bO 2 W (.slice fa fn fc) P.funcs
theorem aX.since{W W':World}{g:Nat}{sa:Option Addr}{sn sc:Nat}{ca:Option Addr}{cn cc:Nat}{fa:Option Addr}{fn fc:Nat}{P:aB}(h:aX W g sa sn sc ca cn cc fa fn fc P)(hb:Below W.heap.size W W'):aX W' g sa sn sc ca cn cc fa fn fc P:=
 ⟨(hb.cell (p:=⟨g,0,none⟩) (World.block_lt_of_cell? _ _ h.c0)).trans h.c0,(hb.cell (p:=⟨g,1,none⟩) (World.block_lt_of_cell? _ _ h.c1)).trans h.c1,(hb.cell (p:=⟨g,2,none⟩) (World.block_lt_of_cell? _ _ h.c2)).trans h.c2,h.s.since Cf.lasts hb,h.c.since jy.lasts hb,h.f.since bO.lasts hb⟩
theorem gG.len{α:Type}{Q:World→List Value→α→Prop}{k:Nat}{W:World}{a:Option Addr}{n c:Nat}{xs:List α}(h:gG Q k W (.slice a n c) xs):xs.length=n∧n≤140737488351232:=by
 obtain⟨a',n',c',e,hl,_,hm,_⟩:=h
 cases e
 exact⟨hl,hm⟩
theorem gG.elem{α:Type}{Q:World→List Value→α→Prop}{k:Nat}{W:World}{a:Option Addr}{n c:Nat}{xs:List α}(h:gG Q k W (.slice a n c) xs){i:Nat}(hi:i<n):
 ∃(g off:Nat) (cs:List Value) (hx:i<xs.length),a=some ⟨g,off,none⟩∧cs.length=k∧(∀j (hj:j<cs.length),W.cell? ⟨g,off+i*k+j,none⟩=some cs[j])∧Q W cs xs[i]:=by
 obtain⟨a',n',c',e,hl,_,hm,hc⟩:=h
 cases e
 obtain⟨g,off,ea,_,hat⟩:=hc (by omega)
 obtain⟨cs,h1,h2,h3⟩:=hat i (by omega)
 exact⟨g,off,cs,by omega,ea,h1,h2,h3⟩
def fieldsOf(P:aB)(k:Nat):List Int:=match P.classes[k]? with|some c=>c.fields|none=>[]
def bC(P:aB)(t n:Int):Int×Bool:=if 6≤t∧t-6<P.classes.length then(if 0≤n∧n<(fieldsOf P (t-6).toNat).length then(nth (fieldsOf P (t-6).toNat) n.toNat,true)else(-1,false))else(-1,false)
theorem vN(g:Nat){sa:Option Addr}{sn sc:Nat}{ca:Option Addr}{cn cc:Nat}{fa:Option Addr}{fn fc:Nat}{P:aB}(t n:Int)(w:World)(hP:aX w g sa sn sc ca cn cc fa fn fc P)(ht: -9223372036854775808≤t∧t≤9223372036854775807)(hn: -9223372036854775808≤n∧n≤9223372036854775807):
 Calls Tryz.prog 133 #[.pointer (some ⟨g,0,none⟩),.int .i64 t,.int .i64 n] w fun e w'=>e=.returned (.tuple #[.int .i64 (bC P t n).1,.bool (bC P t n).2])∧w=w':=by
 have hlc:=hP.c.len
 have HPT:=hid (qd g ca cn cc t w hP.c1 ht (by omega))
 by_cases h:6≤t∧t-6<cn
 ·have HB:=hid (show Az cn t=true from decide_eq_true h)
  obtain⟨k,hk⟩:=Int.eq_ofNat_of_zero_le (show 0≤t-6 by omega)
  have hkn:k<cn:=by omega
  obtain⟨cg,co,cs,hx,rfl,hcl,hcs,f,m,rfl,⟨a,fnn,fcc,rfl,hat,_,hfb,_⟩,_⟩:=hP.c.elem hkn
  have hc0:w.cell? ⟨cg,co+k*2,none⟩=some (.slice a fnn fcc):=hcs 0 (by simp)
  have hfo:fieldsOf P k=(P.classes[k]).fields:=by unfold fieldsOf;rw[List.getElem?_eq_getElem hx]
  obtain⟨l,hl⟩:∃ l,(P.classes[k]).fields=l:=⟨_,rfl⟩
  rw[hl]at hat hfo
  have HNL:=hid hat.1
  by_cases h2:0≤n∧n<(fnn:Int)
  ·obtain⟨i,rfl⟩:=Int.eq_ofNat_of_zero_le h2.1
   have hi:i<fnn:=by omega
   have HE:Hid (bC P t (i:Int)=(nth l i,true)):=hid (by
    unfold bC
    rw[if_pos (by omega),hk,show((k:Int)).toNat=k from rfl,hfo,if_pos (by have:=hat.1;omega)]
    rfl)
   obtain⟨fg,fo,rfl,_,hfc⟩:=hat.2 (by omega)
   have hci:w.cell? ⟨fg,fo+i,none⟩=some (.int .i64 (nth l i)):=by have h3:=hfc i (by have:=hat.1;omega);rw[bN (by have:=hat.1;omega)];exact h3
   have HI:=hid (show vE (i:Int) (fnn:Int)=true from decide_eq_true h2)
   have ht2:t=(k:Int)+6:=by omega
   subst ht2
   have hP1:=hP.c1
   clear hcs hfc hat h2 h hk hl
   go_enter Tryz.func133,Tryz.ntmps133
   go_wp2_with(first|(go_at_call 134;(with_reducible refine(HPT.out).mono ?_);rintro e w' ⟨rfl,rfl⟩;rw[HB.out])|(go_at_call 98;(with_reducible refine(eF _ _ _).mono ?_);rintro e w' ⟨rfl,rfl⟩;rw[HI.out]))
   refine bodyPost_ret (v:=.tuple #[.int .i64 (nth l i),.bool true]) (by simp[results,Tryz.results133,go_sem]) rfl ⟨by rw[HE.out],rfl⟩
  ·have HE:Hid (bC P t n=(-1,false)):=hid (by
    unfold bC
    rw[if_pos (by omega),hk,show((k:Int)).toNat=k from rfl,hfo,if_neg (by have:=hat.1;omega)])
   have HI:=hid (show vE n (fnn:Int)=false from decide_eq_false h2)
   have ht2:t=(k:Int)+6:=by omega
   subst ht2
   have hP1:=hP.c1
   clear hcs hat h2 h hk hl
   go_enter Tryz.func133,Tryz.ntmps133
   go_wp2_with(first|(go_at_call 134;(with_reducible refine(HPT.out).mono ?_);rintro e w' ⟨rfl,rfl⟩;rw[HB.out])|(go_at_call 98;(with_reducible refine(eF _ _ _).mono ?_);rintro e w' ⟨rfl,rfl⟩;rw[HI.out]))
   refine bodyPost_ret (v:=.tuple #[.int .i64 (-1),.bool false]) (by simp[results,Tryz.results133,go_sem]) rfl ⟨by rw[HE.out],rfl⟩
 ·have HB:=hid (show Az cn t=false from decide_eq_false h)
  have HE:Hid (bC P t n=(-1,false)):=hid (by
   unfold bC
   rw[if_neg (by omega)])
  clear h hP
  go_enter Tryz.func133,Tryz.ntmps133
  go_wp2_with(go_at_call 134;(with_reducible refine(HPT.out).mono ?_);rintro e w' ⟨rfl,rfl⟩;rw[HB.out])
  refine bodyPost_ret (v:=.tuple #[.int .i64 (-1),.bool false]) (by simp[results,Tryz.results133,go_sem]) rfl ⟨by rw[HE.out],rfl⟩
def jX(F:ak):List Int:=match F.blocks with|b::_=>b.params| []=>[]
def vV(F:ak)(ts L:List Int):Int×Bool:=if F.blocks.length=0 then(-1,false)else(F.ret,iB ts L (jX F))
set_option maxRecDepth 100000 in
theorem GL(ba:Option Addr)(bn bc:Nat)(F:ak)(K A B C N:Int)(S:ByteArray)(la:Option Addr)(ln lc:Nat)(T:Bool)(L:List Int)(ta:Option Addr)(tn tc:Nat)(ts:List Int)(w:World)
 (hF:gG aM 8 w (.slice ba bn bc) F.blocks)(hat:ai w la ln L)(hln:ln≤17592186044000)(ht:ai w ta tn ts)(htn:tn≤140737488355328)(ham:Among L tn):
 Calls Tryz.prog 135 #[.agg #[.int .i64 F.ret,.slice ba bn bc],.agg #[.int .i64 K,.int .i64 A,.int .i64 B,.int .i64 C,.int .i64 N,.string S,.slice la ln lc,.bool T],.slice ta tn tc] w
  fun e w'=>e=.returned (.tuple #[.int .i64 (vV F ts L).1,.bool (vV F ts L).2])∧Below w.heap.size w w':=by
 have hl:=hF.len
 by_cases h0:bn=0
 ·subst h0
  have HE:Hid (vV F ts L=(-1,false)):=hid (by unfold vV;rw[if_pos hl.1])
  clear hF hat ht ham
  go_enter Tryz.func135,Tryz.ntmps135
  go_wp2_with fail
  refine bodyPost_ret (v:=.tuple #[.int .i64 (-1),.bool false]) (by simp[results,Tryz.results135,go_sem]) rfl ⟨by rw[HE.out],((Below.refl _ w).alloc (Nat.le_refl _) _).alloc (by simp) _⟩
 ·obtain⟨bg,bo,cs,hx,rfl,hcl,hcs,p,o,es,rfl,⟨pa,pn,pc,rfl,hpat,_,hpb,_⟩,_⟩:=hF.elem (i:=0) (by omega)
  have hc0:w.cell? ⟨bg,bo,none⟩=some (.slice pa pn pc):=by have:=hcs 0 (by simp);rw[Nat.zero_mul]at this;exact this
  have HE:Hid (vV F ts L=(F.ret,iB ts L F.blocks[0].params)):=hid (by
   unfold vV jX
   rw[if_neg (by omega)]
   clear hcs hpat
   revert hx
   cases F.blocks with
   |nil=>intro hx;exact absurd hx (by simp)
   |cons b r=>intros;rfl)
  obtain⟨ps,hps⟩:∃ ps,F.blocks[0].params=ps:=⟨_,rfl⟩
  rw[hps]at hpat HE
  have HB2:Hid (∀C0 C1 t0 t1,Below w.heap.size w ((w.alloc (.cells C0 t0)).alloc (.cells C1 t1)).drew):=hid (fun _ _ _ _=>(((Below.refl w.heap.size w).alloc (Nat.le_refl _) _).alloc (by simp) _).drew)
  have HM:=hid (fun u hu=>ql ta tn tc ts la ln lc L pa pn pc ps u (ht.since hu) (hat.since hu) (hpat.since hu) ham (by omega) (by omega) htn)
  have hcu:∀ u,Below w.heap.size w u→u.cell? ⟨bg,bo,none⟩=some (.slice pa pn pc):=fun u hu=>(hu.cell (p:=⟨bg,bo,none⟩) (World.block_lt_of_cell? _ _ hc0)).trans hc0
  have hne:¬ bn=0:=h0
  have hb0:0<bn:=by omega
  clear hcs hpat hF hat ht ham h0 hps hc0
  go_enter Tryz.func135,Tryz.ntmps135
  go_wp2_with fail
  obtain⟨W0,hW0⟩:∃ W0,W0=((w.alloc (.cells #[.int .i64 F.ret,.slice (some ⟨bg,bo,none⟩) bn bc] 36)).alloc (.cells #[.int .i64 K,.int .i64 A,.int .i64 B,.int .i64 C,.int .i64 N,.string S,.slice la ln lc,.bool T] 64)):=⟨_,rfl⟩
  have HALL:Hid (∀u,Below (w.heap.size+2) W0 u→u.cell? ⟨w.heap.size,0,none⟩=some (.int .i64 F.ret)∧u.cell? ⟨w.heap.size,1,none⟩=some (.slice (some ⟨bg,bo,none⟩) bn bc)∧u.cell? ⟨w.heap.size+1,6,none⟩=some (.slice la ln lc)∧u.cell? ⟨bg,bo,none⟩=some (.slice pa pn pc)):=hid (fun u hu=>by
   have hw:Below w.heap.size w u:=(by rw[hW0];exact((Below.refl w.heap.size w).alloc (Nat.le_refl _) _).alloc (by simp) _:Below w.heap.size w W0).trans (hu.mono (by omega))
   have h2:=hcu u hw
   rw[hW0]at hu
   obtain⟨a0,a1,_,_⟩:=rW hu
   exact⟨a0 0,a0 1,a1 6,h2⟩)
  have HW:Hid (∀u,Below (w.heap.size+2) W0 u→Below w.heap.size w u):=hid (fun u hu=>(by rw[hW0];exact((Below.refl w.heap.size w).alloc (Nat.le_refl _) _).alloc (by simp) _:Below w.heap.size w W0).trans (hu.mono (by omega)))
  have HZ:Hid (w.heap.size+2≤W0.heap.size):=hid (by rw[hW0];simp)
  have H0:Hid (Below (w.heap.size+2) W0 W0.drew):=hid (Below.refl _ _).drew
  rw[←hW0]
  clear hW0 hcu
  go_region_held3 (fun u=>u.cell? ⟨w.heap.size,0,none⟩=some (.int .i64 F.ret)∧u.cell? ⟨w.heap.size,1,none⟩=some (.slice (some ⟨bg,bo,none⟩) bn bc)∧u.cell? ⟨w.heap.size+1,6,none⟩=some (.slice la ln lc)∧u.cell? ⟨bg,bo,none⟩=some (.slice pa pn pc))
   (exact HALL.out _ (Hid.out (by assumption)))
   (first|(go_at_call 132;(with_reducible refine(HM.out _ (HW.out _ (Hid.out (by assumption)))).mono ?_);rintro e w' ⟨rfl,hb⟩;have HB:=hid (nV (Hid.out (by assumption:Hid (Below (w.heap.size+2) W0 _))) HZ.out hb);clear hb))
  all_goals go_wp2_with fail
  all_goals exact bodyPost_ret (v:=.tuple #[.int .i64 F.ret,.bool (iB ts L ps)]) (by simp[results,Tryz.results135,go_sem]) rfl ⟨by rw[HE.out],HW.out _ (Hid.out (by assumption))⟩
end Go.Proofs.YthjdeoppajlcoaaGreatDoor

namespace Go.Proofs.YthjdeoppajlcoaaGreatDoor
set_option linter.unusedVariables false
open Go.RowKit (wrap64 intOf Below)
def iw(P:aB)(k:Nat):wC:=match P.sigs[k]? with|some s=>s|none=>⟨[],0⟩
def funcOf(P:aB)(k:Nat):ak:=match P.funcs[k]? with|some f=>f|none=>⟨0,[]⟩
def aC(P:aB)(K N:Int)(S:ByteArray)(l:List Int):Int×Bool:=
 if K=0 then(0,true)else if K=1 then(1,N==0||N==1)else if K=2 then(2,decide (S.size≤64))else
 if K=3 then(tlV N,decide (0≤N∧N≤13)&&aG l [0,0])else if K=4 then(1,aG l [1])else if K=5 then(2,aG l [2,2])else
 if K=6 then(0,aG l [2])else if K=7 then(0,aG l [2,0])else if K=8 then(1,aG l [2,2])else
 if K=9 then(if 0≤N∧N<P.classes.length then(6+N,aG l (fieldsOf P N.toNat))else(-1,false))else
 if K=10 then bC P (nth l 0) N else
 if K=11 then(-1,(bC P (nth l 0) N).2&&(nth l 1==(bC P (nth l 0) N).1))else
 if K=12 then(3,decide (0≤N∧N≤128))else if K=13 then(3,aG l [0])else if K=14 then(0,aG l [3])else if K=15 then(0,aG l [3,0])else
 if K=16 then(-1,aG l [3,0,0])else if K=17 then(4,true)else if K=18 then(-1,aG l [4,0,0])else if K=19 then(0,aG l [4,0])else
 if K=20 then(0,aG l [4])else if K=21 then(0,aG l [4,0])else if K=22 then(5,Az P.classes.length (nth l 0))else
 if K=23 then(if 0≤N∧N<P.funcs.length∧(funcOf P N.toNat).blocks.length≠0 then((funcOf P N.toNat).ret,aG l (jX (funcOf P N.toNat)))else(-1,false))else
 if K=24 then(if 0≤N∧N<P.sigs.length then((iw P N.toNat).ret,nth l 0==5&&aG (l.drop 1) (iw P N.toNat).params)else(-1,false))else
 if K=25 then(-1,aG l [0]||aG l [2])else(-1,false)
def aF(r:Int×Bool)(w:World)(e:Ending)(w':World):Prop:=∃ t,e=.returned (.tuple #[.int .i64 t,.bool r.2])∧(r.2=true→t=r.1)∧Below w.heap.size w w'
theorem fG(ts:List Int)(t v:Int):gJ ts t [v]=(aQ ts v==t):=by simp[gJ]
theorem nM(ts:List Int)(t v u:Int):gJ ts t [v,u]=((aQ ts v==t)&&(aQ ts u==t)):=by simp[gJ]
theorem iy(x y:Int):aG [x] [y]=(x==y):=by
 rw[Bool.eq_iff_iff];simp[aG]
theorem iX(x y x' y':Int):aG [x,y] [x',y']=((x==x')&&(y==y')):=by
 rw[Bool.eq_iff_iff];simp[aG]
theorem pV(x y z x' y' z':Int):aG [x,y,z] [x',y',z']=((x==x')&&((y==y')&&(z==z'))):=by
 rw[Bool.eq_iff_iff];simp[aG]
theorem aJ(w:World)(C0 C1:Array Value)(t0 t1:TypeId):Below w.heap.size w ((w.alloc (.cells C0 t0)).alloc (.cells C1 t1)):=((Below.refl w.heap.size w).alloc (Nat.le_refl _) _).alloc (by simp) _
theorem dh(w:World)(C0 C1 C2:Array Value)(t0 t1 t2:TypeId):Below w.heap.size w (((w.alloc (.cells C0 t0)).alloc (.cells C1 t1)).alloc (.cells C2 t2)):=(((Below.refl w.heap.size w).alloc (Nat.le_refl _) _).alloc (by simp) _).alloc (by simp<;>omega) _
theorem bD(w:World)(C0:Array Value)(t0:TypeId):Below w.heap.size w (w.alloc (.cells C0 t0)):=(Below.refl w.heap.size w).alloc (Nat.le_refl _) _
theorem ay{w:World}{e:TypeId}{n0:Nat}(n:Nat)(Z:List Int)(C:Array Value)(hC:C=(Z.map dN).toArray)(hn:Z.length=n)(h0:n0=w.heap.size):ai (w.alloc (.cells C e)) (some ⟨n0,0,none⟩) n Z:=by
 subst hC hn h0
 refine⟨rfl,fun _=>⟨w.heap.size,0,rfl,by simp,fun j hj=> ?_⟩⟩
 rw[Nat.zero_add,World.cell?_alloc_mark]
 simp[hj]
theorem lF{ts:List Int}{n:Nat}(hl:ts.length=n){v:Int}(hv:0≤v∧v<(n:Int)):aQ ts v∈ts:=by
 unfold aQ
 rw[bN (by omega)]
 exact List.getElem_mem _
theorem _root_.Go.RowKit.Below.drewq{B:Nat}{w w':World}(h:Below B w w')(q:Nat):Below B w (w'.drewN q):=h.trans ⟨rfl,rfl,rfl,Nat.le_refl _,fun _ _=>rfl⟩
theorem wants_0(w:World):Calls Tryz.prog 102 #[.int .i64 0] w fun e w'=>e=.returned (.tuple #[.slice (some ⟨w.heap.size,0,none⟩) 0 0,.int .i64 0,.bool true])∧w'=w.alloc (.cells #[] 3):=by
 go_enter Tryz.func102,Tryz.ntmps102
 go_wp2
 exact bodyPost_ret (v:=.tuple #[.slice (some ⟨w.heap.size,0,none⟩) 0 0,.int .i64 0,.bool true]) (by simp[results,Tryz.results102,go_sem]) rfl ⟨rfl,rfl⟩
theorem wW(w:World):Calls Tryz.prog 102 #[.int .i64 1] w fun e w'=>e=.returned (.tuple #[.slice (some ⟨w.heap.size,0,none⟩) 0 0,.int .i64 1,.bool true])∧w'=w.alloc (.cells #[] 3):=by
 go_enter Tryz.func102,Tryz.ntmps102
 go_wp2
 exact bodyPost_ret (v:=.tuple #[.slice (some ⟨w.heap.size,0,none⟩) 0 0,.int .i64 1,.bool true]) (by simp[results,Tryz.results102,go_sem]) rfl ⟨rfl,rfl⟩
theorem CQ(w:World):Calls Tryz.prog 102 #[.int .i64 2] w fun e w'=>e=.returned (.tuple #[.slice (some ⟨w.heap.size,0,none⟩) 0 0,.int .i64 2,.bool true])∧w'=w.alloc (.cells #[] 3):=by
 go_enter Tryz.func102,Tryz.ntmps102
 go_wp2
 exact bodyPost_ret (v:=.tuple #[.slice (some ⟨w.heap.size,0,none⟩) 0 0,.int .i64 2,.bool true]) (by simp[results,Tryz.results102,go_sem]) rfl ⟨rfl,rfl⟩
theorem sI(w:World):Calls Tryz.prog 102 #[.int .i64 12] w fun e w'=>e=.returned (.tuple #[.slice (some ⟨w.heap.size,0,none⟩) 0 0,.int .i64 3,.bool true])∧w'=w.alloc (.cells #[] 3):=by
 go_enter Tryz.func102,Tryz.ntmps102
 go_wp2
 exact bodyPost_ret (v:=.tuple #[.slice (some ⟨w.heap.size,0,none⟩) 0 0,.int .i64 3,.bool true]) (by simp[results,Tryz.results102,go_sem]) rfl ⟨rfl,rfl⟩
theorem Fz(w:World):Calls Tryz.prog 102 #[.int .i64 17] w fun e w'=>e=.returned (.tuple #[.slice (some ⟨w.heap.size,0,none⟩) 0 0,.int .i64 4,.bool true])∧w'=w.alloc (.cells #[] 3):=by
 go_enter Tryz.func102,Tryz.ntmps102
 go_wp2
 exact bodyPost_ret (v:=.tuple #[.slice (some ⟨w.heap.size,0,none⟩) 0 0,.int .i64 4,.bool true]) (by simp[results,Tryz.results102,go_sem]) rfl ⟨rfl,rfl⟩
theorem CP(w:World):Calls Tryz.prog 102 #[.int .i64 4] w fun e w'=>e=.returned (.tuple #[.slice (some ⟨w.heap.size,0,none⟩) 1 1,.int .i64 1,.bool true])∧w'=w.alloc (.cells #[.int .i64 1] 3):=by
 go_enter Tryz.func102,Tryz.ntmps102
 go_wp2
 exact bodyPost_ret (v:=.tuple #[.slice (some ⟨w.heap.size,0,none⟩) 1 1,.int .i64 1,.bool true]) (by simp[results,Tryz.results102,go_sem]) rfl ⟨rfl,rfl⟩
theorem Cz(w:World):Calls Tryz.prog 102 #[.int .i64 5] w fun e w'=>e=.returned (.tuple #[.slice (some ⟨w.heap.size,0,none⟩) 2 2,.int .i64 2,.bool true])∧w'=w.alloc (.cells #[.int .i64 2,.int .i64 2] 3):=by
 go_enter Tryz.func102,Tryz.ntmps102
 go_wp2
 exact bodyPost_ret (v:=.tuple #[.slice (some ⟨w.heap.size,0,none⟩) 2 2,.int .i64 2,.bool true]) (by simp[results,Tryz.results102,go_sem]) rfl ⟨rfl,rfl⟩
theorem Cw(w:World):Calls Tryz.prog 102 #[.int .i64 8] w fun e w'=>e=.returned (.tuple #[.slice (some ⟨w.heap.size,0,none⟩) 2 2,.int .i64 1,.bool true])∧w'=w.alloc (.cells #[.int .i64 2,.int .i64 2] 3):=by
 go_enter Tryz.func102,Tryz.ntmps102
 go_wp2
 exact bodyPost_ret (v:=.tuple #[.slice (some ⟨w.heap.size,0,none⟩) 2 2,.int .i64 1,.bool true]) (by simp[results,Tryz.results102,go_sem]) rfl ⟨rfl,rfl⟩
theorem Cy(w:World):Calls Tryz.prog 102 #[.int .i64 6] w fun e w'=>e=.returned (.tuple #[.slice (some ⟨w.heap.size,0,none⟩) 1 1,.int .i64 0,.bool true])∧w'=w.alloc (.cells #[.int .i64 2] 3):=by
 go_enter Tryz.func102,Tryz.ntmps102
 go_wp2
 exact bodyPost_ret (v:=.tuple #[.slice (some ⟨w.heap.size,0,none⟩) 1 1,.int .i64 0,.bool true]) (by simp[results,Tryz.results102,go_sem]) rfl ⟨rfl,rfl⟩
theorem Cx(w:World):Calls Tryz.prog 102 #[.int .i64 7] w fun e w'=>e=.returned (.tuple #[.slice (some ⟨w.heap.size,0,none⟩) 2 2,.int .i64 0,.bool true])∧w'=w.alloc (.cells #[.int .i64 2,.int .i64 0] 3):=by
 go_enter Tryz.func102,Tryz.ntmps102
 go_wp2
 exact bodyPost_ret (v:=.tuple #[.slice (some ⟨w.heap.size,0,none⟩) 2 2,.int .i64 0,.bool true]) (by simp[results,Tryz.results102,go_sem]) rfl ⟨rfl,rfl⟩
theorem yO(w:World):Calls Tryz.prog 102 #[.int .i64 13] w fun e w'=>e=.returned (.tuple #[.slice (some ⟨w.heap.size,0,none⟩) 1 1,.int .i64 3,.bool true])∧w'=w.alloc (.cells #[.int .i64 0] 3):=by
 go_enter Tryz.func102,Tryz.ntmps102
 go_wp2
 exact bodyPost_ret (v:=.tuple #[.slice (some ⟨w.heap.size,0,none⟩) 1 1,.int .i64 3,.bool true]) (by simp[results,Tryz.results102,go_sem]) rfl ⟨rfl,rfl⟩
theorem yN(w:World):Calls Tryz.prog 102 #[.int .i64 14] w fun e w'=>e=.returned (.tuple #[.slice (some ⟨w.heap.size,0,none⟩) 1 1,.int .i64 0,.bool true])∧w'=w.alloc (.cells #[.int .i64 3] 3):=by
 go_enter Tryz.func102,Tryz.ntmps102
 go_wp2
 exact bodyPost_ret (v:=.tuple #[.slice (some ⟨w.heap.size,0,none⟩) 1 1,.int .i64 0,.bool true]) (by simp[results,Tryz.results102,go_sem]) rfl ⟨rfl,rfl⟩
theorem yM(w:World):Calls Tryz.prog 102 #[.int .i64 15] w fun e w'=>e=.returned (.tuple #[.slice (some ⟨w.heap.size,0,none⟩) 2 2,.int .i64 0,.bool true])∧w'=w.alloc (.cells #[.int .i64 3,.int .i64 0] 3):=by
 go_enter Tryz.func102,Tryz.ntmps102
 go_wp2
 exact bodyPost_ret (v:=.tuple #[.slice (some ⟨w.heap.size,0,none⟩) 2 2,.int .i64 0,.bool true]) (by simp[results,Tryz.results102,go_sem]) rfl ⟨rfl,rfl⟩
theorem yL(w:World):Calls Tryz.prog 102 #[.int .i64 16] w fun e w'=>e=.returned (.tuple #[.slice (some ⟨w.heap.size,0,none⟩) 3 3,.int .i64 (-1),.bool true])∧w'=w.alloc (.cells #[.int .i64 3,.int .i64 0,.int .i64 0] 3):=by
 go_enter Tryz.func102,Tryz.ntmps102
 go_wp2
 exact bodyPost_ret (v:=.tuple #[.slice (some ⟨w.heap.size,0,none⟩) 3 3,.int .i64 (-1),.bool true]) (by simp[results,Tryz.results102,go_sem]) rfl ⟨rfl,rfl⟩
theorem yJ(w:World):Calls Tryz.prog 102 #[.int .i64 18] w fun e w'=>e=.returned (.tuple #[.slice (some ⟨w.heap.size,0,none⟩) 3 3,.int .i64 (-1),.bool true])∧w'=w.alloc (.cells #[.int .i64 4,.int .i64 0,.int .i64 0] 3):=by
 go_enter Tryz.func102,Tryz.ntmps102
 go_wp2
 exact bodyPost_ret (v:=.tuple #[.slice (some ⟨w.heap.size,0,none⟩) 3 3,.int .i64 (-1),.bool true]) (by simp[results,Tryz.results102,go_sem]) rfl ⟨rfl,rfl⟩
theorem yI(w:World):Calls Tryz.prog 102 #[.int .i64 19] w fun e w'=>e=.returned (.tuple #[.slice (some ⟨w.heap.size,0,none⟩) 2 2,.int .i64 0,.bool true])∧w'=w.alloc (.cells #[.int .i64 4,.int .i64 0] 3):=by
 go_enter Tryz.func102,Tryz.ntmps102
 go_wp2
 exact bodyPost_ret (v:=.tuple #[.slice (some ⟨w.heap.size,0,none⟩) 2 2,.int .i64 0,.bool true]) (by simp[results,Tryz.results102,go_sem]) rfl ⟨rfl,rfl⟩
theorem yG(w:World):Calls Tryz.prog 102 #[.int .i64 21] w fun e w'=>e=.returned (.tuple #[.slice (some ⟨w.heap.size,0,none⟩) 2 2,.int .i64 0,.bool true])∧w'=w.alloc (.cells #[.int .i64 4,.int .i64 0] 3):=by
 go_enter Tryz.func102,Tryz.ntmps102
 go_wp2
 exact bodyPost_ret (v:=.tuple #[.slice (some ⟨w.heap.size,0,none⟩) 2 2,.int .i64 0,.bool true]) (by simp[results,Tryz.results102,go_sem]) rfl ⟨rfl,rfl⟩
theorem yH(w:World):Calls Tryz.prog 102 #[.int .i64 20] w fun e w'=>e=.returned (.tuple #[.slice (some ⟨w.heap.size,0,none⟩) 1 1,.int .i64 0,.bool true])∧w'=w.alloc (.cells #[.int .i64 4] 3):=by
 go_enter Tryz.func102,Tryz.ntmps102
 go_wp2
 exact bodyPost_ret (v:=.tuple #[.slice (some ⟨w.heap.size,0,none⟩) 1 1,.int .i64 0,.bool true]) (by simp[results,Tryz.results102,go_sem]) rfl ⟨rfl,rfl⟩
theorem wV(w:World):Calls Tryz.prog 102 #[.int .i64 3] w fun e w'=>e=.returned (.tuple #[.slice none 0 0,.int .i64 (-1),.bool false])∧w'=w:=by
 go_enter Tryz.func102,Tryz.ntmps102
 go_wp2
 exact bodyPost_ret (v:=.tuple #[.slice none 0 0,.int .i64 (-1),.bool false]) (by simp[results,Tryz.results102,go_sem]) rfl ⟨rfl,rfl⟩
theorem wU(w:World):Calls Tryz.prog 102 #[.int .i64 9] w fun e w'=>e=.returned (.tuple #[.slice none 0 0,.int .i64 (-1),.bool false])∧w'=w:=by
 go_enter Tryz.func102,Tryz.ntmps102
 go_wp2
 exact bodyPost_ret (v:=.tuple #[.slice none 0 0,.int .i64 (-1),.bool false]) (by simp[results,Tryz.results102,go_sem]) rfl ⟨rfl,rfl⟩
theorem mY(w:World):Calls Tryz.prog 102 #[.int .i64 10] w fun e w'=>e=.returned (.tuple #[.slice none 0 0,.int .i64 (-1),.bool false])∧w'=w:=by
 go_enter Tryz.func102,Tryz.ntmps102
 go_wp2
 exact bodyPost_ret (v:=.tuple #[.slice none 0 0,.int .i64 (-1),.bool false]) (by simp[results,Tryz.results102,go_sem]) rfl ⟨rfl,rfl⟩
theorem mX(w:World):Calls Tryz.prog 102 #[.int .i64 11] w fun e w'=>e=.returned (.tuple #[.slice none 0 0,.int .i64 (-1),.bool false])∧w'=w:=by
 go_enter Tryz.func102,Tryz.ntmps102
 go_wp2
 exact bodyPost_ret (v:=.tuple #[.slice none 0 0,.int .i64 (-1),.bool false]) (by simp[results,Tryz.results102,go_sem]) rfl ⟨rfl,rfl⟩
theorem sH(w:World):Calls Tryz.prog 102 #[.int .i64 22] w fun e w'=>e=.returned (.tuple #[.slice none 0 0,.int .i64 (-1),.bool false])∧w'=w:=by
 go_enter Tryz.func102,Tryz.ntmps102
 go_wp2
 exact bodyPost_ret (v:=.tuple #[.slice none 0 0,.int .i64 (-1),.bool false]) (by simp[results,Tryz.results102,go_sem]) rfl ⟨rfl,rfl⟩
theorem pq(w:World):Calls Tryz.prog 102 #[.int .i64 23] w fun e w'=>e=.returned (.tuple #[.slice none 0 0,.int .i64 (-1),.bool false])∧w'=w:=by
 go_enter Tryz.func102,Tryz.ntmps102
 go_wp2
 exact bodyPost_ret (v:=.tuple #[.slice none 0 0,.int .i64 (-1),.bool false]) (by simp[results,Tryz.results102,go_sem]) rfl ⟨rfl,rfl⟩
theorem o9(w:World):Calls Tryz.prog 102 #[.int .i64 24] w fun e w'=>e=.returned (.tuple #[.slice none 0 0,.int .i64 (-1),.bool false])∧w'=w:=by
 go_enter Tryz.func102,Tryz.ntmps102
 go_wp2
 exact bodyPost_ret (v:=.tuple #[.slice none 0 0,.int .i64 (-1),.bool false]) (by simp[results,Tryz.results102,go_sem]) rfl ⟨rfl,rfl⟩
theorem sG(w:World):Calls Tryz.prog 102 #[.int .i64 25] w fun e w'=>e=.returned (.tuple #[.slice none 0 0,.int .i64 (-1),.bool false])∧w'=w:=by
 go_enter Tryz.func102,Tryz.ntmps102
 go_wp2
 exact bodyPost_ret (v:=.tuple #[.slice none 0 0,.int .i64 (-1),.bool false]) (by simp[results,Tryz.results102,go_sem]) rfl ⟨rfl,rfl⟩
end Go.Proofs.YthjdeoppajlcoaaGreatDoor

namespace Go.Proofs.YthjdeoppajlcoaaGreatDoor
set_option linter.unusedVariables false
set_option maxRecDepth 100000
open Go.RowKit (wrap64 intOf Below Hid)
open Go.Lib (hid)
theorem row_4(pv:Value)(P:aB)(A B C N:Int)(S:ByteArray)(la:Option Addr)(ln lc:Nat)(T:Bool)(L:List Int)(ta:Option Addr)(tn tc:Nat)(ts:List Int)(w:World)(ht:ai w ta tn ts)(htn:tn≤140737488355328)(ham:Among (aA 4 A B C L) tn):
 Calls Tryz.prog 68 #[pv,.agg #[.int .i64 4,.int .i64 A,.int .i64 B,.int .i64 C,.int .i64 N,.string S,.slice la ln lc,.bool T],.slice ta tn tc] w (aF (aC P 4 N S ((aA 4 A B C L).map (aQ ts))) w):=by
 have HT:Hid (∀u,Below w.heap.size w u→ai u ta tn ts):=hid (fun u hu=>ht.since hu)
 have hu:aA 4 A B C L=[A]:=by simp[aA,hasB,av,iF,dA]
 rw[hu]at ham⊢
 have HA_A:Hid (Among [A] tn):=hid (fun v hv=>ham v (by simp at hv ⊢;omega))
 have HR1:Hid ((aC P 4 N S ([A].map (aQ ts))).1=1):=hid rfl
 have hr:(aC P 4 N S ([A].map (aQ ts))).2=(gJ ts 1 [A]):=by
  show aG _ _=_
  simp only[List.map_cons,List.map_nil,iy,fG]
 clear ht ham hu
 cases h0:gJ ts 1 [A]with
 |false=>
  have H0:=hid h0
  have C0:Hid (Calls Tryz.prog 100 #[.slice ta tn tc,.int .i64 1,.slice (some ⟨w.heap.size+1,0,none⟩) 1 1] ((w.alloc (.cells #[.int .i64 4,.int .i64 A,.int .i64 B,.int .i64 C,.int .i64 N,.string S,.slice la ln lc,.bool T] 64)).alloc (.cells #[.int .i64 A] 3)) (fun e w'=>e=.returned (.bool false)∧((w.alloc (.cells #[.int .i64 4,.int .i64 A,.int .i64 B,.int .i64 C,.int .i64 N,.string S,.slice la ln lc,.bool T] 64)).alloc (.cells #[.int .i64 A] 3))=w')):=hid (by rw[←H0.out];exact aR ta tn tc ts 1 _ 1 _ [A] _ (HT.out _ (aJ _ _ _ _ _)) (ay 1 [A] _ rfl rfl (by simp)) HA_A.out (by decide) htn)
  have HR:Hid ((aC P 4 N S ([A].map (aQ ts))).2=false):=hid (by rw[hr,h0])
  clear hr h0
  go_enter Tryz.func68,Tryz.ntmps68
  go_wp2_with(first|(go_at_call 100;(with_reducible refine(C0.out).mono ?_);rintro e w' ⟨rfl,rfl⟩))
  refine bodyPost_ret (v:=.tuple #[.int .i64 1,.bool false]) (by simp[results,Tryz.results68,go_sem]) rfl ⟨1,by rw[HR.out],fun _=>HR1.out.symm,aJ _ _ _ _ _⟩
 |true=>
  have H0:=hid h0
  have C0:Hid (Calls Tryz.prog 100 #[.slice ta tn tc,.int .i64 1,.slice (some ⟨w.heap.size+1,0,none⟩) 1 1] ((w.alloc (.cells #[.int .i64 4,.int .i64 A,.int .i64 B,.int .i64 C,.int .i64 N,.string S,.slice la ln lc,.bool T] 64)).alloc (.cells #[.int .i64 A] 3)) (fun e w'=>e=.returned (.bool true)∧((w.alloc (.cells #[.int .i64 4,.int .i64 A,.int .i64 B,.int .i64 C,.int .i64 N,.string S,.slice la ln lc,.bool T] 64)).alloc (.cells #[.int .i64 A] 3))=w')):=hid (by rw[←H0.out];exact aR ta tn tc ts 1 _ 1 _ [A] _ (HT.out _ (aJ _ _ _ _ _)) (ay 1 [A] _ rfl rfl (by simp)) HA_A.out (by decide) htn)
  have HR:Hid ((aC P 4 N S ([A].map (aQ ts))).2=true):=hid (by rw[hr,h0])
  clear hr h0
  go_enter Tryz.func68,Tryz.ntmps68
  go_wp2_with(first|(go_at_call 100;(with_reducible refine(C0.out).mono ?_);rintro e w' ⟨rfl,rfl⟩))
  refine bodyPost_ret (v:=.tuple #[.int .i64 1,.bool true]) (by simp[results,Tryz.results68,go_sem]) rfl ⟨1,by rw[HR.out],fun _=>HR1.out.symm,aJ _ _ _ _ _⟩
theorem row_5(pv:Value)(P:aB)(A B C N:Int)(S:ByteArray)(la:Option Addr)(ln lc:Nat)(T:Bool)(L:List Int)(ta:Option Addr)(tn tc:Nat)(ts:List Int)(w:World)(ht:ai w ta tn ts)(htn:tn≤140737488355328)(ham:Among (aA 5 A B C L) tn):
 Calls Tryz.prog 68 #[pv,.agg #[.int .i64 5,.int .i64 A,.int .i64 B,.int .i64 C,.int .i64 N,.string S,.slice la ln lc,.bool T],.slice ta tn tc] w (aF (aC P 5 N S ((aA 5 A B C L).map (aQ ts))) w):=by
 have HT:Hid (∀u,Below w.heap.size w u→ai u ta tn ts):=hid (fun u hu=>ht.since hu)
 have hu:aA 5 A B C L=[A,B]:=by simp[aA,hasB,av,iF,dA]
 rw[hu]at ham⊢
 have HA_AB:Hid (Among [A,B] tn):=hid (fun v hv=>ham v (by simp at hv ⊢;omega))
 have HR1:Hid ((aC P 5 N S ([A,B].map (aQ ts))).1=2):=hid rfl
 have hr:(aC P 5 N S ([A,B].map (aQ ts))).2=(gJ ts 2 [A,B]):=by
  show aG _ _=_
  simp only[List.map_cons,List.map_nil,iX,nM]
 clear ht ham hu
 cases h0:gJ ts 2 [A,B]with
 |false=>
  have H0:=hid h0
  have C0:Hid (Calls Tryz.prog 100 #[.slice ta tn tc,.int .i64 2,.slice (some ⟨w.heap.size+1,0,none⟩) 2 2] ((w.alloc (.cells #[.int .i64 5,.int .i64 A,.int .i64 B,.int .i64 C,.int .i64 N,.string S,.slice la ln lc,.bool T] 64)).alloc (.cells #[.int .i64 A,.int .i64 B] 3)) (fun e w'=>e=.returned (.bool false)∧((w.alloc (.cells #[.int .i64 5,.int .i64 A,.int .i64 B,.int .i64 C,.int .i64 N,.string S,.slice la ln lc,.bool T] 64)).alloc (.cells #[.int .i64 A,.int .i64 B] 3))=w')):=hid (by rw[←H0.out];exact aR ta tn tc ts 2 _ 2 _ [A,B] _ (HT.out _ (aJ _ _ _ _ _)) (ay 2 [A,B] _ rfl rfl (by simp)) HA_AB.out (by decide) htn)
  have HR:Hid ((aC P 5 N S ([A,B].map (aQ ts))).2=false):=hid (by rw[hr,h0])
  clear hr h0
  go_enter Tryz.func68,Tryz.ntmps68
  go_wp2_with(first|(go_at_call 100;(with_reducible refine(C0.out).mono ?_);rintro e w' ⟨rfl,rfl⟩))
  refine bodyPost_ret (v:=.tuple #[.int .i64 2,.bool false]) (by simp[results,Tryz.results68,go_sem]) rfl ⟨2,by rw[HR.out],fun _=>HR1.out.symm,aJ _ _ _ _ _⟩
 |true=>
  have H0:=hid h0
  have C0:Hid (Calls Tryz.prog 100 #[.slice ta tn tc,.int .i64 2,.slice (some ⟨w.heap.size+1,0,none⟩) 2 2] ((w.alloc (.cells #[.int .i64 5,.int .i64 A,.int .i64 B,.int .i64 C,.int .i64 N,.string S,.slice la ln lc,.bool T] 64)).alloc (.cells #[.int .i64 A,.int .i64 B] 3)) (fun e w'=>e=.returned (.bool true)∧((w.alloc (.cells #[.int .i64 5,.int .i64 A,.int .i64 B,.int .i64 C,.int .i64 N,.string S,.slice la ln lc,.bool T] 64)).alloc (.cells #[.int .i64 A,.int .i64 B] 3))=w')):=hid (by rw[←H0.out];exact aR ta tn tc ts 2 _ 2 _ [A,B] _ (HT.out _ (aJ _ _ _ _ _)) (ay 2 [A,B] _ rfl rfl (by simp)) HA_AB.out (by decide) htn)
  have HR:Hid ((aC P 5 N S ([A,B].map (aQ ts))).2=true):=hid (by rw[hr,h0])
  clear hr h0
  go_enter Tryz.func68,Tryz.ntmps68
  go_wp2_with(first|(go_at_call 100;(with_reducible refine(C0.out).mono ?_);rintro e w' ⟨rfl,rfl⟩))
  refine bodyPost_ret (v:=.tuple #[.int .i64 2,.bool true]) (by simp[results,Tryz.results68,go_sem]) rfl ⟨2,by rw[HR.out],fun _=>HR1.out.symm,aJ _ _ _ _ _⟩
theorem row_6(pv:Value)(P:aB)(A B C N:Int)(S:ByteArray)(la:Option Addr)(ln lc:Nat)(T:Bool)(L:List Int)(ta:Option Addr)(tn tc:Nat)(ts:List Int)(w:World)(ht:ai w ta tn ts)(htn:tn≤140737488355328)(ham:Among (aA 6 A B C L) tn):
 Calls Tryz.prog 68 #[pv,.agg #[.int .i64 6,.int .i64 A,.int .i64 B,.int .i64 C,.int .i64 N,.string S,.slice la ln lc,.bool T],.slice ta tn tc] w (aF (aC P 6 N S ((aA 6 A B C L).map (aQ ts))) w):=by
 have HT:Hid (∀u,Below w.heap.size w u→ai u ta tn ts):=hid (fun u hu=>ht.since hu)
 have hu:aA 6 A B C L=[A]:=by simp[aA,hasB,av,iF,dA]
 rw[hu]at ham⊢
 have HA_A:Hid (Among [A] tn):=hid (fun v hv=>ham v (by simp at hv ⊢;omega))
 have HR1:Hid ((aC P 6 N S ([A].map (aQ ts))).1=0):=hid rfl
 have hr:(aC P 6 N S ([A].map (aQ ts))).2=(gJ ts 2 [A]):=by
  show aG _ _=_
  simp only[List.map_cons,List.map_nil,iy,fG]
 clear ht ham hu
 cases h0:gJ ts 2 [A]with
 |false=>
  have H0:=hid h0
  have C0:Hid (Calls Tryz.prog 100 #[.slice ta tn tc,.int .i64 2,.slice (some ⟨w.heap.size+1,0,none⟩) 1 1] ((w.alloc (.cells #[.int .i64 6,.int .i64 A,.int .i64 B,.int .i64 C,.int .i64 N,.string S,.slice la ln lc,.bool T] 64)).alloc (.cells #[.int .i64 A] 3)) (fun e w'=>e=.returned (.bool false)∧((w.alloc (.cells #[.int .i64 6,.int .i64 A,.int .i64 B,.int .i64 C,.int .i64 N,.string S,.slice la ln lc,.bool T] 64)).alloc (.cells #[.int .i64 A] 3))=w')):=hid (by rw[←H0.out];exact aR ta tn tc ts 2 _ 1 _ [A] _ (HT.out _ (aJ _ _ _ _ _)) (ay 1 [A] _ rfl rfl (by simp)) HA_A.out (by decide) htn)
  have HR:Hid ((aC P 6 N S ([A].map (aQ ts))).2=false):=hid (by rw[hr,h0])
  clear hr h0
  go_enter Tryz.func68,Tryz.ntmps68
  go_wp2_with(first|(go_at_call 100;(with_reducible refine(C0.out).mono ?_);rintro e w' ⟨rfl,rfl⟩))
  refine bodyPost_ret (v:=.tuple #[.int .i64 0,.bool false]) (by simp[results,Tryz.results68,go_sem]) rfl ⟨0,by rw[HR.out],fun _=>HR1.out.symm,aJ _ _ _ _ _⟩
 |true=>
  have H0:=hid h0
  have C0:Hid (Calls Tryz.prog 100 #[.slice ta tn tc,.int .i64 2,.slice (some ⟨w.heap.size+1,0,none⟩) 1 1] ((w.alloc (.cells #[.int .i64 6,.int .i64 A,.int .i64 B,.int .i64 C,.int .i64 N,.string S,.slice la ln lc,.bool T] 64)).alloc (.cells #[.int .i64 A] 3)) (fun e w'=>e=.returned (.bool true)∧((w.alloc (.cells #[.int .i64 6,.int .i64 A,.int .i64 B,.int .i64 C,.int .i64 N,.string S,.slice la ln lc,.bool T] 64)).alloc (.cells #[.int .i64 A] 3))=w')):=hid (by rw[←H0.out];exact aR ta tn tc ts 2 _ 1 _ [A] _ (HT.out _ (aJ _ _ _ _ _)) (ay 1 [A] _ rfl rfl (by simp)) HA_A.out (by decide) htn)
  have HR:Hid ((aC P 6 N S ([A].map (aQ ts))).2=true):=hid (by rw[hr,h0])
  clear hr h0
  go_enter Tryz.func68,Tryz.ntmps68
  go_wp2_with(first|(go_at_call 100;(with_reducible refine(C0.out).mono ?_);rintro e w' ⟨rfl,rfl⟩))
  refine bodyPost_ret (v:=.tuple #[.int .i64 0,.bool true]) (by simp[results,Tryz.results68,go_sem]) rfl ⟨0,by rw[HR.out],fun _=>HR1.out.symm,aJ _ _ _ _ _⟩
theorem row_7(pv:Value)(P:aB)(A B C N:Int)(S:ByteArray)(la:Option Addr)(ln lc:Nat)(T:Bool)(L:List Int)(ta:Option Addr)(tn tc:Nat)(ts:List Int)(w:World)(ht:ai w ta tn ts)(htn:tn≤140737488355328)(ham:Among (aA 7 A B C L) tn):
 Calls Tryz.prog 68 #[pv,.agg #[.int .i64 7,.int .i64 A,.int .i64 B,.int .i64 C,.int .i64 N,.string S,.slice la ln lc,.bool T],.slice ta tn tc] w (aF (aC P 7 N S ((aA 7 A B C L).map (aQ ts))) w):=by
 have HT:Hid (∀u,Below w.heap.size w u→ai u ta tn ts):=hid (fun u hu=>ht.since hu)
 have hu:aA 7 A B C L=[A,B]:=by simp[aA,hasB,av,iF,dA]
 rw[hu]at ham⊢
 have HA_A:Hid (Among [A] tn):=hid (fun v hv=>ham v (by simp at hv ⊢;omega))
 have HA_B:Hid (Among [B] tn):=hid (fun v hv=>ham v (by simp at hv ⊢;omega))
 have HR1:Hid ((aC P 7 N S ([A,B].map (aQ ts))).1=0):=hid rfl
 have hr:(aC P 7 N S ([A,B].map (aQ ts))).2=(gJ ts 2 [A]&&gJ ts 0 [B]):=by
  show aG _ _=_
  simp only[List.map_cons,List.map_nil,iX,fG]
 clear ht ham hu
 cases h0:gJ ts 2 [A]with
 |false=>
  have H0:=hid h0
  have C0:Hid (Calls Tryz.prog 100 #[.slice ta tn tc,.int .i64 2,.slice (some ⟨w.heap.size+1,0,none⟩) 1 1] ((w.alloc (.cells #[.int .i64 7,.int .i64 A,.int .i64 B,.int .i64 C,.int .i64 N,.string S,.slice la ln lc,.bool T] 64)).alloc (.cells #[.int .i64 A] 3)) (fun e w'=>e=.returned (.bool false)∧((w.alloc (.cells #[.int .i64 7,.int .i64 A,.int .i64 B,.int .i64 C,.int .i64 N,.string S,.slice la ln lc,.bool T] 64)).alloc (.cells #[.int .i64 A] 3))=w')):=hid (by rw[←H0.out];exact aR ta tn tc ts 2 _ 1 _ [A] _ (HT.out _ (aJ _ _ _ _ _)) (ay 1 [A] _ rfl rfl (by simp)) HA_A.out (by decide) htn)
  have HR:Hid ((aC P 7 N S ([A,B].map (aQ ts))).2=false):=hid (by rw[hr,h0];rfl)
  clear hr h0
  go_enter Tryz.func68,Tryz.ntmps68
  go_wp2_with(first|(go_at_call 100;(with_reducible refine(C0.out).mono ?_);rintro e w' ⟨rfl,rfl⟩))
  refine bodyPost_ret (v:=.tuple #[.int .i64 0,.bool false]) (by simp[results,Tryz.results68,go_sem]) rfl ⟨0,by rw[HR.out],fun _=>HR1.out.symm,aJ _ _ _ _ _⟩
 |true=>
  have H0:=hid h0
  have C0:Hid (Calls Tryz.prog 100 #[.slice ta tn tc,.int .i64 2,.slice (some ⟨w.heap.size+1,0,none⟩) 1 1] ((w.alloc (.cells #[.int .i64 7,.int .i64 A,.int .i64 B,.int .i64 C,.int .i64 N,.string S,.slice la ln lc,.bool T] 64)).alloc (.cells #[.int .i64 A] 3)) (fun e w'=>e=.returned (.bool true)∧((w.alloc (.cells #[.int .i64 7,.int .i64 A,.int .i64 B,.int .i64 C,.int .i64 N,.string S,.slice la ln lc,.bool T] 64)).alloc (.cells #[.int .i64 A] 3))=w')):=hid (by rw[←H0.out];exact aR ta tn tc ts 2 _ 1 _ [A] _ (HT.out _ (aJ _ _ _ _ _)) (ay 1 [A] _ rfl rfl (by simp)) HA_A.out (by decide) htn)
  cases h1:gJ ts 0 [B]with
  |false=>
   have H1:=hid h1
   have C1:Hid (Calls Tryz.prog 100 #[.slice ta tn tc,.int .i64 0,.slice (some ⟨w.heap.size+1+1,0,none⟩) 1 1] (((w.alloc (.cells #[.int .i64 7,.int .i64 A,.int .i64 B,.int .i64 C,.int .i64 N,.string S,.slice la ln lc,.bool T] 64)).alloc (.cells #[.int .i64 A] 3)).alloc (.cells #[.int .i64 B] 3)) (fun e w'=>e=.returned (.bool false)∧(((w.alloc (.cells #[.int .i64 7,.int .i64 A,.int .i64 B,.int .i64 C,.int .i64 N,.string S,.slice la ln lc,.bool T] 64)).alloc (.cells #[.int .i64 A] 3)).alloc (.cells #[.int .i64 B] 3))=w')):=hid (by rw[←H1.out];exact aR ta tn tc ts 0 _ 1 _ [B] _ (HT.out _ (dh _ _ _ _ _ _ _)) (ay 1 [B] _ rfl rfl (by simp)) HA_B.out (by decide) htn)
   have HR:Hid ((aC P 7 N S ([A,B].map (aQ ts))).2=false):=hid (by rw[hr,h0,h1];rfl)
   clear hr h0 h1
   go_enter Tryz.func68,Tryz.ntmps68
   go_wp2_with(first|(go_at_call 100;(with_reducible refine(C0.out).mono ?_);rintro e w' ⟨rfl,rfl⟩)|(go_at_call 100;(with_reducible refine(C1.out).mono ?_);rintro e w' ⟨rfl,rfl⟩))
   refine bodyPost_ret (v:=.tuple #[.int .i64 0,.bool false]) (by simp[results,Tryz.results68,go_sem]) rfl ⟨0,by rw[HR.out],fun _=>HR1.out.symm,dh _ _ _ _ _ _ _⟩
  |true=>
   have H1:=hid h1
   have C1:Hid (Calls Tryz.prog 100 #[.slice ta tn tc,.int .i64 0,.slice (some ⟨w.heap.size+1+1,0,none⟩) 1 1] (((w.alloc (.cells #[.int .i64 7,.int .i64 A,.int .i64 B,.int .i64 C,.int .i64 N,.string S,.slice la ln lc,.bool T] 64)).alloc (.cells #[.int .i64 A] 3)).alloc (.cells #[.int .i64 B] 3)) (fun e w'=>e=.returned (.bool true)∧(((w.alloc (.cells #[.int .i64 7,.int .i64 A,.int .i64 B,.int .i64 C,.int .i64 N,.string S,.slice la ln lc,.bool T] 64)).alloc (.cells #[.int .i64 A] 3)).alloc (.cells #[.int .i64 B] 3))=w')):=hid (by rw[←H1.out];exact aR ta tn tc ts 0 _ 1 _ [B] _ (HT.out _ (dh _ _ _ _ _ _ _)) (ay 1 [B] _ rfl rfl (by simp)) HA_B.out (by decide) htn)
   have HR:Hid ((aC P 7 N S ([A,B].map (aQ ts))).2=true):=hid (by rw[hr,h0,h1];rfl)
   clear hr h0 h1
   go_enter Tryz.func68,Tryz.ntmps68
   go_wp2_with(first|(go_at_call 100;(with_reducible refine(C0.out).mono ?_);rintro e w' ⟨rfl,rfl⟩)|(go_at_call 100;(with_reducible refine(C1.out).mono ?_);rintro e w' ⟨rfl,rfl⟩))
   refine bodyPost_ret (v:=.tuple #[.int .i64 0,.bool true]) (by simp[results,Tryz.results68,go_sem]) rfl ⟨0,by rw[HR.out],fun _=>HR1.out.symm,dh _ _ _ _ _ _ _⟩
theorem row_8(pv:Value)(P:aB)(A B C N:Int)(S:ByteArray)(la:Option Addr)(ln lc:Nat)(T:Bool)(L:List Int)(ta:Option Addr)(tn tc:Nat)(ts:List Int)(w:World)(ht:ai w ta tn ts)(htn:tn≤140737488355328)(ham:Among (aA 8 A B C L) tn):
 Calls Tryz.prog 68 #[pv,.agg #[.int .i64 8,.int .i64 A,.int .i64 B,.int .i64 C,.int .i64 N,.string S,.slice la ln lc,.bool T],.slice ta tn tc] w (aF (aC P 8 N S ((aA 8 A B C L).map (aQ ts))) w):=by
 have HT:Hid (∀u,Below w.heap.size w u→ai u ta tn ts):=hid (fun u hu=>ht.since hu)
 have hu:aA 8 A B C L=[A,B]:=by simp[aA,hasB,av,iF,dA]
 rw[hu]at ham⊢
 have HA_AB:Hid (Among [A,B] tn):=hid (fun v hv=>ham v (by simp at hv ⊢;omega))
 have HR1:Hid ((aC P 8 N S ([A,B].map (aQ ts))).1=1):=hid rfl
 have hr:(aC P 8 N S ([A,B].map (aQ ts))).2=(gJ ts 2 [A,B]):=by
  show aG _ _=_
  simp only[List.map_cons,List.map_nil,iX,nM]
 clear ht ham hu
 cases h0:gJ ts 2 [A,B]with
 |false=>
  have H0:=hid h0
  have C0:Hid (Calls Tryz.prog 100 #[.slice ta tn tc,.int .i64 2,.slice (some ⟨w.heap.size+1,0,none⟩) 2 2] ((w.alloc (.cells #[.int .i64 8,.int .i64 A,.int .i64 B,.int .i64 C,.int .i64 N,.string S,.slice la ln lc,.bool T] 64)).alloc (.cells #[.int .i64 A,.int .i64 B] 3)) (fun e w'=>e=.returned (.bool false)∧((w.alloc (.cells #[.int .i64 8,.int .i64 A,.int .i64 B,.int .i64 C,.int .i64 N,.string S,.slice la ln lc,.bool T] 64)).alloc (.cells #[.int .i64 A,.int .i64 B] 3))=w')):=hid (by rw[←H0.out];exact aR ta tn tc ts 2 _ 2 _ [A,B] _ (HT.out _ (aJ _ _ _ _ _)) (ay 2 [A,B] _ rfl rfl (by simp)) HA_AB.out (by decide) htn)
  have HR:Hid ((aC P 8 N S ([A,B].map (aQ ts))).2=false):=hid (by rw[hr,h0])
  clear hr h0
  go_enter Tryz.func68,Tryz.ntmps68
  go_wp2_with(first|(go_at_call 100;(with_reducible refine(C0.out).mono ?_);rintro e w' ⟨rfl,rfl⟩))
  refine bodyPost_ret (v:=.tuple #[.int .i64 1,.bool false]) (by simp[results,Tryz.results68,go_sem]) rfl ⟨1,by rw[HR.out],fun _=>HR1.out.symm,aJ _ _ _ _ _⟩
 |true=>
  have H0:=hid h0
  have C0:Hid (Calls Tryz.prog 100 #[.slice ta tn tc,.int .i64 2,.slice (some ⟨w.heap.size+1,0,none⟩) 2 2] ((w.alloc (.cells #[.int .i64 8,.int .i64 A,.int .i64 B,.int .i64 C,.int .i64 N,.string S,.slice la ln lc,.bool T] 64)).alloc (.cells #[.int .i64 A,.int .i64 B] 3)) (fun e w'=>e=.returned (.bool true)∧((w.alloc (.cells #[.int .i64 8,.int .i64 A,.int .i64 B,.int .i64 C,.int .i64 N,.string S,.slice la ln lc,.bool T] 64)).alloc (.cells #[.int .i64 A,.int .i64 B] 3))=w')):=hid (by rw[←H0.out];exact aR ta tn tc ts 2 _ 2 _ [A,B] _ (HT.out _ (aJ _ _ _ _ _)) (ay 2 [A,B] _ rfl rfl (by simp)) HA_AB.out (by decide) htn)
  have HR:Hid ((aC P 8 N S ([A,B].map (aQ ts))).2=true):=hid (by rw[hr,h0])
  clear hr h0
  go_enter Tryz.func68,Tryz.ntmps68
  go_wp2_with(first|(go_at_call 100;(with_reducible refine(C0.out).mono ?_);rintro e w' ⟨rfl,rfl⟩))
  refine bodyPost_ret (v:=.tuple #[.int .i64 1,.bool true]) (by simp[results,Tryz.results68,go_sem]) rfl ⟨1,by rw[HR.out],fun _=>HR1.out.symm,aJ _ _ _ _ _⟩
theorem row_13(pv:Value)(P:aB)(A B C N:Int)(S:ByteArray)(la:Option Addr)(ln lc:Nat)(T:Bool)(L:List Int)(ta:Option Addr)(tn tc:Nat)(ts:List Int)(w:World)(ht:ai w ta tn ts)(htn:tn≤140737488355328)(ham:Among (aA 13 A B C L) tn):
 Calls Tryz.prog 68 #[pv,.agg #[.int .i64 13,.int .i64 A,.int .i64 B,.int .i64 C,.int .i64 N,.string S,.slice la ln lc,.bool T],.slice ta tn tc] w (aF (aC P 13 N S ((aA 13 A B C L).map (aQ ts))) w):=by
 have HT:Hid (∀u,Below w.heap.size w u→ai u ta tn ts):=hid (fun u hu=>ht.since hu)
 have hu:aA 13 A B C L=[A]:=by simp[aA,hasB,av,iF,dA]
 rw[hu]at ham⊢
 have HA_A:Hid (Among [A] tn):=hid (fun v hv=>ham v (by simp at hv ⊢;omega))
 have HR1:Hid ((aC P 13 N S ([A].map (aQ ts))).1=3):=hid rfl
 have hr:(aC P 13 N S ([A].map (aQ ts))).2=(gJ ts 0 [A]):=by
  show aG _ _=_
  simp only[List.map_cons,List.map_nil,iy,fG]
 clear ht ham hu
 cases h0:gJ ts 0 [A]with
 |false=>
  have H0:=hid h0
  have C0:Hid (Calls Tryz.prog 100 #[.slice ta tn tc,.int .i64 0,.slice (some ⟨w.heap.size+1,0,none⟩) 1 1] ((w.alloc (.cells #[.int .i64 13,.int .i64 A,.int .i64 B,.int .i64 C,.int .i64 N,.string S,.slice la ln lc,.bool T] 64)).alloc (.cells #[.int .i64 A] 3)) (fun e w'=>e=.returned (.bool false)∧((w.alloc (.cells #[.int .i64 13,.int .i64 A,.int .i64 B,.int .i64 C,.int .i64 N,.string S,.slice la ln lc,.bool T] 64)).alloc (.cells #[.int .i64 A] 3))=w')):=hid (by rw[←H0.out];exact aR ta tn tc ts 0 _ 1 _ [A] _ (HT.out _ (aJ _ _ _ _ _)) (ay 1 [A] _ rfl rfl (by simp)) HA_A.out (by decide) htn)
  have HR:Hid ((aC P 13 N S ([A].map (aQ ts))).2=false):=hid (by rw[hr,h0])
  clear hr h0
  go_enter Tryz.func68,Tryz.ntmps68
  go_wp2_with(first|(go_at_call 100;(with_reducible refine(C0.out).mono ?_);rintro e w' ⟨rfl,rfl⟩))
  refine bodyPost_ret (v:=.tuple #[.int .i64 3,.bool false]) (by simp[results,Tryz.results68,go_sem]) rfl ⟨3,by rw[HR.out],fun _=>HR1.out.symm,aJ _ _ _ _ _⟩
 |true=>
  have H0:=hid h0
  have C0:Hid (Calls Tryz.prog 100 #[.slice ta tn tc,.int .i64 0,.slice (some ⟨w.heap.size+1,0,none⟩) 1 1] ((w.alloc (.cells #[.int .i64 13,.int .i64 A,.int .i64 B,.int .i64 C,.int .i64 N,.string S,.slice la ln lc,.bool T] 64)).alloc (.cells #[.int .i64 A] 3)) (fun e w'=>e=.returned (.bool true)∧((w.alloc (.cells #[.int .i64 13,.int .i64 A,.int .i64 B,.int .i64 C,.int .i64 N,.string S,.slice la ln lc,.bool T] 64)).alloc (.cells #[.int .i64 A] 3))=w')):=hid (by rw[←H0.out];exact aR ta tn tc ts 0 _ 1 _ [A] _ (HT.out _ (aJ _ _ _ _ _)) (ay 1 [A] _ rfl rfl (by simp)) HA_A.out (by decide) htn)
  have HR:Hid ((aC P 13 N S ([A].map (aQ ts))).2=true):=hid (by rw[hr,h0])
  clear hr h0
  go_enter Tryz.func68,Tryz.ntmps68
  go_wp2_with(first|(go_at_call 100;(with_reducible refine(C0.out).mono ?_);rintro e w' ⟨rfl,rfl⟩))
  refine bodyPost_ret (v:=.tuple #[.int .i64 3,.bool true]) (by simp[results,Tryz.results68,go_sem]) rfl ⟨3,by rw[HR.out],fun _=>HR1.out.symm,aJ _ _ _ _ _⟩
theorem row_14(pv:Value)(P:aB)(A B C N:Int)(S:ByteArray)(la:Option Addr)(ln lc:Nat)(T:Bool)(L:List Int)(ta:Option Addr)(tn tc:Nat)(ts:List Int)(w:World)(ht:ai w ta tn ts)(htn:tn≤140737488355328)(ham:Among (aA 14 A B C L) tn):
 Calls Tryz.prog 68 #[pv,.agg #[.int .i64 14,.int .i64 A,.int .i64 B,.int .i64 C,.int .i64 N,.string S,.slice la ln lc,.bool T],.slice ta tn tc] w (aF (aC P 14 N S ((aA 14 A B C L).map (aQ ts))) w):=by
 have HT:Hid (∀u,Below w.heap.size w u→ai u ta tn ts):=hid (fun u hu=>ht.since hu)
 have hu:aA 14 A B C L=[A]:=by simp[aA,hasB,av,iF,dA]
 rw[hu]at ham⊢
 have HA_A:Hid (Among [A] tn):=hid (fun v hv=>ham v (by simp at hv ⊢;omega))
 have HR1:Hid ((aC P 14 N S ([A].map (aQ ts))).1=0):=hid rfl
 have hr:(aC P 14 N S ([A].map (aQ ts))).2=(gJ ts 3 [A]):=by
  show aG _ _=_
  simp only[List.map_cons,List.map_nil,iy,fG]
 clear ht ham hu
 cases h0:gJ ts 3 [A]with
 |false=>
  have H0:=hid h0
  have C0:Hid (Calls Tryz.prog 100 #[.slice ta tn tc,.int .i64 3,.slice (some ⟨w.heap.size+1,0,none⟩) 1 1] ((w.alloc (.cells #[.int .i64 14,.int .i64 A,.int .i64 B,.int .i64 C,.int .i64 N,.string S,.slice la ln lc,.bool T] 64)).alloc (.cells #[.int .i64 A] 3)) (fun e w'=>e=.returned (.bool false)∧((w.alloc (.cells #[.int .i64 14,.int .i64 A,.int .i64 B,.int .i64 C,.int .i64 N,.string S,.slice la ln lc,.bool T] 64)).alloc (.cells #[.int .i64 A] 3))=w')):=hid (by rw[←H0.out];exact aR ta tn tc ts 3 _ 1 _ [A] _ (HT.out _ (aJ _ _ _ _ _)) (ay 1 [A] _ rfl rfl (by simp)) HA_A.out (by decide) htn)
  have HR:Hid ((aC P 14 N S ([A].map (aQ ts))).2=false):=hid (by rw[hr,h0])
  clear hr h0
  go_enter Tryz.func68,Tryz.ntmps68
  go_wp2_with(first|(go_at_call 100;(with_reducible refine(C0.out).mono ?_);rintro e w' ⟨rfl,rfl⟩))
  refine bodyPost_ret (v:=.tuple #[.int .i64 0,.bool false]) (by simp[results,Tryz.results68,go_sem]) rfl ⟨0,by rw[HR.out],fun _=>HR1.out.symm,aJ _ _ _ _ _⟩
 |true=>
  have H0:=hid h0
  have C0:Hid (Calls Tryz.prog 100 #[.slice ta tn tc,.int .i64 3,.slice (some ⟨w.heap.size+1,0,none⟩) 1 1] ((w.alloc (.cells #[.int .i64 14,.int .i64 A,.int .i64 B,.int .i64 C,.int .i64 N,.string S,.slice la ln lc,.bool T] 64)).alloc (.cells #[.int .i64 A] 3)) (fun e w'=>e=.returned (.bool true)∧((w.alloc (.cells #[.int .i64 14,.int .i64 A,.int .i64 B,.int .i64 C,.int .i64 N,.string S,.slice la ln lc,.bool T] 64)).alloc (.cells #[.int .i64 A] 3))=w')):=hid (by rw[←H0.out];exact aR ta tn tc ts 3 _ 1 _ [A] _ (HT.out _ (aJ _ _ _ _ _)) (ay 1 [A] _ rfl rfl (by simp)) HA_A.out (by decide) htn)
  have HR:Hid ((aC P 14 N S ([A].map (aQ ts))).2=true):=hid (by rw[hr,h0])
  clear hr h0
  go_enter Tryz.func68,Tryz.ntmps68
  go_wp2_with(first|(go_at_call 100;(with_reducible refine(C0.out).mono ?_);rintro e w' ⟨rfl,rfl⟩))
  refine bodyPost_ret (v:=.tuple #[.int .i64 0,.bool true]) (by simp[results,Tryz.results68,go_sem]) rfl ⟨0,by rw[HR.out],fun _=>HR1.out.symm,aJ _ _ _ _ _⟩
theorem row_15(pv:Value)(P:aB)(A B C N:Int)(S:ByteArray)(la:Option Addr)(ln lc:Nat)(T:Bool)(L:List Int)(ta:Option Addr)(tn tc:Nat)(ts:List Int)(w:World)(ht:ai w ta tn ts)(htn:tn≤140737488355328)(ham:Among (aA 15 A B C L) tn):
 Calls Tryz.prog 68 #[pv,.agg #[.int .i64 15,.int .i64 A,.int .i64 B,.int .i64 C,.int .i64 N,.string S,.slice la ln lc,.bool T],.slice ta tn tc] w (aF (aC P 15 N S ((aA 15 A B C L).map (aQ ts))) w):=by
 have HT:Hid (∀u,Below w.heap.size w u→ai u ta tn ts):=hid (fun u hu=>ht.since hu)
 have hu:aA 15 A B C L=[A,B]:=by simp[aA,hasB,av,iF,dA]
 rw[hu]at ham⊢
 have HA_A:Hid (Among [A] tn):=hid (fun v hv=>ham v (by simp at hv ⊢;omega))
 have HA_B:Hid (Among [B] tn):=hid (fun v hv=>ham v (by simp at hv ⊢;omega))
 have HR1:Hid ((aC P 15 N S ([A,B].map (aQ ts))).1=0):=hid rfl
 have hr:(aC P 15 N S ([A,B].map (aQ ts))).2=(gJ ts 3 [A]&&gJ ts 0 [B]):=by
  show aG _ _=_
  simp only[List.map_cons,List.map_nil,iX,fG]
 clear ht ham hu
 cases h0:gJ ts 3 [A]with
 |false=>
  have H0:=hid h0
  have C0:Hid (Calls Tryz.prog 100 #[.slice ta tn tc,.int .i64 3,.slice (some ⟨w.heap.size+1,0,none⟩) 1 1] ((w.alloc (.cells #[.int .i64 15,.int .i64 A,.int .i64 B,.int .i64 C,.int .i64 N,.string S,.slice la ln lc,.bool T] 64)).alloc (.cells #[.int .i64 A] 3)) (fun e w'=>e=.returned (.bool false)∧((w.alloc (.cells #[.int .i64 15,.int .i64 A,.int .i64 B,.int .i64 C,.int .i64 N,.string S,.slice la ln lc,.bool T] 64)).alloc (.cells #[.int .i64 A] 3))=w')):=hid (by rw[←H0.out];exact aR ta tn tc ts 3 _ 1 _ [A] _ (HT.out _ (aJ _ _ _ _ _)) (ay 1 [A] _ rfl rfl (by simp)) HA_A.out (by decide) htn)
  have HR:Hid ((aC P 15 N S ([A,B].map (aQ ts))).2=false):=hid (by rw[hr,h0];rfl)
  clear hr h0
  go_enter Tryz.func68,Tryz.ntmps68
  go_wp2_with(first|(go_at_call 100;(with_reducible refine(C0.out).mono ?_);rintro e w' ⟨rfl,rfl⟩))
  refine bodyPost_ret (v:=.tuple #[.int .i64 0,.bool false]) (by simp[results,Tryz.results68,go_sem]) rfl ⟨0,by rw[HR.out],fun _=>HR1.out.symm,aJ _ _ _ _ _⟩
 |true=>
  have H0:=hid h0
  have C0:Hid (Calls Tryz.prog 100 #[.slice ta tn tc,.int .i64 3,.slice (some ⟨w.heap.size+1,0,none⟩) 1 1] ((w.alloc (.cells #[.int .i64 15,.int .i64 A,.int .i64 B,.int .i64 C,.int .i64 N,.string S,.slice la ln lc,.bool T] 64)).alloc (.cells #[.int .i64 A] 3)) (fun e w'=>e=.returned (.bool true)∧((w.alloc (.cells #[.int .i64 15,.int .i64 A,.int .i64 B,.int .i64 C,.int .i64 N,.string S,.slice la ln lc,.bool T] 64)).alloc (.cells #[.int .i64 A] 3))=w')):=hid (by rw[←H0.out];exact aR ta tn tc ts 3 _ 1 _ [A] _ (HT.out _ (aJ _ _ _ _ _)) (ay 1 [A] _ rfl rfl (by simp)) HA_A.out (by decide) htn)
  cases h1:gJ ts 0 [B]with
  |false=>
   have H1:=hid h1
   have C1:Hid (Calls Tryz.prog 100 #[.slice ta tn tc,.int .i64 0,.slice (some ⟨w.heap.size+1+1,0,none⟩) 1 1] (((w.alloc (.cells #[.int .i64 15,.int .i64 A,.int .i64 B,.int .i64 C,.int .i64 N,.string S,.slice la ln lc,.bool T] 64)).alloc (.cells #[.int .i64 A] 3)).alloc (.cells #[.int .i64 B] 3)) (fun e w'=>e=.returned (.bool false)∧(((w.alloc (.cells #[.int .i64 15,.int .i64 A,.int .i64 B,.int .i64 C,.int .i64 N,.string S,.slice la ln lc,.bool T] 64)).alloc (.cells #[.int .i64 A] 3)).alloc (.cells #[.int .i64 B] 3))=w')):=hid (by rw[←H1.out];exact aR ta tn tc ts 0 _ 1 _ [B] _ (HT.out _ (dh _ _ _ _ _ _ _)) (ay 1 [B] _ rfl rfl (by simp)) HA_B.out (by decide) htn)
   have HR:Hid ((aC P 15 N S ([A,B].map (aQ ts))).2=false):=hid (by rw[hr,h0,h1];rfl)
   clear hr h0 h1
   go_enter Tryz.func68,Tryz.ntmps68
   go_wp2_with(first|(go_at_call 100;(with_reducible refine(C0.out).mono ?_);rintro e w' ⟨rfl,rfl⟩)|(go_at_call 100;(with_reducible refine(C1.out).mono ?_);rintro e w' ⟨rfl,rfl⟩))
   refine bodyPost_ret (v:=.tuple #[.int .i64 0,.bool false]) (by simp[results,Tryz.results68,go_sem]) rfl ⟨0,by rw[HR.out],fun _=>HR1.out.symm,dh _ _ _ _ _ _ _⟩
  |true=>
   have H1:=hid h1
   have C1:Hid (Calls Tryz.prog 100 #[.slice ta tn tc,.int .i64 0,.slice (some ⟨w.heap.size+1+1,0,none⟩) 1 1] (((w.alloc (.cells #[.int .i64 15,.int .i64 A,.int .i64 B,.int .i64 C,.int .i64 N,.string S,.slice la ln lc,.bool T] 64)).alloc (.cells #[.int .i64 A] 3)).alloc (.cells #[.int .i64 B] 3)) (fun e w'=>e=.returned (.bool true)∧(((w.alloc (.cells #[.int .i64 15,.int .i64 A,.int .i64 B,.int .i64 C,.int .i64 N,.string S,.slice la ln lc,.bool T] 64)).alloc (.cells #[.int .i64 A] 3)).alloc (.cells #[.int .i64 B] 3))=w')):=hid (by rw[←H1.out];exact aR ta tn tc ts 0 _ 1 _ [B] _ (HT.out _ (dh _ _ _ _ _ _ _)) (ay 1 [B] _ rfl rfl (by simp)) HA_B.out (by decide) htn)
   have HR:Hid ((aC P 15 N S ([A,B].map (aQ ts))).2=true):=hid (by rw[hr,h0,h1];rfl)
   clear hr h0 h1
   go_enter Tryz.func68,Tryz.ntmps68
   go_wp2_with(first|(go_at_call 100;(with_reducible refine(C0.out).mono ?_);rintro e w' ⟨rfl,rfl⟩)|(go_at_call 100;(with_reducible refine(C1.out).mono ?_);rintro e w' ⟨rfl,rfl⟩))
   refine bodyPost_ret (v:=.tuple #[.int .i64 0,.bool true]) (by simp[results,Tryz.results68,go_sem]) rfl ⟨0,by rw[HR.out],fun _=>HR1.out.symm,dh _ _ _ _ _ _ _⟩
theorem row_16(pv:Value)(P:aB)(A B C N:Int)(S:ByteArray)(la:Option Addr)(ln lc:Nat)(T:Bool)(L:List Int)(ta:Option Addr)(tn tc:Nat)(ts:List Int)(w:World)(ht:ai w ta tn ts)(htn:tn≤140737488355328)(ham:Among (aA 16 A B C L) tn):
 Calls Tryz.prog 68 #[pv,.agg #[.int .i64 16,.int .i64 A,.int .i64 B,.int .i64 C,.int .i64 N,.string S,.slice la ln lc,.bool T],.slice ta tn tc] w (aF (aC P 16 N S ((aA 16 A B C L).map (aQ ts))) w):=by
 have HT:Hid (∀u,Below w.heap.size w u→ai u ta tn ts):=hid (fun u hu=>ht.since hu)
 have hu:aA 16 A B C L=[A,B,C]:=by simp[aA,hasB,av,iF,dA]
 rw[hu]at ham⊢
 have HA_A:Hid (Among [A] tn):=hid (fun v hv=>ham v (by simp at hv ⊢;omega))
 have HA_BC:Hid (Among [B,C] tn):=hid (fun v hv=>ham v (by simp at hv ⊢;omega))
 have HR1:Hid ((aC P 16 N S ([A,B,C].map (aQ ts))).1=(-1)):=hid rfl
 have hr:(aC P 16 N S ([A,B,C].map (aQ ts))).2=(gJ ts 3 [A]&&gJ ts 0 [B,C]):=by
  show aG _ _=_
  simp only[List.map_cons,List.map_nil,pV,fG,nM]
 clear ht ham hu
 cases h0:gJ ts 3 [A]with
 |false=>
  have H0:=hid h0
  have C0:Hid (Calls Tryz.prog 100 #[.slice ta tn tc,.int .i64 3,.slice (some ⟨w.heap.size+1,0,none⟩) 1 1] ((w.alloc (.cells #[.int .i64 16,.int .i64 A,.int .i64 B,.int .i64 C,.int .i64 N,.string S,.slice la ln lc,.bool T] 64)).alloc (.cells #[.int .i64 A] 3)) (fun e w'=>e=.returned (.bool false)∧((w.alloc (.cells #[.int .i64 16,.int .i64 A,.int .i64 B,.int .i64 C,.int .i64 N,.string S,.slice la ln lc,.bool T] 64)).alloc (.cells #[.int .i64 A] 3))=w')):=hid (by rw[←H0.out];exact aR ta tn tc ts 3 _ 1 _ [A] _ (HT.out _ (aJ _ _ _ _ _)) (ay 1 [A] _ rfl rfl (by simp)) HA_A.out (by decide) htn)
  have HR:Hid ((aC P 16 N S ([A,B,C].map (aQ ts))).2=false):=hid (by rw[hr,h0];rfl)
  clear hr h0
  go_enter Tryz.func68,Tryz.ntmps68
  go_wp2_with(first|(go_at_call 100;(with_reducible refine(C0.out).mono ?_);rintro e w' ⟨rfl,rfl⟩))
  refine bodyPost_ret (v:=.tuple #[.int .i64 (-1),.bool false]) (by simp[results,Tryz.results68,go_sem]) rfl ⟨(-1),by rw[HR.out],fun _=>HR1.out.symm,aJ _ _ _ _ _⟩
 |true=>
  have H0:=hid h0
  have C0:Hid (Calls Tryz.prog 100 #[.slice ta tn tc,.int .i64 3,.slice (some ⟨w.heap.size+1,0,none⟩) 1 1] ((w.alloc (.cells #[.int .i64 16,.int .i64 A,.int .i64 B,.int .i64 C,.int .i64 N,.string S,.slice la ln lc,.bool T] 64)).alloc (.cells #[.int .i64 A] 3)) (fun e w'=>e=.returned (.bool true)∧((w.alloc (.cells #[.int .i64 16,.int .i64 A,.int .i64 B,.int .i64 C,.int .i64 N,.string S,.slice la ln lc,.bool T] 64)).alloc (.cells #[.int .i64 A] 3))=w')):=hid (by rw[←H0.out];exact aR ta tn tc ts 3 _ 1 _ [A] _ (HT.out _ (aJ _ _ _ _ _)) (ay 1 [A] _ rfl rfl (by simp)) HA_A.out (by decide) htn)
  cases h1:gJ ts 0 [B,C]with
  |false=>
   have H1:=hid h1
   have C1:Hid (Calls Tryz.prog 100 #[.slice ta tn tc,.int .i64 0,.slice (some ⟨w.heap.size+1+1,0,none⟩) 2 2] (((w.alloc (.cells #[.int .i64 16,.int .i64 A,.int .i64 B,.int .i64 C,.int .i64 N,.string S,.slice la ln lc,.bool T] 64)).alloc (.cells #[.int .i64 A] 3)).alloc (.cells #[.int .i64 B,.int .i64 C] 3)) (fun e w'=>e=.returned (.bool false)∧(((w.alloc (.cells #[.int .i64 16,.int .i64 A,.int .i64 B,.int .i64 C,.int .i64 N,.string S,.slice la ln lc,.bool T] 64)).alloc (.cells #[.int .i64 A] 3)).alloc (.cells #[.int .i64 B,.int .i64 C] 3))=w')):=hid (by rw[←H1.out];exact aR ta tn tc ts 0 _ 2 _ [B,C] _ (HT.out _ (dh _ _ _ _ _ _ _)) (ay 2 [B,C] _ rfl rfl (by simp)) HA_BC.out (by decide) htn)
   have HR:Hid ((aC P 16 N S ([A,B,C].map (aQ ts))).2=false):=hid (by rw[hr,h0,h1];rfl)
   clear hr h0 h1
   go_enter Tryz.func68,Tryz.ntmps68
   go_wp2_with(first|(go_at_call 100;(with_reducible refine(C0.out).mono ?_);rintro e w' ⟨rfl,rfl⟩)|(go_at_call 100;(with_reducible refine(C1.out).mono ?_);rintro e w' ⟨rfl,rfl⟩))
   refine bodyPost_ret (v:=.tuple #[.int .i64 (-1),.bool false]) (by simp[results,Tryz.results68,go_sem]) rfl ⟨(-1),by rw[HR.out],fun _=>HR1.out.symm,dh _ _ _ _ _ _ _⟩
  |true=>
   have H1:=hid h1
   have C1:Hid (Calls Tryz.prog 100 #[.slice ta tn tc,.int .i64 0,.slice (some ⟨w.heap.size+1+1,0,none⟩) 2 2] (((w.alloc (.cells #[.int .i64 16,.int .i64 A,.int .i64 B,.int .i64 C,.int .i64 N,.string S,.slice la ln lc,.bool T] 64)).alloc (.cells #[.int .i64 A] 3)).alloc (.cells #[.int .i64 B,.int .i64 C] 3)) (fun e w'=>e=.returned (.bool true)∧(((w.alloc (.cells #[.int .i64 16,.int .i64 A,.int .i64 B,.int .i64 C,.int .i64 N,.string S,.slice la ln lc,.bool T] 64)).alloc (.cells #[.int .i64 A] 3)).alloc (.cells #[.int .i64 B,.int .i64 C] 3))=w')):=hid (by rw[←H1.out];exact aR ta tn tc ts 0 _ 2 _ [B,C] _ (HT.out _ (dh _ _ _ _ _ _ _)) (ay 2 [B,C] _ rfl rfl (by simp)) HA_BC.out (by decide) htn)
   have HR:Hid ((aC P 16 N S ([A,B,C].map (aQ ts))).2=true):=hid (by rw[hr,h0,h1];rfl)
   clear hr h0 h1
   go_enter Tryz.func68,Tryz.ntmps68
   go_wp2_with(first|(go_at_call 100;(with_reducible refine(C0.out).mono ?_);rintro e w' ⟨rfl,rfl⟩)|(go_at_call 100;(with_reducible refine(C1.out).mono ?_);rintro e w' ⟨rfl,rfl⟩))
   refine bodyPost_ret (v:=.tuple #[.int .i64 (-1),.bool true]) (by simp[results,Tryz.results68,go_sem]) rfl ⟨(-1),by rw[HR.out],fun _=>HR1.out.symm,dh _ _ _ _ _ _ _⟩
theorem row_18(pv:Value)(P:aB)(A B C N:Int)(S:ByteArray)(la:Option Addr)(ln lc:Nat)(T:Bool)(L:List Int)(ta:Option Addr)(tn tc:Nat)(ts:List Int)(w:World)(ht:ai w ta tn ts)(htn:tn≤140737488355328)(ham:Among (aA 18 A B C L) tn):
 Calls Tryz.prog 68 #[pv,.agg #[.int .i64 18,.int .i64 A,.int .i64 B,.int .i64 C,.int .i64 N,.string S,.slice la ln lc,.bool T],.slice ta tn tc] w (aF (aC P 18 N S ((aA 18 A B C L).map (aQ ts))) w):=by
 have HT:Hid (∀u,Below w.heap.size w u→ai u ta tn ts):=hid (fun u hu=>ht.since hu)
 have hu:aA 18 A B C L=[A,B,C]:=by simp[aA,hasB,av,iF,dA]
 rw[hu]at ham⊢
 have HA_A:Hid (Among [A] tn):=hid (fun v hv=>ham v (by simp at hv ⊢;omega))
 have HA_BC:Hid (Among [B,C] tn):=hid (fun v hv=>ham v (by simp at hv ⊢;omega))
 have HR1:Hid ((aC P 18 N S ([A,B,C].map (aQ ts))).1=(-1)):=hid rfl
 have hr:(aC P 18 N S ([A,B,C].map (aQ ts))).2=(gJ ts 4 [A]&&gJ ts 0 [B,C]):=by
  show aG _ _=_
  simp only[List.map_cons,List.map_nil,pV,fG,nM]
 clear ht ham hu
 cases h0:gJ ts 4 [A]with
 |false=>
  have H0:=hid h0
  have C0:Hid (Calls Tryz.prog 100 #[.slice ta tn tc,.int .i64 4,.slice (some ⟨w.heap.size+1,0,none⟩) 1 1] ((w.alloc (.cells #[.int .i64 18,.int .i64 A,.int .i64 B,.int .i64 C,.int .i64 N,.string S,.slice la ln lc,.bool T] 64)).alloc (.cells #[.int .i64 A] 3)) (fun e w'=>e=.returned (.bool false)∧((w.alloc (.cells #[.int .i64 18,.int .i64 A,.int .i64 B,.int .i64 C,.int .i64 N,.string S,.slice la ln lc,.bool T] 64)).alloc (.cells #[.int .i64 A] 3))=w')):=hid (by rw[←H0.out];exact aR ta tn tc ts 4 _ 1 _ [A] _ (HT.out _ (aJ _ _ _ _ _)) (ay 1 [A] _ rfl rfl (by simp)) HA_A.out (by decide) htn)
  have HR:Hid ((aC P 18 N S ([A,B,C].map (aQ ts))).2=false):=hid (by rw[hr,h0];rfl)
  clear hr h0
  go_enter Tryz.func68,Tryz.ntmps68
  go_wp2_with(first|(go_at_call 100;(with_reducible refine(C0.out).mono ?_);rintro e w' ⟨rfl,rfl⟩))
  refine bodyPost_ret (v:=.tuple #[.int .i64 (-1),.bool false]) (by simp[results,Tryz.results68,go_sem]) rfl ⟨(-1),by rw[HR.out],fun _=>HR1.out.symm,aJ _ _ _ _ _⟩
 |true=>
  have H0:=hid h0
  have C0:Hid (Calls Tryz.prog 100 #[.slice ta tn tc,.int .i64 4,.slice (some ⟨w.heap.size+1,0,none⟩) 1 1] ((w.alloc (.cells #[.int .i64 18,.int .i64 A,.int .i64 B,.int .i64 C,.int .i64 N,.string S,.slice la ln lc,.bool T] 64)).alloc (.cells #[.int .i64 A] 3)) (fun e w'=>e=.returned (.bool true)∧((w.alloc (.cells #[.int .i64 18,.int .i64 A,.int .i64 B,.int .i64 C,.int .i64 N,.string S,.slice la ln lc,.bool T] 64)).alloc (.cells #[.int .i64 A] 3))=w')):=hid (by rw[←H0.out];exact aR ta tn tc ts 4 _ 1 _ [A] _ (HT.out _ (aJ _ _ _ _ _)) (ay 1 [A] _ rfl rfl (by simp)) HA_A.out (by decide) htn)
  cases h1:gJ ts 0 [B,C]with
  |false=>
   have H1:=hid h1
   have C1:Hid (Calls Tryz.prog 100 #[.slice ta tn tc,.int .i64 0,.slice (some ⟨w.heap.size+1+1,0,none⟩) 2 2] (((w.alloc (.cells #[.int .i64 18,.int .i64 A,.int .i64 B,.int .i64 C,.int .i64 N,.string S,.slice la ln lc,.bool T] 64)).alloc (.cells #[.int .i64 A] 3)).alloc (.cells #[.int .i64 B,.int .i64 C] 3)) (fun e w'=>e=.returned (.bool false)∧(((w.alloc (.cells #[.int .i64 18,.int .i64 A,.int .i64 B,.int .i64 C,.int .i64 N,.string S,.slice la ln lc,.bool T] 64)).alloc (.cells #[.int .i64 A] 3)).alloc (.cells #[.int .i64 B,.int .i64 C] 3))=w')):=hid (by rw[←H1.out];exact aR ta tn tc ts 0 _ 2 _ [B,C] _ (HT.out _ (dh _ _ _ _ _ _ _)) (ay 2 [B,C] _ rfl rfl (by simp)) HA_BC.out (by decide) htn)
   have HR:Hid ((aC P 18 N S ([A,B,C].map (aQ ts))).2=false):=hid (by rw[hr,h0,h1];rfl)
   clear hr h0 h1
   go_enter Tryz.func68,Tryz.ntmps68
   go_wp2_with(first|(go_at_call 100;(with_reducible refine(C0.out).mono ?_);rintro e w' ⟨rfl,rfl⟩)|(go_at_call 100;(with_reducible refine(C1.out).mono ?_);rintro e w' ⟨rfl,rfl⟩))
   refine bodyPost_ret (v:=.tuple #[.int .i64 (-1),.bool false]) (by simp[results,Tryz.results68,go_sem]) rfl ⟨(-1),by rw[HR.out],fun _=>HR1.out.symm,dh _ _ _ _ _ _ _⟩
  |true=>
   have H1:=hid h1
   have C1:Hid (Calls Tryz.prog 100 #[.slice ta tn tc,.int .i64 0,.slice (some ⟨w.heap.size+1+1,0,none⟩) 2 2] (((w.alloc (.cells #[.int .i64 18,.int .i64 A,.int .i64 B,.int .i64 C,.int .i64 N,.string S,.slice la ln lc,.bool T] 64)).alloc (.cells #[.int .i64 A] 3)).alloc (.cells #[.int .i64 B,.int .i64 C] 3)) (fun e w'=>e=.returned (.bool true)∧(((w.alloc (.cells #[.int .i64 18,.int .i64 A,.int .i64 B,.int .i64 C,.int .i64 N,.string S,.slice la ln lc,.bool T] 64)).alloc (.cells #[.int .i64 A] 3)).alloc (.cells #[.int .i64 B,.int .i64 C] 3))=w')):=hid (by rw[←H1.out];exact aR ta tn tc ts 0 _ 2 _ [B,C] _ (HT.out _ (dh _ _ _ _ _ _ _)) (ay 2 [B,C] _ rfl rfl (by simp)) HA_BC.out (by decide) htn)
   have HR:Hid ((aC P 18 N S ([A,B,C].map (aQ ts))).2=true):=hid (by rw[hr,h0,h1];rfl)
   clear hr h0 h1
   go_enter Tryz.func68,Tryz.ntmps68
   go_wp2_with(first|(go_at_call 100;(with_reducible refine(C0.out).mono ?_);rintro e w' ⟨rfl,rfl⟩)|(go_at_call 100;(with_reducible refine(C1.out).mono ?_);rintro e w' ⟨rfl,rfl⟩))
   refine bodyPost_ret (v:=.tuple #[.int .i64 (-1),.bool true]) (by simp[results,Tryz.results68,go_sem]) rfl ⟨(-1),by rw[HR.out],fun _=>HR1.out.symm,dh _ _ _ _ _ _ _⟩
theorem row_19(pv:Value)(P:aB)(A B C N:Int)(S:ByteArray)(la:Option Addr)(ln lc:Nat)(T:Bool)(L:List Int)(ta:Option Addr)(tn tc:Nat)(ts:List Int)(w:World)(ht:ai w ta tn ts)(htn:tn≤140737488355328)(ham:Among (aA 19 A B C L) tn):
 Calls Tryz.prog 68 #[pv,.agg #[.int .i64 19,.int .i64 A,.int .i64 B,.int .i64 C,.int .i64 N,.string S,.slice la ln lc,.bool T],.slice ta tn tc] w (aF (aC P 19 N S ((aA 19 A B C L).map (aQ ts))) w):=by
 have HT:Hid (∀u,Below w.heap.size w u→ai u ta tn ts):=hid (fun u hu=>ht.since hu)
 have hu:aA 19 A B C L=[A,B]:=by simp[aA,hasB,av,iF,dA]
 rw[hu]at ham⊢
 have HA_A:Hid (Among [A] tn):=hid (fun v hv=>ham v (by simp at hv ⊢;omega))
 have HA_B:Hid (Among [B] tn):=hid (fun v hv=>ham v (by simp at hv ⊢;omega))
 have HR1:Hid ((aC P 19 N S ([A,B].map (aQ ts))).1=0):=hid rfl
 have hr:(aC P 19 N S ([A,B].map (aQ ts))).2=(gJ ts 4 [A]&&gJ ts 0 [B]):=by
  show aG _ _=_
  simp only[List.map_cons,List.map_nil,iX,fG]
 clear ht ham hu
 cases h0:gJ ts 4 [A]with
 |false=>
  have H0:=hid h0
  have C0:Hid (Calls Tryz.prog 100 #[.slice ta tn tc,.int .i64 4,.slice (some ⟨w.heap.size+1,0,none⟩) 1 1] ((w.alloc (.cells #[.int .i64 19,.int .i64 A,.int .i64 B,.int .i64 C,.int .i64 N,.string S,.slice la ln lc,.bool T] 64)).alloc (.cells #[.int .i64 A] 3)) (fun e w'=>e=.returned (.bool false)∧((w.alloc (.cells #[.int .i64 19,.int .i64 A,.int .i64 B,.int .i64 C,.int .i64 N,.string S,.slice la ln lc,.bool T] 64)).alloc (.cells #[.int .i64 A] 3))=w')):=hid (by rw[←H0.out];exact aR ta tn tc ts 4 _ 1 _ [A] _ (HT.out _ (aJ _ _ _ _ _)) (ay 1 [A] _ rfl rfl (by simp)) HA_A.out (by decide) htn)
  have HR:Hid ((aC P 19 N S ([A,B].map (aQ ts))).2=false):=hid (by rw[hr,h0];rfl)
  clear hr h0
  go_enter Tryz.func68,Tryz.ntmps68
  go_wp2_with(first|(go_at_call 100;(with_reducible refine(C0.out).mono ?_);rintro e w' ⟨rfl,rfl⟩))
  refine bodyPost_ret (v:=.tuple #[.int .i64 0,.bool false]) (by simp[results,Tryz.results68,go_sem]) rfl ⟨0,by rw[HR.out],fun _=>HR1.out.symm,aJ _ _ _ _ _⟩
 |true=>
  have H0:=hid h0
  have C0:Hid (Calls Tryz.prog 100 #[.slice ta tn tc,.int .i64 4,.slice (some ⟨w.heap.size+1,0,none⟩) 1 1] ((w.alloc (.cells #[.int .i64 19,.int .i64 A,.int .i64 B,.int .i64 C,.int .i64 N,.string S,.slice la ln lc,.bool T] 64)).alloc (.cells #[.int .i64 A] 3)) (fun e w'=>e=.returned (.bool true)∧((w.alloc (.cells #[.int .i64 19,.int .i64 A,.int .i64 B,.int .i64 C,.int .i64 N,.string S,.slice la ln lc,.bool T] 64)).alloc (.cells #[.int .i64 A] 3))=w')):=hid (by rw[←H0.out];exact aR ta tn tc ts 4 _ 1 _ [A] _ (HT.out _ (aJ _ _ _ _ _)) (ay 1 [A] _ rfl rfl (by simp)) HA_A.out (by decide) htn)
  cases h1:gJ ts 0 [B]with
  |false=>
   have H1:=hid h1
   have C1:Hid (Calls Tryz.prog 100 #[.slice ta tn tc,.int .i64 0,.slice (some ⟨w.heap.size+1+1,0,none⟩) 1 1] (((w.alloc (.cells #[.int .i64 19,.int .i64 A,.int .i64 B,.int .i64 C,.int .i64 N,.string S,.slice la ln lc,.bool T] 64)).alloc (.cells #[.int .i64 A] 3)).alloc (.cells #[.int .i64 B] 3)) (fun e w'=>e=.returned (.bool false)∧(((w.alloc (.cells #[.int .i64 19,.int .i64 A,.int .i64 B,.int .i64 C,.int .i64 N,.string S,.slice la ln lc,.bool T] 64)).alloc (.cells #[.int .i64 A] 3)).alloc (.cells #[.int .i64 B] 3))=w')):=hid (by rw[←H1.out];exact aR ta tn tc ts 0 _ 1 _ [B] _ (HT.out _ (dh _ _ _ _ _ _ _)) (ay 1 [B] _ rfl rfl (by simp)) HA_B.out (by decide) htn)
   have HR:Hid ((aC P 19 N S ([A,B].map (aQ ts))).2=false):=hid (by rw[hr,h0,h1];rfl)
   clear hr h0 h1
   go_enter Tryz.func68,Tryz.ntmps68
   go_wp2_with(first|(go_at_call 100;(with_reducible refine(C0.out).mono ?_);rintro e w' ⟨rfl,rfl⟩)|(go_at_call 100;(with_reducible refine(C1.out).mono ?_);rintro e w' ⟨rfl,rfl⟩))
   refine bodyPost_ret (v:=.tuple #[.int .i64 0,.bool false]) (by simp[results,Tryz.results68,go_sem]) rfl ⟨0,by rw[HR.out],fun _=>HR1.out.symm,dh _ _ _ _ _ _ _⟩
  |true=>
   have H1:=hid h1
   have C1:Hid (Calls Tryz.prog 100 #[.slice ta tn tc,.int .i64 0,.slice (some ⟨w.heap.size+1+1,0,none⟩) 1 1] (((w.alloc (.cells #[.int .i64 19,.int .i64 A,.int .i64 B,.int .i64 C,.int .i64 N,.string S,.slice la ln lc,.bool T] 64)).alloc (.cells #[.int .i64 A] 3)).alloc (.cells #[.int .i64 B] 3)) (fun e w'=>e=.returned (.bool true)∧(((w.alloc (.cells #[.int .i64 19,.int .i64 A,.int .i64 B,.int .i64 C,.int .i64 N,.string S,.slice la ln lc,.bool T] 64)).alloc (.cells #[.int .i64 A] 3)).alloc (.cells #[.int .i64 B] 3))=w')):=hid (by rw[←H1.out];exact aR ta tn tc ts 0 _ 1 _ [B] _ (HT.out _ (dh _ _ _ _ _ _ _)) (ay 1 [B] _ rfl rfl (by simp)) HA_B.out (by decide) htn)
   have HR:Hid ((aC P 19 N S ([A,B].map (aQ ts))).2=true):=hid (by rw[hr,h0,h1];rfl)
   clear hr h0 h1
   go_enter Tryz.func68,Tryz.ntmps68
   go_wp2_with(first|(go_at_call 100;(with_reducible refine(C0.out).mono ?_);rintro e w' ⟨rfl,rfl⟩)|(go_at_call 100;(with_reducible refine(C1.out).mono ?_);rintro e w' ⟨rfl,rfl⟩))
   refine bodyPost_ret (v:=.tuple #[.int .i64 0,.bool true]) (by simp[results,Tryz.results68,go_sem]) rfl ⟨0,by rw[HR.out],fun _=>HR1.out.symm,dh _ _ _ _ _ _ _⟩
theorem row_20(pv:Value)(P:aB)(A B C N:Int)(S:ByteArray)(la:Option Addr)(ln lc:Nat)(T:Bool)(L:List Int)(ta:Option Addr)(tn tc:Nat)(ts:List Int)(w:World)(ht:ai w ta tn ts)(htn:tn≤140737488355328)(ham:Among (aA 20 A B C L) tn):
 Calls Tryz.prog 68 #[pv,.agg #[.int .i64 20,.int .i64 A,.int .i64 B,.int .i64 C,.int .i64 N,.string S,.slice la ln lc,.bool T],.slice ta tn tc] w (aF (aC P 20 N S ((aA 20 A B C L).map (aQ ts))) w):=by
 have HT:Hid (∀u,Below w.heap.size w u→ai u ta tn ts):=hid (fun u hu=>ht.since hu)
 have hu:aA 20 A B C L=[A]:=by simp[aA,hasB,av,iF,dA]
 rw[hu]at ham⊢
 have HA_A:Hid (Among [A] tn):=hid (fun v hv=>ham v (by simp at hv ⊢;omega))
 have HR1:Hid ((aC P 20 N S ([A].map (aQ ts))).1=0):=hid rfl
 have hr:(aC P 20 N S ([A].map (aQ ts))).2=(gJ ts 4 [A]):=by
  show aG _ _=_
  simp only[List.map_cons,List.map_nil,iy,fG]
 clear ht ham hu
 cases h0:gJ ts 4 [A]with
 |false=>
  have H0:=hid h0
  have C0:Hid (Calls Tryz.prog 100 #[.slice ta tn tc,.int .i64 4,.slice (some ⟨w.heap.size+1,0,none⟩) 1 1] ((w.alloc (.cells #[.int .i64 20,.int .i64 A,.int .i64 B,.int .i64 C,.int .i64 N,.string S,.slice la ln lc,.bool T] 64)).alloc (.cells #[.int .i64 A] 3)) (fun e w'=>e=.returned (.bool false)∧((w.alloc (.cells #[.int .i64 20,.int .i64 A,.int .i64 B,.int .i64 C,.int .i64 N,.string S,.slice la ln lc,.bool T] 64)).alloc (.cells #[.int .i64 A] 3))=w')):=hid (by rw[←H0.out];exact aR ta tn tc ts 4 _ 1 _ [A] _ (HT.out _ (aJ _ _ _ _ _)) (ay 1 [A] _ rfl rfl (by simp)) HA_A.out (by decide) htn)
  have HR:Hid ((aC P 20 N S ([A].map (aQ ts))).2=false):=hid (by rw[hr,h0])
  clear hr h0
  go_enter Tryz.func68,Tryz.ntmps68
  go_wp2_with(first|(go_at_call 100;(with_reducible refine(C0.out).mono ?_);rintro e w' ⟨rfl,rfl⟩))
  refine bodyPost_ret (v:=.tuple #[.int .i64 0,.bool false]) (by simp[results,Tryz.results68,go_sem]) rfl ⟨0,by rw[HR.out],fun _=>HR1.out.symm,aJ _ _ _ _ _⟩
 |true=>
  have H0:=hid h0
  have C0:Hid (Calls Tryz.prog 100 #[.slice ta tn tc,.int .i64 4,.slice (some ⟨w.heap.size+1,0,none⟩) 1 1] ((w.alloc (.cells #[.int .i64 20,.int .i64 A,.int .i64 B,.int .i64 C,.int .i64 N,.string S,.slice la ln lc,.bool T] 64)).alloc (.cells #[.int .i64 A] 3)) (fun e w'=>e=.returned (.bool true)∧((w.alloc (.cells #[.int .i64 20,.int .i64 A,.int .i64 B,.int .i64 C,.int .i64 N,.string S,.slice la ln lc,.bool T] 64)).alloc (.cells #[.int .i64 A] 3))=w')):=hid (by rw[←H0.out];exact aR ta tn tc ts 4 _ 1 _ [A] _ (HT.out _ (aJ _ _ _ _ _)) (ay 1 [A] _ rfl rfl (by simp)) HA_A.out (by decide) htn)
  have HR:Hid ((aC P 20 N S ([A].map (aQ ts))).2=true):=hid (by rw[hr,h0])
  clear hr h0
  go_enter Tryz.func68,Tryz.ntmps68
  go_wp2_with(first|(go_at_call 100;(with_reducible refine(C0.out).mono ?_);rintro e w' ⟨rfl,rfl⟩))
  refine bodyPost_ret (v:=.tuple #[.int .i64 0,.bool true]) (by simp[results,Tryz.results68,go_sem]) rfl ⟨0,by rw[HR.out],fun _=>HR1.out.symm,aJ _ _ _ _ _⟩
theorem row_21(pv:Value)(P:aB)(A B C N:Int)(S:ByteArray)(la:Option Addr)(ln lc:Nat)(T:Bool)(L:List Int)(ta:Option Addr)(tn tc:Nat)(ts:List Int)(w:World)(ht:ai w ta tn ts)(htn:tn≤140737488355328)(ham:Among (aA 21 A B C L) tn):
 Calls Tryz.prog 68 #[pv,.agg #[.int .i64 21,.int .i64 A,.int .i64 B,.int .i64 C,.int .i64 N,.string S,.slice la ln lc,.bool T],.slice ta tn tc] w (aF (aC P 21 N S ((aA 21 A B C L).map (aQ ts))) w):=by
 have HT:Hid (∀u,Below w.heap.size w u→ai u ta tn ts):=hid (fun u hu=>ht.since hu)
 have hu:aA 21 A B C L=[A,B]:=by simp[aA,hasB,av,iF,dA]
 rw[hu]at ham⊢
 have HA_A:Hid (Among [A] tn):=hid (fun v hv=>ham v (by simp at hv ⊢;omega))
 have HA_B:Hid (Among [B] tn):=hid (fun v hv=>ham v (by simp at hv ⊢;omega))
 have HR1:Hid ((aC P 21 N S ([A,B].map (aQ ts))).1=0):=hid rfl
 have hr:(aC P 21 N S ([A,B].map (aQ ts))).2=(gJ ts 4 [A]&&gJ ts 0 [B]):=by
  show aG _ _=_
  simp only[List.map_cons,List.map_nil,iX,fG]
 clear ht ham hu
 cases h0:gJ ts 4 [A]with
 |false=>
  have H0:=hid h0
  have C0:Hid (Calls Tryz.prog 100 #[.slice ta tn tc,.int .i64 4,.slice (some ⟨w.heap.size+1,0,none⟩) 1 1] ((w.alloc (.cells #[.int .i64 21,.int .i64 A,.int .i64 B,.int .i64 C,.int .i64 N,.string S,.slice la ln lc,.bool T] 64)).alloc (.cells #[.int .i64 A] 3)) (fun e w'=>e=.returned (.bool false)∧((w.alloc (.cells #[.int .i64 21,.int .i64 A,.int .i64 B,.int .i64 C,.int .i64 N,.string S,.slice la ln lc,.bool T] 64)).alloc (.cells #[.int .i64 A] 3))=w')):=hid (by rw[←H0.out];exact aR ta tn tc ts 4 _ 1 _ [A] _ (HT.out _ (aJ _ _ _ _ _)) (ay 1 [A] _ rfl rfl (by simp)) HA_A.out (by decide) htn)
  have HR:Hid ((aC P 21 N S ([A,B].map (aQ ts))).2=false):=hid (by rw[hr,h0];rfl)
  clear hr h0
  go_enter Tryz.func68,Tryz.ntmps68
  go_wp2_with(first|(go_at_call 100;(with_reducible refine(C0.out).mono ?_);rintro e w' ⟨rfl,rfl⟩))
  refine bodyPost_ret (v:=.tuple #[.int .i64 0,.bool false]) (by simp[results,Tryz.results68,go_sem]) rfl ⟨0,by rw[HR.out],fun _=>HR1.out.symm,aJ _ _ _ _ _⟩
 |true=>
  have H0:=hid h0
  have C0:Hid (Calls Tryz.prog 100 #[.slice ta tn tc,.int .i64 4,.slice (some ⟨w.heap.size+1,0,none⟩) 1 1] ((w.alloc (.cells #[.int .i64 21,.int .i64 A,.int .i64 B,.int .i64 C,.int .i64 N,.string S,.slice la ln lc,.bool T] 64)).alloc (.cells #[.int .i64 A] 3)) (fun e w'=>e=.returned (.bool true)∧((w.alloc (.cells #[.int .i64 21,.int .i64 A,.int .i64 B,.int .i64 C,.int .i64 N,.string S,.slice la ln lc,.bool T] 64)).alloc (.cells #[.int .i64 A] 3))=w')):=hid (by rw[←H0.out];exact aR ta tn tc ts 4 _ 1 _ [A] _ (HT.out _ (aJ _ _ _ _ _)) (ay 1 [A] _ rfl rfl (by simp)) HA_A.out (by decide) htn)
  cases h1:gJ ts 0 [B]with
  |false=>
   have H1:=hid h1
   have C1:Hid (Calls Tryz.prog 100 #[.slice ta tn tc,.int .i64 0,.slice (some ⟨w.heap.size+1+1,0,none⟩) 1 1] (((w.alloc (.cells #[.int .i64 21,.int .i64 A,.int .i64 B,.int .i64 C,.int .i64 N,.string S,.slice la ln lc,.bool T] 64)).alloc (.cells #[.int .i64 A] 3)).alloc (.cells #[.int .i64 B] 3)) (fun e w'=>e=.returned (.bool false)∧(((w.alloc (.cells #[.int .i64 21,.int .i64 A,.int .i64 B,.int .i64 C,.int .i64 N,.string S,.slice la ln lc,.bool T] 64)).alloc (.cells #[.int .i64 A] 3)).alloc (.cells #[.int .i64 B] 3))=w')):=hid (by rw[←H1.out];exact aR ta tn tc ts 0 _ 1 _ [B] _ (HT.out _ (dh _ _ _ _ _ _ _)) (ay 1 [B] _ rfl rfl (by simp)) HA_B.out (by decide) htn)
   have HR:Hid ((aC P 21 N S ([A,B].map (aQ ts))).2=false):=hid (by rw[hr,h0,h1];rfl)
   clear hr h0 h1
   go_enter Tryz.func68,Tryz.ntmps68
   go_wp2_with(first|(go_at_call 100;(with_reducible refine(C0.out).mono ?_);rintro e w' ⟨rfl,rfl⟩)|(go_at_call 100;(with_reducible refine(C1.out).mono ?_);rintro e w' ⟨rfl,rfl⟩))
   refine bodyPost_ret (v:=.tuple #[.int .i64 0,.bool false]) (by simp[results,Tryz.results68,go_sem]) rfl ⟨0,by rw[HR.out],fun _=>HR1.out.symm,dh _ _ _ _ _ _ _⟩
  |true=>
   have H1:=hid h1
   have C1:Hid (Calls Tryz.prog 100 #[.slice ta tn tc,.int .i64 0,.slice (some ⟨w.heap.size+1+1,0,none⟩) 1 1] (((w.alloc (.cells #[.int .i64 21,.int .i64 A,.int .i64 B,.int .i64 C,.int .i64 N,.string S,.slice la ln lc,.bool T] 64)).alloc (.cells #[.int .i64 A] 3)).alloc (.cells #[.int .i64 B] 3)) (fun e w'=>e=.returned (.bool true)∧(((w.alloc (.cells #[.int .i64 21,.int .i64 A,.int .i64 B,.int .i64 C,.int .i64 N,.string S,.slice la ln lc,.bool T] 64)).alloc (.cells #[.int .i64 A] 3)).alloc (.cells #[.int .i64 B] 3))=w')):=hid (by rw[←H1.out];exact aR ta tn tc ts 0 _ 1 _ [B] _ (HT.out _ (dh _ _ _ _ _ _ _)) (ay 1 [B] _ rfl rfl (by simp)) HA_B.out (by decide) htn)
   have HR:Hid ((aC P 21 N S ([A,B].map (aQ ts))).2=true):=hid (by rw[hr,h0,h1];rfl)
   clear hr h0 h1
   go_enter Tryz.func68,Tryz.ntmps68
   go_wp2_with(first|(go_at_call 100;(with_reducible refine(C0.out).mono ?_);rintro e w' ⟨rfl,rfl⟩)|(go_at_call 100;(with_reducible refine(C1.out).mono ?_);rintro e w' ⟨rfl,rfl⟩))
   refine bodyPost_ret (v:=.tuple #[.int .i64 0,.bool true]) (by simp[results,Tryz.results68,go_sem]) rfl ⟨0,by rw[HR.out],fun _=>HR1.out.symm,dh _ _ _ _ _ _ _⟩
theorem row_0(pv:Value)(P:aB)(A B C N:Int)(S:ByteArray)(la:Option Addr)(ln lc:Nat)(T:Bool)(L:List Int)(ta:Option Addr)(tn tc:Nat)(ts:List Int)(w:World)(ht:ai w ta tn ts)(htn:tn≤140737488355328)(ham:Among (aA 0 A B C L) tn):
 Calls Tryz.prog 68 #[pv,.agg #[.int .i64 0,.int .i64 A,.int .i64 B,.int .i64 C,.int .i64 N,.string S,.slice la ln lc,.bool T],.slice ta tn tc] w (aF (aC P 0 N S ((aA 0 A B C L).map (aQ ts))) w):=by
 have HT:Hid (∀u,Below w.heap.size w u→ai u ta tn ts):=hid (fun u hu=>ht.since hu)
 have HR1:Hid ((aC P 0 N S ((aA 0 A B C L).map (aQ ts))).1=0):=hid rfl
 have HR:Hid ((aC P 0 N S ((aA 0 A B C L).map (aQ ts))).2=true):=hid rfl
 clear ht ham
 go_enter Tryz.func68,Tryz.ntmps68
 go_wp2_with fail
 refine bodyPost_ret (v:=.tuple #[.int .i64 0,.bool true]) (by simp[results,Tryz.results68,go_sem]) rfl ⟨0,by rw[HR.out],fun _=>HR1.out.symm,bD _ _ _⟩
theorem row_17(pv:Value)(P:aB)(A B C N:Int)(S:ByteArray)(la:Option Addr)(ln lc:Nat)(T:Bool)(L:List Int)(ta:Option Addr)(tn tc:Nat)(ts:List Int)(w:World)(ht:ai w ta tn ts)(htn:tn≤140737488355328)(ham:Among (aA 17 A B C L) tn):
 Calls Tryz.prog 68 #[pv,.agg #[.int .i64 17,.int .i64 A,.int .i64 B,.int .i64 C,.int .i64 N,.string S,.slice la ln lc,.bool T],.slice ta tn tc] w (aF (aC P 17 N S ((aA 17 A B C L).map (aQ ts))) w):=by
 have HT:Hid (∀u,Below w.heap.size w u→ai u ta tn ts):=hid (fun u hu=>ht.since hu)
 have HR1:Hid ((aC P 17 N S ((aA 17 A B C L).map (aQ ts))).1=4):=hid rfl
 have HR:Hid ((aC P 17 N S ((aA 17 A B C L).map (aQ ts))).2=true):=hid rfl
 clear ht ham
 go_enter Tryz.func68,Tryz.ntmps68
 go_wp2_with fail
 refine bodyPost_ret (v:=.tuple #[.int .i64 4,.bool true]) (by simp[results,Tryz.results68,go_sem]) rfl ⟨4,by rw[HR.out],fun _=>HR1.out.symm,bD _ _ _⟩
theorem row_2(pv:Value)(P:aB)(A B C N:Int)(S:ByteArray)(la:Option Addr)(ln lc:Nat)(T:Bool)(L:List Int)(ta:Option Addr)(tn tc:Nat)(ts:List Int)(w:World)(ht:ai w ta tn ts)(htn:tn≤140737488355328)(ham:Among (aA 2 A B C L) tn):
 Calls Tryz.prog 68 #[pv,.agg #[.int .i64 2,.int .i64 A,.int .i64 B,.int .i64 C,.int .i64 N,.string S,.slice la ln lc,.bool T],.slice ta tn tc] w (aF (aC P 2 N S ((aA 2 A B C L).map (aQ ts))) w):=by
 have HT:Hid (∀u,Below w.heap.size w u→ai u ta tn ts):=hid (fun u hu=>ht.since hu)
 have HR1:Hid ((aC P 2 N S ((aA 2 A B C L).map (aQ ts))).1=2):=hid rfl
 by_cases h:S.size≤64
 ·have h':((S.size:Int)≤64):=by omega
  have HR:Hid ((aC P 2 N S ((aA 2 A B C L).map (aQ ts))).2=true):=hid (decide_eq_true h)
  clear ht ham h
  go_enter Tryz.func68,Tryz.ntmps68
  go_wp2_with fail
  go_quiet (fail)
  go_wp2_with fail
  refine bodyPost_ret (v:=.tuple #[.int .i64 2,.bool true]) (by simp[results,Tryz.results68,go_sem]) rfl ⟨2,by rw[HR.out],fun _=>HR1.out.symm,(bD _ _ _).drewq nq⟩
 ·have h':64<(S.size:Int):=by omega
  have HR:Hid ((aC P 2 N S ((aA 2 A B C L).map (aQ ts))).2=false):=hid (decide_eq_false h)
  clear ht ham h
  go_enter Tryz.func68,Tryz.ntmps68
  go_wp2_with fail
  go_quiet (fail)
  go_wp2_with fail
  refine bodyPost_ret (v:=.tuple #[.int .i64 2,.bool false]) (by simp[results,Tryz.results68,go_sem]<;>omega) rfl ⟨2,by rw[HR.out],fun _=>HR1.out.symm,(bD _ _ _).drewq nq⟩
theorem row_1(pv:Value)(P:aB)(A B C N:Int)(S:ByteArray)(la:Option Addr)(ln lc:Nat)(T:Bool)(L:List Int)(ta:Option Addr)(tn tc:Nat)(ts:List Int)(w:World)(ht:ai w ta tn ts)(htn:tn≤140737488355328)(ham:Among (aA 1 A B C L) tn):
 Calls Tryz.prog 68 #[pv,.agg #[.int .i64 1,.int .i64 A,.int .i64 B,.int .i64 C,.int .i64 N,.string S,.slice la ln lc,.bool T],.slice ta tn tc] w (aF (aC P 1 N S ((aA 1 A B C L).map (aQ ts))) w):=by
 have HT:Hid (∀u,Below w.heap.size w u→ai u ta tn ts):=hid (fun u hu=>ht.since hu)
 have HR1:Hid ((aC P 1 N S ((aA 1 A B C L).map (aQ ts))).1=1):=hid rfl
 by_cases h0:N=0
 ·have e0:(N==0)=true:=by simpa using h0
  have HR:Hid ((aC P 1 N S ((aA 1 A B C L).map (aQ ts))).2=true):=hid (by show(N==0||N==1)=true;rw[e0];rfl)
  clear ht ham h0
  go_enter Tryz.func68,Tryz.ntmps68
  go_wp2_with fail
  go_quiet (fail)
  go_wp2_with fail
  refine bodyPost_ret (v:=.tuple #[.int .i64 1,.bool true]) (by simp[results,Tryz.results68,go_sem]) rfl ⟨1,by rw[HR.out],fun _=>HR1.out.symm,(bD _ _ _).drewq nq⟩
 ·have e0:(N==0)=false:=by rw[beq_eq_false_iff_ne];exact h0
  by_cases h1:N=1
  ·have e1:(N==1)=true:=by simpa using h1
   have HR:Hid ((aC P 1 N S ((aA 1 A B C L).map (aQ ts))).2=true):=hid (by show(N==0||N==1)=true;rw[e0,e1];rfl)
   clear ht ham h0 h1
   go_enter Tryz.func68,Tryz.ntmps68
   go_wp2_with fail
   go_quiet (fail)
   go_wp2_with fail
   refine bodyPost_ret (v:=.tuple #[.int .i64 1,.bool true]) (by simp[results,Tryz.results68,go_sem]) rfl ⟨1,by rw[HR.out],fun _=>HR1.out.symm,(bD _ _ _).drewq nq⟩
  ·have e1:(N==1)=false:=by rw[beq_eq_false_iff_ne];exact h1
   have HR:Hid ((aC P 1 N S ((aA 1 A B C L).map (aQ ts))).2=false):=hid (by show(N==0||N==1)=false;rw[e0,e1];rfl)
   clear ht ham h0 h1
   go_enter Tryz.func68,Tryz.ntmps68
   go_wp2_with fail
   go_quiet (fail)
   go_wp2_with fail
   refine bodyPost_ret (v:=.tuple #[.int .i64 1,.bool false]) (by simp[results,Tryz.results68,go_sem]) rfl ⟨1,by rw[HR.out],fun _=>HR1.out.symm,(bD _ _ _).drewq nq⟩
theorem row_12(pv:Value)(P:aB)(A B C N:Int)(S:ByteArray)(la:Option Addr)(ln lc:Nat)(T:Bool)(L:List Int)(ta:Option Addr)(tn tc:Nat)(ts:List Int)(w:World)(ht:ai w ta tn ts)(htn:tn≤140737488355328)(ham:Among (aA 12 A B C L) tn):
 Calls Tryz.prog 68 #[pv,.agg #[.int .i64 12,.int .i64 A,.int .i64 B,.int .i64 C,.int .i64 N,.string S,.slice la ln lc,.bool T],.slice ta tn tc] w (aF (aC P 12 N S ((aA 12 A B C L).map (aQ ts))) w):=by
 have HT:Hid (∀u,Below w.heap.size w u→ai u ta tn ts):=hid (fun u hu=>ht.since hu)
 have HR1:Hid ((aC P 12 N S ((aA 12 A B C L).map (aQ ts))).1=3):=hid rfl
 by_cases h0:0≤N
 ·by_cases h1:N≤128
  ·have HR:Hid ((aC P 12 N S ((aA 12 A B C L).map (aQ ts))).2=true):=hid (decide_eq_true ⟨h0,h1⟩)
   clear ht ham
   go_enter Tryz.func68,Tryz.ntmps68
   go_wp2_with fail
   go_quiet (fail)
   go_wp2_with fail
   refine bodyPost_ret (v:=.tuple #[.int .i64 3,.bool true]) (by simp[results,Tryz.results68,go_sem]) rfl ⟨3,by rw[HR.out],fun _=>HR1.out.symm,(bD _ _ _).drewq nq⟩
  ·have HR:Hid ((aC P 12 N S ((aA 12 A B C L).map (aQ ts))).2=false):=hid (decide_eq_false (fun h=>h1 h.2))
   have h1':128<N:=by omega
   clear ht ham
   go_enter Tryz.func68,Tryz.ntmps68
   go_wp2_with fail
   go_quiet (fail)
   go_wp2_with fail
   refine bodyPost_ret (v:=.tuple #[.int .i64 3,.bool false]) (by simp[results,Tryz.results68,go_sem]<;>omega) rfl ⟨3,by rw[HR.out],fun _=>HR1.out.symm,(bD _ _ _).drewq nq⟩
 ·have HR:Hid ((aC P 12 N S ((aA 12 A B C L).map (aQ ts))).2=false):=hid (decide_eq_false (fun h=>h0 h.1))
  have hd:decide (0≤N)=false:=decide_eq_false h0
  clear ht ham h0
  go_enter Tryz.func68,Tryz.ntmps68
  go_wp2_with fail
  go_quiet (fail)
  go_wp2_with fail
  refine bodyPost_ret (v:=.tuple #[.int .i64 3,.bool false]) (by simp[results,Tryz.results68,go_sem]) rfl ⟨3,by rw[HR.out],fun _=>HR1.out.symm,(bD _ _ _).drewq nq⟩
theorem row_3(pv:Value)(P:aB)(A B C N:Int)(S:ByteArray)(la:Option Addr)(ln lc:Nat)(T:Bool)(L:List Int)(ta:Option Addr)(tn tc:Nat)(ts:List Int)(w:World)(ht:ai w ta tn ts)(htn:tn≤140737488355328)(ham:Among (aA 3 A B C L) tn):
 Calls Tryz.prog 68 #[pv,.agg #[.int .i64 3,.int .i64 A,.int .i64 B,.int .i64 C,.int .i64 N,.string S,.slice la ln lc,.bool T],.slice ta tn tc] w (aF (aC P 3 N S ((aA 3 A B C L).map (aQ ts))) w):=by
 have hu:aA 3 A B C L=[A,B]:=by simp[aA,hasB,av,iF,dA]
 rw[hu]at ham⊢
 have HT:Hid (∀u,Below w.heap.size w u→ai u ta tn ts):=hid (fun u hu=>ht.since hu)
 have HA_AB:Hid (Among [A,B] tn):=hid ham
 have HR1:Hid ((aC P 3 N S ([A,B].map (aQ ts))).1=tlV N):=hid rfl
 have hr:(aC P 3 N S ([A,B].map (aQ ts))).2=(decide (0≤N∧N≤13)&&gJ ts 0 [A,B]):=by
  show(_&&aG _ _)=_
  simp only[List.map_cons,List.map_nil,iX,nM]
 clear ht ham hu
 cases hs:decide (0≤N∧N≤13)with
 |false=>
  have HS:=hid hs
  have HR:Hid ((aC P 3 N S ([A,B].map (aQ ts))).2=false):=hid (by rw[hr,hs];rfl)
  clear hr hs
  go_enter Tryz.func68,Tryz.ntmps68
  go_wp2_with(go_at_call 99;(with_reducible refine(sK N _).mono ?_);rintro e w' ⟨rfl,rfl⟩;rw[HS.out])
  refine bodyPost_ret (v:=.tuple #[.int .i64 (tlV N),.bool false]) (by simp[results,Tryz.results68,go_sem]) rfl ⟨tlV N,by rw[HR.out],fun _=>HR1.out.symm,bD _ _ _⟩
 |true=>
  have HS:=hid hs
  cases h0:gJ ts 0 [A,B]with
  |false=>
   have H0:=hid h0
   have C0:Hid (Calls Tryz.prog 100 #[.slice ta tn tc,.int .i64 0,.slice (some ⟨w.heap.size+1,0,none⟩) 2 2] ((w.alloc (.cells #[.int .i64 3,.int .i64 A,.int .i64 B,.int .i64 C,.int .i64 N,.string S,.slice la ln lc,.bool T] 64)).alloc (.cells #[.int .i64 A,.int .i64 B] 3)) (fun e w'=>e=.returned (.bool false)∧((w.alloc (.cells #[.int .i64 3,.int .i64 A,.int .i64 B,.int .i64 C,.int .i64 N,.string S,.slice la ln lc,.bool T] 64)).alloc (.cells #[.int .i64 A,.int .i64 B] 3))=w')):=hid (by rw[←H0.out];exact aR ta tn tc ts 0 _ 2 _ [A,B] _ (HT.out _ (aJ _ _ _ _ _)) (ay 2 [A,B] _ rfl rfl (by simp)) HA_AB.out (by decide) htn)
   have HR:Hid ((aC P 3 N S ([A,B].map (aQ ts))).2=false):=hid (by rw[hr,hs,h0];rfl)
   clear hr hs h0
   go_enter Tryz.func68,Tryz.ntmps68
   go_wp2_with(first|(go_at_call 99;(with_reducible refine(sK N _).mono ?_);rintro e w' ⟨rfl,rfl⟩;rw[HS.out])|(go_at_call 100;(with_reducible refine(C0.out).mono ?_);rintro e w' ⟨rfl,rfl⟩))
   refine bodyPost_ret (v:=.tuple #[.int .i64 (tlV N),.bool false]) (by simp[results,Tryz.results68,go_sem]) rfl ⟨tlV N,by rw[HR.out],fun _=>HR1.out.symm,aJ _ _ _ _ _⟩
  |true=>
   have H0:=hid h0
   have C0:Hid (Calls Tryz.prog 100 #[.slice ta tn tc,.int .i64 0,.slice (some ⟨w.heap.size+1,0,none⟩) 2 2] ((w.alloc (.cells #[.int .i64 3,.int .i64 A,.int .i64 B,.int .i64 C,.int .i64 N,.string S,.slice la ln lc,.bool T] 64)).alloc (.cells #[.int .i64 A,.int .i64 B] 3)) (fun e w'=>e=.returned (.bool true)∧((w.alloc (.cells #[.int .i64 3,.int .i64 A,.int .i64 B,.int .i64 C,.int .i64 N,.string S,.slice la ln lc,.bool T] 64)).alloc (.cells #[.int .i64 A,.int .i64 B] 3))=w')):=hid (by rw[←H0.out];exact aR ta tn tc ts 0 _ 2 _ [A,B] _ (HT.out _ (aJ _ _ _ _ _)) (ay 2 [A,B] _ rfl rfl (by simp)) HA_AB.out (by decide) htn)
   have HR:Hid ((aC P 3 N S ([A,B].map (aQ ts))).2=true):=hid (by rw[hr,hs,h0];rfl)
   clear hr hs h0
   go_enter Tryz.func68,Tryz.ntmps68
   go_wp2_with(first|(go_at_call 99;(with_reducible refine(sK N _).mono ?_);rintro e w' ⟨rfl,rfl⟩;rw[HS.out])|(go_at_call 100;(with_reducible refine(C0.out).mono ?_);rintro e w' ⟨rfl,rfl⟩))
   refine bodyPost_ret (v:=.tuple #[.int .i64 (tlV N),.bool true]) (by simp[results,Tryz.results68,go_sem]) rfl ⟨tlV N,by rw[HR.out],fun _=>HR1.out.symm,aJ _ _ _ _ _⟩
theorem row_25(pv:Value)(P:aB)(A B C N:Int)(S:ByteArray)(la:Option Addr)(ln lc:Nat)(T:Bool)(L:List Int)(ta:Option Addr)(tn tc:Nat)(ts:List Int)(w:World)(ht:ai w ta tn ts)(htn:tn≤140737488355328)(ham:Among (aA 25 A B C L) tn):
 Calls Tryz.prog 68 #[pv,.agg #[.int .i64 25,.int .i64 A,.int .i64 B,.int .i64 C,.int .i64 N,.string S,.slice la ln lc,.bool T],.slice ta tn tc] w (aF (aC P 25 N S ((aA 25 A B C L).map (aQ ts))) w):=by
 have hu:aA 25 A B C L=[A]:=by simp[aA,hasB,av,iF,dA]
 rw[hu]at ham⊢
 have HT:Hid (∀u,Below w.heap.size w u→ai u ta tn ts):=hid (fun u hu=>ht.since hu)
 have HA_A:Hid (Among [A] tn):=hid ham
 have HR1:Hid ((aC P 25 N S ([A].map (aQ ts))).1= -1):=hid rfl
 have hr:(aC P 25 N S ([A].map (aQ ts))).2=(gJ ts 0 [A]||gJ ts 2 [A]):=by
  show(aG _ _||aG _ _)=_
  simp only[List.map_cons,List.map_nil,iy,fG]
 clear ht ham hu
 cases h0:gJ ts 0 [A]with
 |true=>
  have H0:=hid h0
  have C0:Hid (Calls Tryz.prog 100 #[.slice ta tn tc,.int .i64 0,.slice (some ⟨w.heap.size+1,0,none⟩) 1 1] ((w.alloc (.cells #[.int .i64 25,.int .i64 A,.int .i64 B,.int .i64 C,.int .i64 N,.string S,.slice la ln lc,.bool T] 64)).alloc (.cells #[.int .i64 A] 3)) (fun e w'=>e=.returned (.bool true)∧((w.alloc (.cells #[.int .i64 25,.int .i64 A,.int .i64 B,.int .i64 C,.int .i64 N,.string S,.slice la ln lc,.bool T] 64)).alloc (.cells #[.int .i64 A] 3))=w')):=hid (by rw[←H0.out];exact aR ta tn tc ts 0 _ 1 _ [A] _ (HT.out _ (aJ _ _ _ _ _)) (ay 1 [A] _ rfl rfl (by simp)) HA_A.out (by decide) htn)
  have HR:Hid ((aC P 25 N S ([A].map (aQ ts))).2=true):=hid (by rw[hr,h0];rfl)
  clear hr h0
  go_enter Tryz.func68,Tryz.ntmps68
  go_wp2_with(go_at_call 100;(with_reducible refine(C0.out).mono ?_);rintro e w' ⟨rfl,rfl⟩)
  refine bodyPost_ret (v:=.tuple #[.int .i64 (-1),.bool true]) (by simp[results,Tryz.results68,go_sem]) rfl ⟨-1,by rw[HR.out],fun _=>HR1.out.symm,aJ _ _ _ _ _⟩
 |false=>
  have H0:=hid h0
  have C0:Hid (Calls Tryz.prog 100 #[.slice ta tn tc,.int .i64 0,.slice (some ⟨w.heap.size+1,0,none⟩) 1 1] ((w.alloc (.cells #[.int .i64 25,.int .i64 A,.int .i64 B,.int .i64 C,.int .i64 N,.string S,.slice la ln lc,.bool T] 64)).alloc (.cells #[.int .i64 A] 3)) (fun e w'=>e=.returned (.bool false)∧((w.alloc (.cells #[.int .i64 25,.int .i64 A,.int .i64 B,.int .i64 C,.int .i64 N,.string S,.slice la ln lc,.bool T] 64)).alloc (.cells #[.int .i64 A] 3))=w')):=hid (by rw[←H0.out];exact aR ta tn tc ts 0 _ 1 _ [A] _ (HT.out _ (aJ _ _ _ _ _)) (ay 1 [A] _ rfl rfl (by simp)) HA_A.out (by decide) htn)
  cases h1:gJ ts 2 [A]with
  |false=>
   have H1:=hid h1
   have C1:Hid (Calls Tryz.prog 100 #[.slice ta tn tc,.int .i64 2,.slice (some ⟨w.heap.size+1+1,0,none⟩) 1 1] (((w.alloc (.cells #[.int .i64 25,.int .i64 A,.int .i64 B,.int .i64 C,.int .i64 N,.string S,.slice la ln lc,.bool T] 64)).alloc (.cells #[.int .i64 A] 3)).alloc (.cells #[.int .i64 A] 3)) (fun e w'=>e=.returned (.bool false)∧(((w.alloc (.cells #[.int .i64 25,.int .i64 A,.int .i64 B,.int .i64 C,.int .i64 N,.string S,.slice la ln lc,.bool T] 64)).alloc (.cells #[.int .i64 A] 3)).alloc (.cells #[.int .i64 A] 3))=w')):=hid (by rw[←H1.out];exact aR ta tn tc ts 2 _ 1 _ [A] _ (HT.out _ (dh _ _ _ _ _ _ _)) (ay 1 [A] _ rfl rfl (by simp)) HA_A.out (by decide) htn)
   have HR:Hid ((aC P 25 N S ([A].map (aQ ts))).2=false):=hid (by rw[hr,h0,h1];rfl)
   clear hr h0 h1
   go_enter Tryz.func68,Tryz.ntmps68
   go_wp2_with(first|(go_at_call 100;(with_reducible refine(C0.out).mono ?_);rintro e w' ⟨rfl,rfl⟩)|(go_at_call 100;(with_reducible refine(C1.out).mono ?_);rintro e w' ⟨rfl,rfl⟩))
   refine bodyPost_ret (v:=.tuple #[.int .i64 (-1),.bool false]) (by simp[results,Tryz.results68,go_sem]) rfl ⟨-1,by rw[HR.out],fun _=>HR1.out.symm,dh _ _ _ _ _ _ _⟩
  |true=>
   have H1:=hid h1
   have C1:Hid (Calls Tryz.prog 100 #[.slice ta tn tc,.int .i64 2,.slice (some ⟨w.heap.size+1+1,0,none⟩) 1 1] (((w.alloc (.cells #[.int .i64 25,.int .i64 A,.int .i64 B,.int .i64 C,.int .i64 N,.string S,.slice la ln lc,.bool T] 64)).alloc (.cells #[.int .i64 A] 3)).alloc (.cells #[.int .i64 A] 3)) (fun e w'=>e=.returned (.bool true)∧(((w.alloc (.cells #[.int .i64 25,.int .i64 A,.int .i64 B,.int .i64 C,.int .i64 N,.string S,.slice la ln lc,.bool T] 64)).alloc (.cells #[.int .i64 A] 3)).alloc (.cells #[.int .i64 A] 3))=w')):=hid (by rw[←H1.out];exact aR ta tn tc ts 2 _ 1 _ [A] _ (HT.out _ (dh _ _ _ _ _ _ _)) (ay 1 [A] _ rfl rfl (by simp)) HA_A.out (by decide) htn)
   have HR:Hid ((aC P 25 N S ([A].map (aQ ts))).2=true):=hid (by rw[hr,h0,h1];rfl)
   clear hr h0 h1
   go_enter Tryz.func68,Tryz.ntmps68
   go_wp2_with(first|(go_at_call 100;(with_reducible refine(C0.out).mono ?_);rintro e w' ⟨rfl,rfl⟩)|(go_at_call 100;(with_reducible refine(C1.out).mono ?_);rintro e w' ⟨rfl,rfl⟩))
   refine bodyPost_ret (v:=.tuple #[.int .i64 (-1),.bool true]) (by simp[results,Tryz.results68,go_sem]) rfl ⟨-1,by rw[HR.out],fun _=>HR1.out.symm,dh _ _ _ _ _ _ _⟩
theorem rres_4(pv:Value)(P:aB)(A B C N:Int)(S:ByteArray)(la:Option Addr)(ln lc:Nat)(T:Bool)(va:Option Addr)(vn vc:Nat)(l:List Int)(w:World)(hv:ai w va vn l)(hvn:vn≤140737488355328):
 Calls Tryz.prog 70 #[pv,.agg #[.int .i64 4,.int .i64 A,.int .i64 B,.int .i64 C,.int .i64 N,.string S,.slice la ln lc,.bool T],.slice va vn vc] w (aF (aC P 4 N S l) w):=by
 have HB:Hid (∀q,Below w.heap.size w (((w.alloc (.cells #[.int .i64 4,.int .i64 A,.int .i64 B,.int .i64 C,.int .i64 N,.string S,.slice la ln lc,.bool T] 64)).alloc (.cells #[.int .i64 1] 3)).drewN q)):=hid (fun q=>(aJ _ _ _ _ _).drewq q)
 have hci:∀ q,Calls Tryz.prog 14 #[.slice va vn vc,.slice (some ⟨w.heap.size+1,0,none⟩) 1 1] (((w.alloc (.cells #[.int .i64 4,.int .i64 A,.int .i64 B,.int .i64 C,.int .i64 N,.string S,.slice la ln lc,.bool T] 64)).alloc (.cells #[.int .i64 1] 3)).drewN q) (bG (aG l [1]) (((w.alloc (.cells #[.int .i64 4,.int .i64 A,.int .i64 B,.int .i64 C,.int .i64 N,.string S,.slice la ln lc,.bool T] 64)).alloc (.cells #[.int .i64 1] 3)).drewN q)):=fun q=>bI va _ vn 1 vc 1 l [1] _ (hv.since (HB.out q)) ((ay 1 [1] _ rfl rfl (by simp)).drewN q) (by omega) (by decide)
 have HR1:Hid ((aC P 4 N S l).1=1):=hid rfl
 have hr:(aC P 4 N S l).2=aG l [1]:=rfl
 clear hv
 cases hb:aG l [1]with
 |false=>
  have HR:Hid ((aC P 4 N S l).2=false):=hid (by rw[hr,hb])
  rw[hb]at hci
  have CI:=hid hci
  clear hr hb hci
  go_enter Tryz.func70,Tryz.ntmps70
  go_wp2_with(go_at_call 102;(with_reducible refine(CP _).mono ?_);rintro e w' ⟨rfl,rfl⟩)
  go_quiet ((go_at_call 14;exact Calls.quiet_of (CI.out _)))
  go_wp2_with fail
  refine bodyPost_ret (v:=.tuple #[.int .i64 1,.bool false]) (by simp[results,Tryz.results70,go_sem]) rfl ⟨1,by rw[HR.out],fun _=>HR1.out.symm,HB.out _⟩
 |true=>
  have HR:Hid ((aC P 4 N S l).2=true):=hid (by rw[hr,hb])
  rw[hb]at hci
  have CI:=hid hci
  clear hr hb hci
  go_enter Tryz.func70,Tryz.ntmps70
  go_wp2_with(go_at_call 102;(with_reducible refine(CP _).mono ?_);rintro e w' ⟨rfl,rfl⟩)
  go_quiet ((go_at_call 14;exact Calls.quiet_of (CI.out _)))
  go_wp2_with fail
  refine bodyPost_ret (v:=.tuple #[.int .i64 1,.bool true]) (by simp[results,Tryz.results70,go_sem]) rfl ⟨1,by rw[HR.out],fun _=>HR1.out.symm,HB.out _⟩
theorem rres_5(pv:Value)(P:aB)(A B C N:Int)(S:ByteArray)(la:Option Addr)(ln lc:Nat)(T:Bool)(va:Option Addr)(vn vc:Nat)(l:List Int)(w:World)(hv:ai w va vn l)(hvn:vn≤140737488355328):
 Calls Tryz.prog 70 #[pv,.agg #[.int .i64 5,.int .i64 A,.int .i64 B,.int .i64 C,.int .i64 N,.string S,.slice la ln lc,.bool T],.slice va vn vc] w (aF (aC P 5 N S l) w):=by
 have HB:Hid (∀q,Below w.heap.size w (((w.alloc (.cells #[.int .i64 5,.int .i64 A,.int .i64 B,.int .i64 C,.int .i64 N,.string S,.slice la ln lc,.bool T] 64)).alloc (.cells #[.int .i64 2,.int .i64 2] 3)).drewN q)):=hid (fun q=>(aJ _ _ _ _ _).drewq q)
 have hci:∀ q,Calls Tryz.prog 14 #[.slice va vn vc,.slice (some ⟨w.heap.size+1,0,none⟩) 2 2] (((w.alloc (.cells #[.int .i64 5,.int .i64 A,.int .i64 B,.int .i64 C,.int .i64 N,.string S,.slice la ln lc,.bool T] 64)).alloc (.cells #[.int .i64 2,.int .i64 2] 3)).drewN q) (bG (aG l [2,2]) (((w.alloc (.cells #[.int .i64 5,.int .i64 A,.int .i64 B,.int .i64 C,.int .i64 N,.string S,.slice la ln lc,.bool T] 64)).alloc (.cells #[.int .i64 2,.int .i64 2] 3)).drewN q)):=fun q=>bI va _ vn 2 vc 2 l [2,2] _ (hv.since (HB.out q)) ((ay 2 [2,2] _ rfl rfl (by simp)).drewN q) (by omega) (by decide)
 have HR1:Hid ((aC P 5 N S l).1=2):=hid rfl
 have hr:(aC P 5 N S l).2=aG l [2,2]:=rfl
 clear hv
 cases hb:aG l [2,2]with
 |false=>
  have HR:Hid ((aC P 5 N S l).2=false):=hid (by rw[hr,hb])
  rw[hb]at hci
  have CI:=hid hci
  clear hr hb hci
  go_enter Tryz.func70,Tryz.ntmps70
  go_wp2_with(go_at_call 102;(with_reducible refine(Cz _).mono ?_);rintro e w' ⟨rfl,rfl⟩)
  go_quiet ((go_at_call 14;exact Calls.quiet_of (CI.out _)))
  go_wp2_with fail
  refine bodyPost_ret (v:=.tuple #[.int .i64 2,.bool false]) (by simp[results,Tryz.results70,go_sem]) rfl ⟨2,by rw[HR.out],fun _=>HR1.out.symm,HB.out _⟩
 |true=>
  have HR:Hid ((aC P 5 N S l).2=true):=hid (by rw[hr,hb])
  rw[hb]at hci
  have CI:=hid hci
  clear hr hb hci
  go_enter Tryz.func70,Tryz.ntmps70
  go_wp2_with(go_at_call 102;(with_reducible refine(Cz _).mono ?_);rintro e w' ⟨rfl,rfl⟩)
  go_quiet ((go_at_call 14;exact Calls.quiet_of (CI.out _)))
  go_wp2_with fail
  refine bodyPost_ret (v:=.tuple #[.int .i64 2,.bool true]) (by simp[results,Tryz.results70,go_sem]) rfl ⟨2,by rw[HR.out],fun _=>HR1.out.symm,HB.out _⟩
theorem rres_8(pv:Value)(P:aB)(A B C N:Int)(S:ByteArray)(la:Option Addr)(ln lc:Nat)(T:Bool)(va:Option Addr)(vn vc:Nat)(l:List Int)(w:World)(hv:ai w va vn l)(hvn:vn≤140737488355328):
 Calls Tryz.prog 70 #[pv,.agg #[.int .i64 8,.int .i64 A,.int .i64 B,.int .i64 C,.int .i64 N,.string S,.slice la ln lc,.bool T],.slice va vn vc] w (aF (aC P 8 N S l) w):=by
 have HB:Hid (∀q,Below w.heap.size w (((w.alloc (.cells #[.int .i64 8,.int .i64 A,.int .i64 B,.int .i64 C,.int .i64 N,.string S,.slice la ln lc,.bool T] 64)).alloc (.cells #[.int .i64 2,.int .i64 2] 3)).drewN q)):=hid (fun q=>(aJ _ _ _ _ _).drewq q)
 have hci:∀ q,Calls Tryz.prog 14 #[.slice va vn vc,.slice (some ⟨w.heap.size+1,0,none⟩) 2 2] (((w.alloc (.cells #[.int .i64 8,.int .i64 A,.int .i64 B,.int .i64 C,.int .i64 N,.string S,.slice la ln lc,.bool T] 64)).alloc (.cells #[.int .i64 2,.int .i64 2] 3)).drewN q) (bG (aG l [2,2]) (((w.alloc (.cells #[.int .i64 8,.int .i64 A,.int .i64 B,.int .i64 C,.int .i64 N,.string S,.slice la ln lc,.bool T] 64)).alloc (.cells #[.int .i64 2,.int .i64 2] 3)).drewN q)):=fun q=>bI va _ vn 2 vc 2 l [2,2] _ (hv.since (HB.out q)) ((ay 2 [2,2] _ rfl rfl (by simp)).drewN q) (by omega) (by decide)
 have HR1:Hid ((aC P 8 N S l).1=1):=hid rfl
 have hr:(aC P 8 N S l).2=aG l [2,2]:=rfl
 clear hv
 cases hb:aG l [2,2]with
 |false=>
  have HR:Hid ((aC P 8 N S l).2=false):=hid (by rw[hr,hb])
  rw[hb]at hci
  have CI:=hid hci
  clear hr hb hci
  go_enter Tryz.func70,Tryz.ntmps70
  go_wp2_with(go_at_call 102;(with_reducible refine(Cw _).mono ?_);rintro e w' ⟨rfl,rfl⟩)
  go_quiet ((go_at_call 14;exact Calls.quiet_of (CI.out _)))
  go_wp2_with fail
  refine bodyPost_ret (v:=.tuple #[.int .i64 1,.bool false]) (by simp[results,Tryz.results70,go_sem]) rfl ⟨1,by rw[HR.out],fun _=>HR1.out.symm,HB.out _⟩
 |true=>
  have HR:Hid ((aC P 8 N S l).2=true):=hid (by rw[hr,hb])
  rw[hb]at hci
  have CI:=hid hci
  clear hr hb hci
  go_enter Tryz.func70,Tryz.ntmps70
  go_wp2_with(go_at_call 102;(with_reducible refine(Cw _).mono ?_);rintro e w' ⟨rfl,rfl⟩)
  go_quiet ((go_at_call 14;exact Calls.quiet_of (CI.out _)))
  go_wp2_with fail
  refine bodyPost_ret (v:=.tuple #[.int .i64 1,.bool true]) (by simp[results,Tryz.results70,go_sem]) rfl ⟨1,by rw[HR.out],fun _=>HR1.out.symm,HB.out _⟩
theorem rres_6(pv:Value)(P:aB)(A B C N:Int)(S:ByteArray)(la:Option Addr)(ln lc:Nat)(T:Bool)(va:Option Addr)(vn vc:Nat)(l:List Int)(w:World)(hv:ai w va vn l)(hvn:vn≤140737488355328):
 Calls Tryz.prog 70 #[pv,.agg #[.int .i64 6,.int .i64 A,.int .i64 B,.int .i64 C,.int .i64 N,.string S,.slice la ln lc,.bool T],.slice va vn vc] w (aF (aC P 6 N S l) w):=by
 have HB:Hid (∀q,Below w.heap.size w (((w.alloc (.cells #[.int .i64 6,.int .i64 A,.int .i64 B,.int .i64 C,.int .i64 N,.string S,.slice la ln lc,.bool T] 64)).alloc (.cells #[.int .i64 2] 3)).drewN q)):=hid (fun q=>(aJ _ _ _ _ _).drewq q)
 have hci:∀ q,Calls Tryz.prog 14 #[.slice va vn vc,.slice (some ⟨w.heap.size+1,0,none⟩) 1 1] (((w.alloc (.cells #[.int .i64 6,.int .i64 A,.int .i64 B,.int .i64 C,.int .i64 N,.string S,.slice la ln lc,.bool T] 64)).alloc (.cells #[.int .i64 2] 3)).drewN q) (bG (aG l [2]) (((w.alloc (.cells #[.int .i64 6,.int .i64 A,.int .i64 B,.int .i64 C,.int .i64 N,.string S,.slice la ln lc,.bool T] 64)).alloc (.cells #[.int .i64 2] 3)).drewN q)):=fun q=>bI va _ vn 1 vc 1 l [2] _ (hv.since (HB.out q)) ((ay 1 [2] _ rfl rfl (by simp)).drewN q) (by omega) (by decide)
 have HR1:Hid ((aC P 6 N S l).1=0):=hid rfl
 have hr:(aC P 6 N S l).2=aG l [2]:=rfl
 clear hv
 cases hb:aG l [2]with
 |false=>
  have HR:Hid ((aC P 6 N S l).2=false):=hid (by rw[hr,hb])
  rw[hb]at hci
  have CI:=hid hci
  clear hr hb hci
  go_enter Tryz.func70,Tryz.ntmps70
  go_wp2_with(go_at_call 102;(with_reducible refine(Cy _).mono ?_);rintro e w' ⟨rfl,rfl⟩)
  go_quiet ((go_at_call 14;exact Calls.quiet_of (CI.out _)))
  go_wp2_with fail
  refine bodyPost_ret (v:=.tuple #[.int .i64 0,.bool false]) (by simp[results,Tryz.results70,go_sem]) rfl ⟨0,by rw[HR.out],fun _=>HR1.out.symm,HB.out _⟩
 |true=>
  have HR:Hid ((aC P 6 N S l).2=true):=hid (by rw[hr,hb])
  rw[hb]at hci
  have CI:=hid hci
  clear hr hb hci
  go_enter Tryz.func70,Tryz.ntmps70
  go_wp2_with(go_at_call 102;(with_reducible refine(Cy _).mono ?_);rintro e w' ⟨rfl,rfl⟩)
  go_quiet ((go_at_call 14;exact Calls.quiet_of (CI.out _)))
  go_wp2_with fail
  refine bodyPost_ret (v:=.tuple #[.int .i64 0,.bool true]) (by simp[results,Tryz.results70,go_sem]) rfl ⟨0,by rw[HR.out],fun _=>HR1.out.symm,HB.out _⟩
theorem rres_7(pv:Value)(P:aB)(A B C N:Int)(S:ByteArray)(la:Option Addr)(ln lc:Nat)(T:Bool)(va:Option Addr)(vn vc:Nat)(l:List Int)(w:World)(hv:ai w va vn l)(hvn:vn≤140737488355328):
 Calls Tryz.prog 70 #[pv,.agg #[.int .i64 7,.int .i64 A,.int .i64 B,.int .i64 C,.int .i64 N,.string S,.slice la ln lc,.bool T],.slice va vn vc] w (aF (aC P 7 N S l) w):=by
 have HB:Hid (∀q,Below w.heap.size w (((w.alloc (.cells #[.int .i64 7,.int .i64 A,.int .i64 B,.int .i64 C,.int .i64 N,.string S,.slice la ln lc,.bool T] 64)).alloc (.cells #[.int .i64 2,.int .i64 0] 3)).drewN q)):=hid (fun q=>(aJ _ _ _ _ _).drewq q)
 have hci:∀ q,Calls Tryz.prog 14 #[.slice va vn vc,.slice (some ⟨w.heap.size+1,0,none⟩) 2 2] (((w.alloc (.cells #[.int .i64 7,.int .i64 A,.int .i64 B,.int .i64 C,.int .i64 N,.string S,.slice la ln lc,.bool T] 64)).alloc (.cells #[.int .i64 2,.int .i64 0] 3)).drewN q) (bG (aG l [2,0]) (((w.alloc (.cells #[.int .i64 7,.int .i64 A,.int .i64 B,.int .i64 C,.int .i64 N,.string S,.slice la ln lc,.bool T] 64)).alloc (.cells #[.int .i64 2,.int .i64 0] 3)).drewN q)):=fun q=>bI va _ vn 2 vc 2 l [2,0] _ (hv.since (HB.out q)) ((ay 2 [2,0] _ rfl rfl (by simp)).drewN q) (by omega) (by decide)
 have HR1:Hid ((aC P 7 N S l).1=0):=hid rfl
 have hr:(aC P 7 N S l).2=aG l [2,0]:=rfl
 clear hv
 cases hb:aG l [2,0]with
 |false=>
  have HR:Hid ((aC P 7 N S l).2=false):=hid (by rw[hr,hb])
  rw[hb]at hci
  have CI:=hid hci
  clear hr hb hci
  go_enter Tryz.func70,Tryz.ntmps70
  go_wp2_with(go_at_call 102;(with_reducible refine(Cx _).mono ?_);rintro e w' ⟨rfl,rfl⟩)
  go_quiet ((go_at_call 14;exact Calls.quiet_of (CI.out _)))
  go_wp2_with fail
  refine bodyPost_ret (v:=.tuple #[.int .i64 0,.bool false]) (by simp[results,Tryz.results70,go_sem]) rfl ⟨0,by rw[HR.out],fun _=>HR1.out.symm,HB.out _⟩
 |true=>
  have HR:Hid ((aC P 7 N S l).2=true):=hid (by rw[hr,hb])
  rw[hb]at hci
  have CI:=hid hci
  clear hr hb hci
  go_enter Tryz.func70,Tryz.ntmps70
  go_wp2_with(go_at_call 102;(with_reducible refine(Cx _).mono ?_);rintro e w' ⟨rfl,rfl⟩)
  go_quiet ((go_at_call 14;exact Calls.quiet_of (CI.out _)))
  go_wp2_with fail
  refine bodyPost_ret (v:=.tuple #[.int .i64 0,.bool true]) (by simp[results,Tryz.results70,go_sem]) rfl ⟨0,by rw[HR.out],fun _=>HR1.out.symm,HB.out _⟩
theorem rres_13(pv:Value)(P:aB)(A B C N:Int)(S:ByteArray)(la:Option Addr)(ln lc:Nat)(T:Bool)(va:Option Addr)(vn vc:Nat)(l:List Int)(w:World)(hv:ai w va vn l)(hvn:vn≤140737488355328):
 Calls Tryz.prog 70 #[pv,.agg #[.int .i64 13,.int .i64 A,.int .i64 B,.int .i64 C,.int .i64 N,.string S,.slice la ln lc,.bool T],.slice va vn vc] w (aF (aC P 13 N S l) w):=by
 have HB:Hid (∀q,Below w.heap.size w (((w.alloc (.cells #[.int .i64 13,.int .i64 A,.int .i64 B,.int .i64 C,.int .i64 N,.string S,.slice la ln lc,.bool T] 64)).alloc (.cells #[.int .i64 0] 3)).drewN q)):=hid (fun q=>(aJ _ _ _ _ _).drewq q)
 have hci:∀ q,Calls Tryz.prog 14 #[.slice va vn vc,.slice (some ⟨w.heap.size+1,0,none⟩) 1 1] (((w.alloc (.cells #[.int .i64 13,.int .i64 A,.int .i64 B,.int .i64 C,.int .i64 N,.string S,.slice la ln lc,.bool T] 64)).alloc (.cells #[.int .i64 0] 3)).drewN q) (bG (aG l [0]) (((w.alloc (.cells #[.int .i64 13,.int .i64 A,.int .i64 B,.int .i64 C,.int .i64 N,.string S,.slice la ln lc,.bool T] 64)).alloc (.cells #[.int .i64 0] 3)).drewN q)):=fun q=>bI va _ vn 1 vc 1 l [0] _ (hv.since (HB.out q)) ((ay 1 [0] _ rfl rfl (by simp)).drewN q) (by omega) (by decide)
 have HR1:Hid ((aC P 13 N S l).1=3):=hid rfl
 have hr:(aC P 13 N S l).2=aG l [0]:=rfl
 clear hv
 cases hb:aG l [0]with
 |false=>
  have HR:Hid ((aC P 13 N S l).2=false):=hid (by rw[hr,hb])
  rw[hb]at hci
  have CI:=hid hci
  clear hr hb hci
  go_enter Tryz.func70,Tryz.ntmps70
  go_wp2_with(go_at_call 102;(with_reducible refine(yO _).mono ?_);rintro e w' ⟨rfl,rfl⟩)
  go_quiet ((go_at_call 14;exact Calls.quiet_of (CI.out _)))
  go_wp2_with fail
  refine bodyPost_ret (v:=.tuple #[.int .i64 3,.bool false]) (by simp[results,Tryz.results70,go_sem]) rfl ⟨3,by rw[HR.out],fun _=>HR1.out.symm,HB.out _⟩
 |true=>
  have HR:Hid ((aC P 13 N S l).2=true):=hid (by rw[hr,hb])
  rw[hb]at hci
  have CI:=hid hci
  clear hr hb hci
  go_enter Tryz.func70,Tryz.ntmps70
  go_wp2_with(go_at_call 102;(with_reducible refine(yO _).mono ?_);rintro e w' ⟨rfl,rfl⟩)
  go_quiet ((go_at_call 14;exact Calls.quiet_of (CI.out _)))
  go_wp2_with fail
  refine bodyPost_ret (v:=.tuple #[.int .i64 3,.bool true]) (by simp[results,Tryz.results70,go_sem]) rfl ⟨3,by rw[HR.out],fun _=>HR1.out.symm,HB.out _⟩
theorem rres_14(pv:Value)(P:aB)(A B C N:Int)(S:ByteArray)(la:Option Addr)(ln lc:Nat)(T:Bool)(va:Option Addr)(vn vc:Nat)(l:List Int)(w:World)(hv:ai w va vn l)(hvn:vn≤140737488355328):
 Calls Tryz.prog 70 #[pv,.agg #[.int .i64 14,.int .i64 A,.int .i64 B,.int .i64 C,.int .i64 N,.string S,.slice la ln lc,.bool T],.slice va vn vc] w (aF (aC P 14 N S l) w):=by
 have HB:Hid (∀q,Below w.heap.size w (((w.alloc (.cells #[.int .i64 14,.int .i64 A,.int .i64 B,.int .i64 C,.int .i64 N,.string S,.slice la ln lc,.bool T] 64)).alloc (.cells #[.int .i64 3] 3)).drewN q)):=hid (fun q=>(aJ _ _ _ _ _).drewq q)
 have hci:∀ q,Calls Tryz.prog 14 #[.slice va vn vc,.slice (some ⟨w.heap.size+1,0,none⟩) 1 1] (((w.alloc (.cells #[.int .i64 14,.int .i64 A,.int .i64 B,.int .i64 C,.int .i64 N,.string S,.slice la ln lc,.bool T] 64)).alloc (.cells #[.int .i64 3] 3)).drewN q) (bG (aG l [3]) (((w.alloc (.cells #[.int .i64 14,.int .i64 A,.int .i64 B,.int .i64 C,.int .i64 N,.string S,.slice la ln lc,.bool T] 64)).alloc (.cells #[.int .i64 3] 3)).drewN q)):=fun q=>bI va _ vn 1 vc 1 l [3] _ (hv.since (HB.out q)) ((ay 1 [3] _ rfl rfl (by simp)).drewN q) (by omega) (by decide)
 have HR1:Hid ((aC P 14 N S l).1=0):=hid rfl
 have hr:(aC P 14 N S l).2=aG l [3]:=rfl
 clear hv
 cases hb:aG l [3]with
 |false=>
  have HR:Hid ((aC P 14 N S l).2=false):=hid (by rw[hr,hb])
  rw[hb]at hci
  have CI:=hid hci
  clear hr hb hci
  go_enter Tryz.func70,Tryz.ntmps70
  go_wp2_with(go_at_call 102;(with_reducible refine(yN _).mono ?_);rintro e w' ⟨rfl,rfl⟩)
  go_quiet ((go_at_call 14;exact Calls.quiet_of (CI.out _)))
  go_wp2_with fail
  refine bodyPost_ret (v:=.tuple #[.int .i64 0,.bool false]) (by simp[results,Tryz.results70,go_sem]) rfl ⟨0,by rw[HR.out],fun _=>HR1.out.symm,HB.out _⟩
 |true=>
  have HR:Hid ((aC P 14 N S l).2=true):=hid (by rw[hr,hb])
  rw[hb]at hci
  have CI:=hid hci
  clear hr hb hci
  go_enter Tryz.func70,Tryz.ntmps70
  go_wp2_with(go_at_call 102;(with_reducible refine(yN _).mono ?_);rintro e w' ⟨rfl,rfl⟩)
  go_quiet ((go_at_call 14;exact Calls.quiet_of (CI.out _)))
  go_wp2_with fail
  refine bodyPost_ret (v:=.tuple #[.int .i64 0,.bool true]) (by simp[results,Tryz.results70,go_sem]) rfl ⟨0,by rw[HR.out],fun _=>HR1.out.symm,HB.out _⟩
theorem rres_15(pv:Value)(P:aB)(A B C N:Int)(S:ByteArray)(la:Option Addr)(ln lc:Nat)(T:Bool)(va:Option Addr)(vn vc:Nat)(l:List Int)(w:World)(hv:ai w va vn l)(hvn:vn≤140737488355328):
 Calls Tryz.prog 70 #[pv,.agg #[.int .i64 15,.int .i64 A,.int .i64 B,.int .i64 C,.int .i64 N,.string S,.slice la ln lc,.bool T],.slice va vn vc] w (aF (aC P 15 N S l) w):=by
 have HB:Hid (∀q,Below w.heap.size w (((w.alloc (.cells #[.int .i64 15,.int .i64 A,.int .i64 B,.int .i64 C,.int .i64 N,.string S,.slice la ln lc,.bool T] 64)).alloc (.cells #[.int .i64 3,.int .i64 0] 3)).drewN q)):=hid (fun q=>(aJ _ _ _ _ _).drewq q)
 have hci:∀ q,Calls Tryz.prog 14 #[.slice va vn vc,.slice (some ⟨w.heap.size+1,0,none⟩) 2 2] (((w.alloc (.cells #[.int .i64 15,.int .i64 A,.int .i64 B,.int .i64 C,.int .i64 N,.string S,.slice la ln lc,.bool T] 64)).alloc (.cells #[.int .i64 3,.int .i64 0] 3)).drewN q) (bG (aG l [3,0]) (((w.alloc (.cells #[.int .i64 15,.int .i64 A,.int .i64 B,.int .i64 C,.int .i64 N,.string S,.slice la ln lc,.bool T] 64)).alloc (.cells #[.int .i64 3,.int .i64 0] 3)).drewN q)):=fun q=>bI va _ vn 2 vc 2 l [3,0] _ (hv.since (HB.out q)) ((ay 2 [3,0] _ rfl rfl (by simp)).drewN q) (by omega) (by decide)
 have HR1:Hid ((aC P 15 N S l).1=0):=hid rfl
 have hr:(aC P 15 N S l).2=aG l [3,0]:=rfl
 clear hv
 cases hb:aG l [3,0]with
 |false=>
  have HR:Hid ((aC P 15 N S l).2=false):=hid (by rw[hr,hb])
  rw[hb]at hci
  have CI:=hid hci
  clear hr hb hci
  go_enter Tryz.func70,Tryz.ntmps70
  go_wp2_with(go_at_call 102;(with_reducible refine(yM _).mono ?_);rintro e w' ⟨rfl,rfl⟩)
  go_quiet ((go_at_call 14;exact Calls.quiet_of (CI.out _)))
  go_wp2_with fail
  refine bodyPost_ret (v:=.tuple #[.int .i64 0,.bool false]) (by simp[results,Tryz.results70,go_sem]) rfl ⟨0,by rw[HR.out],fun _=>HR1.out.symm,HB.out _⟩
 |true=>
  have HR:Hid ((aC P 15 N S l).2=true):=hid (by rw[hr,hb])
  rw[hb]at hci
  have CI:=hid hci
  clear hr hb hci
  go_enter Tryz.func70,Tryz.ntmps70
  go_wp2_with(go_at_call 102;(with_reducible refine(yM _).mono ?_);rintro e w' ⟨rfl,rfl⟩)
  go_quiet ((go_at_call 14;exact Calls.quiet_of (CI.out _)))
  go_wp2_with fail
  refine bodyPost_ret (v:=.tuple #[.int .i64 0,.bool true]) (by simp[results,Tryz.results70,go_sem]) rfl ⟨0,by rw[HR.out],fun _=>HR1.out.symm,HB.out _⟩
theorem rres_16(pv:Value)(P:aB)(A B C N:Int)(S:ByteArray)(la:Option Addr)(ln lc:Nat)(T:Bool)(va:Option Addr)(vn vc:Nat)(l:List Int)(w:World)(hv:ai w va vn l)(hvn:vn≤140737488355328):
 Calls Tryz.prog 70 #[pv,.agg #[.int .i64 16,.int .i64 A,.int .i64 B,.int .i64 C,.int .i64 N,.string S,.slice la ln lc,.bool T],.slice va vn vc] w (aF (aC P 16 N S l) w):=by
 have HB:Hid (∀q,Below w.heap.size w (((w.alloc (.cells #[.int .i64 16,.int .i64 A,.int .i64 B,.int .i64 C,.int .i64 N,.string S,.slice la ln lc,.bool T] 64)).alloc (.cells #[.int .i64 3,.int .i64 0,.int .i64 0] 3)).drewN q)):=hid (fun q=>(aJ _ _ _ _ _).drewq q)
 have hci:∀ q,Calls Tryz.prog 14 #[.slice va vn vc,.slice (some ⟨w.heap.size+1,0,none⟩) 3 3] (((w.alloc (.cells #[.int .i64 16,.int .i64 A,.int .i64 B,.int .i64 C,.int .i64 N,.string S,.slice la ln lc,.bool T] 64)).alloc (.cells #[.int .i64 3,.int .i64 0,.int .i64 0] 3)).drewN q) (bG (aG l [3,0,0]) (((w.alloc (.cells #[.int .i64 16,.int .i64 A,.int .i64 B,.int .i64 C,.int .i64 N,.string S,.slice la ln lc,.bool T] 64)).alloc (.cells #[.int .i64 3,.int .i64 0,.int .i64 0] 3)).drewN q)):=fun q=>bI va _ vn 3 vc 3 l [3,0,0] _ (hv.since (HB.out q)) ((ay 3 [3,0,0] _ rfl rfl (by simp)).drewN q) (by omega) (by decide)
 have HR1:Hid ((aC P 16 N S l).1=(-1)):=hid rfl
 have hr:(aC P 16 N S l).2=aG l [3,0,0]:=rfl
 clear hv
 cases hb:aG l [3,0,0]with
 |false=>
  have HR:Hid ((aC P 16 N S l).2=false):=hid (by rw[hr,hb])
  rw[hb]at hci
  have CI:=hid hci
  clear hr hb hci
  go_enter Tryz.func70,Tryz.ntmps70
  go_wp2_with(go_at_call 102;(with_reducible refine(yL _).mono ?_);rintro e w' ⟨rfl,rfl⟩)
  go_quiet ((go_at_call 14;exact Calls.quiet_of (CI.out _)))
  go_wp2_with fail
  refine bodyPost_ret (v:=.tuple #[.int .i64 (-1),.bool false]) (by simp[results,Tryz.results70,go_sem]) rfl ⟨(-1),by rw[HR.out],fun _=>HR1.out.symm,HB.out _⟩
 |true=>
  have HR:Hid ((aC P 16 N S l).2=true):=hid (by rw[hr,hb])
  rw[hb]at hci
  have CI:=hid hci
  clear hr hb hci
  go_enter Tryz.func70,Tryz.ntmps70
  go_wp2_with(go_at_call 102;(with_reducible refine(yL _).mono ?_);rintro e w' ⟨rfl,rfl⟩)
  go_quiet ((go_at_call 14;exact Calls.quiet_of (CI.out _)))
  go_wp2_with fail
  refine bodyPost_ret (v:=.tuple #[.int .i64 (-1),.bool true]) (by simp[results,Tryz.results70,go_sem]) rfl ⟨(-1),by rw[HR.out],fun _=>HR1.out.symm,HB.out _⟩
theorem rres_18(pv:Value)(P:aB)(A B C N:Int)(S:ByteArray)(la:Option Addr)(ln lc:Nat)(T:Bool)(va:Option Addr)(vn vc:Nat)(l:List Int)(w:World)(hv:ai w va vn l)(hvn:vn≤140737488355328):
 Calls Tryz.prog 70 #[pv,.agg #[.int .i64 18,.int .i64 A,.int .i64 B,.int .i64 C,.int .i64 N,.string S,.slice la ln lc,.bool T],.slice va vn vc] w (aF (aC P 18 N S l) w):=by
 have HB:Hid (∀q,Below w.heap.size w (((w.alloc (.cells #[.int .i64 18,.int .i64 A,.int .i64 B,.int .i64 C,.int .i64 N,.string S,.slice la ln lc,.bool T] 64)).alloc (.cells #[.int .i64 4,.int .i64 0,.int .i64 0] 3)).drewN q)):=hid (fun q=>(aJ _ _ _ _ _).drewq q)
 have hci:∀ q,Calls Tryz.prog 14 #[.slice va vn vc,.slice (some ⟨w.heap.size+1,0,none⟩) 3 3] (((w.alloc (.cells #[.int .i64 18,.int .i64 A,.int .i64 B,.int .i64 C,.int .i64 N,.string S,.slice la ln lc,.bool T] 64)).alloc (.cells #[.int .i64 4,.int .i64 0,.int .i64 0] 3)).drewN q) (bG (aG l [4,0,0]) (((w.alloc (.cells #[.int .i64 18,.int .i64 A,.int .i64 B,.int .i64 C,.int .i64 N,.string S,.slice la ln lc,.bool T] 64)).alloc (.cells #[.int .i64 4,.int .i64 0,.int .i64 0] 3)).drewN q)):=fun q=>bI va _ vn 3 vc 3 l [4,0,0] _ (hv.since (HB.out q)) ((ay 3 [4,0,0] _ rfl rfl (by simp)).drewN q) (by omega) (by decide)
 have HR1:Hid ((aC P 18 N S l).1=(-1)):=hid rfl
 have hr:(aC P 18 N S l).2=aG l [4,0,0]:=rfl
 clear hv
 cases hb:aG l [4,0,0]with
 |false=>
  have HR:Hid ((aC P 18 N S l).2=false):=hid (by rw[hr,hb])
  rw[hb]at hci
  have CI:=hid hci
  clear hr hb hci
  go_enter Tryz.func70,Tryz.ntmps70
  go_wp2_with(go_at_call 102;(with_reducible refine(yJ _).mono ?_);rintro e w' ⟨rfl,rfl⟩)
  go_quiet ((go_at_call 14;exact Calls.quiet_of (CI.out _)))
  go_wp2_with fail
  refine bodyPost_ret (v:=.tuple #[.int .i64 (-1),.bool false]) (by simp[results,Tryz.results70,go_sem]) rfl ⟨(-1),by rw[HR.out],fun _=>HR1.out.symm,HB.out _⟩
 |true=>
  have HR:Hid ((aC P 18 N S l).2=true):=hid (by rw[hr,hb])
  rw[hb]at hci
  have CI:=hid hci
  clear hr hb hci
  go_enter Tryz.func70,Tryz.ntmps70
  go_wp2_with(go_at_call 102;(with_reducible refine(yJ _).mono ?_);rintro e w' ⟨rfl,rfl⟩)
  go_quiet ((go_at_call 14;exact Calls.quiet_of (CI.out _)))
  go_wp2_with fail
  refine bodyPost_ret (v:=.tuple #[.int .i64 (-1),.bool true]) (by simp[results,Tryz.results70,go_sem]) rfl ⟨(-1),by rw[HR.out],fun _=>HR1.out.symm,HB.out _⟩
theorem rres_19(pv:Value)(P:aB)(A B C N:Int)(S:ByteArray)(la:Option Addr)(ln lc:Nat)(T:Bool)(va:Option Addr)(vn vc:Nat)(l:List Int)(w:World)(hv:ai w va vn l)(hvn:vn≤140737488355328):
 Calls Tryz.prog 70 #[pv,.agg #[.int .i64 19,.int .i64 A,.int .i64 B,.int .i64 C,.int .i64 N,.string S,.slice la ln lc,.bool T],.slice va vn vc] w (aF (aC P 19 N S l) w):=by
 have HB:Hid (∀q,Below w.heap.size w (((w.alloc (.cells #[.int .i64 19,.int .i64 A,.int .i64 B,.int .i64 C,.int .i64 N,.string S,.slice la ln lc,.bool T] 64)).alloc (.cells #[.int .i64 4,.int .i64 0] 3)).drewN q)):=hid (fun q=>(aJ _ _ _ _ _).drewq q)
 have hci:∀ q,Calls Tryz.prog 14 #[.slice va vn vc,.slice (some ⟨w.heap.size+1,0,none⟩) 2 2] (((w.alloc (.cells #[.int .i64 19,.int .i64 A,.int .i64 B,.int .i64 C,.int .i64 N,.string S,.slice la ln lc,.bool T] 64)).alloc (.cells #[.int .i64 4,.int .i64 0] 3)).drewN q) (bG (aG l [4,0]) (((w.alloc (.cells #[.int .i64 19,.int .i64 A,.int .i64 B,.int .i64 C,.int .i64 N,.string S,.slice la ln lc,.bool T] 64)).alloc (.cells #[.int .i64 4,.int .i64 0] 3)).drewN q)):=fun q=>bI va _ vn 2 vc 2 l [4,0] _ (hv.since (HB.out q)) ((ay 2 [4,0] _ rfl rfl (by simp)).drewN q) (by omega) (by decide)
 have HR1:Hid ((aC P 19 N S l).1=0):=hid rfl
 have hr:(aC P 19 N S l).2=aG l [4,0]:=rfl
 clear hv
 cases hb:aG l [4,0]with
 |false=>
  have HR:Hid ((aC P 19 N S l).2=false):=hid (by rw[hr,hb])
  rw[hb]at hci
  have CI:=hid hci
  clear hr hb hci
  go_enter Tryz.func70,Tryz.ntmps70
  go_wp2_with(go_at_call 102;(with_reducible refine(yI _).mono ?_);rintro e w' ⟨rfl,rfl⟩)
  go_quiet ((go_at_call 14;exact Calls.quiet_of (CI.out _)))
  go_wp2_with fail
  refine bodyPost_ret (v:=.tuple #[.int .i64 0,.bool false]) (by simp[results,Tryz.results70,go_sem]) rfl ⟨0,by rw[HR.out],fun _=>HR1.out.symm,HB.out _⟩
 |true=>
  have HR:Hid ((aC P 19 N S l).2=true):=hid (by rw[hr,hb])
  rw[hb]at hci
  have CI:=hid hci
  clear hr hb hci
  go_enter Tryz.func70,Tryz.ntmps70
  go_wp2_with(go_at_call 102;(with_reducible refine(yI _).mono ?_);rintro e w' ⟨rfl,rfl⟩)
  go_quiet ((go_at_call 14;exact Calls.quiet_of (CI.out _)))
  go_wp2_with fail
  refine bodyPost_ret (v:=.tuple #[.int .i64 0,.bool true]) (by simp[results,Tryz.results70,go_sem]) rfl ⟨0,by rw[HR.out],fun _=>HR1.out.symm,HB.out _⟩
theorem rres_21(pv:Value)(P:aB)(A B C N:Int)(S:ByteArray)(la:Option Addr)(ln lc:Nat)(T:Bool)(va:Option Addr)(vn vc:Nat)(l:List Int)(w:World)(hv:ai w va vn l)(hvn:vn≤140737488355328):
 Calls Tryz.prog 70 #[pv,.agg #[.int .i64 21,.int .i64 A,.int .i64 B,.int .i64 C,.int .i64 N,.string S,.slice la ln lc,.bool T],.slice va vn vc] w (aF (aC P 21 N S l) w):=by
 have HB:Hid (∀q,Below w.heap.size w (((w.alloc (.cells #[.int .i64 21,.int .i64 A,.int .i64 B,.int .i64 C,.int .i64 N,.string S,.slice la ln lc,.bool T] 64)).alloc (.cells #[.int .i64 4,.int .i64 0] 3)).drewN q)):=hid (fun q=>(aJ _ _ _ _ _).drewq q)
 have hci:∀ q,Calls Tryz.prog 14 #[.slice va vn vc,.slice (some ⟨w.heap.size+1,0,none⟩) 2 2] (((w.alloc (.cells #[.int .i64 21,.int .i64 A,.int .i64 B,.int .i64 C,.int .i64 N,.string S,.slice la ln lc,.bool T] 64)).alloc (.cells #[.int .i64 4,.int .i64 0] 3)).drewN q) (bG (aG l [4,0]) (((w.alloc (.cells #[.int .i64 21,.int .i64 A,.int .i64 B,.int .i64 C,.int .i64 N,.string S,.slice la ln lc,.bool T] 64)).alloc (.cells #[.int .i64 4,.int .i64 0] 3)).drewN q)):=fun q=>bI va _ vn 2 vc 2 l [4,0] _ (hv.since (HB.out q)) ((ay 2 [4,0] _ rfl rfl (by simp)).drewN q) (by omega) (by decide)
 have HR1:Hid ((aC P 21 N S l).1=0):=hid rfl
 have hr:(aC P 21 N S l).2=aG l [4,0]:=rfl
 clear hv
 cases hb:aG l [4,0]with
 |false=>
  have HR:Hid ((aC P 21 N S l).2=false):=hid (by rw[hr,hb])
  rw[hb]at hci
  have CI:=hid hci
  clear hr hb hci
  go_enter Tryz.func70,Tryz.ntmps70
  go_wp2_with(go_at_call 102;(with_reducible refine(yG _).mono ?_);rintro e w' ⟨rfl,rfl⟩)
  go_quiet ((go_at_call 14;exact Calls.quiet_of (CI.out _)))
  go_wp2_with fail
  refine bodyPost_ret (v:=.tuple #[.int .i64 0,.bool false]) (by simp[results,Tryz.results70,go_sem]) rfl ⟨0,by rw[HR.out],fun _=>HR1.out.symm,HB.out _⟩
 |true=>
  have HR:Hid ((aC P 21 N S l).2=true):=hid (by rw[hr,hb])
  rw[hb]at hci
  have CI:=hid hci
  clear hr hb hci
  go_enter Tryz.func70,Tryz.ntmps70
  go_wp2_with(go_at_call 102;(with_reducible refine(yG _).mono ?_);rintro e w' ⟨rfl,rfl⟩)
  go_quiet ((go_at_call 14;exact Calls.quiet_of (CI.out _)))
  go_wp2_with fail
  refine bodyPost_ret (v:=.tuple #[.int .i64 0,.bool true]) (by simp[results,Tryz.results70,go_sem]) rfl ⟨0,by rw[HR.out],fun _=>HR1.out.symm,HB.out _⟩
theorem rres_20(pv:Value)(P:aB)(A B C N:Int)(S:ByteArray)(la:Option Addr)(ln lc:Nat)(T:Bool)(va:Option Addr)(vn vc:Nat)(l:List Int)(w:World)(hv:ai w va vn l)(hvn:vn≤140737488355328):
 Calls Tryz.prog 70 #[pv,.agg #[.int .i64 20,.int .i64 A,.int .i64 B,.int .i64 C,.int .i64 N,.string S,.slice la ln lc,.bool T],.slice va vn vc] w (aF (aC P 20 N S l) w):=by
 have HB:Hid (∀q,Below w.heap.size w (((w.alloc (.cells #[.int .i64 20,.int .i64 A,.int .i64 B,.int .i64 C,.int .i64 N,.string S,.slice la ln lc,.bool T] 64)).alloc (.cells #[.int .i64 4] 3)).drewN q)):=hid (fun q=>(aJ _ _ _ _ _).drewq q)
 have hci:∀ q,Calls Tryz.prog 14 #[.slice va vn vc,.slice (some ⟨w.heap.size+1,0,none⟩) 1 1] (((w.alloc (.cells #[.int .i64 20,.int .i64 A,.int .i64 B,.int .i64 C,.int .i64 N,.string S,.slice la ln lc,.bool T] 64)).alloc (.cells #[.int .i64 4] 3)).drewN q) (bG (aG l [4]) (((w.alloc (.cells #[.int .i64 20,.int .i64 A,.int .i64 B,.int .i64 C,.int .i64 N,.string S,.slice la ln lc,.bool T] 64)).alloc (.cells #[.int .i64 4] 3)).drewN q)):=fun q=>bI va _ vn 1 vc 1 l [4] _ (hv.since (HB.out q)) ((ay 1 [4] _ rfl rfl (by simp)).drewN q) (by omega) (by decide)
 have HR1:Hid ((aC P 20 N S l).1=0):=hid rfl
 have hr:(aC P 20 N S l).2=aG l [4]:=rfl
 clear hv
 cases hb:aG l [4]with
 |false=>
  have HR:Hid ((aC P 20 N S l).2=false):=hid (by rw[hr,hb])
  rw[hb]at hci
  have CI:=hid hci
  clear hr hb hci
  go_enter Tryz.func70,Tryz.ntmps70
  go_wp2_with(go_at_call 102;(with_reducible refine(yH _).mono ?_);rintro e w' ⟨rfl,rfl⟩)
  go_quiet ((go_at_call 14;exact Calls.quiet_of (CI.out _)))
  go_wp2_with fail
  refine bodyPost_ret (v:=.tuple #[.int .i64 0,.bool false]) (by simp[results,Tryz.results70,go_sem]) rfl ⟨0,by rw[HR.out],fun _=>HR1.out.symm,HB.out _⟩
 |true=>
  have HR:Hid ((aC P 20 N S l).2=true):=hid (by rw[hr,hb])
  rw[hb]at hci
  have CI:=hid hci
  clear hr hb hci
  go_enter Tryz.func70,Tryz.ntmps70
  go_wp2_with(go_at_call 102;(with_reducible refine(yH _).mono ?_);rintro e w' ⟨rfl,rfl⟩)
  go_quiet ((go_at_call 14;exact Calls.quiet_of (CI.out _)))
  go_wp2_with fail
  refine bodyPost_ret (v:=.tuple #[.int .i64 0,.bool true]) (by simp[results,Tryz.results70,go_sem]) rfl ⟨0,by rw[HR.out],fun _=>HR1.out.symm,HB.out _⟩
theorem rres_0(pv:Value)(P:aB)(A B C N:Int)(S:ByteArray)(la:Option Addr)(ln lc:Nat)(T:Bool)(va:Option Addr)(vc:Nat)(w:World)(hv:ai w va 0 []):
 Calls Tryz.prog 70 #[pv,.agg #[.int .i64 0,.int .i64 A,.int .i64 B,.int .i64 C,.int .i64 N,.string S,.slice la ln lc,.bool T],.slice va 0 vc] w (aF (aC P 0 N S []) w):=by
 have HB:Hid (∀q,Below w.heap.size w (((w.alloc (.cells #[.int .i64 0,.int .i64 A,.int .i64 B,.int .i64 C,.int .i64 N,.string S,.slice la ln lc,.bool T] 64)).alloc (.cells #[] 3)).drewN q)):=hid (fun q=>(aJ _ _ _ _ _).drewq q)
 have hci:∀ q,Calls Tryz.prog 14 #[.slice va 0 vc,.slice (some ⟨w.heap.size+1,0,none⟩) 0 0] (((w.alloc (.cells #[.int .i64 0,.int .i64 A,.int .i64 B,.int .i64 C,.int .i64 N,.string S,.slice la ln lc,.bool T] 64)).alloc (.cells #[] 3)).drewN q) (bG (aG [] []) (((w.alloc (.cells #[.int .i64 0,.int .i64 A,.int .i64 B,.int .i64 C,.int .i64 N,.string S,.slice la ln lc,.bool T] 64)).alloc (.cells #[] 3)).drewN q)):=fun q=>bI va _ 0 0 vc 0 [] [] _ (hv.since (HB.out q)) ((ay 0 [] _ rfl rfl (by simp)).drewN q) (by omega) (by decide)
 have HR1:Hid ((aC P 0 N S []).1=0):=hid rfl
 rw[show aG ([]:List Int) []=true from rfl]at hci
 have CI:=hid hci
 clear hv hci
 have HR:Hid ((aC P 0 N S []).2=true):=hid rfl
 go_enter Tryz.func70,Tryz.ntmps70
 go_wp2_with(go_at_call 102;(with_reducible refine(wants_0 _).mono ?_);rintro e w' ⟨rfl,rfl⟩)
 go_quiet ((go_at_call 14;exact Calls.quiet_of (CI.out _)))
 go_wp2_with fail
 refine bodyPost_ret (v:=.tuple #[.int .i64 0,.bool true]) (by simp[results,Tryz.results70,go_sem]) rfl ⟨0,by rw[HR.out],fun _=>HR1.out.symm,HB.out _⟩
theorem rres_17(pv:Value)(P:aB)(A B C N:Int)(S:ByteArray)(la:Option Addr)(ln lc:Nat)(T:Bool)(va:Option Addr)(vc:Nat)(w:World)(hv:ai w va 0 []):
 Calls Tryz.prog 70 #[pv,.agg #[.int .i64 17,.int .i64 A,.int .i64 B,.int .i64 C,.int .i64 N,.string S,.slice la ln lc,.bool T],.slice va 0 vc] w (aF (aC P 17 N S []) w):=by
 have HB:Hid (∀q,Below w.heap.size w (((w.alloc (.cells #[.int .i64 17,.int .i64 A,.int .i64 B,.int .i64 C,.int .i64 N,.string S,.slice la ln lc,.bool T] 64)).alloc (.cells #[] 3)).drewN q)):=hid (fun q=>(aJ _ _ _ _ _).drewq q)
 have hci:∀ q,Calls Tryz.prog 14 #[.slice va 0 vc,.slice (some ⟨w.heap.size+1,0,none⟩) 0 0] (((w.alloc (.cells #[.int .i64 17,.int .i64 A,.int .i64 B,.int .i64 C,.int .i64 N,.string S,.slice la ln lc,.bool T] 64)).alloc (.cells #[] 3)).drewN q) (bG (aG [] []) (((w.alloc (.cells #[.int .i64 17,.int .i64 A,.int .i64 B,.int .i64 C,.int .i64 N,.string S,.slice la ln lc,.bool T] 64)).alloc (.cells #[] 3)).drewN q)):=fun q=>bI va _ 0 0 vc 0 [] [] _ (hv.since (HB.out q)) ((ay 0 [] _ rfl rfl (by simp)).drewN q) (by omega) (by decide)
 have HR1:Hid ((aC P 17 N S []).1=4):=hid rfl
 rw[show aG ([]:List Int) []=true from rfl]at hci
 have CI:=hid hci
 clear hv hci
 have HR:Hid ((aC P 17 N S []).2=true):=hid rfl
 go_enter Tryz.func70,Tryz.ntmps70
 go_wp2_with(go_at_call 102;(with_reducible refine(Fz _).mono ?_);rintro e w' ⟨rfl,rfl⟩)
 go_quiet ((go_at_call 14;exact Calls.quiet_of (CI.out _)))
 go_wp2_with fail
 refine bodyPost_ret (v:=.tuple #[.int .i64 4,.bool true]) (by simp[results,Tryz.results70,go_sem]) rfl ⟨4,by rw[HR.out],fun _=>HR1.out.symm,HB.out _⟩
theorem rres_2(pv:Value)(P:aB)(A B C N:Int)(S:ByteArray)(la:Option Addr)(ln lc:Nat)(T:Bool)(va:Option Addr)(vc:Nat)(w:World)(hv:ai w va 0 []):
 Calls Tryz.prog 70 #[pv,.agg #[.int .i64 2,.int .i64 A,.int .i64 B,.int .i64 C,.int .i64 N,.string S,.slice la ln lc,.bool T],.slice va 0 vc] w (aF (aC P 2 N S []) w):=by
 have HB:Hid (∀q,Below w.heap.size w (((w.alloc (.cells #[.int .i64 2,.int .i64 A,.int .i64 B,.int .i64 C,.int .i64 N,.string S,.slice la ln lc,.bool T] 64)).alloc (.cells #[] 3)).drewN q)):=hid (fun q=>(aJ _ _ _ _ _).drewq q)
 have hci:∀ q,Calls Tryz.prog 14 #[.slice va 0 vc,.slice (some ⟨w.heap.size+1,0,none⟩) 0 0] (((w.alloc (.cells #[.int .i64 2,.int .i64 A,.int .i64 B,.int .i64 C,.int .i64 N,.string S,.slice la ln lc,.bool T] 64)).alloc (.cells #[] 3)).drewN q) (bG (aG [] []) (((w.alloc (.cells #[.int .i64 2,.int .i64 A,.int .i64 B,.int .i64 C,.int .i64 N,.string S,.slice la ln lc,.bool T] 64)).alloc (.cells #[] 3)).drewN q)):=fun q=>bI va _ 0 0 vc 0 [] [] _ (hv.since (HB.out q)) ((ay 0 [] _ rfl rfl (by simp)).drewN q) (by omega) (by decide)
 have HR1:Hid ((aC P 2 N S []).1=2):=hid rfl
 rw[show aG ([]:List Int) []=true from rfl]at hci
 have CI:=hid hci
 clear hv hci
 by_cases h:S.size≤64
 ·have h':((S.size:Int)≤64):=by omega
  have HR:Hid ((aC P 2 N S []).2=true):=hid (decide_eq_true h)
  clear h
  go_enter Tryz.func70,Tryz.ntmps70
  go_wp2_with(go_at_call 102;(with_reducible refine(CQ _).mono ?_);rintro e w' ⟨rfl,rfl⟩)
  go_quiet ((go_at_call 14;exact Calls.quiet_of (CI.out _)))
  go_wp2_with fail
  refine bodyPost_ret (v:=.tuple #[.int .i64 2,.bool true]) (by simp[results,Tryz.results70,go_sem]) rfl ⟨2,by rw[HR.out],fun _=>HR1.out.symm,HB.out _⟩
 ·have h':64<(S.size:Int):=by omega
  have hd:decide ((S.size:Int)≤64)=false:=decide_eq_false (by omega)
  have HR:Hid ((aC P 2 N S []).2=false):=hid (decide_eq_false h)
  clear h
  go_enter Tryz.func70,Tryz.ntmps70
  go_wp2_with(go_at_call 102;(with_reducible refine(CQ _).mono ?_);rintro e w' ⟨rfl,rfl⟩)
  go_quiet ((go_at_call 14;exact Calls.quiet_of (CI.out _)))
  go_wp2_with fail
  refine bodyPost_ret (v:=.tuple #[.int .i64 2,.bool false]) (by simp[results,Tryz.results70,go_sem]) rfl ⟨2,by rw[HR.out],fun _=>HR1.out.symm,HB.out _⟩
theorem rres_1(pv:Value)(P:aB)(A B C N:Int)(S:ByteArray)(la:Option Addr)(ln lc:Nat)(T:Bool)(va:Option Addr)(vc:Nat)(w:World)(hv:ai w va 0 []):
 Calls Tryz.prog 70 #[pv,.agg #[.int .i64 1,.int .i64 A,.int .i64 B,.int .i64 C,.int .i64 N,.string S,.slice la ln lc,.bool T],.slice va 0 vc] w (aF (aC P 1 N S []) w):=by
 have HB:Hid (∀q,Below w.heap.size w (((w.alloc (.cells #[.int .i64 1,.int .i64 A,.int .i64 B,.int .i64 C,.int .i64 N,.string S,.slice la ln lc,.bool T] 64)).alloc (.cells #[] 3)).drewN q)):=hid (fun q=>(aJ _ _ _ _ _).drewq q)
 have hci:∀ q,Calls Tryz.prog 14 #[.slice va 0 vc,.slice (some ⟨w.heap.size+1,0,none⟩) 0 0] (((w.alloc (.cells #[.int .i64 1,.int .i64 A,.int .i64 B,.int .i64 C,.int .i64 N,.string S,.slice la ln lc,.bool T] 64)).alloc (.cells #[] 3)).drewN q) (bG (aG [] []) (((w.alloc (.cells #[.int .i64 1,.int .i64 A,.int .i64 B,.int .i64 C,.int .i64 N,.string S,.slice la ln lc,.bool T] 64)).alloc (.cells #[] 3)).drewN q)):=fun q=>bI va _ 0 0 vc 0 [] [] _ (hv.since (HB.out q)) ((ay 0 [] _ rfl rfl (by simp)).drewN q) (by omega) (by decide)
 have HR1:Hid ((aC P 1 N S []).1=1):=hid rfl
 rw[show aG ([]:List Int) []=true from rfl]at hci
 have CI:=hid hci
 clear hv hci
 by_cases h0:N=0
 ·have e0:(N==0)=true:=by simpa using h0
  have HR:Hid ((aC P 1 N S []).2=true):=hid (by show(N==0||N==1)=true;rw[e0];rfl)
  clear h0
  go_enter Tryz.func70,Tryz.ntmps70
  go_wp2_with(go_at_call 102;(with_reducible refine(wW _).mono ?_);rintro e w' ⟨rfl,rfl⟩)
  go_quiet ((go_at_call 14;exact Calls.quiet_of (CI.out _)))
  go_wp2_with fail
  refine bodyPost_ret (v:=.tuple #[.int .i64 1,.bool true]) (by simp[results,Tryz.results70,go_sem]) rfl ⟨1,by rw[HR.out],fun _=>HR1.out.symm,HB.out _⟩
 ·have e0:(N==0)=false:=by rw[beq_eq_false_iff_ne];exact h0
  by_cases h1:N=1
  ·have e1:(N==1)=true:=by simpa using h1
   have HR:Hid ((aC P 1 N S []).2=true):=hid (by show(N==0||N==1)=true;rw[e0,e1];rfl)
   clear h0 h1
   go_enter Tryz.func70,Tryz.ntmps70
   go_wp2_with(go_at_call 102;(with_reducible refine(wW _).mono ?_);rintro e w' ⟨rfl,rfl⟩)
   go_quiet ((go_at_call 14;exact Calls.quiet_of (CI.out _)))
   go_wp2_with fail
   refine bodyPost_ret (v:=.tuple #[.int .i64 1,.bool true]) (by simp[results,Tryz.results70,go_sem]) rfl ⟨1,by rw[HR.out],fun _=>HR1.out.symm,HB.out _⟩
  ·have e1:(N==1)=false:=by rw[beq_eq_false_iff_ne];exact h1
   have HR:Hid ((aC P 1 N S []).2=false):=hid (by show(N==0||N==1)=false;rw[e0,e1];rfl)
   clear h0 h1
   go_enter Tryz.func70,Tryz.ntmps70
   go_wp2_with(go_at_call 102;(with_reducible refine(wW _).mono ?_);rintro e w' ⟨rfl,rfl⟩)
   go_quiet ((go_at_call 14;exact Calls.quiet_of (CI.out _)))
   go_wp2_with fail
   refine bodyPost_ret (v:=.tuple #[.int .i64 1,.bool false]) (by simp[results,Tryz.results70,go_sem]) rfl ⟨1,by rw[HR.out],fun _=>HR1.out.symm,HB.out _⟩
theorem rres_12(pv:Value)(P:aB)(A B C N:Int)(S:ByteArray)(la:Option Addr)(ln lc:Nat)(T:Bool)(va:Option Addr)(vc:Nat)(w:World)(hv:ai w va 0 []):
 Calls Tryz.prog 70 #[pv,.agg #[.int .i64 12,.int .i64 A,.int .i64 B,.int .i64 C,.int .i64 N,.string S,.slice la ln lc,.bool T],.slice va 0 vc] w (aF (aC P 12 N S []) w):=by
 have HB:Hid (∀q,Below w.heap.size w (((w.alloc (.cells #[.int .i64 12,.int .i64 A,.int .i64 B,.int .i64 C,.int .i64 N,.string S,.slice la ln lc,.bool T] 64)).alloc (.cells #[] 3)).drewN q)):=hid (fun q=>(aJ _ _ _ _ _).drewq q)
 have hci:∀ q,Calls Tryz.prog 14 #[.slice va 0 vc,.slice (some ⟨w.heap.size+1,0,none⟩) 0 0] (((w.alloc (.cells #[.int .i64 12,.int .i64 A,.int .i64 B,.int .i64 C,.int .i64 N,.string S,.slice la ln lc,.bool T] 64)).alloc (.cells #[] 3)).drewN q) (bG (aG [] []) (((w.alloc (.cells #[.int .i64 12,.int .i64 A,.int .i64 B,.int .i64 C,.int .i64 N,.string S,.slice la ln lc,.bool T] 64)).alloc (.cells #[] 3)).drewN q)):=fun q=>bI va _ 0 0 vc 0 [] [] _ (hv.since (HB.out q)) ((ay 0 [] _ rfl rfl (by simp)).drewN q) (by omega) (by decide)
 have HR1:Hid ((aC P 12 N S []).1=3):=hid rfl
 rw[show aG ([]:List Int) []=true from rfl]at hci
 have CI:=hid hci
 clear hv hci
 by_cases h0:0≤N
 ·by_cases h1:N≤128
  ·have HR:Hid ((aC P 12 N S []).2=true):=hid (decide_eq_true ⟨h0,h1⟩)
   go_enter Tryz.func70,Tryz.ntmps70
   go_wp2_with(go_at_call 102;(with_reducible refine(sI _).mono ?_);rintro e w' ⟨rfl,rfl⟩)
   go_quiet ((go_at_call 14;exact Calls.quiet_of (CI.out _)))
   go_wp2_with fail
   refine bodyPost_ret (v:=.tuple #[.int .i64 3,.bool true]) (by simp[results,Tryz.results70,go_sem]) rfl ⟨3,by rw[HR.out],fun _=>HR1.out.symm,HB.out _⟩
  ·have HR:Hid ((aC P 12 N S []).2=false):=hid (decide_eq_false (fun h=>h1 h.2))
   have hd:decide (N≤128)=false:=decide_eq_false h1
   clear h1
   go_enter Tryz.func70,Tryz.ntmps70
   go_wp2_with(go_at_call 102;(with_reducible refine(sI _).mono ?_);rintro e w' ⟨rfl,rfl⟩)
   go_quiet ((go_at_call 14;exact Calls.quiet_of (CI.out _)))
   go_wp2_with fail
   refine bodyPost_ret (v:=.tuple #[.int .i64 3,.bool false]) (by simp[results,Tryz.results70,go_sem]) rfl ⟨3,by rw[HR.out],fun _=>HR1.out.symm,HB.out _⟩
 ·have HR:Hid ((aC P 12 N S []).2=false):=hid (decide_eq_false (fun h=>h0 h.1))
  have hd:decide (0≤N)=false:=decide_eq_false h0
  clear h0
  go_enter Tryz.func70,Tryz.ntmps70
  go_wp2_with(go_at_call 102;(with_reducible refine(sI _).mono ?_);rintro e w' ⟨rfl,rfl⟩)
  go_quiet ((go_at_call 14;exact Calls.quiet_of (CI.out _)))
  go_wp2_with fail
  refine bodyPost_ret (v:=.tuple #[.int .i64 3,.bool false]) (by simp[results,Tryz.results70,go_sem]) rfl ⟨3,by rw[HR.out],fun _=>HR1.out.symm,HB.out _⟩
end Go.Proofs.YthjdeoppajlcoaaGreatDoor

namespace Go.Proofs.YthjdeoppajlcoaaGreatDoor
set_option linter.unusedVariables false
open Go.RowKit
attribute [local go_sem] Oper.semAt_some
theorem rF(p:Option Addr)(w:World):
 Calls Tryz.prog 97 #[.pointer p] w fun e w'=>e=.returned (.func (.func 127) #[] #[.pointer (some ⟨w.heap.size,0,none⟩)])∧w'=w.alloc (.cells #[.pointer p] 150):=by
 go_enter Tryz.func97,Tryz.ntmps97
 go_wp2_with fail
 go_ret
 exact⟨rfl,rfl⟩
theorem wJ{F:Fence}(hd:F.depth=none){m m':Nat}{P:Program}{l:Nat}{args:Array Value}{W:World}{R:Ending→World→Prop}(h:YieldAt F m P l args W R):YieldAt F m' P l args W R:=
 have room:∀ k,F.room k:=fun k d e=>nomatch hd.symm.trans e
 let ⟨fn,tmps,assign,body,hy,hR⟩:=h
 ⟨fn,tmps,assign,body,hy,hR.1,fun c cs _=>hR.2 c cs (room _)⟩
def eZ(N k:Nat):List (Fin N):=(List.finRange N).take k
theorem BA{N k:Nat}(h:k≤N):(eZ N k).length=k:=by simp[eZ,h]
theorem xP{N k:Nat}(h:k<N):eZ N k++ [⟨k,h⟩]=eZ N (k+1):=by
 unfold eZ
 rw[List.take_succ_eq_append_getElem (by simpa using h)]
 simp
def Yields(N n l:Nat)(pl:Fin N→Addr)(J Jx:List (Fin N)→World→Prop)(Kp:World→World→Prop):Prop:=
 ∀(k:Nat) (h:k<N) (W:World),J (eZ N k) W→YieldAt Fence.wide n Tryz.prog l #[.pointer (some (pl ⟨k,h⟩))] W fun e W'=>
  (e=.returned (.bool true)∧J (eZ N (k+1)) W'∧Kp W W')∨(e=.returned (.bool false)∧Jx (eZ N (k+1)) W')
set_option maxRecDepth 100000 in
set_option maxHeartbeats 2000000 in
theorem each_in(N l:Nat)(pl:Fin N→Addr)(J Jx:List (Fin N)→World→Prop)(Kp:World→World→Prop)(hKr:∀ W,Kp W W)(hKt:∀ {A B C:World},Kp A B→Kp B C→Kp A C)(hY:∀ n,Yields N n l pl J Jx Kp)
 (m g off ln lc:Nat)(la:Option Addr)(hla:0<ln→la=some ⟨g,off,none⟩)(hln:ln≤140737488355328)(hm:m+ln≤N)(hpl:∀ j (h:j<ln),pl ⟨m+j,by omega⟩=⟨g,off+j,none⟩)(n:Nat)(W:World)(hJ:J (eZ N m) W):
 CallsIn Fence.wide n Tryz.prog 129 #[.slice la ln lc,.func (.yield l) #[] #[]] W fun e W'=>
  (e=.returned (.bool true)∧J (eZ N (m+ln)) W'∧Kp W W')∨(e=.returned (.bool false)∧∃ q,q≤N∧Jx (eZ N q) W'):=by
 refine callsIn_of_wp Tryz.func129 rfl trivial ?_ rfl
 simp only[Tryz.ntmps129,List.size_toArray,List.length_cons,List.length_nil,Nat.reduceAdd,Nat.reduceSub,Array.replicate_succ,Array.replicate_zero,List.push_toArray,List.append_toArray,List.nil_append,List.cons_append]
 gi_wp2
 gi_loopw [8] (fun iv wr=>∃ k:Nat,k≤ln∧iv=.int .i64 (k:Int)∧J (eZ N (m+k)) wr∧Kp W wr) (fun iv _=>ln-(intOf iv).toNat)
 case atStart=>exact⟨0,Nat.zero_le _,rfl,hJ,hKr W⟩
 case round=>
  obtain⟨k,hk,rfl,hJs,hKs⟩:=hrel
  by_cases hlt:k<ln
  ·obtain rfl:=hla (by omega)
   have hy0:=hY (n-1) (m+k) (by omega) wr hJs
   rw[hpl k hlt]at hy0
   obtain⟨fn,tmps,assign,body,hy,hR⟩:=hy0
   gi_wp2
   refine⟨(fun h=>(nomatch h)),hR.mono ?_⟩
   rintro e W3 (⟨rfl,hJ3,hk3⟩|⟨rfl,hJx3⟩)
   ·gi_wp2
    go_roundw
    case rel=>exact⟨k+1,by omega,by simp,by rw[←Nat.add_assoc];exact hJ3,hKt hKs hk3⟩
    case measure=>simp[intOf];omega
   ·gi_wp2
    go_ret
    exact .inr ⟨rfl,m+k+1,by omega,hJx3⟩
  ·obtain rfl:k=ln:=by omega
   gi_wp2
   go_ret
   exact .inl ⟨rfl,hJs,hKs⟩
end Go.Proofs.YthjdeoppajlcoaaGreatDoor

namespace Go.Proofs.YthjdeoppajlcoaaGreatDoor
set_option linter.unusedVariables false
open Go.RowKit
attribute [local go_sem] Oper.semAt_some
open Go.Lib (hid)
section
variable (b g off ln : Nat) (K : Int)
def bK(f:UInt8):List Addr:=if f=65 then [⟨b,1,none⟩]else if f=66 then [⟨b,2,none⟩]else if f=67 then [⟨b,3,none⟩]else if f=76 then(List.range ln).map fun j=>⟨g,off+j,none⟩else []
def aY(k:Nat):List Addr:=((av K).take k).flatMap (bK b g off ln)
def bB:List Addr:=(av K).flatMap (bK b g off ln)
variable {b g off ln K}
theorem oH{k:Nat}{f:UInt8}(hk:k<(av K).length)(hf:(av K)[k]=f):aY b g off ln K (k+1)=aY b g off ln K k++bK b g off ln f:=by
 unfold aY
 rw[List.take_succ_eq_append_getElem hk,hf,List.flatMap_append]
 simp
theorem xG{k:Nat}(hk:(av K).length≤k):aY b g off ln K k=bB b g off ln K:=by
 unfold aY bB
 rw[List.take_of_length_le hk]
theorem sO(k:Nat):∃ r,bB b g off ln K=aY b g off ln K k++r:=
 ⟨((av K).drop k).flatMap (bK b g off ln),by unfold aY bB;rw[←List.flatMap_append,List.take_append_drop]⟩
theorem Dl{k:Nat}{f:UInt8}(hk:k<(av K).length)(hf:(av K)[k]=f):
 (aY b g off ln K k).length+(bK b g off ln f).length≤(bB b g off ln K).length∧
 (aY b g off ln K (k+1)).length=(aY b g off ln K k).length+(bK b g off ln f).length∧
 ∀j (h:j<(bK b g off ln f).length) (h':(aY b g off ln K k).length+j<(bB b g off ln K).length),(bB b g off ln K)[(aY b g off ln K k).length+j]=(bK b g off ln f)[j]:=by
 obtain⟨r,hr⟩:=sO (b:=b) (g:=g) (off:=off) (ln:=ln) (K:=K) (k+1)
 rw[oH hk hf]at hr
 refine⟨by rw[hr];simp,by rw[oH hk hf];simp,fun j h h'=> ?_⟩
 simp only[hr,List.append_assoc]
 rw[List.getElem_append_right (by omega),List.getElem_append_left (by omega)]
 congr 1
 omega
end
def fQ(b g off ln:Nat)(K:Int)(i:Fin (bB b g off ln K).length):Addr:=(bB b g off ln K)[i.1]'i.2
structure Kept(Bo b:Nat)(W W':World):Prop where
 walks:KeepsWalks W W'
 c0:W'.cell? ⟨Bo,0,none⟩=W.cell? ⟨Bo,0,none⟩
 c6:W'.cell? ⟨b,6,none⟩=W.cell? ⟨b,6,none⟩
theorem Kept.refl(Bo b:Nat)(W:World):Kept Bo b W W:=⟨KeepsWalks.refl W,rfl,rfl⟩
theorem Kept.trans{Bo b:Nat}{A B C:World}(h:Kept Bo b A B)(k:Kept Bo b B C):Kept Bo b A C:=⟨h.walks.trans k.walks,k.c0.trans h.c0,k.c6.trans h.c6⟩
theorem vI(w:World)(k:Nat)(s:ByteArray)(pos:Nat):w.grownBy (w.iterAt k s pos) (some k):=
 ⟨rfl,rfl,rfl,by rw[Lib.iterAt_size];exact Nat.le_refl _,fun i _ hi=>Lib.iterAt_other w k i s pos (fun e=>hi (by rw[e]))⟩
structure G8(u:World)(n0 Bo b:Nat)(K:Int)(la:Option Addr)(ln lc k:Nat):Prop where
 it:u.heap[n0]? =some (.stringIter (fstr K) k)
 c0:u.cell? ⟨Bo,0,none⟩=some (.pointer (some ⟨b,0,none⟩))
 c6:u.cell? ⟨b,6,none⟩=some (.slice la ln lc)
theorem G8.kept{u u':World}{n0 Bo b:Nat}{K:Int}{la:Option Addr}{ln lc k:Nat}(h:G8 u n0 Bo b K la ln lc k)(hk:Kept Bo b u u'):G8 u' n0 Bo b K la ln lc k:=
 ⟨hk.walks.same _ _ h.it rfl,hk.c0.trans h.c0,hk.c6.trans h.c6⟩
theorem G8.move{u:World}{n0 Bo b:Nat}{K:Int}{la:Option Addr}{ln lc k:Nat}(h:G8 u n0 Bo b K la ln lc k)(h0:Bo≠n0)(h1:b≠n0):G8 (u.iterAt n0 (fstr K) (k+1)) n0 Bo b K la ln lc (k+1):=
 have hs:=mI u n0 (fstr K) (k+1)
 ⟨Lib.iterAt_heap _ _ _ _ _ h.it,(hs.cell ⟨Bo,0,none⟩ h0).trans h.c0,(hs.cell ⟨b,6,none⟩ h1).trans h.c6⟩
theorem qx{u u':World}{n0 Bo b:Nat}{K:Int}{la:Option Addr}{ln lc k:Nat}(hlt:k<(av K).length)(h:G8 u n0 Bo b K la ln lc k)(h':G8 u' n0 Bo b K la ln lc (k+1)):
 k+1≤(av K).length∧(av K).length-u'.iterPos n0<(av K).length-u.iterPos n0:=by
 refine⟨hlt, ?_⟩
 simp only[World.iterPos,h.it,h'.it]
 omega
set_option maxRecDepth 100000 in
set_option maxHeartbeats 4000000 in
theorem AB(K:Int)(l Bo b g off ln lc:Nat)(la:Option Addr)(hla:0<ln→la=some ⟨g,off,none⟩)(hln:ln≤140737488355328)(n:Nat)
 (J Jx:List (Fin (bB b g off ln K).length)→World→Prop)(W:World)(hJ:AbidesFrom W.heap.size J)
 (hY:∀ n,Yields (bB b g off ln K).length n l (fQ b g off ln K) J Jx (Kept Bo b))
 (hft:FT W)(hc0:W.cell? ⟨Bo,0,none⟩=some (.pointer (some ⟨b,0,none⟩)))(hcK:W.cell? ⟨b,0,none⟩=some (.int .i64 K))(hc6:W.cell? ⟨b,6,none⟩=some (.slice la ln lc))(h0:J [] W):
 CallsIn Fence.wide n Tryz.prog 127 #[.func (.yield l) #[] #[],.pointer (some ⟨Bo,0,none⟩)] W fun e W'=>(∃v,e=.returned v)∧
  ((∃xs,xs=eZ (bB b g off ln K).length (bB b g off ln K).length∧J xs W')∨(∃pre,(∃q,q≤(bB b g off ln K).length∧pre=eZ _ q)∧Jx pre W')):=by
 have HB:Hid (Bo≠W.heap.size∧b≠W.heap.size):=hid ⟨Nat.ne_of_lt (World.block_lt_of_cell? _ _ hc0),Nat.ne_of_lt (World.block_lt_of_cell? _ _ hc6)⟩
 have HF:=hid (mH K W hft)
 clear hft
 refine callsIn_of_wp Tryz.func127 rfl trivial ?_ rfl
 simp only[Tryz.ntmps127,List.size_toArray,List.length_cons,List.length_nil,Nat.reduceAdd,Nat.reduceSub,Array.replicate_succ,Array.replicate_zero,List.push_toArray,List.append_toArray,List.nil_append,List.cons_append]
 gi_wp2_with (refine⟨trivial,(fun h=>(nomatch h)), ?_⟩;gi_at_call 128;refine(callsIn_wide.2 HF.out).mono ?_;rintro e w' ⟨rfl,rfl⟩)
 gi_loopw [] (fun wr=>∃ k:Nat,k≤(av K).length∧Hid (G8 wr W.heap.size Bo b K la ln lc k)∧J (eZ (bB b g off ln K).length (aY b g off ln K k).length) wr) (fun wr=>(av K).length-wr.iterPos W.heap.size)
 case atStart=>
  refine⟨0,Nat.zero_le _,hid ⟨World.iter_heap W (fstr K) 0, ?_, ?_⟩, ?_⟩
  ·exact(((Below.refl W.heap.size W).alloc (Nat.le_refl _) (.stringIter (fstr K) 0)).cell (p:=⟨Bo,0,none⟩) (World.block_lt_of_cell? _ _ hc0)).trans hc0
  ·exact(((Below.refl W.heap.size W).alloc (Nat.le_refl _) (.stringIter (fstr K) 0)).cell (p:=⟨b,6,none⟩) (World.block_lt_of_cell? _ _ hc6)).trans hc6
  ·exact hJ [] W (W.iter (fstr K) 0) none h0 (World.grownBy_alloc W _ none) (fun r e=>by cases e)
 case round=>
  obtain⟨k,hk,HS,hJs⟩:=hrel
  have hit:=HS.out.it
  by_cases hlt:k<(av K).length
  ·obtain⟨c,hg⟩:∃ c,(av K)[k]=c:=⟨_,rfl⟩
   have hks:k<(fstr K).size:=by unfold fstr;rw[mF];exact hlt
   have hgs:(fstr K)[k]=c:=by rw[←hg];exact xO hlt hks
   have hlet:=letters K c (by rw[←hg];exact List.getElem_mem _)
   have hnx0:=fun ty=>Lib.run_next_ascii_at (P:=Tryz.prog) wr W.heap.size (fstr K) k ty hit hks (by rw[hgs];rcases hlet with rfl|rfl|rfl|rfl|rfl|rfl|rfl<;>decide)
   rw[hgs]at hnx0
   have HU:=hid (HS.out.move HB.out.1 HB.out.2)
   have hJu:=hJ _ wr (wr.iterAt W.heap.size (fstr K) (k+1)) (some W.heap.size) hJs (vI _ _ _ _) (fun r e=>by cases e;exact⟨Nat.le_refl _,_,hit,rfl⟩)
   obtain⟨u,hu⟩:∃ u,wr.iterAt W.heap.size (fstr K) (k+1)=u:=⟨_,rfl⟩
   rw[hu]at hnx0 HU hJu
   have hat:=Dl (b:=b) (g:=g) (off:=off) (ln:=ln) hlt hg
   have hcu0:=HU.out.c0
   have hcu6:=HU.out.c6
   clear hu hgs hit hks hJs
   rcases hlet with rfl|rfl|rfl|rfl|rfl|rfl|rfl
   ·
    have hnext:(aY b g off ln K (k+1)).length=(aY b g off ln K k).length:=by have:=hat.2.1;simpa [bK]using this
    rw[←hnext]at hJu
    clear hat hg hnext
    have HLT:=hid hlt
    have HE:=hid (qx HLT.out HS.out HU.out)
    clear hlt
    gi_wp2
    go_roundw
    case rel=>exact⟨k+1,HE.out.1,HU,hJu⟩
    case measure=>exact HE.out.2
   ·
    have hnext:(aY b g off ln K (k+1)).length=(aY b g off ln K k).length:=by have:=hat.2.1;simpa [bK]using this
    rw[←hnext]at hJu
    clear hat hg hnext
    have HLT:=hid hlt
    have HE:=hid (qx HLT.out HS.out HU.out)
    clear hlt
    gi_wp2
    go_roundw
    case rel=>exact⟨k+1,HE.out.1,HU,hJu⟩
    case measure=>exact HE.out.2
   ·
    have hpl:fQ b g off ln K ⟨(aY b g off ln K k).length,by have:=hat.1;simp[bK]at this;omega⟩=⟨b,1,none⟩:=by have:=hat.2.2 0 (by simp[bK]) (by have:=hat.1;simp[bK]at this;omega);simpa [bK,fQ]using this
    have hy0:=hY (n-1) (aY b g off ln K k).length (by have:=hat.1;simp[bK]at this;omega) u hJu
    have hnext:(aY b g off ln K (k+1)).length=(aY b g off ln K k).length+1:=by have:=hat.2.1;simpa [bK]using this
    have hle:(aY b g off ln K k).length+1≤(bB b g off ln K).length:=by have:=hat.1;simpa [bK]using this
    rw[hpl]at hy0
    rw[←hnext]at hy0 hle
    obtain⟨fn,tmps,assign,body,hy,hR⟩:=hy0
    clear hat hg hpl hnext
    have HLT:=hid hlt
    clear hlt
    gi_wp2
    refine⟨(fun h=>(nomatch h)),hR.mono ?_⟩
    rintro e W3 (⟨rfl,hJ3,hk3⟩|⟨rfl,hJx3⟩)
    ·have HS3:=hid (HU.out.kept hk3)
     have HE:=hid (qx HLT.out HS.out HS3.out)
     clear hk3
     gi_wp2
     go_roundw
     case rel=>exact⟨k+1,HE.out.1,HS3,hJ3⟩
     case measure=>exact HE.out.2
    ·gi_wp2
     refine bodyPost_ret (results_none rfl _ _ _) rfl ?_
     exact⟨⟨_,rfl⟩,.inr ⟨_,⟨_,hle,rfl⟩,hJx3⟩⟩
   ·
    have hpl:fQ b g off ln K ⟨(aY b g off ln K k).length,by have:=hat.1;simp[bK]at this;omega⟩=⟨b,2,none⟩:=by have:=hat.2.2 0 (by simp[bK]) (by have:=hat.1;simp[bK]at this;omega);simpa [bK,fQ]using this
    have hy0:=hY (n-1) (aY b g off ln K k).length (by have:=hat.1;simp[bK]at this;omega) u hJu
    have hnext:(aY b g off ln K (k+1)).length=(aY b g off ln K k).length+1:=by have:=hat.2.1;simpa [bK]using this
    have hle:(aY b g off ln K k).length+1≤(bB b g off ln K).length:=by have:=hat.1;simpa [bK]using this
    rw[hpl]at hy0
    rw[←hnext]at hy0 hle
    obtain⟨fn,tmps,assign,body,hy,hR⟩:=hy0
    clear hat hg hpl hnext
    have HLT:=hid hlt
    clear hlt
    gi_wp2
    refine⟨(fun h=>(nomatch h)),hR.mono ?_⟩
    rintro e W3 (⟨rfl,hJ3,hk3⟩|⟨rfl,hJx3⟩)
    ·have HS3:=hid (HU.out.kept hk3)
     have HE:=hid (qx HLT.out HS.out HS3.out)
     clear hk3
     gi_wp2
     go_roundw
     case rel=>exact⟨k+1,HE.out.1,HS3,hJ3⟩
     case measure=>exact HE.out.2
    ·gi_wp2
     refine bodyPost_ret (results_none rfl _ _ _) rfl ?_
     exact⟨⟨_,rfl⟩,.inr ⟨_,⟨_,hle,rfl⟩,hJx3⟩⟩
   ·
    have hpl:fQ b g off ln K ⟨(aY b g off ln K k).length,by have:=hat.1;simp[bK]at this;omega⟩=⟨b,3,none⟩:=by have:=hat.2.2 0 (by simp[bK]) (by have:=hat.1;simp[bK]at this;omega);simpa [bK,fQ]using this
    have hy0:=hY (n-1) (aY b g off ln K k).length (by have:=hat.1;simp[bK]at this;omega) u hJu
    have hnext:(aY b g off ln K (k+1)).length=(aY b g off ln K k).length+1:=by have:=hat.2.1;simpa [bK]using this
    have hle:(aY b g off ln K k).length+1≤(bB b g off ln K).length:=by have:=hat.1;simpa [bK]using this
    rw[hpl]at hy0
    rw[←hnext]at hy0 hle
    obtain⟨fn,tmps,assign,body,hy,hR⟩:=hy0
    clear hat hg hpl hnext
    have HLT:=hid hlt
    clear hlt
    gi_wp2
    refine⟨(fun h=>(nomatch h)),hR.mono ?_⟩
    rintro e W3 (⟨rfl,hJ3,hk3⟩|⟨rfl,hJx3⟩)
    ·have HS3:=hid (HU.out.kept hk3)
     have HE:=hid (qx HLT.out HS.out HS3.out)
     clear hk3
     gi_wp2
     go_roundw
     case rel=>exact⟨k+1,HE.out.1,HS3,hJ3⟩
     case measure=>exact HE.out.2
    ·gi_wp2
     refine bodyPost_ret (results_none rfl _ _ _) rfl ?_
     exact⟨⟨_,rfl⟩,.inr ⟨_,⟨_,hle,rfl⟩,hJx3⟩⟩
   ·
    have hnext:(aY b g off ln K (k+1)).length=(aY b g off ln K k).length+ln:=by have:=hat.2.1;simpa [bK]using this
    have hle:(aY b g off ln K k).length+ln≤(bB b g off ln K).length:=by have:=hat.1;simpa [bK]using this
    have HC:=hid (each_in (bB b g off ln K).length l (fQ b g off ln K) J Jx (Kept Bo b) (Kept.refl Bo b) Kept.trans hY (aY b g off ln K k).length g off ln lc la hla hln hle
     (fun j hj=>by have:=hat.2.2 j (by simpa [bK]using hj) (by omega);simpa [bK,fQ]using this) (n-1) u hJu)
    rw[←hnext]at HC
    clear hat hg hnext hle
    have HLT:=hid hlt
    clear hlt
    gi_wp2_with (refine⟨trivial,(fun h=>(nomatch h)), ?_⟩;gi_at_call 129;refine HC.out.mono ?_;rintro e W3 (⟨rfl,hJ3,hk3⟩|⟨rfl,q,hq,hJx3⟩))
    ·have HS3:=hid (HU.out.kept hk3)
     have HE:=hid (qx HLT.out HS.out HS3.out)
     clear hk3
     gi_wp2
     go_roundw
     case rel=>exact⟨k+1,HE.out.1,HS3,hJ3⟩
     case measure=>exact HE.out.2
    ·gi_wp2
     refine bodyPost_ret (results_none rfl _ _ _) rfl ?_
     exact⟨⟨_,rfl⟩,.inr ⟨_,⟨_,hq,rfl⟩,hJx3⟩⟩
   ·
    have hnext:(aY b g off ln K (k+1)).length=(aY b g off ln K k).length:=by have:=hat.2.1;simpa [bK]using this
    rw[←hnext]at hJu
    clear hat hg hnext
    have HLT:=hid hlt
    have HE:=hid (qx HLT.out HS.out HU.out)
    clear hlt
    gi_wp2
    go_roundw
    case rel=>exact⟨k+1,HE.out.1,HU,hJu⟩
    case measure=>exact HE.out.2
  ·have hks:¬ k<(fstr K).size:=by unfold fstr;rw[mF];exact hlt
   have hnx0:=fun ty=>Lib.run_next_end_at (P:=Tryz.prog) wr W.heap.size (fstr K) k ty hit hks
   have he:(aY b g off ln K k).length=(bB b g off ln K).length:=by rw[xG (by omega)]
   rw[he]at hJs
   gi_wp2
   go_end0
   exact⟨⟨_,rfl⟩,.inl ⟨_,rfl,hJs⟩⟩
end Go.Proofs.YthjdeoppajlcoaaGreatDoor

namespace Go.Proofs.YthjdeoppajlcoaaGreatDoor
set_option linter.unusedVariables false
open Go.RowKit
section
variable (b g off ln : Nat) (K A B C : Int) (L : List Int)
def uR(f:UInt8):List (Addr×Int):=if f=65 then [(⟨b,1,none⟩,A)]else if f=66 then [(⟨b,2,none⟩,B)]else if f=67 then [(⟨b,3,none⟩,C)]else if f=76 then(List.range ln).map fun j=>(⟨g,off+j,none⟩,nth L j)else []
def lX:List (Addr×Int):=(av K).flatMap (uR b g off ln A B C L)
variable {b g off ln K A B C L}
theorem AP(f:UInt8):(uR b g off ln A B C L f).map (·.1)=bK b g off ln f:=by
 unfold uR bK
 split
 ·rfl
 ·split
  ·rfl
  ·split
   ·rfl
   ·split
    ·simp[Function.comp_def]
    ·rfl
theorem uU:(lX b g off ln K A B C L).map (·.1)=bB b g off ln K:=by
 unfold lX bB
 rw[List.map_flatMap]
 congr 1
 funext f
 exact AP f
theorem kS:(lX b g off ln K A B C L).length=(bB b g off ln K).length:=by rw[←uU (A:=A) (B:=B) (C:=C) (L:=L),List.length_map]
theorem Dk{L:List Int}:∀ {n:Nat},L.length=n→(List.range n).map (fun j=>nth L j)=L:=by
 intro n h
 subst h
 apply List.ext_getElem
 ·simp
 ·intro i h1 h2
  simp only[List.getElem_map,List.getElem_range]
  exact bN h2
theorem uT(hL:L.length=ln):(lX b g off ln K A B C L).map (·.2)=aA K A B C L:=by
 have hr:=Dk hL
 unfold lX
 rw[List.map_flatMap]
 rcases kinds K with h|h
 ·rcases h with rfl|rfl|rfl|rfl|rfl|rfl|rfl|rfl|rfl|rfl|rfl|rfl|rfl|rfl|rfl|rfl|rfl|rfl|rfl|rfl|rfl|rfl|rfl|rfl|rfl|rfl
  all_goals simp[av,uR,aA,hasB,iF,dA,Function.comp_def,hr]
 ·rw[gV h]
  simp[aA,hasB,gV h,iF,dA]
theorem qh{u:World}{la:Option Addr}{N:Int}{S:ByteArray}{lc:Nat}{T:Bool}(hL:L.length=ln)(hla:0<ln→la=some ⟨g,off,none⟩)(hb:∀ j,u.cell? ⟨b,j,none⟩=(#[.int .i64 K,.int .i64 A,.int .i64 B,.int .i64 C,.int .i64 N,.string S,.slice la ln lc,.bool T]:Array Value)[j]?)(hat:ai u la ln L):
 ∀x∈lX b g off ln K A B C L,u.cell? x.1=some (dN x.2):=by
 intro x hx
 obtain⟨f,_,hf⟩:=List.mem_flatMap.1 hx
 unfold uR at hf
 split at hf
 ·simp only[List.mem_singleton]at hf;subst hf;rw[hb];rfl
 ·split at hf
  ·simp only[List.mem_singleton]at hf;subst hf;rw[hb];rfl
  ·split at hf
   ·simp only[List.mem_singleton]at hf;subst hf;rw[hb];rfl
   ·split at hf
    ·obtain⟨j,hj,rfl⟩:=List.mem_map.1 hf
     rw[List.mem_range]at hj
     obtain⟨g',off',he,_,hc⟩:=hat.2 (by omega)
     rw[hla (by omega)]at he
     cases he
     rw[hc j (by omega),bN (by omega)]
    ·cases hf
end
def wX(b g off ln:Nat)(K A B C:Int)(L:List Int)(i:Fin (bB b g off ln K).length):Int:=((lX b g off ln K A B C L)[i.1]'(by rw[kS];exact i.2)).2
theorem pair_mem{b g off ln:Nat}{K A B C:Int}{L:List Int}(i:Fin (bB b g off ln K).length):(fQ b g off ln K i,wX b g off ln K A B C L i)∈lX b g off ln K A B C L:=by
 have h:(lX b g off ln K A B C L)[i.1]'(by rw[kS];exact i.2)=(fQ b g off ln K i,wX b g off ln K A B C L i):=by
  refine Prod.ext ?_ rfl
  have:=congrArg (·[i.1]?) (uU (b:=b) (g:=g) (off:=off) (ln:=ln) (K:=K) (A:=A) (B:=B) (C:=C) (L:=L))
  simp only[List.getElem?_map,List.getElem?_eq_getElem (show i.1<(lX b g off ln K A B C L).length by rw[kS];exact i.2),List.getElem?_eq_getElem i.2,Option.map_some,Option.some.injEq]at this
  exact this
 rw[←h]
 exact List.getElem_mem _
theorem yR{b g off ln:Nat}{K A B C:Int}{L:List Int}(hL:L.length=ln):(eZ (bB b g off ln K).length (bB b g off ln K).length).map (wX b g off ln K A B C L)=aA K A B C L:=by
 rw[←uT (b:=b) (g:=g) (off:=off) hL]
 apply List.ext_getElem
 ·simp[eZ,kS]
 ·intro i h1 h2
  simp[eZ,wX]
theorem oG(K:Int)(Bo b g off ln lc:Nat)(la:Option Addr)(hla:0<ln→la=some ⟨g,off,none⟩)(hln:ln≤140737488355328)(n:Nat)(w:World)(hft:FT w)
 (hc0:w.cell? ⟨Bo,0,none⟩=some (.pointer (some ⟨b,0,none⟩)))(hcK:w.cell? ⟨b,0,none⟩=some (.int .i64 K))(hc6:w.cell? ⟨b,6,none⟩=some (.slice la ln lc)):
 SeqStopsK Fence.wide n Tryz.prog 127 #[.pointer (some ⟨Bo,0,none⟩)] (fun i:Fin (bB b g off ln K).length=>#[Value.pointer (some (fQ b g off ln K i))]) (Kept Bo b)
  (fun xs=>xs=eZ (bB b g off ln K).length (bB b g off ln K).length) (fun pre=>∃ q,q≤(bB b g off ln K).length∧pre=eZ _ q) (bB b g off ln K).length w:=by
 intro l J Jx W hW hJ hJx hY h0
 refine AB K l Bo b g off ln lc la hla hln n J Jx W hJ (fun m k h W1 hj=> ?_) (hft.since hW) ((hW.cell (p:=⟨Bo,0,none⟩) (World.block_lt_of_cell? _ _ hc0)).trans hc0) ((hW.cell (p:=⟨b,0,none⟩) (World.block_lt_of_cell? _ _ hcK)).trans hcK) ((hW.cell (p:=⟨b,6,none⟩) (World.block_lt_of_cell? _ _ hc6)).trans hc6) h0
 have:=hY (eZ _ k) ⟨k,h⟩ W1 hj (by rw[BA (Nat.le_of_lt h)];exact h)
 rw[xP h]at this
 exact wJ rfl this
end Go.Proofs.YthjdeoppajlcoaaGreatDoor

namespace Go.Proofs.YthjdeoppajlcoaaGreatDoor
set_option linter.unusedVariables false
open Go.RowKit
attribute [local go_sem] Oper.semAt_some
open Go.Lib (hid)
theorem dx{F:Fence}{n:Nat}{P:Program}{u:World}{ops:Array Oper}{o:Oper}{a:Act}{K:Act→World→Prop}{Q:Exit→Act→World→Prop}{E:Prop}(hgd:o.guard=none)(s x:Operand)(t:TypeId)
 (ho:o.op=.call {callee:=.builtin .append,args:=#[s,x],argTypes:=#[t,t]})(e:TypeId)(ht:P.underlying t=some (.slice e))
 (hinfo:(P.info? e).map (fun i=>(i.zero,i.size,i.bytes))=some (some (.int .i64 0),1,8))
 (B:Nat)(v:Value)(Z:List Int)(hs:a.eval s=v)(hown:aj u B e v Z)(hB:B≤u.heap.size)
 (c g:Nat)(z:Int)(hx:a.eval x=.slice (some ⟨g,0,none⟩) 1 c)(hc:u.cell? ⟨g,0,none⟩=some (.int .i64 z))(hlen:(Z.length+1)*8≤140737488355328)
 (h:∀ va vn vc w',aj w' B e (.slice va vn vc) (Z++ [z])→u.grownBy w' v.ownBlock→K (a.put o.dst (.slice va vn vc)) w'):
 if Region.wanted o (yielded ops a.tmps)=true then Oper.wpIn F n P o a u K Q else E:=by
 have hw:Region.wanted o (yielded ops a.tmps)=true:=by simp[Region.wanted,hgd]
 rw[if_pos hw]
 obtain⟨i0,hi,hz0,hz1,hz2⟩:=info_parts hinfo
 obtain⟨v',w',hrun,r1,r2,r3⟩:=run_append_own (P:=P) u B t o.type e i0 (.int .i64 0) 1 8 ht hi hz0 hz1 hz2 rfl (by decide) v Z.length (Z.map dN) hown ⟨g,0,none⟩ 1 c [.int .i64 z] rfl (fun j y hy=>by
  cases j with
  |zero=>simp at hy;subst hy;exact hc
  |succ j=>simp at hy) (by intro y hy;simp at hy;subst hy;rfl) (by unfold maxLen;omega) hlen hB
 have hown':aj w' B e v' (Z++ [z]):=by
  show w'.ownsRow B e 1 v' (Z++ [z]).length ((Z++ [z]).map dN)
  rw[List.map_append,List.length_append]
  exact r1
 obtain⟨va,vn,vc,rfl,_⟩:=hown'.nums
 unfold Oper.wpIn
 refine⟨?_, ?_⟩
 ·simp[Oper.about,ho,resolve,Target.leads,Sem.run_pure]
 ·rw[Oper.semAt_plain F _ _ (by rw[ho];intro c hc';cases hc')]
  simp[execOp,ho,resolve,invoke,builtin,hs,hx,hrun,Result.andThen]
  exact h va vn vc w' hown' r2
structure qU(w:World)(W:World)(O:Array Value)(v:Value)(Z:List Int):Prop where
 inb:Box W w.heap.size O
 box:Boxed W (w.heap.size+1) 40 v
 own:aj W (w.heap.size+3) 3 v Z
 bel:Below w.heap.size w W
 siz:w.heap.size+3≤W.heap.size
theorem qU.append{w W w1:World}{O:Array Value}{v:Value}{Z:List Int}{z:Int}{va:Option Addr}{vn vc:Nat}{tmp:Obj}(h:qU w W O v Z)(ho:aj w1 (w.heap.size+3) 3 (.slice va vn vc) (Z++ [z]))(hg:((W.alloc tmp).drew).grownBy w1 v.ownBlock):
 Boxed w1 (w.heap.size+1) 40 v∧qU w (w1.setCell ⟨w.heap.size+1,0,none⟩ (.slice va vn vc)) O (.slice va vn vc) (Z++ [z])∧KeepsOthers W (w1.setCell ⟨w.heap.size+1,0,none⟩ (.slice va vn vc))∧Kept (w.heap.size+1+1) w.heap.size W (w1.setCell ⟨w.heap.size+1,0,none⟩ (.slice va vn vc)):=by
 have hsz:=h.siz
 have hb:Below (w.heap.size+3) W w1:=Below.grown (((Below.refl (w.heap.size+3) W).alloc h.siz tmp).drew) hg (by show _≤(W.alloc tmp).heap.size;simp;omega) (fun k hk=>(h.own.lt k hk).1)
 have hbx:Boxed w1 (w.heap.size+1) 40 v:=(hb.block _ (by omega)).trans h.box
 have hk:KeepsOthers W (w1.setCell ⟨w.heap.size+1,0,none⟩ (.slice va vn vc)):=by
  refine(((KeepsOthers.alloc W tmp).trans (KeepsOthers.drew _)).trans (KeepsOthers.of_grownBy hg fun j o ej hj=> ?_)).trans (KeepsOthers.setCell _ _ _)
  have hlt:=h.own.lt j ej
  have hj':W.heap[j]? =some o:=by
   have h1:((W.alloc tmp).drew).heap[j]? =W.heap[j]? :=((Below.refl W.heap.size W).alloc (Nat.le_refl _) tmp).block j hlt.2
   exact h1.symm.trans hj
  rcases h.own.2 with⟨he,_⟩|⟨g,cap,cur,he,_,hgb,_⟩
  ·subst he;simp[Value.ownBlock]at ej
  ·subst he
   obtain rfl:g=j:=by simpa [Value.ownBlock]using ej
   rw[hgb]at hj';cases hj';rfl
 refine⟨hbx,⟨(h.inb.below hb (by omega)).other (by omega) _ _,hbx.set _,ho.setCell _ _ (by show w.heap.size+1<w.heap.size+3;omega),(h.bel.trans (hb.mono (by omega))).setCell (by show w.heap.size≤w.heap.size+1;omega) _,by rw[dB];exact Nat.le_trans h.siz hb.size⟩,hk,hk.walks, ?_, ?_⟩
 ·exact(World.cell?_setCell_other _ _ _ _ (fun he=>by have:=congrArg Addr.block he;dsimp only at this;omega)).trans (hb.cell (p:=⟨w.heap.size+1+1,0,none⟩) (by show w.heap.size+1+1<w.heap.size+3;omega))
 ·exact(World.cell?_setCell_other _ _ _ _ (fun he=>by have:=congrArg Addr.block he;dsimp only at this;omega)).trans (hb.cell (p:=⟨w.heap.size,6,none⟩) (by show w.heap.size<w.heap.size+3;omega))
theorem qU.grown{w W W':World}{O:Array Value}{v:Value}{Z:List Int}{row:Option Nat}(h:qU w W O v Z)(hg:W.grownBy W' row)(hr:∀ r,row=some r→w.heap.size+3≤r∧∃ o:Obj,W.heap[r]? =some o∧o.isCells=false):qU w W' O v Z:=by
 have hb:Below (w.heap.size+3) W W':=Below.grown (Below.refl _ W) hg h.siz (fun k e=>(hr k e).1)
 refine⟨h.inb.below hb (by omega),(hb.block _ (by omega)).trans h.box,World.ownsRow.kept h.own hg ?_,h.bel.trans (hb.mono (by omega)),Nat.le_trans h.siz hb.size⟩
 rcases h.own.2 with⟨he,_⟩|⟨g,cap,cur,he,_,hgb,_⟩
 ·exact .inl (by rw[he];rfl)
 ·refine .inr fun e'=> ?_
  obtain⟨_,o,ho,hc⟩:=hr g (by rw[←e',he];rfl)
  rw[hgb]at ho;cases ho;cases hc
theorem qp{Bo b n0:Nat}(h0:Bo<n0)(h1:b<n0)(W:World)(l:Nat)(o o':Obj)(hl:n0≤l)(ho:W.heap[l]? =some o)(_:o.isCells=false)(hw:o.isWalk=false):Kept Bo b W (W.putObj l o'):=
 ⟨KeepsWalks.putObj _ ho hw,by simp only[World.cell?,World.putObj_heap_other (show Bo≠l by omega)],by simp only[World.cell?,World.putObj_heap_other (show b≠l by omega)]⟩
theorem aj.putObj{W:World}{B:Nat}{e:TypeId}{v:Value}{Z:List Int}(h:aj W B e v Z){l:Nat}{o:Obj}(o':Obj)(hl:W.heap[l]? =some o)(ho:o.isCells=false):aj (W.putObj l o') B e v Z:=ownsRow_putObj h o' hl ho
theorem AA(b g off ln:Nat)(K:Int):(bB b g off ln K).length≤ln+3:=by
 have h:=congrArg List.length (uT (b:=b) (g:=g) (off:=off) (ln:=ln) (K:=K) (A:=0) (B:=0) (C:=0) (L:=List.replicate ln 0) (by simp))
 rw[List.length_map,kS]at h
 rw[h]
 unfold aA
 have h1:=dH (hasB K 65) 0
 have h2:=dH (hasB K 66) 0
 have h3:=dH (hasB K 67) 0
 have h4:(dA (hasB K 76) (List.replicate ln 0)).length≤ln:=by unfold dA;split<;>simp
 simp only[List.length_append]
 omega
set_option maxRecDepth 100000 in
set_option maxHeartbeats 4000000 in
theorem D5(
 K A B C N:Int) (S:ByteArray) (la:Option Addr) (ln lc:Nat) (T:Bool) (L:List Int) (w:World) (hft:FT w) (hat:ai w la ln L) (hnil:la=none→lc=0) (hn:ln≤17592186044000):
 Calls Tryz.prog 118 #[.agg #[.int .i64 K,.int .i64 A,.int .i64 B,.int .i64 C,.int .i64 N,.string S,.slice la ln lc,.bool T]] w
  fun e w'=>∃ va vn vc,e=.returned (.slice va vn vc)∧aj w' w.heap.size 3 (.slice va vn vc) (aA K A B C L)∧Below w.heap.size w w':=by
 obtain⟨g,off,hla⟩:∃ g off,0<ln→la=some ⟨g,off,none⟩:=by
  by_cases h:0<ln
  ·obtain⟨g,off,e,_⟩:=hat.2 h
   exact⟨g,off,fun _=>e⟩
  ·exact⟨0,0,fun h'=>absurd h' h⟩
 have HA:=hid hat
 have HNIL:=hid hnil
 have HFT:=hid hft
 have HLA:=hid hla
 have HPL:=hid (AA w.heap.size g off ln K)
 have hmix:Tryz.prog.follows .mixedOrders=true:=by kernel_rfl
 clear hat hnil hft hla
 refine(callsIn_wide (n:=9)).1 ?_
 refine callsIn_of_wp_marks Tryz.func118 rfl trivial ?_ rfl
 simp only[Tryz.ntmps118,List.size_toArray,List.length_cons,List.length_nil,Nat.reduceAdd,Nat.reduceSub,Array.replicate_succ,Array.replicate_zero,List.push_toArray,List.append_toArray,List.nil_append,List.cons_append]
 gi_wp2_with (refine⟨trivial, ?_⟩;gi_at_call 97;refine(callsIn_wide.2 (rF _ _)).mono ?_;rintro e w' ⟨rfl,rfl⟩)
 have HS0:Hid (qU w (((w.alloc (.cells #[.int .i64 K,.int .i64 A,.int .i64 B,.int .i64 C,.int .i64 N,.string S,.slice la ln lc,.bool T] 64)).alloc (.cells #[.slice none 0 0] 40)).alloc (.cells #[.pointer (some ⟨w.heap.size,0,none⟩)] 150)) #[.int .i64 K,.int .i64 A,.int .i64 B,.int .i64 C,.int .i64 N,.string S,.slice la ln lc,.bool T] (.slice none 0 0) []):=
  hid ⟨((Box.new _ _ _ rfl).alloc (by simp) _).alloc (by simp<;>omega) _,by have h:=(Boxed.new (w.alloc (.cells #[.int .i64 K,.int .i64 A,.int .i64 B,.int .i64 C,.int .i64 N,.string S,.slice la ln lc,.bool T] 64)) 40 (.slice none 0 0)).alloc (.cells #[.pointer (some ⟨w.heap.size,0,none⟩)] 150);rw[World.size_alloc]at h;exact h,World.ownsRow_nil _ _ _ 1,(((Below.refl w.heap.size w).alloc (Nat.le_refl _) _).alloc (by simp) _).alloc (by simp<;>omega) _,by simp⟩
 have hcB:(((w.alloc (.cells #[.int .i64 K,.int .i64 A,.int .i64 B,.int .i64 C,.int .i64 N,.string S,.slice la ln lc,.bool T] 64)).alloc (.cells #[.slice none 0 0] 40)).alloc (.cells #[.pointer (some ⟨w.heap.size,0,none⟩)] 150)).cell? ⟨w.heap.size+1+1,0,none⟩=some (.pointer (some ⟨w.heap.size,0,none⟩)):=by
  rw[show w.heap.size+1+1=((w.alloc (.cells #[.int .i64 K,.int .i64 A,.int .i64 B,.int .i64 C,.int .i64 N,.string S,.slice la ln lc,.bool T] 64)).alloc (.cells #[.slice none 0 0] 40)).heap.size by simp]
  exact World.cell?_alloc_mark _ _ _ _ _
 obtain⟨W0,hW0⟩:∃ W0,(((w.alloc (.cells #[.int .i64 K,.int .i64 A,.int .i64 B,.int .i64 C,.int .i64 N,.string S,.slice la ln lc,.bool T] 64)).alloc (.cells #[.slice none 0 0] 40)).alloc (.cells #[.pointer (some ⟨w.heap.size,0,none⟩)] 150))=W0:=⟨_,rfl⟩
 have hz0:W0.heap.size=w.heap.size+3:=by rw[←hW0];simp
 rw[hW0]at HS0 hcB⊢
 have HW0:=hid hW0
 clear hW0
 have hst:=oG K (w.heap.size+1+1) w.heap.size g off ln lc la HLA.out (by omega) 8 W0 (HFT.out.since HS0.out.bel) hcB (by rw[HS0.out.inb.1];rfl) (by rw[HS0.out.inb.1];rfl)
 refine wpIn_rangeFunc_ownF rfl (by omega) (gf:=127) (lb:=#[.pointer (some ⟨w.heap.size+1+1,0,none⟩)]) rfl trivial (enters_of Tryz.func127 (by kernel_rfl) rfl) hst Kept.trans ?hKb (Below.refl _ _) (fun _=>rfl)
  (fun pre W=>∃ v,qU w W #[.int .i64 K,.int .i64 A,.int .i64 B,.int .i64 C,.int .i64 N,.string S,.slice la ln lc,.bool T] v (pre.map (wX w.heap.size g off ln K A B C L)))
  (fun _ _ _=>False) ?hI (fun _ _ _ _ _ hs _ _=>hs) ⟨_,HS0.out⟩
  (fun i=>{tmps:=#[.agg #[.int .i64 K,.int .i64 A,.int .i64 B,.int .i64 C,.int .i64 N,.string S,.slice la ln lc,.bool T],.pointer (some ⟨w.heap.size,0,none⟩),.slice none 0 0,.pointer (some ⟨w.heap.size+1,0,none⟩),.pointer (some (fQ w.heap.size g off ln K i)),.func (.func 127) #[] #[.pointer (some ⟨w.heap.size+1+1,0,none⟩)],.pointer (some (fQ w.heap.size g off ln K i)),undef,undef,undef,undef,undef,undef,undef],defers:=[]}) ?assign ?body ?done ?stop
 case hKb=>exact qp (n0:=W0.heap.size) (by omega) (by omega)
 case hI=>rintro pre W W' row ⟨v,hS⟩ hg hr;exact⟨v,hS.grown hg (fun r e=>by rw[←hz0];exact hr r e)⟩
 case assign=>
  intro l x W K hK
  gi_wp2
  exact hK
 case body=>
  rintro l pre x W ⟨v,hS⟩ hlen
  have HS:=hid hS
  have hv:=hS.box.cell
  have hvf:=hS.box.frozen
  have hcx:W.cell? (fQ w.heap.size g off ln K x)=some (dN (wX w.heap.size g off ln K A B C L x)):=qh HA.out.1 HLA.out hS.inb.1 (HA.out.since hS.bel) _ (pair_mem x)
  obtain⟨ad,had⟩:∃ ad,fQ w.heap.size g off ln K x=ad:=⟨_,rfl⟩
  obtain⟨z,hz⟩:∃ z,wX w.heap.size g off ln K A B C L x=z:=⟨_,rfl⟩
  rw[had,hz]at hcx
  rw[had]
  unfold dN at hcx
  have HOA:Hid (aj ((W.alloc (.cells #[.int .i64 z] 3)).drew) (w.heap.size+3) 3 v (pre.map (wX w.heap.size g off ln K A B C L))):=hid (hS.own.below ((Below.refl _ W).alloc (Nat.le_refl _) _).drew)
  have HBA:Hid (w.heap.size+3≤((W.alloc (.cells #[.int .i64 z] 3)).drew).heap.size):=hid (by have:=hS.siz;show _≤(W.alloc _).heap.size;simp;omega)
  have HCA:Hid (((W.alloc (.cells #[.int .i64 z] 3)).drew).cell? ⟨W.heap.size,0,none⟩=some (.int .i64 z)):=hid (World.cell?_alloc_mark _ _ _ _ _)
  have HLN:Hid (((pre.map (wX w.heap.size g off ln K A B C L)).length+1)*8≤140737488355328):=hid (by rw[List.length_map];have:=HPL.out;omega)
  have HSNEXT:Hid (∀v' W',qU w W' #[.int .i64 K,.int .i64 A,.int .i64 B,.int .i64 C,.int .i64 N,.string S,.slice la ln lc,.bool T] v' (pre.map (wX w.heap.size g off ln K A B C L)++ [z])→qU w W' #[.int .i64 K,.int .i64 A,.int .i64 B,.int .i64 C,.int .i64 N,.string S,.slice la ln lc,.bool T] v' ((pre++ [x]).map (wX w.heap.size g off ln K A B C L))):=hid (fun v' W' h=>by rw[List.map_append,List.map_cons,List.map_nil,hz];exact h)
  have hva:(W.alloc (.cells #[.int .i64 z] 3)).cell? ⟨w.heap.size+1,0,none⟩=some v:=(((Below.refl _ W).alloc (Nat.le_refl _) _).cell (p:=⟨w.heap.size+1,0,none⟩) hS.box.lt).trans hv
  clear hS hz had
  gi_wp2
  refine wpIn_region_any hmix ?_
  change wpAnyIn _ _ _ _ _ _ _ _ _ (World.drew _)
  refine wpAnyIn_ready (rs:=[0,1]) (by kernel_rfl) (by simp) ?_
  refine AllReadyIn.cons rfl (fun K hK=> ?_) (AllReadyIn.cons rfl (fun K hK=> ?_) AllReadyIn.nil)
  ·go_simp
   refine hK _ _ ?_
   clear hK K
   refine wpAnyIn_ready (rs:=[1]) (by kernel_rfl) (by simp) ?_
   refine AllReadyIn.cons rfl (fun K hK=> ?_) AllReadyIn.nil
   go_simp
   refine hK _ _ ?_
   clear hK K
   refine wpAnyIn_ready (rs:=[2]) (by kernel_rfl) (by simp) ?_
   refine AllReadyIn.cons rfl (fun K hK=> ?_) AllReadyIn.nil
   go_simp
   refine hK _ _ ?_
   clear hK K
   refine wpAnyIn_ready (rs:=[3]) (by kernel_rfl) (by simp) ?_
   refine AllReadyIn.cons rfl (fun K hK=> ?_) AllReadyIn.nil
   go_simp
   refine hK _ _ ?_
   clear hK K
   refine wpAnyIn_ready (rs:=[4]) (by kernel_rfl) (by simp) ?_
   refine AllReadyIn.cons rfl (fun K hK=> ?_) AllReadyIn.nil
   go_simp
   refine hK _ _ ?_
   clear hK K
   refine wpAnyIn_ready (rs:=[5]) (by kernel_rfl) (by simp) ?_
   refine AllReadyIn.cons rfl (fun K hK=> ?_) AllReadyIn.nil
   refine dx rfl _ _ 40 rfl 3 Tryz.underlying40 aT (w.heap.size+3) _ _ rfl HOA.out HBA.out _ _ z rfl HCA.out HLN.out ?_
   intro va vn vc w1 hown1 hgrow1
   have HS1:=hid (HS.out.append hown1 hgrow1)
   have hc1:=HS1.out.1.cell
   have hf1:=HS1.out.1.frozen
   clear hown1 hgrow1
   refine hK _ _ ?_
   clear hK K
   refine wpAnyIn_ready (rs:=[6]) (by kernel_rfl) (by simp) ?_
   refine AllReadyIn.cons rfl (fun K hK=> ?_) AllReadyIn.nil
   go_simp
   refine hK _ _ ?_
   clear hK K
   refine wpAnyIn_done (by kernel_rfl) ?_ _
   exact⟨HS1.out.2.2.1,HS1.out.2.2.2,_,HSNEXT.out _ _ HS1.out.2.1⟩
  ·go_simp
   refine hK _ _ ?_
   clear hK K
   refine wpAnyIn_ready (rs:=[0,2]) (by kernel_rfl) (by simp) ?_
   refine AllReadyIn.cons rfl (fun K hK=> ?_) (AllReadyIn.cons rfl (fun K hK=> ?_) AllReadyIn.nil)
   ·go_simp
    refine hK _ _ ?_
    clear hK K
    refine wpAnyIn_ready (rs:=[2]) (by kernel_rfl) (by simp) ?_
    refine AllReadyIn.cons rfl (fun K hK=> ?_) AllReadyIn.nil
    go_simp
    refine hK _ _ ?_
    clear hK K
    refine wpAnyIn_ready (rs:=[3]) (by kernel_rfl) (by simp) ?_
    refine AllReadyIn.cons rfl (fun K hK=> ?_) AllReadyIn.nil
    go_simp
    refine hK _ _ ?_
    clear hK K
    refine wpAnyIn_ready (rs:=[4]) (by kernel_rfl) (by simp) ?_
    refine AllReadyIn.cons rfl (fun K hK=> ?_) AllReadyIn.nil
    go_simp
    refine hK _ _ ?_
    clear hK K
    refine wpAnyIn_ready (rs:=[5]) (by kernel_rfl) (by simp) ?_
    refine AllReadyIn.cons rfl (fun K hK=> ?_) AllReadyIn.nil
    refine dx rfl _ _ 40 rfl 3 Tryz.underlying40 aT (w.heap.size+3) _ _ rfl HOA.out HBA.out _ _ z rfl HCA.out HLN.out ?_
    intro va vn vc w1 hown1 hgrow1
    have HS1:=hid (HS.out.append hown1 hgrow1)
    have hc1:=HS1.out.1.cell
    have hf1:=HS1.out.1.frozen
    clear hown1 hgrow1
    refine hK _ _ ?_
    clear hK K
    refine wpAnyIn_ready (rs:=[6]) (by kernel_rfl) (by simp) ?_
    refine AllReadyIn.cons rfl (fun K hK=> ?_) AllReadyIn.nil
    go_simp
    refine hK _ _ ?_
    clear hK K
    refine wpAnyIn_done (by kernel_rfl) ?_ _
    exact⟨HS1.out.2.2.1,HS1.out.2.2.2,_,HSNEXT.out _ _ HS1.out.2.1⟩
   ·go_simp
    refine hK _ _ ?_
    clear hK K
    refine wpAnyIn_ready (rs:=[0,3]) (by kernel_rfl) (by simp) ?_
    refine AllReadyIn.cons rfl (fun K hK=> ?_) (AllReadyIn.cons rfl (fun K hK=> ?_) AllReadyIn.nil)
    ·go_simp
     refine hK _ _ ?_
     clear hK K
     refine wpAnyIn_ready (rs:=[3]) (by kernel_rfl) (by simp) ?_
     refine AllReadyIn.cons rfl (fun K hK=> ?_) AllReadyIn.nil
     go_simp
     refine hK _ _ ?_
     clear hK K
     refine wpAnyIn_ready (rs:=[4]) (by kernel_rfl) (by simp) ?_
     refine AllReadyIn.cons rfl (fun K hK=> ?_) AllReadyIn.nil
     go_simp
     refine hK _ _ ?_
     clear hK K
     refine wpAnyIn_ready (rs:=[5]) (by kernel_rfl) (by simp) ?_
     refine AllReadyIn.cons rfl (fun K hK=> ?_) AllReadyIn.nil
     refine dx rfl _ _ 40 rfl 3 Tryz.underlying40 aT (w.heap.size+3) _ _ rfl HOA.out HBA.out _ _ z rfl HCA.out HLN.out ?_
     intro va vn vc w1 hown1 hgrow1
     have HS1:=hid (HS.out.append hown1 hgrow1)
     have hc1:=HS1.out.1.cell
     have hf1:=HS1.out.1.frozen
     clear hown1 hgrow1
     refine hK _ _ ?_
     clear hK K
     refine wpAnyIn_ready (rs:=[6]) (by kernel_rfl) (by simp) ?_
     refine AllReadyIn.cons rfl (fun K hK=> ?_) AllReadyIn.nil
     go_simp
     refine hK _ _ ?_
     clear hK K
     refine wpAnyIn_done (by kernel_rfl) ?_ _
     exact⟨HS1.out.2.2.1,HS1.out.2.2.2,_,HSNEXT.out _ _ HS1.out.2.1⟩
    ·go_simp
     refine hK _ _ ?_
     clear hK K
     refine wpAnyIn_ready (rs:=[0,4]) (by kernel_rfl) (by simp) ?_
     refine AllReadyIn.cons rfl (fun K hK=> ?_) (AllReadyIn.cons rfl (fun K hK=> ?_) AllReadyIn.nil)
     ·go_simp
      refine hK _ _ ?_
      clear hK K
      refine wpAnyIn_ready (rs:=[4]) (by kernel_rfl) (by simp) ?_
      refine AllReadyIn.cons rfl (fun K hK=> ?_) AllReadyIn.nil
      go_simp
      refine hK _ _ ?_
      clear hK K
      refine wpAnyIn_ready (rs:=[5]) (by kernel_rfl) (by simp) ?_
      refine AllReadyIn.cons rfl (fun K hK=> ?_) AllReadyIn.nil
      refine dx rfl _ _ 40 rfl 3 Tryz.underlying40 aT (w.heap.size+3) _ _ rfl HOA.out HBA.out _ _ z rfl HCA.out HLN.out ?_
      intro va vn vc w1 hown1 hgrow1
      have HS1:=hid (HS.out.append hown1 hgrow1)
      have hc1:=HS1.out.1.cell
      have hf1:=HS1.out.1.frozen
      clear hown1 hgrow1
      refine hK _ _ ?_
      clear hK K
      refine wpAnyIn_ready (rs:=[6]) (by kernel_rfl) (by simp) ?_
      refine AllReadyIn.cons rfl (fun K hK=> ?_) AllReadyIn.nil
      go_simp
      refine hK _ _ ?_
      clear hK K
      refine wpAnyIn_done (by kernel_rfl) ?_ _
      exact⟨HS1.out.2.2.1,HS1.out.2.2.2,_,HSNEXT.out _ _ HS1.out.2.1⟩
     ·go_simp
      refine hK _ _ ?_
      clear hK K
      refine wpAnyIn_ready (rs:=[0]) (by kernel_rfl) (by simp) ?_
      refine AllReadyIn.cons rfl (fun K hK=> ?_) AllReadyIn.nil
      go_simp
      refine hK _ _ ?_
      clear hK K
      refine wpAnyIn_ready (rs:=[5]) (by kernel_rfl) (by simp) ?_
      refine AllReadyIn.cons rfl (fun K hK=> ?_) AllReadyIn.nil
      refine dx rfl _ _ 40 rfl 3 Tryz.underlying40 aT (w.heap.size+3) _ _ rfl HOA.out HBA.out _ _ z rfl HCA.out HLN.out ?_
      intro va vn vc w1 hown1 hgrow1
      have HS1:=hid (HS.out.append hown1 hgrow1)
      have hc1:=HS1.out.1.cell
      have hf1:=HS1.out.1.frozen
      clear hown1 hgrow1
      refine hK _ _ ?_
      clear hK K
      refine wpAnyIn_ready (rs:=[6]) (by kernel_rfl) (by simp) ?_
      refine AllReadyIn.cons rfl (fun K hK=> ?_) AllReadyIn.nil
      go_simp
      refine hK _ _ ?_
      clear hK K
      refine wpAnyIn_done (by kernel_rfl) ?_ _
      exact⟨HS1.out.2.2.1,HS1.out.2.2.2,_,HSNEXT.out _ _ HS1.out.2.1⟩
 case done=>
  rintro D ys W hD rfl ⟨v,hS⟩ hK
  rw[yR HA.out.1]at hS
  obtain⟨va,vn,vc,rfl,_⟩:=hS.own.nums
  have hc:=hS.box.cell
  have HS:=hid hS
  clear hS
  gi_wp2
  refine⟨by simp,.inl ⟨_,_,rfl,run_takeDeferred hK, ?_⟩⟩
  exact⟨_,results_tmp rfl _ _ _,va,vn,vc,rfl,(HS.out.own.mono (by omega)).putObj _ hK rfl,HS.out.bel.trans (belowK_b (w:=w) (Nat.le_refl _) W D _ _ (by omega) hK rfl rfl)⟩
 case stop=>
  rintro D c pre W _ _ h _
  exact h.elim
end Go.Proofs.YthjdeoppajlcoaaGreatDoor

namespace Go.Proofs.YthjdeoppajlcoaaGreatDoor
set_option linter.unusedVariables false
open Go.RowKit
theorem aj.setOther{w:World}{B:Nat}{e:TypeId}{v:Value}{Z:List Int}(h:aj w B e v Z)(p:Addr)(x:Value)(hp:∀ k,v.ownBlock=some k→p.block≠k):aj (w.setCell p x) B e v Z:=by
 refine⟨h.1, ?_⟩
 rcases h.2 with hn|⟨g,cap,cur,rfl,hg,hh,rest⟩
 ·exact .inl hn
 ·refine .inr ⟨g,cap,cur,rfl,hg, ?_,rest⟩
  rw[Below.heap_setCell _ _ _ _ (Ne.symm (hp g rfl))]
  exact hh
theorem aj.set{w:World}{B:Nat}{e:TypeId}{g n cap:Nat}{Z:List Int}(h:aj w B e (.slice (some ⟨g,0,none⟩) n cap) Z)(j:Nat)(z:Int):aj (w.setCell ⟨g,j,none⟩ (dN z)) B e (.slice (some ⟨g,0,none⟩) n cap) (Z.set j z):=by
 refine⟨by simp, ?_⟩
 rcases h.2 with⟨he,_⟩|⟨g',cap',cur,he,hg,hh,h1,h2,h3,h4⟩
 ·cases he
 ·cases he
  refine .inr ⟨g,cap,cur.setIfInBounds j (dN z),by rw[List.length_set],hg, ?_,by rw[List.length_set];exact h1,h2,by simpa using h3, ?_⟩
  ·obtain⟨hlt,hk⟩:=Array.getElem?_eq_some_iff.1 hh
   show(w.heap.modify g _)[g]? =_
   rw[Array.getElem?_eq_getElem (by rw[Array.size_modify];exact hlt),Array.getElem_modify_self,hk]
   rfl
  ·rw[List.map_set,←h4,List.length_set,Array.toList_setIfInBounds,List.take_set]
end Go.Proofs.YthjdeoppajlcoaaGreatDoor
