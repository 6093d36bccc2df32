/- Layer 7: package cfg's Order: the blocks as the walk leaves them, turned about. -/
import Derived.Test.YtikoklagffbgiaaGreatDoorSCfgD
import Derived.Test.YtikoklagffbgiaaGreatDoorSCodeWr
import Derived.Test.YtikoklagffbgiaaGreatDoorSKindPlainR
import Derived.Test.YtikoklagffbgiaaGreatDoorST1
import Derived.Test.YtikoklagffbgiaaGreatDoorShelf
import Derived.Lib.OwnBridge
import Derived.Lib.OthersKept
namespace Go.Proofs.YtikoklagffbgiaaGreatDoor
set_option linter.unusedSimpArgs false
set_option linter.unusedVariables false
open Go.RowKit
attribute [local go_sem] Oper.semAt_some
open Go.Lib (hid)
theorem reverse_own(v:Value)(Z:List Int)(B:Nat)(w:World)(h:OwnsI w B 3 v Z):
 Calls Tryz.prog 96 #[v] w fun e w'=>e=.returned (.tuple #[])∧OwnsI w' B 3 v Z.reverse∧w.grownBy w' v.ownBlock:=by
 by_cases hv:v=.slice none 0 0
 ·subst hv
  obtain rfl:Z=[]:=by
   rcases h.2 with⟨_,h0⟩|⟨_,_,_,e,_⟩
   ·exact List.eq_nil_of_length_eq_zero h0
   ·cases e
  refine(Tryz.slices_Reverse_int_empty none 0 w).mono ?_
  rintro e w' ⟨rfl,rfl⟩
  exact⟨rfl,h,⟨rfl,rfl,rfl,Nat.le_refl _,fun _ _ _=>rfl⟩⟩
 ·obtain⟨g,cap,rfl,hB,hlt,hn,hm,_,hH⟩:=Lib.holds_of_ownsRow (enc:=Value.int .i64) (zs:=Z) h hv
  refine(Tryz.slices_Reverse_int g 0 cap Z w hH (by unfold maxLen at hm;omega)).mono ?_
  rintro e w' ⟨rfl,q,rfl⟩
  have ho:=Lib.ownsRow_putRow (enc:=Value.int .i64) (q:=q) (k:=Z.length) (ys:=Z.reverse) (zs:=Z) h (by simp) (Nat.le_refl _)
  refine⟨rfl, ?_,⟨rfl,rfl,rfl,by simp[Sort.putRow,Sort.mapBlock,Sort.ahead],fun k hk hne=> ?_⟩⟩
  ·show World.ownsRow _ B _ 1 _ Z.reverse.length (Z.reverse.map numV)
   rw[List.take_of_length_le (by simp)]at ho
   rw[List.length_reverse]
   exact ho
  ·have hgk:g≠k:=fun e=>hne (by rw[e];rfl)
   simp[Sort.putRow,Sort.mapBlock,Sort.ahead,Array.getElem?_modify,hgk]
theorem left_any(r:Int)(a:Option Addr)(n c:Nat)(w:World):
 Calls Tryz.prog 95 #[.agg #[.int .i64 r,.slice a n c]] w fun e w'=>e=.returned (.func (.func 124) #[] #[.pointer (some ⟨w.heap.size,0,none⟩)])∧w'=w.alloc (.cells #[.int .i64 r,.slice a n c] 36):=by
 go_enter Tryz.func95,Tryz.ntmps95
 go_wp2_with fail
 go_ret
 exact⟨rfl,rfl⟩
structure OrdSt(w W:World)(v:Value)(Z:List Int):Prop where
 box:Boxed W (w.heap.size+1) 40 v
 own:OwnsI W (w.heap.size+3) 3 v Z
 bel:Below w.heap.size w W
 siz:w.heap.size+3≤W.heap.size
theorem OrdSt.lies{w W:World}{v:Value}{Z:List Int}(h:OrdSt w W v Z):Lies (w.heap.size+1) 40 W:=by
 intro i hi
 rcases hi with rfl|⟨v',hb,hv⟩
 ·exact⟨_,h.box,rfl⟩
 ·have e:v'=v:=by have h1:=hb;have h2:=h.box;unfold Boxed at h1 h2;rw[h1]at h2;cases h2;rfl
  subst e
  obtain⟨cur,hc,_⟩:=rowW_blk h.own hv
  exact⟨_,hc,rfl⟩
theorem OrdSt.grown{w W W':World}{v:Value}{Z:List Int}{row:Option Nat}(h:OrdSt w W v Z)(hg:W.grownBy W' row)(hr:∀ r,row=some r→w.heap.size≤r∧¬ Owns (w.heap.size+1) 40 W r):OrdSt w W' v Z:=
 ⟨h.box.kept hg (fun e=>(hr _ e.symm).2 (.inl rfl)),World.ownsRow.kept h.own hg (row_off fun r e hv=>(hr r e).2 (.inr ⟨v,h.box,hv⟩)),h.bel.trans ((Below.grown (Below.refl w.heap.size W) hg (by have:=h.siz;omega) (fun k e=>(hr k e).1))),Nat.le_trans h.siz hg.size⟩
set_option maxRecDepth 100000 in
set_option maxHeartbeats 2000000 in
theorem order_any(r:Int)(a:Option Addr)(n c:Nat)(f:FuncD)(w:World)(hrow:RowV BlockQ 8 w (.slice a n c) f.blocks)(hn:n≤1099511627776):
 Calls Tryz.prog 65 #[.agg #[.int .i64 r,.slice a n c]] w fun e w'=>∃ va vn vc,e=.returned (.slice va vn vc)∧OwnsI w' w.heap.size 3 (.slice va vn vc) (orderL f)∧Below w.heap.size w w':=by
 have hlen:n=f.blocks.length:=by obtain⟨_,_,_,e,h,_⟩:=hrow;cases e;exact h.symm
 have hgl:∀ g off,a=some ⟨g,off,none⟩→0<n→g<w.heap.size:=fun g off e h0=>by
  obtain⟨_,_,_,e',_,_,_,h'⟩:=hrow;cases e';obtain⟨g',off',e2,hl,_⟩:=h' h0;rw[e]at e2;cases e2;exact hl
 refine(callsIn_wide (n:=9)).1 ?_
 refine callsIn_of_wp_marks Tryz.func65 rfl trivial ?_ rfl
 simp only[Tryz.ntmps65,List.size_toArray,List.length_cons,List.length_nil,Nat.reduceAdd,Nat.reduceSub,Array.replicate_succ,Array.replicate_zero,List.push_toArray,List.append_toArray,List.nil_append,List.cons_append]
 have HROW:=hid hrow
 have HLEN:=hid hlen
 have HGL:=hid hgl
 clear hrow hlen hgl
 gi_wp2_with (refine⟨trivial, ?_⟩;gi_at_call 95;refine(callsIn_wide.2 (left_any r a n c _)).mono ?_;rintro e w' ⟨rfl,rfl⟩)
 obtain⟨W0,hW0⟩:∃ W0,(((w.alloc (.cells #[.int .i64 r,.slice a n c] 36)).alloc (.cells #[.slice none 0 0] 40)).alloc (.cells #[.int .i64 r,.slice a n c] 36))=W0:=⟨_,rfl⟩
 have hz0:W0.heap.size=w.heap.size+3:=by rw[←hW0];simp
 have hbw:Below w.heap.size w W0:=by rw[←hW0];exact(((Below.refl w.heap.size w).alloc (Nat.le_refl _) _).alloc (by simp) _).alloc (by simp<;>omega) _
 have hbx:Boxed W0 (w.heap.size+1) 40 (.slice none 0 0):=by
  rw[←hW0]
  have h:=(Boxed.new (w.alloc (.cells #[.int .i64 r,.slice a n c] 36)) 40 (.slice none 0 0)).alloc (.cells #[.int .i64 r,.slice a n c] 36)
  rw[World.size_alloc]at h
  exact h
 have hcb:∀ j,W0.cell? ⟨w.heap.size+1+1,j,none⟩=(#[.int .i64 r,.slice a n c]:Array Value)[j]? :=by
  intro j
  rw[←hW0,show w.heap.size+1+1=((w.alloc (.cells #[.int .i64 r,.slice a n c] 36)).alloc (.cells #[.slice none 0 0] 40)).heap.size by simp]
  exact World.cell?_alloc_mark _ _ _ _ _
 have HS0:Hid (OrdSt w W0 (.slice none 0 0) []):=hid ⟨hbx,World.ownsRow_nil _ _ _ 1,hbw,by omega⟩
 rw[hW0]
 clear hW0
 have hseq:=left_seq r a n c f (w.heap.size+1+1) (w.heap.size+1) 40 W0 (HROW.out.since BlockQ.lasts hbw) hn hcb (fun W hb hl=>by
  have h1:W.heap[w.heap.size+1]? =_:=(hb.block _ (by omega)).trans hbx
  have h2:∀ i,Owns (w.heap.size+1) 40 W i→i=w.heap.size+1:=fun i hi=>by
   rcases hi with hi|⟨v,hv,ho⟩
   ·exact hi
   ·unfold Boxed at hv;rw[h1]at hv;cases hv;cases ho
  exact⟨fun h=>by have:=h2 _ h;omega,fun g off e h0 h=>by have:=h2 _ h;have:=HGL.out g off e h0;omega⟩)
 clear hbx hcb hbw
 refine wpIn_rangeFunc_X rfl (by omega) (gf:=124) (lb:=#[.pointer (some ⟨w.heap.size+1+1,0,none⟩)]) rfl trivial (enters_of Tryz.func124 (by kernel_rfl) rfl) hseq (Below.refl _ _) (fun _=>rfl)
  (fun pre W=>∃ v,OrdSt w W v pre) (fun s W ⟨v,h⟩=>h.lies) ?hI ⟨_,HS0.out⟩
  (fun x a' _=>a'={tmps:=#[.agg #[.int .i64 r,.slice a n c],.pointer (some ⟨w.heap.size,0,none⟩),.slice none 0 0,.pointer (some ⟨w.heap.size+1,0,none⟩),.int .i64 x,.agg #[.int .i64 r,.slice a n c],.func (.func 124) #[] #[.pointer (some ⟨w.heap.size+1+1,0,none⟩)],.int .i64 x,undef,undef,undef,undef,undef,undef,undef],defers:=[]})
  (fun _ _ _ _ _ _ h _ _=>h) ?assign ?body ?ran
 case hI=>
  rintro s W W' row ⟨v,h⟩ hg hr
  exact⟨v,h.grown hg (fun r e=>⟨by have:=(hr r e).1;omega,(hr r e).2⟩)⟩
 case assign=>
  rintro l pre x W K' hI hK'
  gi_wp2
  exact hK' _ _ (KeepX.refl _ _ _) hI rfl
 case body=>
  rintro l pre x a' W hl0 _ ⟨v,hS⟩ rfl _ hlen
  have HS:=hid hS
  have hv:=Boxed.cell hS.box
  have hvf:=Boxed.frozen hS.box
  have HLN:Hid ((pre.length+1)*8≤140737488355328):=hid (by omega)
  have HSZ:=hid hS.siz
  have HOW:=hid hS.own
  clear hS
  gi_wp2_with (gi_at_builtin;refine wpListIn_append_numW W rfl _ _ 40 rfl 3 Tryz.underlying40 info_int (w.heap.size+3) v pre rfl HOW.out HSZ.out _ 1 _ x rfl rfl rfl HLN.out ?_;intro va vn vc w1 hown1 hgrow1 hwh;obtain⟨hb1,hb2,ho2,hk2,hoff2⟩:=push_box HS.out.box HS.out.own (by omega) ((Below.refl W.heap.size W).alloc (Nat.le_refl _) _) hown1 hgrow1;have hc1:=hb1.cell;have hf1:=hb1.frozen;have hoff3:=hid hoff2;have hb3:=hid hb2;have ho3:=hid ho2;have hwh3:=hid hwh;clear hb1 hb2 ho2 hk2 hoff2 hown1 hgrow1 hwh)
  have hge:∀ i,PushX (w.heap.size+1) v i→w.heap.size≤i:=fun i hi=>by
   rcases hi with rfl|hi
   ·omega
   ·have:=(HOW.out.lt i hi).1;omega
  refine⟨⟨hoff3.out.size,fun i hi hn=>hoff3.out.block i hi (fun hx=>hn (by
   rcases hx with hx|hx
   ·exact .inl hx
   ·exact .inr ⟨v,HS.out.box,hx⟩)),fun i ho hi=> ?_⟩,_,⟨hb3.out,ho3.out,HS.out.bel.trans (hoff3.out.below (by have:=HSZ.out;omega) hge),Nat.le_trans HSZ.out hoff3.out.size⟩⟩
  rcases ho with ho|⟨v',hv',ho⟩
  ·exact .inl ho
  ·have e:v'=.slice va vn vc:=by have h1:=hv';have h2:=hb3.out;unfold Boxed at h1 h2;rw[h1]at h2;cases h2;rfl
   subst e
   rcases hwh3.out i ho with h|h
   ·exact .inr ⟨v,HS.out.box,h⟩
   ·omega
 case ran=>
  rintro D ys U hD rfl ⟨v,hS⟩ hK
  have HR:=hid (reverse_own v _ _ U hS.own)
  have hv:=Boxed.cell hS.box
  have HS:=hid hS
  have HK:=hid hK
  clear hS hK
  gi_wp2_with (refine⟨trivial, ?_⟩;gi_at_call 96;refine(callsIn_wide.2 HR.out).mono ?_;rintro e U2 ⟨rfl,ho2,hg2⟩;have hv2:U2.cell? ⟨w.heap.size+1,0,none⟩=some v:=(World.cell?_of_block (hg2.block _ HS.out.box.lt (fun e=>by
   obtain⟨cur,hc,_⟩:=rowW_blk HS.out.own e.symm
   have h2:=HS.out.box
   unfold Boxed at h2
   rw[hc]at h2
   simp at h2))).trans hv;have HO2:=hid ho2;have HG2:=hid hg2;clear ho2 hg2)
  have hge:∀ k,v.ownBlock=some k→w.heap.size+3≤k:=fun k hk=>(HS.out.own.lt k hk).1
  have hk2:U2.heap[D]? =some (.deferred (some [])):=(HG2.out.block D (Array.getElem?_eq_some_iff.1 HK.out).1 (fun e=>by
   obtain⟨cur,hc,_⟩:=rowW_blk HS.out.own e.symm
   rw[HK.out]at hc
   cases hc)).trans HK.out
  refine⟨by simp,.inl ⟨_,_,rfl,run_takeDeferred hk2, ?_⟩⟩
  have ho:=HO2.out
  rw[List.reverse_reverse]at ho
  obtain⟨va,vn,vc,rfl,_⟩:=ho.nums
  refine⟨_,results_tmp rfl _ _ _,va,vn,vc,rfl,(OwnsI.grownRow ho (grownBy_putObj' U2 D _) (fun r e=>by cases e;exact⟨_,hk2,rfl⟩)).mono (by omega), ?_⟩
  have hb1:=HS.out.bel.trans (Below.grown (Below.refl w.heap.size U) HG2.out (by have:=HS.out.siz;omega) (fun k e=>by have:=hge k e;omega))
  exact hb1.trans (Below.grown (Below.refl w.heap.size U2) (grownBy_putObj' U2 D _) (by have:=HG2.out.size;have:=HS.out.siz;omega) (fun k e=>by cases e;omega))
structure ReaSt(w:World)(n:Nat)(W:World)(Z:List Int):Prop where
 box:Boxed W (w.heap.size+2) 111 (.slice (some ⟨w.heap.size+1,0,none⟩) n n)
 row:W.ownsRow (w.heap.size+1) 4 1 (.slice (some ⟨w.heap.size+1,0,none⟩) n n) n (metVals n Z)
 bel:Below w.heap.size w W
 siz:w.heap.size+4≤W.heap.size
theorem ReaSt.owns{w W:World}{n:Nat}{Z:List Int}(h:ReaSt w n W Z)(i:Nat):Owns (w.heap.size+2) 111 W i↔i=w.heap.size+2∨i=w.heap.size+1:=by
 constructor
 ·rintro (hi|⟨v,hb,hv⟩)
  ·exact .inl hi
  ·have h1:=hb;have h2:=h.box
   unfold Boxed at h1 h2
   rw[h1]at h2
   cases h2
   cases hv
   exact .inr rfl
 ·rintro (hi|hi)
  ·exact .inl hi
  ·exact .inr ⟨_,h.box,by rw[hi];rfl⟩
theorem ReaSt.blk{w W:World}{n:Nat}{Z:List Int}(h:ReaSt w n W Z):∃ cur,W.heap[w.heap.size+1]? =some (.cells cur 4 (0,0)):=by
 rcases h.row.2 with⟨e,_⟩|⟨g,cap,cur,e,_,hh,_⟩
 ·cases e
 ·cases e;exact⟨cur,hh⟩
theorem ReaSt.lies{w W:World}{n:Nat}{Z:List Int}(h:ReaSt w n W Z):Lies (w.heap.size+2) 111 W:=by
 intro i hi
 rcases(h.owns i).1 hi with rfl|rfl
 ·exact⟨_,h.box,rfl⟩
 ·obtain⟨cur,hc⟩:=h.blk
  exact⟨_,hc,rfl⟩
theorem ReaSt.grown{w W W':World}{n:Nat}{Z:List Int}{row:Option Nat}(h:ReaSt w n W Z)(hg:W.grownBy W' row)(hr:∀ r,row=some r→w.heap.size≤r∧¬ Owns (w.heap.size+2) 111 W r):ReaSt w n W' Z:=
 ⟨h.box.kept hg (fun e=>(hr _ e.symm).2 ((h.owns _).2 (.inl rfl))),World.ownsRow.kept h.row hg (.inr fun e=>(hr _ e.symm).2 ((h.owns _).2 (.inr rfl))),h.bel.trans (Below.grown (Below.refl w.heap.size W) hg (by have:=h.siz;omega) (fun k e=>(hr k e).1)),Nat.le_trans h.siz hg.size⟩
set_option maxRecDepth 100000 in
set_option maxHeartbeats 2000000 in
theorem reached_any(r:Int)(a:Option Addr)(n c:Nat)(f:FuncD)(w:World)(hrow:RowV BlockQ 8 w (.slice a n c) f.blocks)(hn:n≤1099511627776):
 Calls Tryz.prog 66 #[.agg #[.int .i64 r,.slice a n c]] w fun e w'=>∃ g,e=.returned (.slice (some ⟨g,0,none⟩) n n)∧w'.ownsRow w.heap.size 4 1 (.slice (some ⟨g,0,none⟩) n n) n (metVals n (orderL f))∧Below w.heap.size w w':=by
 have hgl:∀ g off,a=some ⟨g,off,none⟩→0<n→g<w.heap.size:=fun g off e h0=>by
  obtain⟨_,_,_,e',_,_,_,h'⟩:=hrow;cases e';obtain⟨g',off',e2,hl,_⟩:=h' h0;rw[e]at e2;cases e2;exact hl
 refine(callsIn_wide (n:=9)).1 ?_
 refine callsIn_of_wp_marks Tryz.func66 rfl trivial ?_ rfl
 simp only[Tryz.ntmps66,List.size_toArray,List.length_cons,List.length_nil,Nat.reduceAdd,Nat.reduceSub,Array.replicate_succ,Array.replicate_zero,List.push_toArray,List.append_toArray,List.nil_append,List.cons_append]
 have HROW:=hid hrow
 have HGL:=hid hgl
 have hmk:=make_bools n n rfl hn
 clear hrow hgl
 gi_wp2_with (refine⟨trivial, ?_⟩;gi_at_call 95;refine(callsIn_wide.2 (left_any r a n c _)).mono ?_;rintro e w' ⟨rfl,rfl⟩)
 obtain⟨W0,hW0⟩:∃ W0,((((w.alloc (.cells #[.int .i64 r,.slice a n c] 36)).alloc (.cells (madeCells #[.bool false] n) 4)).alloc (.cells #[.slice (some ⟨w.heap.size+1,0,none⟩) n n] 111)).alloc (.cells #[.int .i64 r,.slice a n c] 36))=W0:=⟨_,rfl⟩
 have hz0:W0.heap.size=w.heap.size+4:=by rw[←hW0];simp
 have hbw:Below w.heap.size w W0:=by rw[←hW0];exact((((Below.refl w.heap.size w).alloc (Nat.le_refl _) _).alloc (by simp) _).alloc (by simp<;>omega) _).alloc (by simp<;>omega) _
 have hbx:Boxed W0 (w.heap.size+2) 111 (.slice (some ⟨w.heap.size+1,0,none⟩) n n):=by
  rw[←hW0]
  have h:=(Boxed.new ((w.alloc (.cells #[.int .i64 r,.slice a n c] 36)).alloc (.cells (madeCells #[.bool false] n) 4)) 111 (.slice (some ⟨w.heap.size+1,0,none⟩) n n)).alloc (.cells #[.int .i64 r,.slice a n c] 36)
  rw[show((w.alloc (.cells #[.int .i64 r,.slice a n c] 36)).alloc (.cells (madeCells #[.bool false] n) 4)).heap.size=w.heap.size+2 by simp]at h
  exact h
 have hrw:W0.ownsRow (w.heap.size+1) 4 1 (.slice (some ⟨w.heap.size+1,0,none⟩) n n) n (metVals n []):=by
  rw[←hW0]
  have h:=World.ownsRow_lit (base:=w.heap.size+1) (e:=4) (size:=1) (w.alloc (.cells #[.int .i64 r,.slice a n c] 36)) (madeCells #[Value.bool false] n) n (by simp) (by unfold maxLen;omega) (by simp[size_madeCells])
  rw[metVals_none,show(w.alloc (.cells #[.int .i64 r,.slice a n c] 36)).heap.size=w.heap.size+1 by simp]at h
  exact(h.alloc _).alloc _
 have hcb:∀ j,W0.cell? ⟨w.heap.size+1+1+1,j,none⟩=(#[.int .i64 r,.slice a n c]:Array Value)[j]? :=by
  intro j
  rw[←hW0,show w.heap.size+1+1+1=(((w.alloc (.cells #[.int .i64 r,.slice a n c] 36)).alloc (.cells (madeCells #[.bool false] n) 4)).alloc (.cells #[.slice (some ⟨w.heap.size+1,0,none⟩) n n] 111)).heap.size by simp]
  exact World.cell?_alloc_mark _ _ _ _ _
 have HS0:Hid (ReaSt w n W0 []):=hid ⟨hbx,hrw,hbw,by omega⟩
 rw[hW0]
 clear hW0
 have hseq:=left_seq r a n c f (w.heap.size+1+1+1) (w.heap.size+2) 111 W0 (HROW.out.since BlockQ.lasts hbw) hn hcb (fun W hb hl=>by
  have h1:W.heap[w.heap.size+2]? =_:=(hb.block _ (by omega)).trans hbx
  have h2:∀ i,Owns (w.heap.size+2) 111 W i→i=w.heap.size+2∨i=w.heap.size+1:=fun i hi=>by
   rcases hi with hi|⟨v,hv,ho⟩
   ·exact .inl hi
   ·unfold Boxed at hv;rw[h1]at hv;cases hv;cases ho;exact .inr rfl
  exact⟨fun h=>by have:=h2 _ h;omega,fun g off e h0 h=>by have:=h2 _ h;have:=HGL.out g off e h0;omega⟩)
 clear hbx hcb hbw hrw hmk
 refine wpIn_rangeFunc_X rfl (by omega) (gf:=124) (lb:=#[.pointer (some ⟨w.heap.size+1+1+1,0,none⟩)]) rfl trivial (enters_of Tryz.func124 (by kernel_rfl) rfl) hseq (Below.refl _ _) (fun _=>rfl)
  (fun pre W=>ReaSt w n W pre) (fun s W h=>h.lies) ?hI HS0.out
  (fun x a' _=>a'={tmps:=#[.agg #[.int .i64 r,.slice a n c],.pointer (some ⟨w.heap.size,0,none⟩),.slice none 0 0,.pointer (some ⟨w.heap.size+1+1,0,none⟩),.int .i64 x,.pointer (some ⟨w.heap.size,1,none⟩),.slice a n c,.int .i64 n,.slice (some ⟨w.heap.size+1,0,none⟩) n n,.agg #[.int .i64 r,.slice a n c],.func (.func 124) #[] #[.pointer (some ⟨w.heap.size+1+1+1,0,none⟩)],.int .i64 x,undef,undef,undef,undef],defers:=[]})
  (fun _ _ _ _ _ _ h _ _=>h) ?assign ?body ?ran
 case hI=>
  rintro s W W' row h hg hr
  exact h.grown hg (fun r e=>⟨by have:=(hr r e).1;omega,(hr r e).2⟩)
 case assign=>
  rintro l pre x W K' hI hK'
  gi_wp2
  exact hK' _ _ (KeepX.refl _ _ _) hI rfl
 case body=>
  rintro l pre x a' W hl0 _ hS rfl hT hlen
  obtain⟨j,rfl⟩:∃ j:Nat,x=j:=Int.eq_ofNat_of_zero_le hT.1
  have hj:j<n:=by have:=hT.2;omega
  have hji:(j:Int)<(n:Int):=by omega
  have hv:=Boxed.cell hS.box
  have hcj:W.cell? ⟨w.heap.size+1,j,none⟩=some (.bool (decide ((j:Int)∈pre))):=by
   have:=World.ownsRow.cells hS.row rfl j _ (metVals_at (met:=pre) hj)
   rwa [addr_plain,Nat.zero_add]at this
  have hfj:=World.ownsRow.frozenAt hS.row j
  have HS:=hid hS
  have HST:=hid (World.ownsRow.stored hS.row j (.bool true))
  clear hS
  gi_wp2
  have hg:=HST.out.2
  have hr:=HST.out.1
  rw[metVals_more hj]at hr
  have hb2:Boxed (W.setCell ⟨w.heap.size+1,j,none⟩ (.bool true)) (w.heap.size+2) 111 (.slice (some ⟨w.heap.size+1,0,none⟩) n n):=HS.out.box.kept hg (fun e=>by have:=Option.some.inj e;omega)
  have hS2:ReaSt w n (W.setCell ⟨w.heap.size+1,j,none⟩ (.bool true)) (pre++ [(j:Int)]):=⟨hb2,hr,HS.out.bel.setCell (p:=⟨w.heap.size+1,j,none⟩) (by show w.heap.size≤w.heap.size+1;omega) _,Nat.le_trans HS.out.siz hg.size⟩
  exact⟨⟨hg.size,fun i hi hn=>hg.block i hi (fun e=>hn ((HS.out.owns i).2 (.inr (Option.some.inj e)))),fun i ho hi=>(HS.out.owns i).2 ((hS2.owns i).1 ho)⟩,hS2⟩
 case ran=>
  rintro D ys U hD rfl hS hK
  have hv:=Boxed.cell hS.box
  have HS:=hid hS
  have HK:=hid hK
  clear hS hK
  gi_wp2
  refine⟨by simp,.inl ⟨_,_,rfl,run_takeDeferred HK.out, ?_⟩⟩
  have hfree:=HS.out.lies.not HK.out rfl
  have h2:=HS.out.grown (grownBy_putObj' U D (.deferred none)) (fun r e=>by cases e;exact⟨by omega,hfree⟩)
  have hm:metVals n (orderL f).reverse=metVals n (orderL f):=by unfold metVals;simp
  refine⟨_,results_tmp rfl _ _ _,w.heap.size+1,rfl, ?_,h2.bel⟩
  have h3:=h2.row
  rw[hm]at h3
  exact⟨h3.1,by
   rcases h3.2 with hn|⟨g,cap,cur,e,hB,rest⟩
   ·exact .inl hn
   ·exact .inr ⟨g,cap,cur,e,by omega,rest⟩⟩
end Go.Proofs.YtikoklagffbgiaaGreatDoor

namespace Go.Proofs.YtikoklagffbgiaaGreatDoor
set_option linter.unusedSimpArgs false
set_option linter.unusedVariables false
set_option maxRecDepth 100000
open Go.RowKit (wrap64 intOf Below Hid)
open Go.Lib (hid)
theorem RowV.take{α:Type}{Q:World→List Value→α→Prop}{k:Nat}{W:World}{a:Option Addr}{n c:Nat}{xs:List α}(h:RowV Q k W (.slice a n c) xs){m:Nat}(hm:m≤n):RowV Q k W (.slice a m c) (xs.take m):=by
 obtain⟨a',n',c',e,hl,h1,h2,h3⟩:=h
 cases e
 refine⟨a,m,c,rfl,by simp;omega,h1,by omega,fun h0=> ?_⟩
 obtain⟨g,off,rfl,hg,hcs⟩:=h3 (by omega)
 refine⟨g,off,rfl,hg,fun i hi=> ?_⟩
 have hi':i<xs.length:=by simp at hi;omega
 obtain⟨cs,l,hc,hq⟩:=hcs i hi'
 refine⟨cs,l,hc, ?_⟩
 rw[List.getElem_take]
 exact hq
structure LawSt(w:World)(r:Int)(a:Option Addr)(n c:Nat)(va:Option Addr)(vn:Nat)(L:List Int)(W:World):Prop where
 bel:Below w.heap.size w W
 siz:w.heap.size<W.heap.size
 c0:W.cell? ⟨w.heap.size,0,none⟩=some (.int .i64 r)
 c1:W.cell? ⟨w.heap.size,1,none⟩=some (.slice a n c)
 lis:NumsAt W va vn L
theorem LawSt.since{w:World}{r:Int}{a:Option Addr}{n c:Nat}{va:Option Addr}{vn:Nat}{L:List Int}{W W':World}(h:LawSt w r a n c va vn L W)(hb:Below W.heap.size W W'):LawSt w r a n c va vn L W':=
 ⟨h.bel.trans (hb.mono h.bel.size),Nat.lt_of_lt_of_le h.siz hb.size,(hb.cell (p:=⟨w.heap.size,0,none⟩) h.siz).trans h.c0,(hb.cell (p:=⟨w.heap.size,1,none⟩) h.siz).trans h.c1,h.lis.since hb⟩
theorem own_cap{w:World}{B:Nat}{e:TypeId}{va:Option Addr}{vn vc:Nat}{Z:List Int}(h:OwnsI w B e (.slice va vn vc) Z):vn≤vc:=by
 rcases h.2 with⟨e,h0⟩|⟨g,cap,cur,e,_,_,h1,_⟩
 ·cases e;omega
 ·cases e;exact h1
theorem next_len(e:EndD):(nextL e).length≤2:=by
 unfold nextL
 split
 ·simp
 ·split
  ·split<;>simp
  ·simp
theorem order_some(f:FuncD):0<(orderL f).length↔0<f.blocks.length:=by
 constructor
 ·intro h;have:=order_len f;omega
 ·intro h;obtain⟨r,hr⟩:=order_head h;rw[hr];simp
theorem order_at{f:FuncD}{k:Nat}(hk:k<(orderL f).length):∃ p:Nat,(orderL f)[k]=(p:Int)∧p<f.blocks.length:=by
 have h:=(order_facts f).there _ (List.getElem_mem hk)
 exact⟨(orderL f)[k].toNat,by have:=h.1;omega,by have:=h.1;have:=h.2;omega⟩
def BlockAt(u:World)(g off p:Nat)(e:EndD)(pa:Option Addr)(pn pc:Nat)(oa:Option Addr)(on oc:Nat)(la:Option Addr)(ln lc:Nat)(ma:Option Addr)(mn mc:Nat):Prop:=
 u.cell? ⟨g,off+p*8,none⟩=some (.slice pa pn pc)∧u.cell? ⟨g,off+p*8+1,none⟩=some (.slice oa on oc)∧u.cell? ⟨g,off+p*8+2,none⟩=some (.int .i64 e.K)∧u.cell? ⟨g,off+p*8+3,none⟩=some (.int .i64 e.A)∧u.cell? ⟨g,off+p*8+4,none⟩=some (.int .i64 e.To)∧u.cell? ⟨g,off+p*8+5,none⟩=some (.int .i64 e.Else)∧u.cell? ⟨g,off+p*8+6,none⟩=some (.slice la ln lc)∧u.cell? ⟨g,off+p*8+7,none⟩=some (.slice ma mn mc)
theorem block_at{W:World}{a:Option Addr}{n c:Nat}{f:FuncD}(h:RowV BlockQ 8 W (.slice a n c) f.blocks){p:Nat}(hp:p<n):∃ g off pa pn pc oa on oc la ln lc ma mn mc,a=some ⟨g,off,none⟩∧g<W.heap.size∧∀ u,Below W.heap.size W u→BlockAt u g off p (theEnd f p) pa pn pc oa on oc la ln lc ma mn mc:=by
 obtain⟨a',n',c',e,hl,_,_,hrow⟩:=h
 cases e
 obtain⟨g,off,rfl,hg,hcs⟩:=hrow (by omega)
 obtain⟨cs,h8,hc,pv,ov,es,rfl,hpv,hov,l,m,rfl,_,_,_,_,hL,hM⟩:=hcs p (by omega)
 obtain⟨pa,pn,pc,rfl,_⟩:=hpv
 obtain⟨oa,on,oc,rfl,_⟩:=hov
 obtain⟨la,ln,lc,rfl,_⟩:=hL
 obtain⟨ma,mn,mc,rfl,_⟩:=hM
 refine⟨g,off,pa,pn,pc,oa,on,oc,la,ln,lc,ma,mn,mc,rfl,hg,fun u hb=> ?_⟩
 rw[theEnd_at (by omega)]
 have hk:∀ j (hj:j<8),u.cell? ⟨g,off+p*8+j,none⟩=_:=fun j hj=>(hb.cell (p:=⟨g,off+p*8+j,none⟩) hg).trans (hc j hj)
 exact⟨hk 0 (by omega),hk 1 (by omega),hk 2 (by omega),hk 3 (by omega),hk 4 (by omega),hk 5 (by omega),hk 6 (by omega),hk 7 (by omega)⟩
theorem keepN{B:Nat}{w u u':World}(h1:Below B w u)(hB:B≤w.heap.size)(h2:Below u.heap.size u u'):Below B w u':=h1.trans (h2.mono (Nat.le_trans hB h1.size))
theorem cell_laid2{w w2:World}{C0 C1:Array Value}{t0 t1:TypeId}(hb:Below (w.heap.size+2) ((w.alloc (.cells C0 t0)).alloc (.cells C1 t1)) w2):
 (∀j,w2.cell? ⟨w.heap.size,j,none⟩=C0[j]?)∧(∀j,w2.cell? ⟨w.heap.size+1,j,none⟩=C1[j]?)∧(∀j,w2.frozen? ⟨w.heap.size,j,none⟩=false)∧(∀j,w2.frozen? ⟨w.heap.size+1,j,none⟩=false):=by
 refine⟨fun j=> ?_,fun j=> ?_,fun j=> ?_,fun j=> ?_⟩
 ·rw[hb.cell (p:=⟨w.heap.size,j,none⟩) (by simp),World.cell?_alloc_lt _ _ _ (by simp),World.cell?_alloc_mark]
 ·have h1:w.heap.size+1=(w.alloc (.cells C0 t0)).heap.size:=by simp
  rw[hb.cell (p:=⟨w.heap.size+1,j,none⟩) (by simp),h1,World.cell?_alloc_mark]
 ·rw[hb.frozen (p:=⟨w.heap.size,j,none⟩) (by simp),RowKit.frozen?_alloc_cells,World.frozen?_alloc_at _ _ _ _ rfl]
 ·rw[hb.frozen (p:=⟨w.heap.size+1,j,none⟩) (by simp),World.frozen?_alloc_at _ _ _ _ (by simp)]
def typB(n:Nat)(t:Int):Bool:=decide ((0≤t∧t≤5)∨(6≤t∧t-6<n))
theorem typB_yes{n:Nat}{t:Int}(h:(0≤t∧t≤5)∨(6≤t∧t-6<n)):typB n t=true:=decide_eq_true h
theorem typB_no{n:Nat}{t:Int}(h:¬ ((0≤t∧t≤5)∨(6≤t∧t-6<n))):typB n t=false:=decide_eq_false h
theorem ktype_any(g:Nat)(ca:Option Addr)(cn cc:Nat)(t:Int)(w:World)(hc:w.cell? ⟨g,1,none⟩=some (.slice ca cn cc))(ht: -9223372036854775808≤t∧t≤9223372036854775807)(hn:cn≤140737488355328):
 Calls Tryz.prog 86 #[.pointer (some ⟨g,0,none⟩),.int .i64 t] w fun e w'=>e=.returned (.bool (typB cn t))∧w=w':=by
 obtain⟨ht0,ht1⟩:=ht
 by_cases h0:t<0
 ·have HT:=hid (typB_no (n:=cn) (t:=t) (by omega))
  have HD:=hid (decide_eq_false (show ¬0≤t by omega))
  have h6:t<6:=by omega
  go_enter Tryz.func86,Tryz.ntmps86
  go_wp2
  go_ret
  exact⟨by rw[HT.out];show Ending.returned (.bool (decide (0≤t)))=_;rw[HD.out],rfl⟩
 ·by_cases h5:t≤5
  ·have HT:=hid (typB_yes (n:=cn) (t:=t) (by omega))
   have h0':0≤t:=by omega
   have h6:t<6:=by omega
   go_enter Tryz.func86,Tryz.ntmps86
   go_wp2
   all_goals go_ret
   all_goals exact⟨by rw[HT.out];rfl,rfl⟩
  ·have h6:6≤t:=by omega
   by_cases hl:t-6<cn
   ·have HT:=hid (typB_yes (n:=cn) (t:=t) (by omega))
    go_enter Tryz.func86,Tryz.ntmps86
    go_wp2
    all_goals go_ret
    all_goals exact⟨by rw[HT.out];rfl,rfl⟩
   ·have HT:=hid (typB_no (n:=cn) (t:=t) (by omega))
    go_enter Tryz.func86,Tryz.ntmps86
    go_wp2
    all_goals go_ret
    all_goals exact⟨by rw[HT.out];rfl,rfl⟩
theorem sign_cases(s:Int):(s=0∨s=1∨s=2∨s=3∨s=4∨s=5∨s=6∨s=7∨s=8∨s=9∨s=10∨s=11∨s=12∨s=13)∨¬ (0≤s∧s≤13):=by omega
def tlV(s:Int):Int:=if 0≤s∧s≤13 then(if 10≤s then 1 else 0)else -1
theorem tl_no(s:Int)(w:World)(hs:¬ (0≤s∧s≤13)):
 Calls Tryz.prog 130 #[.int .i64 s] w fun e w'=>e=.returned (.int .i64 (tlV s))∧w=w':=by
 have e1:tlV s= -1:=by unfold tlV;rw[if_neg hs]
 rw[e1]
 clear e1
 have t0:(s==0)=false:=by simp;omega
 have t1:(s==1)=false:=by simp;omega
 have t2:(s==2)=false:=by simp;omega
 have t3:(s==3)=false:=by simp;omega
 have t4:(s==4)=false:=by simp;omega
 have t5:(s==5)=false:=by simp;omega
 have t6:(s==6)=false:=by simp;omega
 have t7:(s==7)=false:=by simp;omega
 have t8:(s==8)=false:=by simp;omega
 have t9:(s==9)=false:=by simp;omega
 have t10:(s==10)=false:=by simp;omega
 have t11:(s==11)=false:=by simp;omega
 have t12:(s==12)=false:=by simp;omega
 have t13:(s==13)=false:=by simp;omega
 go_enter Tryz.func130,Tryz.ntmps130
 go_wp2
 go_ret
 exact⟨rfl,rfl⟩
theorem tl_any(s:Int)(w:World):
 Calls Tryz.prog 130 #[.int .i64 s] w fun e w'=>e=.returned (.int .i64 (tlV s))∧w=w':=by
 rcases sign_cases s with(rfl|rfl|rfl|rfl|rfl|rfl|rfl|rfl|rfl|rfl|rfl|rfl|rfl|rfl)|hs
 case inr=>exact tl_no s w hs
 all_goals
  go_enter Tryz.func130,Tryz.ntmps130
  go_wp2
  go_ret
  exact⟨rfl,rfl⟩
theorem can_any(s:Int)(w:World):
 Calls Tryz.prog 131 #[.int .i64 s] w fun e w'=>e=.returned (.bool (tlV s != -1))∧w=w':=by
 go_enter Tryz.func131,Tryz.ntmps131
 go_wp2_with(go_at_call 130;(with_reducible refine(tl_any s _).mono ?_);rintro e w' ⟨rfl,rfl⟩)
 go_ret
 exact⟨rfl,rfl⟩
theorem can_yes(s:Int)(w:World)(h:0≤s∧s≤13):
 Calls Tryz.prog 131 #[.int .i64 s] w fun e w'=>e=.returned (.bool true)∧w=w':=by
 have e:(tlV s != -1)=true:=by unfold tlV;rw[if_pos h];split<;>rfl
 have c:=can_any s w
 rw[e]at c
 exact c
theorem can_no(s:Int)(w:World)(h:¬ (0≤s∧s≤13)):
 Calls Tryz.prog 131 #[.int .i64 s] w fun e w'=>e=.returned (.bool false)∧w=w':=by
 have e:(tlV s != -1)=false:=by unfold tlV;rw[if_neg h];rfl
 have c:=can_any s w
 rw[e]at c
 exact c
def kinB(n m:Int):Bool:=decide (0≤n∧n<m)
theorem among_any(n m:Int)(w:World):Calls Tryz.prog 98 #[.int .i64 n,.int .i64 m] w fun e w'=>e=.returned (.bool (kinB n m))∧w=w':=by
 by_cases h0:0≤n
 ·by_cases h1:n<m
  ·have HB:=hid (show kinB n m=true from decide_eq_true ⟨h0,h1⟩)
   go_enter Tryz.func98,Tryz.ntmps98
   go_wp2
   go_ret
   exact⟨by rw[HB.out];rfl,rfl⟩
  ·have HB:=hid (show kinB n m=false from decide_eq_false (fun h=>h1 h.2))
   have h1':m≤n:=by omega
   go_enter Tryz.func98,Tryz.ntmps98
   go_wp2
   go_ret
   exact⟨by rw[HB.out];rfl,rfl⟩
 ·have HB:=hid (show kinB n m=false from decide_eq_false (fun h=>h0 h.1))
  have h0':n<0:=by omega
  go_enter Tryz.func98,Tryz.ntmps98
  go_wp2
  go_ret
  exact⟨by rw[HB.out];rfl,rfl⟩
theorem sign_any(n:Int)(w:World):Calls Tryz.prog 99 #[.int .i64 n] w fun e w'=>e=.returned (.tuple #[.int .i64 (tlV n),.bool (decide (0≤n∧n≤13))])∧w=w':=by
 by_cases h:0≤n∧n≤13
 ·have HB:=hid (decide_eq_true h)
  go_enter Tryz.func99,Tryz.ntmps99
  go_wp2_with(first|(go_at_call 130;(with_reducible refine(tl_any n _).mono ?_);rintro e w' ⟨rfl,rfl⟩)|(go_at_call 131;(with_reducible refine(can_yes n _ h).mono ?_);rintro e w' ⟨rfl,rfl⟩))
  refine bodyPost_ret (v:=.tuple #[.int .i64 (tlV n),.bool (decide (0≤n∧n≤13))]) (by rw[HB.out];simp[results,Tryz.results99,go_sem]) rfl ⟨rfl,rfl⟩
 ·have HB:=hid (decide_eq_false h)
  go_enter Tryz.func99,Tryz.ntmps99
  go_wp2_with(first|(go_at_call 130;(with_reducible refine(tl_any n _).mono ?_);rintro e w' ⟨rfl,rfl⟩)|(go_at_call 131;(with_reducible refine(can_no n _ h).mono ?_);rintro e w' ⟨rfl,rfl⟩))
  refine bodyPost_ret (v:=.tuple #[.int .i64 (tlV n),.bool (decide (0≤n∧n≤13))]) (by rw[HB.out];simp[results,Tryz.results99,go_sem]) rfl ⟨rfl,rfl⟩
def tyAt(ts:List Int)(v:Int):Int:=nth ts v.toNat
def Among(vs:List Int)(n:Nat):Prop:=∀ v∈vs,0≤v∧v<(n:Int)
def areB(ts:List Int)(t:Int)(vs:List Int):Bool:=vs.all fun v=>tyAt ts v==t
theorem NumsAt.type{w:World}{a:Option Addr}{n:Nat}{ts:List Int}(h:NumsAt w a n ts){v:Int}(hv:0≤v∧v<(n:Int)):∃ (g off k:Nat),a=some ⟨g,off,none⟩∧v=(k:Int)∧k<n∧w.cell? ⟨g,off+k,none⟩=some (.int .i64 (tyAt ts v)):=by
 obtain⟨k,rfl⟩:=Int.eq_ofNat_of_zero_le hv.1
 have hk:k<n:=by omega
 obtain⟨g,off,e,_,hc⟩:=h.2 (by omega)
 refine⟨g,off,k,e,rfl,hk, ?_⟩
 have hl:=h.1
 rw[hc k (by omega)]
 show some (Value.int .i64 _)=_
 rw[show tyAt ts (k:Int)=nth ts k from rfl,nth_is (by omega)]
theorem are_any(ta:Option Addr)(tn tc:Nat)(ts:List Int)(t:Int)(va:Option Addr)(vn vc:Nat)(vs:List Int)(w:World)(ht:NumsAt w ta tn ts)(hv:NumsAt w va vn vs)(ham:Among vs tn)(hvn:vn≤140737488355328)(htn:tn≤140737488355328):
 Calls Tryz.prog 100 #[.slice ta tn tc,.int .i64 t,.slice va vn vc] w fun e w'=>e=.returned (.bool (areB ts t vs))∧w=w':=by
 have HT:=hid ht
 have HV:=hid hv
 have HAM:=hid ham
 have HVL:=hid hv.1
 clear ht hv ham
 go_enter Tryz.func100,Tryz.ntmps100
 go_wp2_with fail
 go_loop [11] (fun iv=>∃ k:Nat,k≤vn∧iv=.int .i64 (k:Int)∧Hid (areB ts t (vs.take k)=true)) (fun iv=>vn-(intOf iv).toNat)
 case atStart=>exact⟨0,Nat.zero_le _,rfl,hid rfl⟩
 case round=>
  obtain⟨k,hk,rfl,HA⟩:=hrel
  by_cases hlt:k<vn
  ·have hkl:k<vs.length:=by rw[HVL.out];exact hlt
   obtain⟨vg,vo,rfl,_,hvc⟩:=HV.out.2 (by omega)
   have hcv:=hvc k hkl
   unfold numV at hcv
   obtain⟨v,hv⟩:∃ v,vs[k]=v:=⟨_,rfl⟩
   obtain⟨tg,tq,j,rfl,e2,hj,hct⟩:=HT.out.type (HAM.out v (by rw[←hv];exact List.getElem_mem _))
   rw[hv,e2]at hcv
   have HN:Hid (areB ts t (vs.take (k+1))=(areB ts t (vs.take k)&&(tyAt ts v==t))):=hid (by
    unfold areB
    rw[List.take_succ_eq_append_getElem hkl,hv,List.all_append]
    simp)
   obtain⟨y,hy⟩:∃ y,tyAt ts v=y:=⟨_,rfl⟩
   rw[hy]at hct HN
   clear hvc hv e2 hy
   by_cases hyt:y=t
   ·subst hyt
    go_wp2_with fail
    go_round
    case rel=>exact⟨k+1,by omega,by go_num,hid (by rw[HN.out,HA.out];simp)⟩
    case measure=>simp[intOf];omega
   ·have hd:(y !=t)=true:=by simpa using hyt
    have HE:Hid (areB ts t vs=false):=hid (by
     have h1:=HN.out
     have h2:areB ts t (vs.take (k+1))=false:=by rw[h1,show(y==t)=false by simpa using hyt];simp
     unfold areB at h2⊢
     rw[List.all_eq_false]at h2⊢
     obtain⟨x,hx,hp⟩:=h2
     exact⟨x,List.mem_of_mem_take hx,hp⟩)
    clear hyt
    go_wp2_with fail
    go_ret
    exact⟨by rw[HE.out];rfl,rfl⟩
  ·obtain rfl:k=vn:=by omega
   have HE:Hid (areB ts t vs=true):=hid (by
    have:=HA.out
    rwa [List.take_of_length_le (by rw[HVL.out];exact Nat.le_refl _)]at this)
   go_wp2_with fail
   go_ret
   exact⟨by rw[HE.out];rfl,rfl⟩
theorem match1_any(b:Nat)(ta:Option Addr)(tn tc:Nat)(ts:List Int)(v want:Int)(w:World)(ht:NumsAt w ta tn ts)(hb:w.cell? ⟨b,0,none⟩=some (.slice ta tn tc))(hv:0≤v∧v<(tn:Int))(htn:tn≤140737488355328):
 Calls Tryz.prog 154 #[.int .i64 v,.int .i64 want,.pointer (some ⟨b,0,none⟩)] w fun e w'=>e=.returned (.bool (tyAt ts v==want))∧w=w':=by
 obtain⟨tg,tq,j,rfl,rfl,hj,hct⟩:=ht.type hv
 obtain⟨y,hy⟩:∃ y,tyAt ts (j:Int)=y:=⟨_,rfl⟩
 rw[hy]at hct⊢
 clear hy hv ht
 go_enter Tryz.func154,Tryz.ntmps154
 go_wp2_with fail
 go_ret
 exact⟨rfl,rfl⟩
def matchB(ts vs ws:List Int):Bool:=decide (vs.map (tyAt ts)=ws)
theorem eqf_any(b:Nat)(ta:Option Addr)(tn tc:Nat)(ts:List Int)(va:Option Addr)(vn vc:Nat)(vs:List Int)(wa:Option Addr)(wn wc:Nat)(ws:List Int)(w:World)(ht:NumsAt w ta tn ts)(hb:w.cell? ⟨b,0,none⟩=some (.slice ta tn tc))(hv:NumsAt w va vn vs)(hw:NumsAt w wa wn ws)(ham:Among vs tn)(hvn:vn≤140737488355328)(hwn:wn≤140737488355328)(htn:tn≤140737488355328):
 Calls Tryz.prog 153 #[.slice va vn vc,.slice wa wn wc,.func (.func 154) #[] #[.pointer (some ⟨b,0,none⟩)]] w fun e w'=>e=.returned (.bool (matchB ts vs ws))∧w=w':=by
 have HVL:=hid hv.1
 have HWL:=hid hw.1
 by_cases hne:vn=wn
 ·subst hne
  have HV:=hid hv
  have HW:=hid hw
  have HAM:=hid ham
  have HC:=hid (fun v want hv=>match1_any b ta tn tc ts v want w ht hb hv htn)
  clear hv hw ham ht hb
  go_enter Tryz.func153,Tryz.ntmps153
  go_wp2_with fail
  go_loop [17] (fun iv=>∃ k:Nat,k≤vn∧iv=.int .i64 (k:Int)∧Hid ((vs.take k).map (tyAt ts)=ws.take k)) (fun iv=>vn-(intOf iv).toNat)
  case atStart=>exact⟨0,Nat.zero_le _,rfl,hid rfl⟩
  case round=>
   obtain⟨k,hk,rfl,HA⟩:=hrel
   by_cases hlt:k<vn
   ·have hkl:k<vs.length:=by rw[HVL.out];exact hlt
    have hkw:k<ws.length:=by rw[HWL.out];exact hlt
    obtain⟨vg,vo,rfl,_,hvc⟩:=HV.out.2 (by omega)
    obtain⟨wg,wo,rfl,_,hwc⟩:=HW.out.2 (by omega)
    have hcv:=hvc k hkl
    have hcw:=hwc k hkw
    unfold numV at hcv hcw
    obtain⟨v,hv⟩:∃ v,vs[k]=v:=⟨_,rfl⟩
    obtain⟨x,hx⟩:∃ x,ws[k]=x:=⟨_,rfl⟩
    rw[hv]at hcv
    rw[hx]at hcw
    have HR:=hid (HAM.out v (by rw[←hv];exact List.getElem_mem _))
    clear hvc hwc
    by_cases hyt:tyAt ts v=x
    ·have HN:Hid ((vs.take (k+1)).map (tyAt ts)=ws.take (k+1)):=hid (by
      rw[List.take_succ_eq_append_getElem hkl,List.take_succ_eq_append_getElem hkw,List.map_append,HA.out,hv,hx,List.map_cons,hyt];rfl)
     have HB:=hid (show(tyAt ts v==x)=true by simpa using hyt)
     clear hyt hv hx
     go_wp2_with(go_at_call 154;(with_reducible refine(HC.out v x HR.out).mono ?_);rintro e w' ⟨rfl,rfl⟩;rw[HB.out])
     go_round
     case rel=>exact⟨k+1,by omega,by go_num,HN⟩
     case measure=>simp[intOf];omega
    ·have HE:Hid (matchB ts vs ws=false):=hid (by
      unfold matchB
      rw[decide_eq_false_iff_not]
      intro he
      apply hyt
      have h1:(vs.map (tyAt ts))[k]? =ws[k]? :=by rw[he]
      rw[List.getElem?_map,List.getElem?_eq_getElem hkl,List.getElem?_eq_getElem hkw,hv,hx]at h1
      simpa using h1)
     have HB:=hid (show(tyAt ts v==x)=false by simpa using hyt)
     clear hyt hv hx
     go_wp2_with(go_at_call 154;(with_reducible refine(HC.out v x HR.out).mono ?_);rintro e w' ⟨rfl,rfl⟩;rw[HB.out])
     go_ret
     exact⟨by rw[HE.out];rfl,rfl⟩
   ·obtain rfl:k=vn:=by omega
    have HE:Hid (matchB ts vs ws=true):=hid (by
     have:=HA.out
     rw[List.take_of_length_le (by rw[HVL.out];exact Nat.le_refl _),List.take_of_length_le (by rw[HWL.out];exact Nat.le_refl _)]at this
     exact decide_eq_true this)
    go_wp2_with fail
    go_ret
    exact⟨by rw[HE.out];rfl,rfl⟩
 ·have HE:Hid (matchB ts vs ws=false):=hid (by
   unfold matchB
   rw[decide_eq_false_iff_not]
   intro he
   have:=congrArg List.length he
   rw[List.length_map,HVL.out,HWL.out]at this
   exact hne this)
  have hd:((vn:Int) !=(wn:Int))=true:=by simp;omega
  clear hne hv hw ham ht hb
  go_enter Tryz.func153,Tryz.ntmps153
  go_wp2_with fail
  go_ret
  exact⟨by rw[HE.out];rfl,rfl⟩
theorem match_any(ta:Option Addr)(tn tc:Nat)(ts:List Int)(va:Option Addr)(vn vc:Nat)(vs:List Int)(wa:Option Addr)(wn wc:Nat)(ws:List Int)(w:World)(ht:NumsAt w ta tn ts)(hv:NumsAt w va vn vs)(hw:NumsAt w wa wn ws)(ham:Among vs tn)(hvn:vn≤140737488355328)(hwn:wn≤140737488355328)(htn:tn≤140737488355328):
 Calls Tryz.prog 132 #[.slice ta tn tc,.slice va vn vc,.slice wa wn wc] w fun e w'=>e=.returned (.bool (matchB ts vs ws))∧Below w.heap.size w w':=by
 have HB:Hid (Below w.heap.size w (w.alloc (.cells #[.slice ta tn tc] 40))):=hid ((Below.refl _ w).alloc (Nat.le_refl _) _)
 have HC:=hid (eqf_any w.heap.size ta tn tc ts va vn vc vs wa wn wc ws (w.alloc (.cells #[.slice ta tn tc] 40)) (ht.since HB.out) (World.cell?_alloc_mark _ _ _ _ _) (hv.since HB.out) (hw.since HB.out) ham hvn hwn htn)
 clear ht hv hw ham
 go_enter Tryz.func132,Tryz.ntmps132
 go_wp2_with(go_at_call 153;(refine(HC.out).mono ?_);rintro e w' ⟨rfl,rfl⟩)
 go_ret
 exact⟨rfl,HB.out⟩
def ptrB(n:Nat)(t:Int):Bool:=decide (6≤t∧t-6<n)
theorem pointer_any(g:Nat)(ca:Option Addr)(cn cc:Nat)(t:Int)(w:World)(hc:w.cell? ⟨g,1,none⟩=some (.slice ca cn cc))(ht: -9223372036854775808≤t∧t≤9223372036854775807)(hn:cn≤140737488355328):
 Calls Tryz.prog 134 #[.pointer (some ⟨g,0,none⟩),.int .i64 t] w fun e w'=>e=.returned (.bool (ptrB cn t))∧w=w':=by
 have HC:=hid (ktype_any g ca cn cc t w hc ht hn)
 clear hc
 by_cases h6:6≤t
 ·have HB:Hid (typB cn t=ptrB cn t):=hid (by
   unfold typB ptrB
   rw[decide_eq_decide]
   omega)
  go_enter Tryz.func134,Tryz.ntmps134
  go_wp2_with(go_at_call 86;(with_reducible refine(HC.out).mono ?_);rintro e w' ⟨rfl,rfl⟩;rw[HB.out])
  go_ret
  exact⟨rfl,rfl⟩
 ·have HB:=hid (show ptrB cn t=false from decide_eq_false (fun h=>h6 h.1))
  have h6':t<6:=by omega
  go_enter Tryz.func134,Tryz.ntmps134
  go_wp2_with fail
  go_ret
  exact⟨by rw[HB.out];rfl,rfl⟩
structure ProgAt(W:World)(g:Nat)(sa:Option Addr)(sn sc:Nat)(ca:Option Addr)(cn cc:Nat)(fa:Option Addr)(fn fc:Nat)(P:ProgD):Prop where
 c0:W.cell? ⟨g,0,none⟩=some (.slice sa sn sc)
 c1:W.cell? ⟨g,1,none⟩=some (.slice ca cn cc)
 c2:W.cell? ⟨g,2,none⟩=some (.slice fa fn fc)
 s:RowV SigQ 2 W (.slice sa sn sc) P.sigs
 c:RowV ClassQ 2 W (.slice ca cn cc) P.classes
 f:RowV FuncQ 2 W (.slice fa fn fc) P.funcs
theorem ProgAt.since{W W':World}{g:Nat}{sa:Option Addr}{sn sc:Nat}{ca:Option Addr}{cn cc:Nat}{fa:Option Addr}{fn fc:Nat}{P:ProgD}(h:ProgAt W g sa sn sc ca cn cc fa fn fc P)(hb:Below W.heap.size W W'):ProgAt W' g sa sn sc ca cn cc fa fn fc P:=
 ⟨(hb.cell (p:=⟨g,0,none⟩) (World.block_lt_of_cell? _ _ h.c0)).trans h.c0,(hb.cell (p:=⟨g,1,none⟩) (World.block_lt_of_cell? _ _ h.c1)).trans h.c1,(hb.cell (p:=⟨g,2,none⟩) (World.block_lt_of_cell? _ _ h.c2)).trans h.c2,h.s.since SigQ.lasts hb,h.c.since ClassQ.lasts hb,h.f.since FuncQ.lasts hb⟩
theorem RowV.len{α:Type}{Q:World→List Value→α→Prop}{k:Nat}{W:World}{a:Option Addr}{n c:Nat}{xs:List α}(h:RowV Q k W (.slice a n c) xs):xs.length=n∧n≤140737488351232:=by
 obtain⟨a',n',c',e,hl,_,hm,_⟩:=h
 cases e
 exact⟨hl,hm⟩
theorem RowV.elem{α:Type}{Q:World→List Value→α→Prop}{k:Nat}{W:World}{a:Option Addr}{n c:Nat}{xs:List α}(h:RowV Q k W (.slice a n c) xs){i:Nat}(hi:i<n):
 ∃(g off:Nat) (cs:List Value) (hx:i<xs.length),a=some ⟨g,off,none⟩∧cs.length=k∧(∀j (hj:j<cs.length),W.cell? ⟨g,off+i*k+j,none⟩=some cs[j])∧Q W cs xs[i]:=by
 obtain⟨a',n',c',e,hl,_,hm,hc⟩:=h
 cases e
 obtain⟨g,off,ea,_,hat⟩:=hc (by omega)
 obtain⟨cs,h1,h2,h3⟩:=hat i (by omega)
 exact⟨g,off,cs,by omega,ea,h1,h2,h3⟩
def fieldsOf(P:ProgD)(k:Nat):List Int:=match P.classes[k]? with|some c=>c.fields|none=>[]
def fieldS(P:ProgD)(t n:Int):Int×Bool:=if 6≤t∧t-6<P.classes.length then(if 0≤n∧n<(fieldsOf P (t-6).toNat).length then(nth (fieldsOf P (t-6).toNat) n.toNat,true)else(-1,false))else(-1,false)
theorem field_any(g:Nat){sa:Option Addr}{sn sc:Nat}{ca:Option Addr}{cn cc:Nat}{fa:Option Addr}{fn fc:Nat}{P:ProgD}(t n:Int)(w:World)(hP:ProgAt w g sa sn sc ca cn cc fa fn fc P)(ht: -9223372036854775808≤t∧t≤9223372036854775807)(hn: -9223372036854775808≤n∧n≤9223372036854775807):
 Calls Tryz.prog 133 #[.pointer (some ⟨g,0,none⟩),.int .i64 t,.int .i64 n] w fun e w'=>e=.returned (.tuple #[.int .i64 (fieldS P t n).1,.bool (fieldS P t n).2])∧w=w':=by
 have hlc:=hP.c.len
 have HPT:=hid (pointer_any g ca cn cc t w hP.c1 ht (by omega))
 by_cases h:6≤t∧t-6<cn
 ·have HB:=hid (show ptrB cn t=true from decide_eq_true h)
  obtain⟨k,hk⟩:=Int.eq_ofNat_of_zero_le (show 0≤t-6 by omega)
  have hkn:k<cn:=by omega
  obtain⟨cg,co,cs,hx,rfl,hcl,hcs,f,m,rfl,⟨a,fnn,fcc,rfl,hat,_,hfb,_⟩,_⟩:=hP.c.elem hkn
  have hc0:w.cell? ⟨cg,co+k*2,none⟩=some (.slice a fnn fcc):=hcs 0 (by simp)
  have hfo:fieldsOf P k=(P.classes[k]).fields:=by unfold fieldsOf;rw[List.getElem?_eq_getElem hx]
  obtain⟨l,hl⟩:∃ l,(P.classes[k]).fields=l:=⟨_,rfl⟩
  rw[hl]at hat hfo
  have HNL:=hid hat.1
  by_cases h2:0≤n∧n<(fnn:Int)
  ·obtain⟨i,rfl⟩:=Int.eq_ofNat_of_zero_le h2.1
   have hi:i<fnn:=by omega
   have HE:Hid (fieldS P t (i:Int)=(nth l i,true)):=hid (by
    unfold fieldS
    rw[if_pos (by omega),hk,show((k:Int)).toNat=k from rfl,hfo,if_pos (by have:=hat.1;omega)]
    rfl)
   obtain⟨fg,fo,rfl,_,hfc⟩:=hat.2 (by omega)
   have hci:w.cell? ⟨fg,fo+i,none⟩=some (.int .i64 (nth l i)):=by have h3:=hfc i (by have:=hat.1;omega);rw[nth_is (by have:=hat.1;omega)];exact h3
   have HI:=hid (show kinB (i:Int) (fnn:Int)=true from decide_eq_true h2)
   have ht2:t=(k:Int)+6:=by omega
   subst ht2
   have hP1:=hP.c1
   clear hcs hfc hat h2 h hk hl
   go_enter Tryz.func133,Tryz.ntmps133
   go_wp2_with(first|(go_at_call 134;(with_reducible refine(HPT.out).mono ?_);rintro e w' ⟨rfl,rfl⟩;rw[HB.out])|(go_at_call 98;(with_reducible refine(among_any _ _ _).mono ?_);rintro e w' ⟨rfl,rfl⟩;rw[HI.out]))
   refine bodyPost_ret (v:=.tuple #[.int .i64 (nth l i),.bool true]) (by simp[results,Tryz.results133,go_sem]) rfl ⟨by rw[HE.out],rfl⟩
  ·have HE:Hid (fieldS P t n=(-1,false)):=hid (by
    unfold fieldS
    rw[if_pos (by omega),hk,show((k:Int)).toNat=k from rfl,hfo,if_neg (by have:=hat.1;omega)])
   have HI:=hid (show kinB n (fnn:Int)=false from decide_eq_false h2)
   have ht2:t=(k:Int)+6:=by omega
   subst ht2
   have hP1:=hP.c1
   clear hcs hat h2 h hk hl
   go_enter Tryz.func133,Tryz.ntmps133
   go_wp2_with(first|(go_at_call 134;(with_reducible refine(HPT.out).mono ?_);rintro e w' ⟨rfl,rfl⟩;rw[HB.out])|(go_at_call 98;(with_reducible refine(among_any _ _ _).mono ?_);rintro e w' ⟨rfl,rfl⟩;rw[HI.out]))
   refine bodyPost_ret (v:=.tuple #[.int .i64 (-1),.bool false]) (by simp[results,Tryz.results133,go_sem]) rfl ⟨by rw[HE.out],rfl⟩
 ·have HB:=hid (show ptrB cn t=false from decide_eq_false h)
  have HE:Hid (fieldS P t n=(-1,false)):=hid (by
   unfold fieldS
   rw[if_neg (by omega)])
  clear h hP
  go_enter Tryz.func133,Tryz.ntmps133
  go_wp2_with(go_at_call 134;(with_reducible refine(HPT.out).mono ?_);rintro e w' ⟨rfl,rfl⟩;rw[HB.out])
  refine bodyPost_ret (v:=.tuple #[.int .i64 (-1),.bool false]) (by simp[results,Tryz.results133,go_sem]) rfl ⟨by rw[HE.out],rfl⟩
def paramsOf(F:FuncD):List Int:=match F.blocks with|b::_=>b.params| []=>[]
def callS(F:FuncD)(ts L:List Int):Int×Bool:=if F.blocks.length=0 then(-1,false)else(F.ret,matchB ts L (paramsOf F))
set_option maxRecDepth 100000 in
theorem call_any(ba:Option Addr)(bn bc:Nat)(F:FuncD)(K A B C N:Int)(S:ByteArray)(la:Option Addr)(ln lc:Nat)(T:Bool)(L:List Int)(ta:Option Addr)(tn tc:Nat)(ts:List Int)(w:World)
 (hF:RowV BlockQ 8 w (.slice ba bn bc) F.blocks)(hat:NumsAt w la ln L)(hln:ln≤17592186044000)(ht:NumsAt w ta tn ts)(htn:tn≤140737488355328)(ham:Among L tn):
 Calls Tryz.prog 135 #[.agg #[.int .i64 F.ret,.slice ba bn bc],.agg #[.int .i64 K,.int .i64 A,.int .i64 B,.int .i64 C,.int .i64 N,.string S,.slice la ln lc,.bool T],.slice ta tn tc] w
  fun e w'=>e=.returned (.tuple #[.int .i64 (callS F ts L).1,.bool (callS F ts L).2])∧Below w.heap.size w w':=by
 have hl:=hF.len
 by_cases h0:bn=0
 ·subst h0
  have HE:Hid (callS F ts L=(-1,false)):=hid (by unfold callS;rw[if_pos hl.1])
  clear hF hat ht ham
  go_enter Tryz.func135,Tryz.ntmps135
  go_wp2_with fail
  refine bodyPost_ret (v:=.tuple #[.int .i64 (-1),.bool false]) (by simp[results,Tryz.results135,go_sem]) rfl ⟨by rw[HE.out],((Below.refl _ w).alloc (Nat.le_refl _) _).alloc (by simp) _⟩
 ·obtain⟨bg,bo,cs,hx,rfl,hcl,hcs,p,o,es,rfl,⟨pa,pn,pc,rfl,hpat,_,hpb,_⟩,_⟩:=hF.elem (i:=0) (by omega)
  have hc0:w.cell? ⟨bg,bo,none⟩=some (.slice pa pn pc):=by have:=hcs 0 (by simp);rw[Nat.zero_mul]at this;exact this
  have HE:Hid (callS F ts L=(F.ret,matchB ts L F.blocks[0].params)):=hid (by
   unfold callS paramsOf
   rw[if_neg (by omega)]
   clear hcs hpat
   revert hx
   cases F.blocks with
   |nil=>intro hx;exact absurd hx (by simp)
   |cons b r=>intros;rfl)
  obtain⟨ps,hps⟩:∃ ps,F.blocks[0].params=ps:=⟨_,rfl⟩
  rw[hps]at hpat HE
  have HB2:Hid (∀C0 C1 t0 t1,Below w.heap.size w ((w.alloc (.cells C0 t0)).alloc (.cells C1 t1)).drew):=hid (fun _ _ _ _=>(((Below.refl w.heap.size w).alloc (Nat.le_refl _) _).alloc (by simp) _).drew)
  have HM:=hid (fun u hu=>match_any ta tn tc ts la ln lc L pa pn pc ps u (ht.since hu) (hat.since hu) (hpat.since hu) ham (by omega) (by omega) htn)
  have hcu:∀ u,Below w.heap.size w u→u.cell? ⟨bg,bo,none⟩=some (.slice pa pn pc):=fun u hu=>(hu.cell (p:=⟨bg,bo,none⟩) (World.block_lt_of_cell? _ _ hc0)).trans hc0
  have hne:¬ bn=0:=h0
  have hb0:0<bn:=by omega
  clear hcs hpat hF hat ht ham h0 hps hc0
  go_enter Tryz.func135,Tryz.ntmps135
  go_wp2_with fail
  obtain⟨W0,hW0⟩:∃ W0,W0=((w.alloc (.cells #[.int .i64 F.ret,.slice (some ⟨bg,bo,none⟩) bn bc] 36)).alloc (.cells #[.int .i64 K,.int .i64 A,.int .i64 B,.int .i64 C,.int .i64 N,.string S,.slice la ln lc,.bool T] 64)):=⟨_,rfl⟩
  have HALL:Hid (∀u,Below (w.heap.size+2) W0 u→u.cell? ⟨w.heap.size,0,none⟩=some (.int .i64 F.ret)∧u.cell? ⟨w.heap.size,1,none⟩=some (.slice (some ⟨bg,bo,none⟩) bn bc)∧u.cell? ⟨w.heap.size+1,6,none⟩=some (.slice la ln lc)∧u.cell? ⟨bg,bo,none⟩=some (.slice pa pn pc)):=hid (fun u hu=>by
   have hw:Below w.heap.size w u:=(by rw[hW0];exact((Below.refl w.heap.size w).alloc (Nat.le_refl _) _).alloc (by simp) _:Below w.heap.size w W0).trans (hu.mono (by omega))
   have h2:=hcu u hw
   rw[hW0]at hu
   obtain⟨a0,a1,_,_⟩:=cell_laid2 hu
   exact⟨a0 0,a0 1,a1 6,h2⟩)
  have HW:Hid (∀u,Below (w.heap.size+2) W0 u→Below w.heap.size w u):=hid (fun u hu=>(by rw[hW0];exact((Below.refl w.heap.size w).alloc (Nat.le_refl _) _).alloc (by simp) _:Below w.heap.size w W0).trans (hu.mono (by omega)))
  have HZ:Hid (w.heap.size+2≤W0.heap.size):=hid (by rw[hW0];simp)
  have H0:Hid (Below (w.heap.size+2) W0 W0.drew):=hid (Below.refl _ _).drew
  rw[←hW0]
  clear hW0 hcu
  go_region_held3 (fun u=>u.cell? ⟨w.heap.size,0,none⟩=some (.int .i64 F.ret)∧u.cell? ⟨w.heap.size,1,none⟩=some (.slice (some ⟨bg,bo,none⟩) bn bc)∧u.cell? ⟨w.heap.size+1,6,none⟩=some (.slice la ln lc)∧u.cell? ⟨bg,bo,none⟩=some (.slice pa pn pc))
   (exact HALL.out _ (Hid.out (by assumption)))
   (first|(go_at_call 132;(with_reducible refine(HM.out _ (HW.out _ (Hid.out (by assumption)))).mono ?_);rintro e w' ⟨rfl,hb⟩;have HB:=hid (keepN (Hid.out (by assumption:Hid (Below (w.heap.size+2) W0 _))) HZ.out hb);clear hb))
  all_goals go_wp2_with fail
  all_goals exact bodyPost_ret (v:=.tuple #[.int .i64 F.ret,.bool (matchB ts L ps)]) (by simp[results,Tryz.results135,go_sem]) rfl ⟨by rw[HE.out],HW.out _ (Hid.out (by assumption))⟩
def sigOf(P:ProgD)(k:Nat):SigD:=match P.sigs[k]? with|some s=>s|none=>⟨[],0⟩
def funcOf(P:ProgD)(k:Nat):FuncD:=match P.funcs[k]? with|some f=>f|none=>⟨0,[]⟩
def rowS(P:ProgD)(K N:Int)(S:ByteArray)(l:List Int):Int×Bool:=
 if K=0 then(0,true)else if K=1 then(1,N==0||N==1)else if K=2 then(2,decide (S.size≤64))else
 if K=3 then(tlV N,decide (0≤N∧N≤13)&&sameB l [0,0])else if K=4 then(1,sameB l [1])else if K=5 then(2,sameB l [2,2])else
 if K=6 then(0,sameB l [2])else if K=7 then(0,sameB l [2,0])else if K=8 then(1,sameB l [2,2])else
 if K=9 then(if 0≤N∧N<P.classes.length then(6+N,sameB l (fieldsOf P N.toNat))else(-1,false))else
 if K=10 then fieldS P (nth l 0) N else
 if K=11 then(-1,(fieldS P (nth l 0) N).2&&(nth l 1==(fieldS P (nth l 0) N).1))else
 if K=12 then(3,decide (0≤N∧N≤128))else if K=13 then(3,sameB l [0])else if K=14 then(0,sameB l [3])else if K=15 then(0,sameB l [3,0])else
 if K=16 then(-1,sameB l [3,0,0])else if K=17 then(4,true)else if K=18 then(-1,sameB l [4,0,0])else if K=19 then(0,sameB l [4,0])else
 if K=20 then(0,sameB l [4])else if K=21 then(0,sameB l [4,0])else if K=22 then(5,ptrB P.classes.length (nth l 0))else
 if K=23 then(if 0≤N∧N<P.funcs.length∧(funcOf P N.toNat).blocks.length≠0 then((funcOf P N.toNat).ret,sameB l (paramsOf (funcOf P N.toNat)))else(-1,false))else
 if K=24 then(if 0≤N∧N<P.sigs.length then((sigOf P N.toNat).ret,nth l 0==5&&sameB (l.drop 1) (sigOf P N.toNat).params)else(-1,false))else
 if K=25 then(-1,sameB l [0]||sameB l [2])else(-1,false)
def RowPost(r:Int×Bool)(w:World)(e:Ending)(w':World):Prop:=∃ t,e=.returned (.tuple #[.int .i64 t,.bool r.2])∧(r.2=true→t=r.1)∧Below w.heap.size w w'
theorem areB_one(ts:List Int)(t v:Int):areB ts t [v]=(tyAt ts v==t):=by simp[areB]
theorem areB_two(ts:List Int)(t v u:Int):areB ts t [v,u]=((tyAt ts v==t)&&(tyAt ts u==t)):=by simp[areB]
theorem sameB_one(x y:Int):sameB [x] [y]=(x==y):=by
 rw[Bool.eq_iff_iff];simp[sameB]
theorem sameB_two(x y x' y':Int):sameB [x,y] [x',y']=((x==x')&&(y==y')):=by
 rw[Bool.eq_iff_iff];simp[sameB]
theorem sameB_three(x y z x' y' z':Int):sameB [x,y,z] [x',y',z']=((x==x')&&((y==y')&&(z==z'))):=by
 rw[Bool.eq_iff_iff];simp[sameB]
theorem below2(w:World)(C0 C1:Array Value)(t0 t1:TypeId):Below w.heap.size w ((w.alloc (.cells C0 t0)).alloc (.cells C1 t1)):=((Below.refl w.heap.size w).alloc (Nat.le_refl _) _).alloc (by simp) _
theorem below3(w:World)(C0 C1 C2:Array Value)(t0 t1 t2:TypeId):Below w.heap.size w (((w.alloc (.cells C0 t0)).alloc (.cells C1 t1)).alloc (.cells C2 t2)):=(((Below.refl w.heap.size w).alloc (Nat.le_refl _) _).alloc (by simp) _).alloc (by simp<;>omega) _
theorem below1(w:World)(C0:Array Value)(t0:TypeId):Below w.heap.size w (w.alloc (.cells C0 t0)):=(Below.refl w.heap.size w).alloc (Nat.le_refl _) _
theorem nums_laid{w:World}{e:TypeId}{n0:Nat}(n:Nat)(Z:List Int)(C:Array Value)(hC:C=(Z.map numV).toArray)(hn:Z.length=n)(h0:n0=w.heap.size):NumsAt (w.alloc (.cells C e)) (some ⟨n0,0,none⟩) n Z:=by
 subst hC hn h0
 refine⟨rfl,fun _=>⟨w.heap.size,0,rfl,by simp,fun j hj=> ?_⟩⟩
 rw[Nat.zero_add,World.cell?_alloc_mark]
 simp[hj]
theorem tyAt_mem{ts:List Int}{n:Nat}(hl:ts.length=n){v:Int}(hv:0≤v∧v<(n:Int)):tyAt ts v∈ts:=by
 unfold tyAt
 rw[nth_is (by omega)]
 exact List.getElem_mem _
theorem _root_.Go.RowKit.Below.drewq{B:Nat}{w w':World}(h:Below B w w')(q:Nat):Below B w (w'.drewN q):=h.trans ⟨rfl,rfl,rfl,Nat.le_refl _,fun _ _=>rfl⟩
theorem row_4(pv:Value)(P:ProgD)(A B C N:Int)(S:ByteArray)(la:Option Addr)(ln lc:Nat)(T:Bool)(L:List Int)(ta:Option Addr)(tn tc:Nat)(ts:List Int)(w:World)(ht:NumsAt w ta tn ts)(htn:tn≤140737488355328)(ham:Among (usesL 4 A B C L) tn):
 Calls Tryz.prog 68 #[pv,.agg #[.int .i64 4,.int .i64 A,.int .i64 B,.int .i64 C,.int .i64 N,.string S,.slice la ln lc,.bool T],.slice ta tn tc] w (RowPost (rowS P 4 N S ((usesL 4 A B C L).map (tyAt ts))) w):=by
 have HT:Hid (∀u,Below w.heap.size w u→NumsAt u ta tn ts):=hid (fun u hu=>ht.since hu)
 have hu:usesL 4 A B C L=[A]:=by simp[usesL,hasB,fieldsL,oneL,pickL]
 rw[hu]at ham⊢
 have HA_A:Hid (Among [A] tn):=hid (fun v hv=>ham v (by simp at hv ⊢;omega))
 have HR1:Hid ((rowS P 4 N S ([A].map (tyAt ts))).1=1):=hid rfl
 have hr:(rowS P 4 N S ([A].map (tyAt ts))).2=(areB ts 1 [A]):=by
  show sameB _ _=_
  simp only[List.map_cons,List.map_nil,sameB_one,areB_one]
 clear ht ham hu
 cases h0:areB ts 1 [A]with
 |false=>
  have H0:=hid h0
  have C0:Hid (Calls Tryz.prog 100 #[.slice ta tn tc,.int .i64 1,.slice (some ⟨w.heap.size+1,0,none⟩) 1 1] ((w.alloc (.cells #[.int .i64 4,.int .i64 A,.int .i64 B,.int .i64 C,.int .i64 N,.string S,.slice la ln lc,.bool T] 64)).alloc (.cells #[.int .i64 A] 3)) (fun e w'=>e=.returned (.bool false)∧((w.alloc (.cells #[.int .i64 4,.int .i64 A,.int .i64 B,.int .i64 C,.int .i64 N,.string S,.slice la ln lc,.bool T] 64)).alloc (.cells #[.int .i64 A] 3))=w')):=hid (by rw[←H0.out];exact are_any ta tn tc ts 1 _ 1 _ [A] _ (HT.out _ (below2 _ _ _ _ _)) (nums_laid 1 [A] _ rfl rfl (by simp)) HA_A.out (by decide) htn)
  have HR:Hid ((rowS P 4 N S ([A].map (tyAt ts))).2=false):=hid (by rw[hr,h0])
  clear hr h0
  go_enter Tryz.func68,Tryz.ntmps68
  go_wp2_with(first|(go_at_call 100;(with_reducible refine(C0.out).mono ?_);rintro e w' ⟨rfl,rfl⟩))
  refine bodyPost_ret (v:=.tuple #[.int .i64 1,.bool false]) (by simp[results,Tryz.results68,go_sem]) rfl ⟨1,by rw[HR.out],fun _=>HR1.out.symm,below2 _ _ _ _ _⟩
 |true=>
  have H0:=hid h0
  have C0:Hid (Calls Tryz.prog 100 #[.slice ta tn tc,.int .i64 1,.slice (some ⟨w.heap.size+1,0,none⟩) 1 1] ((w.alloc (.cells #[.int .i64 4,.int .i64 A,.int .i64 B,.int .i64 C,.int .i64 N,.string S,.slice la ln lc,.bool T] 64)).alloc (.cells #[.int .i64 A] 3)) (fun e w'=>e=.returned (.bool true)∧((w.alloc (.cells #[.int .i64 4,.int .i64 A,.int .i64 B,.int .i64 C,.int .i64 N,.string S,.slice la ln lc,.bool T] 64)).alloc (.cells #[.int .i64 A] 3))=w')):=hid (by rw[←H0.out];exact are_any ta tn tc ts 1 _ 1 _ [A] _ (HT.out _ (below2 _ _ _ _ _)) (nums_laid 1 [A] _ rfl rfl (by simp)) HA_A.out (by decide) htn)
  have HR:Hid ((rowS P 4 N S ([A].map (tyAt ts))).2=true):=hid (by rw[hr,h0])
  clear hr h0
  go_enter Tryz.func68,Tryz.ntmps68
  go_wp2_with(first|(go_at_call 100;(with_reducible refine(C0.out).mono ?_);rintro e w' ⟨rfl,rfl⟩))
  refine bodyPost_ret (v:=.tuple #[.int .i64 1,.bool true]) (by simp[results,Tryz.results68,go_sem]) rfl ⟨1,by rw[HR.out],fun _=>HR1.out.symm,below2 _ _ _ _ _⟩
theorem row_5(pv:Value)(P:ProgD)(A B C N:Int)(S:ByteArray)(la:Option Addr)(ln lc:Nat)(T:Bool)(L:List Int)(ta:Option Addr)(tn tc:Nat)(ts:List Int)(w:World)(ht:NumsAt w ta tn ts)(htn:tn≤140737488355328)(ham:Among (usesL 5 A B C L) tn):
 Calls Tryz.prog 68 #[pv,.agg #[.int .i64 5,.int .i64 A,.int .i64 B,.int .i64 C,.int .i64 N,.string S,.slice la ln lc,.bool T],.slice ta tn tc] w (RowPost (rowS P 5 N S ((usesL 5 A B C L).map (tyAt ts))) w):=by
 have HT:Hid (∀u,Below w.heap.size w u→NumsAt u ta tn ts):=hid (fun u hu=>ht.since hu)
 have hu:usesL 5 A B C L=[A,B]:=by simp[usesL,hasB,fieldsL,oneL,pickL]
 rw[hu]at ham⊢
 have HA_AB:Hid (Among [A,B] tn):=hid (fun v hv=>ham v (by simp at hv ⊢;omega))
 have HR1:Hid ((rowS P 5 N S ([A,B].map (tyAt ts))).1=2):=hid rfl
 have hr:(rowS P 5 N S ([A,B].map (tyAt ts))).2=(areB ts 2 [A,B]):=by
  show sameB _ _=_
  simp only[List.map_cons,List.map_nil,sameB_two,areB_two]
 clear ht ham hu
 cases h0:areB ts 2 [A,B]with
 |false=>
  have H0:=hid h0
  have C0:Hid (Calls Tryz.prog 100 #[.slice ta tn tc,.int .i64 2,.slice (some ⟨w.heap.size+1,0,none⟩) 2 2] ((w.alloc (.cells #[.int .i64 5,.int .i64 A,.int .i64 B,.int .i64 C,.int .i64 N,.string S,.slice la ln lc,.bool T] 64)).alloc (.cells #[.int .i64 A,.int .i64 B] 3)) (fun e w'=>e=.returned (.bool false)∧((w.alloc (.cells #[.int .i64 5,.int .i64 A,.int .i64 B,.int .i64 C,.int .i64 N,.string S,.slice la ln lc,.bool T] 64)).alloc (.cells #[.int .i64 A,.int .i64 B] 3))=w')):=hid (by rw[←H0.out];exact are_any ta tn tc ts 2 _ 2 _ [A,B] _ (HT.out _ (below2 _ _ _ _ _)) (nums_laid 2 [A,B] _ rfl rfl (by simp)) HA_AB.out (by decide) htn)
  have HR:Hid ((rowS P 5 N S ([A,B].map (tyAt ts))).2=false):=hid (by rw[hr,h0])
  clear hr h0
  go_enter Tryz.func68,Tryz.ntmps68
  go_wp2_with(first|(go_at_call 100;(with_reducible refine(C0.out).mono ?_);rintro e w' ⟨rfl,rfl⟩))
  refine bodyPost_ret (v:=.tuple #[.int .i64 2,.bool false]) (by simp[results,Tryz.results68,go_sem]) rfl ⟨2,by rw[HR.out],fun _=>HR1.out.symm,below2 _ _ _ _ _⟩
 |true=>
  have H0:=hid h0
  have C0:Hid (Calls Tryz.prog 100 #[.slice ta tn tc,.int .i64 2,.slice (some ⟨w.heap.size+1,0,none⟩) 2 2] ((w.alloc (.cells #[.int .i64 5,.int .i64 A,.int .i64 B,.int .i64 C,.int .i64 N,.string S,.slice la ln lc,.bool T] 64)).alloc (.cells #[.int .i64 A,.int .i64 B] 3)) (fun e w'=>e=.returned (.bool true)∧((w.alloc (.cells #[.int .i64 5,.int .i64 A,.int .i64 B,.int .i64 C,.int .i64 N,.string S,.slice la ln lc,.bool T] 64)).alloc (.cells #[.int .i64 A,.int .i64 B] 3))=w')):=hid (by rw[←H0.out];exact are_any ta tn tc ts 2 _ 2 _ [A,B] _ (HT.out _ (below2 _ _ _ _ _)) (nums_laid 2 [A,B] _ rfl rfl (by simp)) HA_AB.out (by decide) htn)
  have HR:Hid ((rowS P 5 N S ([A,B].map (tyAt ts))).2=true):=hid (by rw[hr,h0])
  clear hr h0
  go_enter Tryz.func68,Tryz.ntmps68
  go_wp2_with(first|(go_at_call 100;(with_reducible refine(C0.out).mono ?_);rintro e w' ⟨rfl,rfl⟩))
  refine bodyPost_ret (v:=.tuple #[.int .i64 2,.bool true]) (by simp[results,Tryz.results68,go_sem]) rfl ⟨2,by rw[HR.out],fun _=>HR1.out.symm,below2 _ _ _ _ _⟩
theorem row_6(pv:Value)(P:ProgD)(A B C N:Int)(S:ByteArray)(la:Option Addr)(ln lc:Nat)(T:Bool)(L:List Int)(ta:Option Addr)(tn tc:Nat)(ts:List Int)(w:World)(ht:NumsAt w ta tn ts)(htn:tn≤140737488355328)(ham:Among (usesL 6 A B C L) tn):
 Calls Tryz.prog 68 #[pv,.agg #[.int .i64 6,.int .i64 A,.int .i64 B,.int .i64 C,.int .i64 N,.string S,.slice la ln lc,.bool T],.slice ta tn tc] w (RowPost (rowS P 6 N S ((usesL 6 A B C L).map (tyAt ts))) w):=by
 have HT:Hid (∀u,Below w.heap.size w u→NumsAt u ta tn ts):=hid (fun u hu=>ht.since hu)
 have hu:usesL 6 A B C L=[A]:=by simp[usesL,hasB,fieldsL,oneL,pickL]
 rw[hu]at ham⊢
 have HA_A:Hid (Among [A] tn):=hid (fun v hv=>ham v (by simp at hv ⊢;omega))
 have HR1:Hid ((rowS P 6 N S ([A].map (tyAt ts))).1=0):=hid rfl
 have hr:(rowS P 6 N S ([A].map (tyAt ts))).2=(areB ts 2 [A]):=by
  show sameB _ _=_
  simp only[List.map_cons,List.map_nil,sameB_one,areB_one]
 clear ht ham hu
 cases h0:areB ts 2 [A]with
 |false=>
  have H0:=hid h0
  have C0:Hid (Calls Tryz.prog 100 #[.slice ta tn tc,.int .i64 2,.slice (some ⟨w.heap.size+1,0,none⟩) 1 1] ((w.alloc (.cells #[.int .i64 6,.int .i64 A,.int .i64 B,.int .i64 C,.int .i64 N,.string S,.slice la ln lc,.bool T] 64)).alloc (.cells #[.int .i64 A] 3)) (fun e w'=>e=.returned (.bool false)∧((w.alloc (.cells #[.int .i64 6,.int .i64 A,.int .i64 B,.int .i64 C,.int .i64 N,.string S,.slice la ln lc,.bool T] 64)).alloc (.cells #[.int .i64 A] 3))=w')):=hid (by rw[←H0.out];exact are_any ta tn tc ts 2 _ 1 _ [A] _ (HT.out _ (below2 _ _ _ _ _)) (nums_laid 1 [A] _ rfl rfl (by simp)) HA_A.out (by decide) htn)
  have HR:Hid ((rowS P 6 N S ([A].map (tyAt ts))).2=false):=hid (by rw[hr,h0])
  clear hr h0
  go_enter Tryz.func68,Tryz.ntmps68
  go_wp2_with(first|(go_at_call 100;(with_reducible refine(C0.out).mono ?_);rintro e w' ⟨rfl,rfl⟩))
  refine bodyPost_ret (v:=.tuple #[.int .i64 0,.bool false]) (by simp[results,Tryz.results68,go_sem]) rfl ⟨0,by rw[HR.out],fun _=>HR1.out.symm,below2 _ _ _ _ _⟩
 |true=>
  have H0:=hid h0
  have C0:Hid (Calls Tryz.prog 100 #[.slice ta tn tc,.int .i64 2,.slice (some ⟨w.heap.size+1,0,none⟩) 1 1] ((w.alloc (.cells #[.int .i64 6,.int .i64 A,.int .i64 B,.int .i64 C,.int .i64 N,.string S,.slice la ln lc,.bool T] 64)).alloc (.cells #[.int .i64 A] 3)) (fun e w'=>e=.returned (.bool true)∧((w.alloc (.cells #[.int .i64 6,.int .i64 A,.int .i64 B,.int .i64 C,.int .i64 N,.string S,.slice la ln lc,.bool T] 64)).alloc (.cells #[.int .i64 A] 3))=w')):=hid (by rw[←H0.out];exact are_any ta tn tc ts 2 _ 1 _ [A] _ (HT.out _ (below2 _ _ _ _ _)) (nums_laid 1 [A] _ rfl rfl (by simp)) HA_A.out (by decide) htn)
  have HR:Hid ((rowS P 6 N S ([A].map (tyAt ts))).2=true):=hid (by rw[hr,h0])
  clear hr h0
  go_enter Tryz.func68,Tryz.ntmps68
  go_wp2_with(first|(go_at_call 100;(with_reducible refine(C0.out).mono ?_);rintro e w' ⟨rfl,rfl⟩))
  refine bodyPost_ret (v:=.tuple #[.int .i64 0,.bool true]) (by simp[results,Tryz.results68,go_sem]) rfl ⟨0,by rw[HR.out],fun _=>HR1.out.symm,below2 _ _ _ _ _⟩
theorem row_7(pv:Value)(P:ProgD)(A B C N:Int)(S:ByteArray)(la:Option Addr)(ln lc:Nat)(T:Bool)(L:List Int)(ta:Option Addr)(tn tc:Nat)(ts:List Int)(w:World)(ht:NumsAt w ta tn ts)(htn:tn≤140737488355328)(ham:Among (usesL 7 A B C L) tn):
 Calls Tryz.prog 68 #[pv,.agg #[.int .i64 7,.int .i64 A,.int .i64 B,.int .i64 C,.int .i64 N,.string S,.slice la ln lc,.bool T],.slice ta tn tc] w (RowPost (rowS P 7 N S ((usesL 7 A B C L).map (tyAt ts))) w):=by
 have HT:Hid (∀u,Below w.heap.size w u→NumsAt u ta tn ts):=hid (fun u hu=>ht.since hu)
 have hu:usesL 7 A B C L=[A,B]:=by simp[usesL,hasB,fieldsL,oneL,pickL]
 rw[hu]at ham⊢
 have HA_A:Hid (Among [A] tn):=hid (fun v hv=>ham v (by simp at hv ⊢;omega))
 have HA_B:Hid (Among [B] tn):=hid (fun v hv=>ham v (by simp at hv ⊢;omega))
 have HR1:Hid ((rowS P 7 N S ([A,B].map (tyAt ts))).1=0):=hid rfl
 have hr:(rowS P 7 N S ([A,B].map (tyAt ts))).2=(areB ts 2 [A]&&areB ts 0 [B]):=by
  show sameB _ _=_
  simp only[List.map_cons,List.map_nil,sameB_two,areB_one]
 clear ht ham hu
 cases h0:areB ts 2 [A]with
 |false=>
  have H0:=hid h0
  have C0:Hid (Calls Tryz.prog 100 #[.slice ta tn tc,.int .i64 2,.slice (some ⟨w.heap.size+1,0,none⟩) 1 1] ((w.alloc (.cells #[.int .i64 7,.int .i64 A,.int .i64 B,.int .i64 C,.int .i64 N,.string S,.slice la ln lc,.bool T] 64)).alloc (.cells #[.int .i64 A] 3)) (fun e w'=>e=.returned (.bool false)∧((w.alloc (.cells #[.int .i64 7,.int .i64 A,.int .i64 B,.int .i64 C,.int .i64 N,.string S,.slice la ln lc,.bool T] 64)).alloc (.cells #[.int .i64 A] 3))=w')):=hid (by rw[←H0.out];exact are_any ta tn tc ts 2 _ 1 _ [A] _ (HT.out _ (below2 _ _ _ _ _)) (nums_laid 1 [A] _ rfl rfl (by simp)) HA_A.out (by decide) htn)
  have HR:Hid ((rowS P 7 N S ([A,B].map (tyAt ts))).2=false):=hid (by rw[hr,h0];rfl)
  clear hr h0
  go_enter Tryz.func68,Tryz.ntmps68
  go_wp2_with(first|(go_at_call 100;(with_reducible refine(C0.out).mono ?_);rintro e w' ⟨rfl,rfl⟩))
  refine bodyPost_ret (v:=.tuple #[.int .i64 0,.bool false]) (by simp[results,Tryz.results68,go_sem]) rfl ⟨0,by rw[HR.out],fun _=>HR1.out.symm,below2 _ _ _ _ _⟩
 |true=>
  have H0:=hid h0
  have C0:Hid (Calls Tryz.prog 100 #[.slice ta tn tc,.int .i64 2,.slice (some ⟨w.heap.size+1,0,none⟩) 1 1] ((w.alloc (.cells #[.int .i64 7,.int .i64 A,.int .i64 B,.int .i64 C,.int .i64 N,.string S,.slice la ln lc,.bool T] 64)).alloc (.cells #[.int .i64 A] 3)) (fun e w'=>e=.returned (.bool true)∧((w.alloc (.cells #[.int .i64 7,.int .i64 A,.int .i64 B,.int .i64 C,.int .i64 N,.string S,.slice la ln lc,.bool T] 64)).alloc (.cells #[.int .i64 A] 3))=w')):=hid (by rw[←H0.out];exact are_any ta tn tc ts 2 _ 1 _ [A] _ (HT.out _ (below2 _ _ _ _ _)) (nums_laid 1 [A] _ rfl rfl (by simp)) HA_A.out (by decide) htn)
  cases h1:areB ts 0 [B]with
  |false=>
   have H1:=hid h1
   have C1:Hid (Calls Tryz.prog 100 #[.slice ta tn tc,.int .i64 0,.slice (some ⟨w.heap.size+1+1,0,none⟩) 1 1] (((w.alloc (.cells #[.int .i64 7,.int .i64 A,.int .i64 B,.int .i64 C,.int .i64 N,.string S,.slice la ln lc,.bool T] 64)).alloc (.cells #[.int .i64 A] 3)).alloc (.cells #[.int .i64 B] 3)) (fun e w'=>e=.returned (.bool false)∧(((w.alloc (.cells #[.int .i64 7,.int .i64 A,.int .i64 B,.int .i64 C,.int .i64 N,.string S,.slice la ln lc,.bool T] 64)).alloc (.cells #[.int .i64 A] 3)).alloc (.cells #[.int .i64 B] 3))=w')):=hid (by rw[←H1.out];exact are_any ta tn tc ts 0 _ 1 _ [B] _ (HT.out _ (below3 _ _ _ _ _ _ _)) (nums_laid 1 [B] _ rfl rfl (by simp)) HA_B.out (by decide) htn)
   have HR:Hid ((rowS P 7 N S ([A,B].map (tyAt ts))).2=false):=hid (by rw[hr,h0,h1];rfl)
   clear hr h0 h1
   go_enter Tryz.func68,Tryz.ntmps68
   go_wp2_with(first|(go_at_call 100;(with_reducible refine(C0.out).mono ?_);rintro e w' ⟨rfl,rfl⟩)|(go_at_call 100;(with_reducible refine(C1.out).mono ?_);rintro e w' ⟨rfl,rfl⟩))
   refine bodyPost_ret (v:=.tuple #[.int .i64 0,.bool false]) (by simp[results,Tryz.results68,go_sem]) rfl ⟨0,by rw[HR.out],fun _=>HR1.out.symm,below3 _ _ _ _ _ _ _⟩
  |true=>
   have H1:=hid h1
   have C1:Hid (Calls Tryz.prog 100 #[.slice ta tn tc,.int .i64 0,.slice (some ⟨w.heap.size+1+1,0,none⟩) 1 1] (((w.alloc (.cells #[.int .i64 7,.int .i64 A,.int .i64 B,.int .i64 C,.int .i64 N,.string S,.slice la ln lc,.bool T] 64)).alloc (.cells #[.int .i64 A] 3)).alloc (.cells #[.int .i64 B] 3)) (fun e w'=>e=.returned (.bool true)∧(((w.alloc (.cells #[.int .i64 7,.int .i64 A,.int .i64 B,.int .i64 C,.int .i64 N,.string S,.slice la ln lc,.bool T] 64)).alloc (.cells #[.int .i64 A] 3)).alloc (.cells #[.int .i64 B] 3))=w')):=hid (by rw[←H1.out];exact are_any ta tn tc ts 0 _ 1 _ [B] _ (HT.out _ (below3 _ _ _ _ _ _ _)) (nums_laid 1 [B] _ rfl rfl (by simp)) HA_B.out (by decide) htn)
   have HR:Hid ((rowS P 7 N S ([A,B].map (tyAt ts))).2=true):=hid (by rw[hr,h0,h1];rfl)
   clear hr h0 h1
   go_enter Tryz.func68,Tryz.ntmps68
   go_wp2_with(first|(go_at_call 100;(with_reducible refine(C0.out).mono ?_);rintro e w' ⟨rfl,rfl⟩)|(go_at_call 100;(with_reducible refine(C1.out).mono ?_);rintro e w' ⟨rfl,rfl⟩))
   refine bodyPost_ret (v:=.tuple #[.int .i64 0,.bool true]) (by simp[results,Tryz.results68,go_sem]) rfl ⟨0,by rw[HR.out],fun _=>HR1.out.symm,below3 _ _ _ _ _ _ _⟩
theorem row_8(pv:Value)(P:ProgD)(A B C N:Int)(S:ByteArray)(la:Option Addr)(ln lc:Nat)(T:Bool)(L:List Int)(ta:Option Addr)(tn tc:Nat)(ts:List Int)(w:World)(ht:NumsAt w ta tn ts)(htn:tn≤140737488355328)(ham:Among (usesL 8 A B C L) tn):
 Calls Tryz.prog 68 #[pv,.agg #[.int .i64 8,.int .i64 A,.int .i64 B,.int .i64 C,.int .i64 N,.string S,.slice la ln lc,.bool T],.slice ta tn tc] w (RowPost (rowS P 8 N S ((usesL 8 A B C L).map (tyAt ts))) w):=by
 have HT:Hid (∀u,Below w.heap.size w u→NumsAt u ta tn ts):=hid (fun u hu=>ht.since hu)
 have hu:usesL 8 A B C L=[A,B]:=by simp[usesL,hasB,fieldsL,oneL,pickL]
 rw[hu]at ham⊢
 have HA_AB:Hid (Among [A,B] tn):=hid (fun v hv=>ham v (by simp at hv ⊢;omega))
 have HR1:Hid ((rowS P 8 N S ([A,B].map (tyAt ts))).1=1):=hid rfl
 have hr:(rowS P 8 N S ([A,B].map (tyAt ts))).2=(areB ts 2 [A,B]):=by
  show sameB _ _=_
  simp only[List.map_cons,List.map_nil,sameB_two,areB_two]
 clear ht ham hu
 cases h0:areB ts 2 [A,B]with
 |false=>
  have H0:=hid h0
  have C0:Hid (Calls Tryz.prog 100 #[.slice ta tn tc,.int .i64 2,.slice (some ⟨w.heap.size+1,0,none⟩) 2 2] ((w.alloc (.cells #[.int .i64 8,.int .i64 A,.int .i64 B,.int .i64 C,.int .i64 N,.string S,.slice la ln lc,.bool T] 64)).alloc (.cells #[.int .i64 A,.int .i64 B] 3)) (fun e w'=>e=.returned (.bool false)∧((w.alloc (.cells #[.int .i64 8,.int .i64 A,.int .i64 B,.int .i64 C,.int .i64 N,.string S,.slice la ln lc,.bool T] 64)).alloc (.cells #[.int .i64 A,.int .i64 B] 3))=w')):=hid (by rw[←H0.out];exact are_any ta tn tc ts 2 _ 2 _ [A,B] _ (HT.out _ (below2 _ _ _ _ _)) (nums_laid 2 [A,B] _ rfl rfl (by simp)) HA_AB.out (by decide) htn)
  have HR:Hid ((rowS P 8 N S ([A,B].map (tyAt ts))).2=false):=hid (by rw[hr,h0])
  clear hr h0
  go_enter Tryz.func68,Tryz.ntmps68
  go_wp2_with(first|(go_at_call 100;(with_reducible refine(C0.out).mono ?_);rintro e w' ⟨rfl,rfl⟩))
  refine bodyPost_ret (v:=.tuple #[.int .i64 1,.bool false]) (by simp[results,Tryz.results68,go_sem]) rfl ⟨1,by rw[HR.out],fun _=>HR1.out.symm,below2 _ _ _ _ _⟩
 |true=>
  have H0:=hid h0
  have C0:Hid (Calls Tryz.prog 100 #[.slice ta tn tc,.int .i64 2,.slice (some ⟨w.heap.size+1,0,none⟩) 2 2] ((w.alloc (.cells #[.int .i64 8,.int .i64 A,.int .i64 B,.int .i64 C,.int .i64 N,.string S,.slice la ln lc,.bool T] 64)).alloc (.cells #[.int .i64 A,.int .i64 B] 3)) (fun e w'=>e=.returned (.bool true)∧((w.alloc (.cells #[.int .i64 8,.int .i64 A,.int .i64 B,.int .i64 C,.int .i64 N,.string S,.slice la ln lc,.bool T] 64)).alloc (.cells #[.int .i64 A,.int .i64 B] 3))=w')):=hid (by rw[←H0.out];exact are_any ta tn tc ts 2 _ 2 _ [A,B] _ (HT.out _ (below2 _ _ _ _ _)) (nums_laid 2 [A,B] _ rfl rfl (by simp)) HA_AB.out (by decide) htn)
  have HR:Hid ((rowS P 8 N S ([A,B].map (tyAt ts))).2=true):=hid (by rw[hr,h0])
  clear hr h0
  go_enter Tryz.func68,Tryz.ntmps68
  go_wp2_with(first|(go_at_call 100;(with_reducible refine(C0.out).mono ?_);rintro e w' ⟨rfl,rfl⟩))
  refine bodyPost_ret (v:=.tuple #[.int .i64 1,.bool true]) (by simp[results,Tryz.results68,go_sem]) rfl ⟨1,by rw[HR.out],fun _=>HR1.out.symm,below2 _ _ _ _ _⟩
theorem row_13(pv:Value)(P:ProgD)(A B C N:Int)(S:ByteArray)(la:Option Addr)(ln lc:Nat)(T:Bool)(L:List Int)(ta:Option Addr)(tn tc:Nat)(ts:List Int)(w:World)(ht:NumsAt w ta tn ts)(htn:tn≤140737488355328)(ham:Among (usesL 13 A B C L) tn):
 Calls Tryz.prog 68 #[pv,.agg #[.int .i64 13,.int .i64 A,.int .i64 B,.int .i64 C,.int .i64 N,.string S,.slice la ln lc,.bool T],.slice ta tn tc] w (RowPost (rowS P 13 N S ((usesL 13 A B C L).map (tyAt ts))) w):=by
 have HT:Hid (∀u,Below w.heap.size w u→NumsAt u ta tn ts):=hid (fun u hu=>ht.since hu)
 have hu:usesL 13 A B C L=[A]:=by simp[usesL,hasB,fieldsL,oneL,pickL]
 rw[hu]at ham⊢
 have HA_A:Hid (Among [A] tn):=hid (fun v hv=>ham v (by simp at hv ⊢;omega))
 have HR1:Hid ((rowS P 13 N S ([A].map (tyAt ts))).1=3):=hid rfl
 have hr:(rowS P 13 N S ([A].map (tyAt ts))).2=(areB ts 0 [A]):=by
  show sameB _ _=_
  simp only[List.map_cons,List.map_nil,sameB_one,areB_one]
 clear ht ham hu
 cases h0:areB ts 0 [A]with
 |false=>
  have H0:=hid h0
  have C0:Hid (Calls Tryz.prog 100 #[.slice ta tn tc,.int .i64 0,.slice (some ⟨w.heap.size+1,0,none⟩) 1 1] ((w.alloc (.cells #[.int .i64 13,.int .i64 A,.int .i64 B,.int .i64 C,.int .i64 N,.string S,.slice la ln lc,.bool T] 64)).alloc (.cells #[.int .i64 A] 3)) (fun e w'=>e=.returned (.bool false)∧((w.alloc (.cells #[.int .i64 13,.int .i64 A,.int .i64 B,.int .i64 C,.int .i64 N,.string S,.slice la ln lc,.bool T] 64)).alloc (.cells #[.int .i64 A] 3))=w')):=hid (by rw[←H0.out];exact are_any ta tn tc ts 0 _ 1 _ [A] _ (HT.out _ (below2 _ _ _ _ _)) (nums_laid 1 [A] _ rfl rfl (by simp)) HA_A.out (by decide) htn)
  have HR:Hid ((rowS P 13 N S ([A].map (tyAt ts))).2=false):=hid (by rw[hr,h0])
  clear hr h0
  go_enter Tryz.func68,Tryz.ntmps68
  go_wp2_with(first|(go_at_call 100;(with_reducible refine(C0.out).mono ?_);rintro e w' ⟨rfl,rfl⟩))
  refine bodyPost_ret (v:=.tuple #[.int .i64 3,.bool false]) (by simp[results,Tryz.results68,go_sem]) rfl ⟨3,by rw[HR.out],fun _=>HR1.out.symm,below2 _ _ _ _ _⟩
 |true=>
  have H0:=hid h0
  have C0:Hid (Calls Tryz.prog 100 #[.slice ta tn tc,.int .i64 0,.slice (some ⟨w.heap.size+1,0,none⟩) 1 1] ((w.alloc (.cells #[.int .i64 13,.int .i64 A,.int .i64 B,.int .i64 C,.int .i64 N,.string S,.slice la ln lc,.bool T] 64)).alloc (.cells #[.int .i64 A] 3)) (fun e w'=>e=.returned (.bool true)∧((w.alloc (.cells #[.int .i64 13,.int .i64 A,.int .i64 B,.int .i64 C,.int .i64 N,.string S,.slice la ln lc,.bool T] 64)).alloc (.cells #[.int .i64 A] 3))=w')):=hid (by rw[←H0.out];exact are_any ta tn tc ts 0 _ 1 _ [A] _ (HT.out _ (below2 _ _ _ _ _)) (nums_laid 1 [A] _ rfl rfl (by simp)) HA_A.out (by decide) htn)
  have HR:Hid ((rowS P 13 N S ([A].map (tyAt ts))).2=true):=hid (by rw[hr,h0])
  clear hr h0
  go_enter Tryz.func68,Tryz.ntmps68
  go_wp2_with(first|(go_at_call 100;(with_reducible refine(C0.out).mono ?_);rintro e w' ⟨rfl,rfl⟩))
  refine bodyPost_ret (v:=.tuple #[.int .i64 3,.bool true]) (by simp[results,Tryz.results68,go_sem]) rfl ⟨3,by rw[HR.out],fun _=>HR1.out.symm,below2 _ _ _ _ _⟩
theorem row_14(pv:Value)(P:ProgD)(A B C N:Int)(S:ByteArray)(la:Option Addr)(ln lc:Nat)(T:Bool)(L:List Int)(ta:Option Addr)(tn tc:Nat)(ts:List Int)(w:World)(ht:NumsAt w ta tn ts)(htn:tn≤140737488355328)(ham:Among (usesL 14 A B C L) tn):
 Calls Tryz.prog 68 #[pv,.agg #[.int .i64 14,.int .i64 A,.int .i64 B,.int .i64 C,.int .i64 N,.string S,.slice la ln lc,.bool T],.slice ta tn tc] w (RowPost (rowS P 14 N S ((usesL 14 A B C L).map (tyAt ts))) w):=by
 have HT:Hid (∀u,Below w.heap.size w u→NumsAt u ta tn ts):=hid (fun u hu=>ht.since hu)
 have hu:usesL 14 A B C L=[A]:=by simp[usesL,hasB,fieldsL,oneL,pickL]
 rw[hu]at ham⊢
 have HA_A:Hid (Among [A] tn):=hid (fun v hv=>ham v (by simp at hv ⊢;omega))
 have HR1:Hid ((rowS P 14 N S ([A].map (tyAt ts))).1=0):=hid rfl
 have hr:(rowS P 14 N S ([A].map (tyAt ts))).2=(areB ts 3 [A]):=by
  show sameB _ _=_
  simp only[List.map_cons,List.map_nil,sameB_one,areB_one]
 clear ht ham hu
 cases h0:areB ts 3 [A]with
 |false=>
  have H0:=hid h0
  have C0:Hid (Calls Tryz.prog 100 #[.slice ta tn tc,.int .i64 3,.slice (some ⟨w.heap.size+1,0,none⟩) 1 1] ((w.alloc (.cells #[.int .i64 14,.int .i64 A,.int .i64 B,.int .i64 C,.int .i64 N,.string S,.slice la ln lc,.bool T] 64)).alloc (.cells #[.int .i64 A] 3)) (fun e w'=>e=.returned (.bool false)∧((w.alloc (.cells #[.int .i64 14,.int .i64 A,.int .i64 B,.int .i64 C,.int .i64 N,.string S,.slice la ln lc,.bool T] 64)).alloc (.cells #[.int .i64 A] 3))=w')):=hid (by rw[←H0.out];exact are_any ta tn tc ts 3 _ 1 _ [A] _ (HT.out _ (below2 _ _ _ _ _)) (nums_laid 1 [A] _ rfl rfl (by simp)) HA_A.out (by decide) htn)
  have HR:Hid ((rowS P 14 N S ([A].map (tyAt ts))).2=false):=hid (by rw[hr,h0])
  clear hr h0
  go_enter Tryz.func68,Tryz.ntmps68
  go_wp2_with(first|(go_at_call 100;(with_reducible refine(C0.out).mono ?_);rintro e w' ⟨rfl,rfl⟩))
  refine bodyPost_ret (v:=.tuple #[.int .i64 0,.bool false]) (by simp[results,Tryz.results68,go_sem]) rfl ⟨0,by rw[HR.out],fun _=>HR1.out.symm,below2 _ _ _ _ _⟩
 |true=>
  have H0:=hid h0
  have C0:Hid (Calls Tryz.prog 100 #[.slice ta tn tc,.int .i64 3,.slice (some ⟨w.heap.size+1,0,none⟩) 1 1] ((w.alloc (.cells #[.int .i64 14,.int .i64 A,.int .i64 B,.int .i64 C,.int .i64 N,.string S,.slice la ln lc,.bool T] 64)).alloc (.cells #[.int .i64 A] 3)) (fun e w'=>e=.returned (.bool true)∧((w.alloc (.cells #[.int .i64 14,.int .i64 A,.int .i64 B,.int .i64 C,.int .i64 N,.string S,.slice la ln lc,.bool T] 64)).alloc (.cells #[.int .i64 A] 3))=w')):=hid (by rw[←H0.out];exact are_any ta tn tc ts 3 _ 1 _ [A] _ (HT.out _ (below2 _ _ _ _ _)) (nums_laid 1 [A] _ rfl rfl (by simp)) HA_A.out (by decide) htn)
  have HR:Hid ((rowS P 14 N S ([A].map (tyAt ts))).2=true):=hid (by rw[hr,h0])
  clear hr h0
  go_enter Tryz.func68,Tryz.ntmps68
  go_wp2_with(first|(go_at_call 100;(with_reducible refine(C0.out).mono ?_);rintro e w' ⟨rfl,rfl⟩))
  refine bodyPost_ret (v:=.tuple #[.int .i64 0,.bool true]) (by simp[results,Tryz.results68,go_sem]) rfl ⟨0,by rw[HR.out],fun _=>HR1.out.symm,below2 _ _ _ _ _⟩
theorem row_15(pv:Value)(P:ProgD)(A B C N:Int)(S:ByteArray)(la:Option Addr)(ln lc:Nat)(T:Bool)(L:List Int)(ta:Option Addr)(tn tc:Nat)(ts:List Int)(w:World)(ht:NumsAt w ta tn ts)(htn:tn≤140737488355328)(ham:Among (usesL 15 A B C L) tn):
 Calls Tryz.prog 68 #[pv,.agg #[.int .i64 15,.int .i64 A,.int .i64 B,.int .i64 C,.int .i64 N,.string S,.slice la ln lc,.bool T],.slice ta tn tc] w (RowPost (rowS P 15 N S ((usesL 15 A B C L).map (tyAt ts))) w):=by
 have HT:Hid (∀u,Below w.heap.size w u→NumsAt u ta tn ts):=hid (fun u hu=>ht.since hu)
 have hu:usesL 15 A B C L=[A,B]:=by simp[usesL,hasB,fieldsL,oneL,pickL]
 rw[hu]at ham⊢
 have HA_A:Hid (Among [A] tn):=hid (fun v hv=>ham v (by simp at hv ⊢;omega))
 have HA_B:Hid (Among [B] tn):=hid (fun v hv=>ham v (by simp at hv ⊢;omega))
 have HR1:Hid ((rowS P 15 N S ([A,B].map (tyAt ts))).1=0):=hid rfl
 have hr:(rowS P 15 N S ([A,B].map (tyAt ts))).2=(areB ts 3 [A]&&areB ts 0 [B]):=by
  show sameB _ _=_
  simp only[List.map_cons,List.map_nil,sameB_two,areB_one]
 clear ht ham hu
 cases h0:areB ts 3 [A]with
 |false=>
  have H0:=hid h0
  have C0:Hid (Calls Tryz.prog 100 #[.slice ta tn tc,.int .i64 3,.slice (some ⟨w.heap.size+1,0,none⟩) 1 1] ((w.alloc (.cells #[.int .i64 15,.int .i64 A,.int .i64 B,.int .i64 C,.int .i64 N,.string S,.slice la ln lc,.bool T] 64)).alloc (.cells #[.int .i64 A] 3)) (fun e w'=>e=.returned (.bool false)∧((w.alloc (.cells #[.int .i64 15,.int .i64 A,.int .i64 B,.int .i64 C,.int .i64 N,.string S,.slice la ln lc,.bool T] 64)).alloc (.cells #[.int .i64 A] 3))=w')):=hid (by rw[←H0.out];exact are_any ta tn tc ts 3 _ 1 _ [A] _ (HT.out _ (below2 _ _ _ _ _)) (nums_laid 1 [A] _ rfl rfl (by simp)) HA_A.out (by decide) htn)
  have HR:Hid ((rowS P 15 N S ([A,B].map (tyAt ts))).2=false):=hid (by rw[hr,h0];rfl)
  clear hr h0
  go_enter Tryz.func68,Tryz.ntmps68
  go_wp2_with(first|(go_at_call 100;(with_reducible refine(C0.out).mono ?_);rintro e w' ⟨rfl,rfl⟩))
  refine bodyPost_ret (v:=.tuple #[.int .i64 0,.bool false]) (by simp[results,Tryz.results68,go_sem]) rfl ⟨0,by rw[HR.out],fun _=>HR1.out.symm,below2 _ _ _ _ _⟩
 |true=>
  have H0:=hid h0
  have C0:Hid (Calls Tryz.prog 100 #[.slice ta tn tc,.int .i64 3,.slice (some ⟨w.heap.size+1,0,none⟩) 1 1] ((w.alloc (.cells #[.int .i64 15,.int .i64 A,.int .i64 B,.int .i64 C,.int .i64 N,.string S,.slice la ln lc,.bool T] 64)).alloc (.cells #[.int .i64 A] 3)) (fun e w'=>e=.returned (.bool true)∧((w.alloc (.cells #[.int .i64 15,.int .i64 A,.int .i64 B,.int .i64 C,.int .i64 N,.string S,.slice la ln lc,.bool T] 64)).alloc (.cells #[.int .i64 A] 3))=w')):=hid (by rw[←H0.out];exact are_any ta tn tc ts 3 _ 1 _ [A] _ (HT.out _ (below2 _ _ _ _ _)) (nums_laid 1 [A] _ rfl rfl (by simp)) HA_A.out (by decide) htn)
  cases h1:areB ts 0 [B]with
  |false=>
   have H1:=hid h1
   have C1:Hid (Calls Tryz.prog 100 #[.slice ta tn tc,.int .i64 0,.slice (some ⟨w.heap.size+1+1,0,none⟩) 1 1] (((w.alloc (.cells #[.int .i64 15,.int .i64 A,.int .i64 B,.int .i64 C,.int .i64 N,.string S,.slice la ln lc,.bool T] 64)).alloc (.cells #[.int .i64 A] 3)).alloc (.cells #[.int .i64 B] 3)) (fun e w'=>e=.returned (.bool false)∧(((w.alloc (.cells #[.int .i64 15,.int .i64 A,.int .i64 B,.int .i64 C,.int .i64 N,.string S,.slice la ln lc,.bool T] 64)).alloc (.cells #[.int .i64 A] 3)).alloc (.cells #[.int .i64 B] 3))=w')):=hid (by rw[←H1.out];exact are_any ta tn tc ts 0 _ 1 _ [B] _ (HT.out _ (below3 _ _ _ _ _ _ _)) (nums_laid 1 [B] _ rfl rfl (by simp)) HA_B.out (by decide) htn)
   have HR:Hid ((rowS P 15 N S ([A,B].map (tyAt ts))).2=false):=hid (by rw[hr,h0,h1];rfl)
   clear hr h0 h1
   go_enter Tryz.func68,Tryz.ntmps68
   go_wp2_with(first|(go_at_call 100;(with_reducible refine(C0.out).mono ?_);rintro e w' ⟨rfl,rfl⟩)|(go_at_call 100;(with_reducible refine(C1.out).mono ?_);rintro e w' ⟨rfl,rfl⟩))
   refine bodyPost_ret (v:=.tuple #[.int .i64 0,.bool false]) (by simp[results,Tryz.results68,go_sem]) rfl ⟨0,by rw[HR.out],fun _=>HR1.out.symm,below3 _ _ _ _ _ _ _⟩
  |true=>
   have H1:=hid h1
   have C1:Hid (Calls Tryz.prog 100 #[.slice ta tn tc,.int .i64 0,.slice (some ⟨w.heap.size+1+1,0,none⟩) 1 1] (((w.alloc (.cells #[.int .i64 15,.int .i64 A,.int .i64 B,.int .i64 C,.int .i64 N,.string S,.slice la ln lc,.bool T] 64)).alloc (.cells #[.int .i64 A] 3)).alloc (.cells #[.int .i64 B] 3)) (fun e w'=>e=.returned (.bool true)∧(((w.alloc (.cells #[.int .i64 15,.int .i64 A,.int .i64 B,.int .i64 C,.int .i64 N,.string S,.slice la ln lc,.bool T] 64)).alloc (.cells #[.int .i64 A] 3)).alloc (.cells #[.int .i64 B] 3))=w')):=hid (by rw[←H1.out];exact are_any ta tn tc ts 0 _ 1 _ [B] _ (HT.out _ (below3 _ _ _ _ _ _ _)) (nums_laid 1 [B] _ rfl rfl (by simp)) HA_B.out (by decide) htn)
   have HR:Hid ((rowS P 15 N S ([A,B].map (tyAt ts))).2=true):=hid (by rw[hr,h0,h1];rfl)
   clear hr h0 h1
   go_enter Tryz.func68,Tryz.ntmps68
   go_wp2_with(first|(go_at_call 100;(with_reducible refine(C0.out).mono ?_);rintro e w' ⟨rfl,rfl⟩)|(go_at_call 100;(with_reducible refine(C1.out).mono ?_);rintro e w' ⟨rfl,rfl⟩))
   refine bodyPost_ret (v:=.tuple #[.int .i64 0,.bool true]) (by simp[results,Tryz.results68,go_sem]) rfl ⟨0,by rw[HR.out],fun _=>HR1.out.symm,below3 _ _ _ _ _ _ _⟩
theorem row_16(pv:Value)(P:ProgD)(A B C N:Int)(S:ByteArray)(la:Option Addr)(ln lc:Nat)(T:Bool)(L:List Int)(ta:Option Addr)(tn tc:Nat)(ts:List Int)(w:World)(ht:NumsAt w ta tn ts)(htn:tn≤140737488355328)(ham:Among (usesL 16 A B C L) tn):
 Calls Tryz.prog 68 #[pv,.agg #[.int .i64 16,.int .i64 A,.int .i64 B,.int .i64 C,.int .i64 N,.string S,.slice la ln lc,.bool T],.slice ta tn tc] w (RowPost (rowS P 16 N S ((usesL 16 A B C L).map (tyAt ts))) w):=by
 have HT:Hid (∀u,Below w.heap.size w u→NumsAt u ta tn ts):=hid (fun u hu=>ht.since hu)
 have hu:usesL 16 A B C L=[A,B,C]:=by simp[usesL,hasB,fieldsL,oneL,pickL]
 rw[hu]at ham⊢
 have HA_A:Hid (Among [A] tn):=hid (fun v hv=>ham v (by simp at hv ⊢;omega))
 have HA_BC:Hid (Among [B,C] tn):=hid (fun v hv=>ham v (by simp at hv ⊢;omega))
 have HR1:Hid ((rowS P 16 N S ([A,B,C].map (tyAt ts))).1=(-1)):=hid rfl
 have hr:(rowS P 16 N S ([A,B,C].map (tyAt ts))).2=(areB ts 3 [A]&&areB ts 0 [B,C]):=by
  show sameB _ _=_
  simp only[List.map_cons,List.map_nil,sameB_three,areB_one,areB_two]
 clear ht ham hu
 cases h0:areB ts 3 [A]with
 |false=>
  have H0:=hid h0
  have C0:Hid (Calls Tryz.prog 100 #[.slice ta tn tc,.int .i64 3,.slice (some ⟨w.heap.size+1,0,none⟩) 1 1] ((w.alloc (.cells #[.int .i64 16,.int .i64 A,.int .i64 B,.int .i64 C,.int .i64 N,.string S,.slice la ln lc,.bool T] 64)).alloc (.cells #[.int .i64 A] 3)) (fun e w'=>e=.returned (.bool false)∧((w.alloc (.cells #[.int .i64 16,.int .i64 A,.int .i64 B,.int .i64 C,.int .i64 N,.string S,.slice la ln lc,.bool T] 64)).alloc (.cells #[.int .i64 A] 3))=w')):=hid (by rw[←H0.out];exact are_any ta tn tc ts 3 _ 1 _ [A] _ (HT.out _ (below2 _ _ _ _ _)) (nums_laid 1 [A] _ rfl rfl (by simp)) HA_A.out (by decide) htn)
  have HR:Hid ((rowS P 16 N S ([A,B,C].map (tyAt ts))).2=false):=hid (by rw[hr,h0];rfl)
  clear hr h0
  go_enter Tryz.func68,Tryz.ntmps68
  go_wp2_with(first|(go_at_call 100;(with_reducible refine(C0.out).mono ?_);rintro e w' ⟨rfl,rfl⟩))
  refine bodyPost_ret (v:=.tuple #[.int .i64 (-1),.bool false]) (by simp[results,Tryz.results68,go_sem]) rfl ⟨(-1),by rw[HR.out],fun _=>HR1.out.symm,below2 _ _ _ _ _⟩
 |true=>
  have H0:=hid h0
  have C0:Hid (Calls Tryz.prog 100 #[.slice ta tn tc,.int .i64 3,.slice (some ⟨w.heap.size+1,0,none⟩) 1 1] ((w.alloc (.cells #[.int .i64 16,.int .i64 A,.int .i64 B,.int .i64 C,.int .i64 N,.string S,.slice la ln lc,.bool T] 64)).alloc (.cells #[.int .i64 A] 3)) (fun e w'=>e=.returned (.bool true)∧((w.alloc (.cells #[.int .i64 16,.int .i64 A,.int .i64 B,.int .i64 C,.int .i64 N,.string S,.slice la ln lc,.bool T] 64)).alloc (.cells #[.int .i64 A] 3))=w')):=hid (by rw[←H0.out];exact are_any ta tn tc ts 3 _ 1 _ [A] _ (HT.out _ (below2 _ _ _ _ _)) (nums_laid 1 [A] _ rfl rfl (by simp)) HA_A.out (by decide) htn)
  cases h1:areB ts 0 [B,C]with
  |false=>
   have H1:=hid h1
   have C1:Hid (Calls Tryz.prog 100 #[.slice ta tn tc,.int .i64 0,.slice (some ⟨w.heap.size+1+1,0,none⟩) 2 2] (((w.alloc (.cells #[.int .i64 16,.int .i64 A,.int .i64 B,.int .i64 C,.int .i64 N,.string S,.slice la ln lc,.bool T] 64)).alloc (.cells #[.int .i64 A] 3)).alloc (.cells #[.int .i64 B,.int .i64 C] 3)) (fun e w'=>e=.returned (.bool false)∧(((w.alloc (.cells #[.int .i64 16,.int .i64 A,.int .i64 B,.int .i64 C,.int .i64 N,.string S,.slice la ln lc,.bool T] 64)).alloc (.cells #[.int .i64 A] 3)).alloc (.cells #[.int .i64 B,.int .i64 C] 3))=w')):=hid (by rw[←H1.out];exact are_any ta tn tc ts 0 _ 2 _ [B,C] _ (HT.out _ (below3 _ _ _ _ _ _ _)) (nums_laid 2 [B,C] _ rfl rfl (by simp)) HA_BC.out (by decide) htn)
   have HR:Hid ((rowS P 16 N S ([A,B,C].map (tyAt ts))).2=false):=hid (by rw[hr,h0,h1];rfl)
   clear hr h0 h1
   go_enter Tryz.func68,Tryz.ntmps68
   go_wp2_with(first|(go_at_call 100;(with_reducible refine(C0.out).mono ?_);rintro e w' ⟨rfl,rfl⟩)|(go_at_call 100;(with_reducible refine(C1.out).mono ?_);rintro e w' ⟨rfl,rfl⟩))
   refine bodyPost_ret (v:=.tuple #[.int .i64 (-1),.bool false]) (by simp[results,Tryz.results68,go_sem]) rfl ⟨(-1),by rw[HR.out],fun _=>HR1.out.symm,below3 _ _ _ _ _ _ _⟩
  |true=>
   have H1:=hid h1
   have C1:Hid (Calls Tryz.prog 100 #[.slice ta tn tc,.int .i64 0,.slice (some ⟨w.heap.size+1+1,0,none⟩) 2 2] (((w.alloc (.cells #[.int .i64 16,.int .i64 A,.int .i64 B,.int .i64 C,.int .i64 N,.string S,.slice la ln lc,.bool T] 64)).alloc (.cells #[.int .i64 A] 3)).alloc (.cells #[.int .i64 B,.int .i64 C] 3)) (fun e w'=>e=.returned (.bool true)∧(((w.alloc (.cells #[.int .i64 16,.int .i64 A,.int .i64 B,.int .i64 C,.int .i64 N,.string S,.slice la ln lc,.bool T] 64)).alloc (.cells #[.int .i64 A] 3)).alloc (.cells #[.int .i64 B,.int .i64 C] 3))=w')):=hid (by rw[←H1.out];exact are_any ta tn tc ts 0 _ 2 _ [B,C] _ (HT.out _ (below3 _ _ _ _ _ _ _)) (nums_laid 2 [B,C] _ rfl rfl (by simp)) HA_BC.out (by decide) htn)
   have HR:Hid ((rowS P 16 N S ([A,B,C].map (tyAt ts))).2=true):=hid (by rw[hr,h0,h1];rfl)
   clear hr h0 h1
   go_enter Tryz.func68,Tryz.ntmps68
   go_wp2_with(first|(go_at_call 100;(with_reducible refine(C0.out).mono ?_);rintro e w' ⟨rfl,rfl⟩)|(go_at_call 100;(with_reducible refine(C1.out).mono ?_);rintro e w' ⟨rfl,rfl⟩))
   refine bodyPost_ret (v:=.tuple #[.int .i64 (-1),.bool true]) (by simp[results,Tryz.results68,go_sem]) rfl ⟨(-1),by rw[HR.out],fun _=>HR1.out.symm,below3 _ _ _ _ _ _ _⟩
theorem row_18(pv:Value)(P:ProgD)(A B C N:Int)(S:ByteArray)(la:Option Addr)(ln lc:Nat)(T:Bool)(L:List Int)(ta:Option Addr)(tn tc:Nat)(ts:List Int)(w:World)(ht:NumsAt w ta tn ts)(htn:tn≤140737488355328)(ham:Among (usesL 18 A B C L) tn):
 Calls Tryz.prog 68 #[pv,.agg #[.int .i64 18,.int .i64 A,.int .i64 B,.int .i64 C,.int .i64 N,.string S,.slice la ln lc,.bool T],.slice ta tn tc] w (RowPost (rowS P 18 N S ((usesL 18 A B C L).map (tyAt ts))) w):=by
 have HT:Hid (∀u,Below w.heap.size w u→NumsAt u ta tn ts):=hid (fun u hu=>ht.since hu)
 have hu:usesL 18 A B C L=[A,B,C]:=by simp[usesL,hasB,fieldsL,oneL,pickL]
 rw[hu]at ham⊢
 have HA_A:Hid (Among [A] tn):=hid (fun v hv=>ham v (by simp at hv ⊢;omega))
 have HA_BC:Hid (Among [B,C] tn):=hid (fun v hv=>ham v (by simp at hv ⊢;omega))
 have HR1:Hid ((rowS P 18 N S ([A,B,C].map (tyAt ts))).1=(-1)):=hid rfl
 have hr:(rowS P 18 N S ([A,B,C].map (tyAt ts))).2=(areB ts 4 [A]&&areB ts 0 [B,C]):=by
  show sameB _ _=_
  simp only[List.map_cons,List.map_nil,sameB_three,areB_one,areB_two]
 clear ht ham hu
 cases h0:areB ts 4 [A]with
 |false=>
  have H0:=hid h0
  have C0:Hid (Calls Tryz.prog 100 #[.slice ta tn tc,.int .i64 4,.slice (some ⟨w.heap.size+1,0,none⟩) 1 1] ((w.alloc (.cells #[.int .i64 18,.int .i64 A,.int .i64 B,.int .i64 C,.int .i64 N,.string S,.slice la ln lc,.bool T] 64)).alloc (.cells #[.int .i64 A] 3)) (fun e w'=>e=.returned (.bool false)∧((w.alloc (.cells #[.int .i64 18,.int .i64 A,.int .i64 B,.int .i64 C,.int .i64 N,.string S,.slice la ln lc,.bool T] 64)).alloc (.cells #[.int .i64 A] 3))=w')):=hid (by rw[←H0.out];exact are_any ta tn tc ts 4 _ 1 _ [A] _ (HT.out _ (below2 _ _ _ _ _)) (nums_laid 1 [A] _ rfl rfl (by simp)) HA_A.out (by decide) htn)
  have HR:Hid ((rowS P 18 N S ([A,B,C].map (tyAt ts))).2=false):=hid (by rw[hr,h0];rfl)
  clear hr h0
  go_enter Tryz.func68,Tryz.ntmps68
  go_wp2_with(first|(go_at_call 100;(with_reducible refine(C0.out).mono ?_);rintro e w' ⟨rfl,rfl⟩))
  refine bodyPost_ret (v:=.tuple #[.int .i64 (-1),.bool false]) (by simp[results,Tryz.results68,go_sem]) rfl ⟨(-1),by rw[HR.out],fun _=>HR1.out.symm,below2 _ _ _ _ _⟩
 |true=>
  have H0:=hid h0
  have C0:Hid (Calls Tryz.prog 100 #[.slice ta tn tc,.int .i64 4,.slice (some ⟨w.heap.size+1,0,none⟩) 1 1] ((w.alloc (.cells #[.int .i64 18,.int .i64 A,.int .i64 B,.int .i64 C,.int .i64 N,.string S,.slice la ln lc,.bool T] 64)).alloc (.cells #[.int .i64 A] 3)) (fun e w'=>e=.returned (.bool true)∧((w.alloc (.cells #[.int .i64 18,.int .i64 A,.int .i64 B,.int .i64 C,.int .i64 N,.string S,.slice la ln lc,.bool T] 64)).alloc (.cells #[.int .i64 A] 3))=w')):=hid (by rw[←H0.out];exact are_any ta tn tc ts 4 _ 1 _ [A] _ (HT.out _ (below2 _ _ _ _ _)) (nums_laid 1 [A] _ rfl rfl (by simp)) HA_A.out (by decide) htn)
  cases h1:areB ts 0 [B,C]with
  |false=>
   have H1:=hid h1
   have C1:Hid (Calls Tryz.prog 100 #[.slice ta tn tc,.int .i64 0,.slice (some ⟨w.heap.size+1+1,0,none⟩) 2 2] (((w.alloc (.cells #[.int .i64 18,.int .i64 A,.int .i64 B,.int .i64 C,.int .i64 N,.string S,.slice la ln lc,.bool T] 64)).alloc (.cells #[.int .i64 A] 3)).alloc (.cells #[.int .i64 B,.int .i64 C] 3)) (fun e w'=>e=.returned (.bool false)∧(((w.alloc (.cells #[.int .i64 18,.int .i64 A,.int .i64 B,.int .i64 C,.int .i64 N,.string S,.slice la ln lc,.bool T] 64)).alloc (.cells #[.int .i64 A] 3)).alloc (.cells #[.int .i64 B,.int .i64 C] 3))=w')):=hid (by rw[←H1.out];exact are_any ta tn tc ts 0 _ 2 _ [B,C] _ (HT.out _ (below3 _ _ _ _ _ _ _)) (nums_laid 2 [B,C] _ rfl rfl (by simp)) HA_BC.out (by decide) htn)
   have HR:Hid ((rowS P 18 N S ([A,B,C].map (tyAt ts))).2=false):=hid (by rw[hr,h0,h1];rfl)
   clear hr h0 h1
   go_enter Tryz.func68,Tryz.ntmps68
   go_wp2_with(first|(go_at_call 100;(with_reducible refine(C0.out).mono ?_);rintro e w' ⟨rfl,rfl⟩)|(go_at_call 100;(with_reducible refine(C1.out).mono ?_);rintro e w' ⟨rfl,rfl⟩))
   refine bodyPost_ret (v:=.tuple #[.int .i64 (-1),.bool false]) (by simp[results,Tryz.results68,go_sem]) rfl ⟨(-1),by rw[HR.out],fun _=>HR1.out.symm,below3 _ _ _ _ _ _ _⟩
  |true=>
   have H1:=hid h1
   have C1:Hid (Calls Tryz.prog 100 #[.slice ta tn tc,.int .i64 0,.slice (some ⟨w.heap.size+1+1,0,none⟩) 2 2] (((w.alloc (.cells #[.int .i64 18,.int .i64 A,.int .i64 B,.int .i64 C,.int .i64 N,.string S,.slice la ln lc,.bool T] 64)).alloc (.cells #[.int .i64 A] 3)).alloc (.cells #[.int .i64 B,.int .i64 C] 3)) (fun e w'=>e=.returned (.bool true)∧(((w.alloc (.cells #[.int .i64 18,.int .i64 A,.int .i64 B,.int .i64 C,.int .i64 N,.string S,.slice la ln lc,.bool T] 64)).alloc (.cells #[.int .i64 A] 3)).alloc (.cells #[.int .i64 B,.int .i64 C] 3))=w')):=hid (by rw[←H1.out];exact are_any ta tn tc ts 0 _ 2 _ [B,C] _ (HT.out _ (below3 _ _ _ _ _ _ _)) (nums_laid 2 [B,C] _ rfl rfl (by simp)) HA_BC.out (by decide) htn)
   have HR:Hid ((rowS P 18 N S ([A,B,C].map (tyAt ts))).2=true):=hid (by rw[hr,h0,h1];rfl)
   clear hr h0 h1
   go_enter Tryz.func68,Tryz.ntmps68
   go_wp2_with(first|(go_at_call 100;(with_reducible refine(C0.out).mono ?_);rintro e w' ⟨rfl,rfl⟩)|(go_at_call 100;(with_reducible refine(C1.out).mono ?_);rintro e w' ⟨rfl,rfl⟩))
   refine bodyPost_ret (v:=.tuple #[.int .i64 (-1),.bool true]) (by simp[results,Tryz.results68,go_sem]) rfl ⟨(-1),by rw[HR.out],fun _=>HR1.out.symm,below3 _ _ _ _ _ _ _⟩
theorem row_19(pv:Value)(P:ProgD)(A B C N:Int)(S:ByteArray)(la:Option Addr)(ln lc:Nat)(T:Bool)(L:List Int)(ta:Option Addr)(tn tc:Nat)(ts:List Int)(w:World)(ht:NumsAt w ta tn ts)(htn:tn≤140737488355328)(ham:Among (usesL 19 A B C L) tn):
 Calls Tryz.prog 68 #[pv,.agg #[.int .i64 19,.int .i64 A,.int .i64 B,.int .i64 C,.int .i64 N,.string S,.slice la ln lc,.bool T],.slice ta tn tc] w (RowPost (rowS P 19 N S ((usesL 19 A B C L).map (tyAt ts))) w):=by
 have HT:Hid (∀u,Below w.heap.size w u→NumsAt u ta tn ts):=hid (fun u hu=>ht.since hu)
 have hu:usesL 19 A B C L=[A,B]:=by simp[usesL,hasB,fieldsL,oneL,pickL]
 rw[hu]at ham⊢
 have HA_A:Hid (Among [A] tn):=hid (fun v hv=>ham v (by simp at hv ⊢;omega))
 have HA_B:Hid (Among [B] tn):=hid (fun v hv=>ham v (by simp at hv ⊢;omega))
 have HR1:Hid ((rowS P 19 N S ([A,B].map (tyAt ts))).1=0):=hid rfl
 have hr:(rowS P 19 N S ([A,B].map (tyAt ts))).2=(areB ts 4 [A]&&areB ts 0 [B]):=by
  show sameB _ _=_
  simp only[List.map_cons,List.map_nil,sameB_two,areB_one]
 clear ht ham hu
 cases h0:areB ts 4 [A]with
 |false=>
  have H0:=hid h0
  have C0:Hid (Calls Tryz.prog 100 #[.slice ta tn tc,.int .i64 4,.slice (some ⟨w.heap.size+1,0,none⟩) 1 1] ((w.alloc (.cells #[.int .i64 19,.int .i64 A,.int .i64 B,.int .i64 C,.int .i64 N,.string S,.slice la ln lc,.bool T] 64)).alloc (.cells #[.int .i64 A] 3)) (fun e w'=>e=.returned (.bool false)∧((w.alloc (.cells #[.int .i64 19,.int .i64 A,.int .i64 B,.int .i64 C,.int .i64 N,.string S,.slice la ln lc,.bool T] 64)).alloc (.cells #[.int .i64 A] 3))=w')):=hid (by rw[←H0.out];exact are_any ta tn tc ts 4 _ 1 _ [A] _ (HT.out _ (below2 _ _ _ _ _)) (nums_laid 1 [A] _ rfl rfl (by simp)) HA_A.out (by decide) htn)
  have HR:Hid ((rowS P 19 N S ([A,B].map (tyAt ts))).2=false):=hid (by rw[hr,h0];rfl)
  clear hr h0
  go_enter Tryz.func68,Tryz.ntmps68
  go_wp2_with(first|(go_at_call 100;(with_reducible refine(C0.out).mono ?_);rintro e w' ⟨rfl,rfl⟩))
  refine bodyPost_ret (v:=.tuple #[.int .i64 0,.bool false]) (by simp[results,Tryz.results68,go_sem]) rfl ⟨0,by rw[HR.out],fun _=>HR1.out.symm,below2 _ _ _ _ _⟩
 |true=>
  have H0:=hid h0
  have C0:Hid (Calls Tryz.prog 100 #[.slice ta tn tc,.int .i64 4,.slice (some ⟨w.heap.size+1,0,none⟩) 1 1] ((w.alloc (.cells #[.int .i64 19,.int .i64 A,.int .i64 B,.int .i64 C,.int .i64 N,.string S,.slice la ln lc,.bool T] 64)).alloc (.cells #[.int .i64 A] 3)) (fun e w'=>e=.returned (.bool true)∧((w.alloc (.cells #[.int .i64 19,.int .i64 A,.int .i64 B,.int .i64 C,.int .i64 N,.string S,.slice la ln lc,.bool T] 64)).alloc (.cells #[.int .i64 A] 3))=w')):=hid (by rw[←H0.out];exact are_any ta tn tc ts 4 _ 1 _ [A] _ (HT.out _ (below2 _ _ _ _ _)) (nums_laid 1 [A] _ rfl rfl (by simp)) HA_A.out (by decide) htn)
  cases h1:areB ts 0 [B]with
  |false=>
   have H1:=hid h1
   have C1:Hid (Calls Tryz.prog 100 #[.slice ta tn tc,.int .i64 0,.slice (some ⟨w.heap.size+1+1,0,none⟩) 1 1] (((w.alloc (.cells #[.int .i64 19,.int .i64 A,.int .i64 B,.int .i64 C,.int .i64 N,.string S,.slice la ln lc,.bool T] 64)).alloc (.cells #[.int .i64 A] 3)).alloc (.cells #[.int .i64 B] 3)) (fun e w'=>e=.returned (.bool false)∧(((w.alloc (.cells #[.int .i64 19,.int .i64 A,.int .i64 B,.int .i64 C,.int .i64 N,.string S,.slice la ln lc,.bool T] 64)).alloc (.cells #[.int .i64 A] 3)).alloc (.cells #[.int .i64 B] 3))=w')):=hid (by rw[←H1.out];exact are_any ta tn tc ts 0 _ 1 _ [B] _ (HT.out _ (below3 _ _ _ _ _ _ _)) (nums_laid 1 [B] _ rfl rfl (by simp)) HA_B.out (by decide) htn)
   have HR:Hid ((rowS P 19 N S ([A,B].map (tyAt ts))).2=false):=hid (by rw[hr,h0,h1];rfl)
   clear hr h0 h1
   go_enter Tryz.func68,Tryz.ntmps68
   go_wp2_with(first|(go_at_call 100;(with_reducible refine(C0.out).mono ?_);rintro e w' ⟨rfl,rfl⟩)|(go_at_call 100;(with_reducible refine(C1.out).mono ?_);rintro e w' ⟨rfl,rfl⟩))
   refine bodyPost_ret (v:=.tuple #[.int .i64 0,.bool false]) (by simp[results,Tryz.results68,go_sem]) rfl ⟨0,by rw[HR.out],fun _=>HR1.out.symm,below3 _ _ _ _ _ _ _⟩
  |true=>
   have H1:=hid h1
   have C1:Hid (Calls Tryz.prog 100 #[.slice ta tn tc,.int .i64 0,.slice (some ⟨w.heap.size+1+1,0,none⟩) 1 1] (((w.alloc (.cells #[.int .i64 19,.int .i64 A,.int .i64 B,.int .i64 C,.int .i64 N,.string S,.slice la ln lc,.bool T] 64)).alloc (.cells #[.int .i64 A] 3)).alloc (.cells #[.int .i64 B] 3)) (fun e w'=>e=.returned (.bool true)∧(((w.alloc (.cells #[.int .i64 19,.int .i64 A,.int .i64 B,.int .i64 C,.int .i64 N,.string S,.slice la ln lc,.bool T] 64)).alloc (.cells #[.int .i64 A] 3)).alloc (.cells #[.int .i64 B] 3))=w')):=hid (by rw[←H1.out];exact are_any ta tn tc ts 0 _ 1 _ [B] _ (HT.out _ (below3 _ _ _ _ _ _ _)) (nums_laid 1 [B] _ rfl rfl (by simp)) HA_B.out (by decide) htn)
   have HR:Hid ((rowS P 19 N S ([A,B].map (tyAt ts))).2=true):=hid (by rw[hr,h0,h1];rfl)
   clear hr h0 h1
   go_enter Tryz.func68,Tryz.ntmps68
   go_wp2_with(first|(go_at_call 100;(with_reducible refine(C0.out).mono ?_);rintro e w' ⟨rfl,rfl⟩)|(go_at_call 100;(with_reducible refine(C1.out).mono ?_);rintro e w' ⟨rfl,rfl⟩))
   refine bodyPost_ret (v:=.tuple #[.int .i64 0,.bool true]) (by simp[results,Tryz.results68,go_sem]) rfl ⟨0,by rw[HR.out],fun _=>HR1.out.symm,below3 _ _ _ _ _ _ _⟩
theorem row_20(pv:Value)(P:ProgD)(A B C N:Int)(S:ByteArray)(la:Option Addr)(ln lc:Nat)(T:Bool)(L:List Int)(ta:Option Addr)(tn tc:Nat)(ts:List Int)(w:World)(ht:NumsAt w ta tn ts)(htn:tn≤140737488355328)(ham:Among (usesL 20 A B C L) tn):
 Calls Tryz.prog 68 #[pv,.agg #[.int .i64 20,.int .i64 A,.int .i64 B,.int .i64 C,.int .i64 N,.string S,.slice la ln lc,.bool T],.slice ta tn tc] w (RowPost (rowS P 20 N S ((usesL 20 A B C L).map (tyAt ts))) w):=by
 have HT:Hid (∀u,Below w.heap.size w u→NumsAt u ta tn ts):=hid (fun u hu=>ht.since hu)
 have hu:usesL 20 A B C L=[A]:=by simp[usesL,hasB,fieldsL,oneL,pickL]
 rw[hu]at ham⊢
 have HA_A:Hid (Among [A] tn):=hid (fun v hv=>ham v (by simp at hv ⊢;omega))
 have HR1:Hid ((rowS P 20 N S ([A].map (tyAt ts))).1=0):=hid rfl
 have hr:(rowS P 20 N S ([A].map (tyAt ts))).2=(areB ts 4 [A]):=by
  show sameB _ _=_
  simp only[List.map_cons,List.map_nil,sameB_one,areB_one]
 clear ht ham hu
 cases h0:areB ts 4 [A]with
 |false=>
  have H0:=hid h0
  have C0:Hid (Calls Tryz.prog 100 #[.slice ta tn tc,.int .i64 4,.slice (some ⟨w.heap.size+1,0,none⟩) 1 1] ((w.alloc (.cells #[.int .i64 20,.int .i64 A,.int .i64 B,.int .i64 C,.int .i64 N,.string S,.slice la ln lc,.bool T] 64)).alloc (.cells #[.int .i64 A] 3)) (fun e w'=>e=.returned (.bool false)∧((w.alloc (.cells #[.int .i64 20,.int .i64 A,.int .i64 B,.int .i64 C,.int .i64 N,.string S,.slice la ln lc,.bool T] 64)).alloc (.cells #[.int .i64 A] 3))=w')):=hid (by rw[←H0.out];exact are_any ta tn tc ts 4 _ 1 _ [A] _ (HT.out _ (below2 _ _ _ _ _)) (nums_laid 1 [A] _ rfl rfl (by simp)) HA_A.out (by decide) htn)
  have HR:Hid ((rowS P 20 N S ([A].map (tyAt ts))).2=false):=hid (by rw[hr,h0])
  clear hr h0
  go_enter Tryz.func68,Tryz.ntmps68
  go_wp2_with(first|(go_at_call 100;(with_reducible refine(C0.out).mono ?_);rintro e w' ⟨rfl,rfl⟩))
  refine bodyPost_ret (v:=.tuple #[.int .i64 0,.bool false]) (by simp[results,Tryz.results68,go_sem]) rfl ⟨0,by rw[HR.out],fun _=>HR1.out.symm,below2 _ _ _ _ _⟩
 |true=>
  have H0:=hid h0
  have C0:Hid (Calls Tryz.prog 100 #[.slice ta tn tc,.int .i64 4,.slice (some ⟨w.heap.size+1,0,none⟩) 1 1] ((w.alloc (.cells #[.int .i64 20,.int .i64 A,.int .i64 B,.int .i64 C,.int .i64 N,.string S,.slice la ln lc,.bool T] 64)).alloc (.cells #[.int .i64 A] 3)) (fun e w'=>e=.returned (.bool true)∧((w.alloc (.cells #[.int .i64 20,.int .i64 A,.int .i64 B,.int .i64 C,.int .i64 N,.string S,.slice la ln lc,.bool T] 64)).alloc (.cells #[.int .i64 A] 3))=w')):=hid (by rw[←H0.out];exact are_any ta tn tc ts 4 _ 1 _ [A] _ (HT.out _ (below2 _ _ _ _ _)) (nums_laid 1 [A] _ rfl rfl (by simp)) HA_A.out (by decide) htn)
  have HR:Hid ((rowS P 20 N S ([A].map (tyAt ts))).2=true):=hid (by rw[hr,h0])
  clear hr h0
  go_enter Tryz.func68,Tryz.ntmps68
  go_wp2_with(first|(go_at_call 100;(with_reducible refine(C0.out).mono ?_);rintro e w' ⟨rfl,rfl⟩))
  refine bodyPost_ret (v:=.tuple #[.int .i64 0,.bool true]) (by simp[results,Tryz.results68,go_sem]) rfl ⟨0,by rw[HR.out],fun _=>HR1.out.symm,below2 _ _ _ _ _⟩
theorem row_21(pv:Value)(P:ProgD)(A B C N:Int)(S:ByteArray)(la:Option Addr)(ln lc:Nat)(T:Bool)(L:List Int)(ta:Option Addr)(tn tc:Nat)(ts:List Int)(w:World)(ht:NumsAt w ta tn ts)(htn:tn≤140737488355328)(ham:Among (usesL 21 A B C L) tn):
 Calls Tryz.prog 68 #[pv,.agg #[.int .i64 21,.int .i64 A,.int .i64 B,.int .i64 C,.int .i64 N,.string S,.slice la ln lc,.bool T],.slice ta tn tc] w (RowPost (rowS P 21 N S ((usesL 21 A B C L).map (tyAt ts))) w):=by
 have HT:Hid (∀u,Below w.heap.size w u→NumsAt u ta tn ts):=hid (fun u hu=>ht.since hu)
 have hu:usesL 21 A B C L=[A,B]:=by simp[usesL,hasB,fieldsL,oneL,pickL]
 rw[hu]at ham⊢
 have HA_A:Hid (Among [A] tn):=hid (fun v hv=>ham v (by simp at hv ⊢;omega))
 have HA_B:Hid (Among [B] tn):=hid (fun v hv=>ham v (by simp at hv ⊢;omega))
 have HR1:Hid ((rowS P 21 N S ([A,B].map (tyAt ts))).1=0):=hid rfl
 have hr:(rowS P 21 N S ([A,B].map (tyAt ts))).2=(areB ts 4 [A]&&areB ts 0 [B]):=by
  show sameB _ _=_
  simp only[List.map_cons,List.map_nil,sameB_two,areB_one]
 clear ht ham hu
 cases h0:areB ts 4 [A]with
 |false=>
  have H0:=hid h0
  have C0:Hid (Calls Tryz.prog 100 #[.slice ta tn tc,.int .i64 4,.slice (some ⟨w.heap.size+1,0,none⟩) 1 1] ((w.alloc (.cells #[.int .i64 21,.int .i64 A,.int .i64 B,.int .i64 C,.int .i64 N,.string S,.slice la ln lc,.bool T] 64)).alloc (.cells #[.int .i64 A] 3)) (fun e w'=>e=.returned (.bool false)∧((w.alloc (.cells #[.int .i64 21,.int .i64 A,.int .i64 B,.int .i64 C,.int .i64 N,.string S,.slice la ln lc,.bool T] 64)).alloc (.cells #[.int .i64 A] 3))=w')):=hid (by rw[←H0.out];exact are_any ta tn tc ts 4 _ 1 _ [A] _ (HT.out _ (below2 _ _ _ _ _)) (nums_laid 1 [A] _ rfl rfl (by simp)) HA_A.out (by decide) htn)
  have HR:Hid ((rowS P 21 N S ([A,B].map (tyAt ts))).2=false):=hid (by rw[hr,h0];rfl)
  clear hr h0
  go_enter Tryz.func68,Tryz.ntmps68
  go_wp2_with(first|(go_at_call 100;(with_reducible refine(C0.out).mono ?_);rintro e w' ⟨rfl,rfl⟩))
  refine bodyPost_ret (v:=.tuple #[.int .i64 0,.bool false]) (by simp[results,Tryz.results68,go_sem]) rfl ⟨0,by rw[HR.out],fun _=>HR1.out.symm,below2 _ _ _ _ _⟩
 |true=>
  have H0:=hid h0
  have C0:Hid (Calls Tryz.prog 100 #[.slice ta tn tc,.int .i64 4,.slice (some ⟨w.heap.size+1,0,none⟩) 1 1] ((w.alloc (.cells #[.int .i64 21,.int .i64 A,.int .i64 B,.int .i64 C,.int .i64 N,.string S,.slice la ln lc,.bool T] 64)).alloc (.cells #[.int .i64 A] 3)) (fun e w'=>e=.returned (.bool true)∧((w.alloc (.cells #[.int .i64 21,.int .i64 A,.int .i64 B,.int .i64 C,.int .i64 N,.string S,.slice la ln lc,.bool T] 64)).alloc (.cells #[.int .i64 A] 3))=w')):=hid (by rw[←H0.out];exact are_any ta tn tc ts 4 _ 1 _ [A] _ (HT.out _ (below2 _ _ _ _ _)) (nums_laid 1 [A] _ rfl rfl (by simp)) HA_A.out (by decide) htn)
  cases h1:areB ts 0 [B]with
  |false=>
   have H1:=hid h1
   have C1:Hid (Calls Tryz.prog 100 #[.slice ta tn tc,.int .i64 0,.slice (some ⟨w.heap.size+1+1,0,none⟩) 1 1] (((w.alloc (.cells #[.int .i64 21,.int .i64 A,.int .i64 B,.int .i64 C,.int .i64 N,.string S,.slice la ln lc,.bool T] 64)).alloc (.cells #[.int .i64 A] 3)).alloc (.cells #[.int .i64 B] 3)) (fun e w'=>e=.returned (.bool false)∧(((w.alloc (.cells #[.int .i64 21,.int .i64 A,.int .i64 B,.int .i64 C,.int .i64 N,.string S,.slice la ln lc,.bool T] 64)).alloc (.cells #[.int .i64 A] 3)).alloc (.cells #[.int .i64 B] 3))=w')):=hid (by rw[←H1.out];exact are_any ta tn tc ts 0 _ 1 _ [B] _ (HT.out _ (below3 _ _ _ _ _ _ _)) (nums_laid 1 [B] _ rfl rfl (by simp)) HA_B.out (by decide) htn)
   have HR:Hid ((rowS P 21 N S ([A,B].map (tyAt ts))).2=false):=hid (by rw[hr,h0,h1];rfl)
   clear hr h0 h1
   go_enter Tryz.func68,Tryz.ntmps68
   go_wp2_with(first|(go_at_call 100;(with_reducible refine(C0.out).mono ?_);rintro e w' ⟨rfl,rfl⟩)|(go_at_call 100;(with_reducible refine(C1.out).mono ?_);rintro e w' ⟨rfl,rfl⟩))
   refine bodyPost_ret (v:=.tuple #[.int .i64 0,.bool false]) (by simp[results,Tryz.results68,go_sem]) rfl ⟨0,by rw[HR.out],fun _=>HR1.out.symm,below3 _ _ _ _ _ _ _⟩
  |true=>
   have H1:=hid h1
   have C1:Hid (Calls Tryz.prog 100 #[.slice ta tn tc,.int .i64 0,.slice (some ⟨w.heap.size+1+1,0,none⟩) 1 1] (((w.alloc (.cells #[.int .i64 21,.int .i64 A,.int .i64 B,.int .i64 C,.int .i64 N,.string S,.slice la ln lc,.bool T] 64)).alloc (.cells #[.int .i64 A] 3)).alloc (.cells #[.int .i64 B] 3)) (fun e w'=>e=.returned (.bool true)∧(((w.alloc (.cells #[.int .i64 21,.int .i64 A,.int .i64 B,.int .i64 C,.int .i64 N,.string S,.slice la ln lc,.bool T] 64)).alloc (.cells #[.int .i64 A] 3)).alloc (.cells #[.int .i64 B] 3))=w')):=hid (by rw[←H1.out];exact are_any ta tn tc ts 0 _ 1 _ [B] _ (HT.out _ (below3 _ _ _ _ _ _ _)) (nums_laid 1 [B] _ rfl rfl (by simp)) HA_B.out (by decide) htn)
   have HR:Hid ((rowS P 21 N S ([A,B].map (tyAt ts))).2=true):=hid (by rw[hr,h0,h1];rfl)
   clear hr h0 h1
   go_enter Tryz.func68,Tryz.ntmps68
   go_wp2_with(first|(go_at_call 100;(with_reducible refine(C0.out).mono ?_);rintro e w' ⟨rfl,rfl⟩)|(go_at_call 100;(with_reducible refine(C1.out).mono ?_);rintro e w' ⟨rfl,rfl⟩))
   refine bodyPost_ret (v:=.tuple #[.int .i64 0,.bool true]) (by simp[results,Tryz.results68,go_sem]) rfl ⟨0,by rw[HR.out],fun _=>HR1.out.symm,below3 _ _ _ _ _ _ _⟩
theorem row_0(pv:Value)(P:ProgD)(A B C N:Int)(S:ByteArray)(la:Option Addr)(ln lc:Nat)(T:Bool)(L:List Int)(ta:Option Addr)(tn tc:Nat)(ts:List Int)(w:World)(ht:NumsAt w ta tn ts)(htn:tn≤140737488355328)(ham:Among (usesL 0 A B C L) tn):
 Calls Tryz.prog 68 #[pv,.agg #[.int .i64 0,.int .i64 A,.int .i64 B,.int .i64 C,.int .i64 N,.string S,.slice la ln lc,.bool T],.slice ta tn tc] w (RowPost (rowS P 0 N S ((usesL 0 A B C L).map (tyAt ts))) w):=by
 have HT:Hid (∀u,Below w.heap.size w u→NumsAt u ta tn ts):=hid (fun u hu=>ht.since hu)
 have HR1:Hid ((rowS P 0 N S ((usesL 0 A B C L).map (tyAt ts))).1=0):=hid rfl
 have HR:Hid ((rowS P 0 N S ((usesL 0 A B C L).map (tyAt ts))).2=true):=hid rfl
 clear ht ham
 go_enter Tryz.func68,Tryz.ntmps68
 go_wp2_with fail
 refine bodyPost_ret (v:=.tuple #[.int .i64 0,.bool true]) (by simp[results,Tryz.results68,go_sem]) rfl ⟨0,by rw[HR.out],fun _=>HR1.out.symm,below1 _ _ _⟩
theorem row_17(pv:Value)(P:ProgD)(A B C N:Int)(S:ByteArray)(la:Option Addr)(ln lc:Nat)(T:Bool)(L:List Int)(ta:Option Addr)(tn tc:Nat)(ts:List Int)(w:World)(ht:NumsAt w ta tn ts)(htn:tn≤140737488355328)(ham:Among (usesL 17 A B C L) tn):
 Calls Tryz.prog 68 #[pv,.agg #[.int .i64 17,.int .i64 A,.int .i64 B,.int .i64 C,.int .i64 N,.string S,.slice la ln lc,.bool T],.slice ta tn tc] w (RowPost (rowS P 17 N S ((usesL 17 A B C L).map (tyAt ts))) w):=by
 have HT:Hid (∀u,Below w.heap.size w u→NumsAt u ta tn ts):=hid (fun u hu=>ht.since hu)
 have HR1:Hid ((rowS P 17 N S ((usesL 17 A B C L).map (tyAt ts))).1=4):=hid rfl
 have HR:Hid ((rowS P 17 N S ((usesL 17 A B C L).map (tyAt ts))).2=true):=hid rfl
 clear ht ham
 go_enter Tryz.func68,Tryz.ntmps68
 go_wp2_with fail
 refine bodyPost_ret (v:=.tuple #[.int .i64 4,.bool true]) (by simp[results,Tryz.results68,go_sem]) rfl ⟨4,by rw[HR.out],fun _=>HR1.out.symm,below1 _ _ _⟩
theorem row_2(pv:Value)(P:ProgD)(A B C N:Int)(S:ByteArray)(la:Option Addr)(ln lc:Nat)(T:Bool)(L:List Int)(ta:Option Addr)(tn tc:Nat)(ts:List Int)(w:World)(ht:NumsAt w ta tn ts)(htn:tn≤140737488355328)(ham:Among (usesL 2 A B C L) tn):
 Calls Tryz.prog 68 #[pv,.agg #[.int .i64 2,.int .i64 A,.int .i64 B,.int .i64 C,.int .i64 N,.string S,.slice la ln lc,.bool T],.slice ta tn tc] w (RowPost (rowS P 2 N S ((usesL 2 A B C L).map (tyAt ts))) w):=by
 have HT:Hid (∀u,Below w.heap.size w u→NumsAt u ta tn ts):=hid (fun u hu=>ht.since hu)
 have HR1:Hid ((rowS P 2 N S ((usesL 2 A B C L).map (tyAt ts))).1=2):=hid rfl
 by_cases h:S.size≤64
 ·have h':((S.size:Int)≤64):=by omega
  have HR:Hid ((rowS P 2 N S ((usesL 2 A B C L).map (tyAt ts))).2=true):=hid (decide_eq_true h)
  clear ht ham h
  go_enter Tryz.func68,Tryz.ntmps68
  go_wp2_with fail
  go_quiet (fail)
  go_wp2_with fail
  refine bodyPost_ret (v:=.tuple #[.int .i64 2,.bool true]) (by simp[results,Tryz.results68,go_sem]) rfl ⟨2,by rw[HR.out],fun _=>HR1.out.symm,(below1 _ _ _).drewq nq⟩
 ·have h':64<(S.size:Int):=by omega
  have HR:Hid ((rowS P 2 N S ((usesL 2 A B C L).map (tyAt ts))).2=false):=hid (decide_eq_false h)
  clear ht ham h
  go_enter Tryz.func68,Tryz.ntmps68
  go_wp2_with fail
  go_quiet (fail)
  go_wp2_with fail
  refine bodyPost_ret (v:=.tuple #[.int .i64 2,.bool false]) (by simp[results,Tryz.results68,go_sem]<;>omega) rfl ⟨2,by rw[HR.out],fun _=>HR1.out.symm,(below1 _ _ _).drewq nq⟩
theorem row_1(pv:Value)(P:ProgD)(A B C N:Int)(S:ByteArray)(la:Option Addr)(ln lc:Nat)(T:Bool)(L:List Int)(ta:Option Addr)(tn tc:Nat)(ts:List Int)(w:World)(ht:NumsAt w ta tn ts)(htn:tn≤140737488355328)(ham:Among (usesL 1 A B C L) tn):
 Calls Tryz.prog 68 #[pv,.agg #[.int .i64 1,.int .i64 A,.int .i64 B,.int .i64 C,.int .i64 N,.string S,.slice la ln lc,.bool T],.slice ta tn tc] w (RowPost (rowS P 1 N S ((usesL 1 A B C L).map (tyAt ts))) w):=by
 have HT:Hid (∀u,Below w.heap.size w u→NumsAt u ta tn ts):=hid (fun u hu=>ht.since hu)
 have HR1:Hid ((rowS P 1 N S ((usesL 1 A B C L).map (tyAt ts))).1=1):=hid rfl
 by_cases h0:N=0
 ·have e0:(N==0)=true:=by simpa using h0
  have HR:Hid ((rowS P 1 N S ((usesL 1 A B C L).map (tyAt ts))).2=true):=hid (by show(N==0||N==1)=true;rw[e0];rfl)
  clear ht ham h0
  go_enter Tryz.func68,Tryz.ntmps68
  go_wp2_with fail
  go_quiet (fail)
  go_wp2_with fail
  refine bodyPost_ret (v:=.tuple #[.int .i64 1,.bool true]) (by simp[results,Tryz.results68,go_sem]) rfl ⟨1,by rw[HR.out],fun _=>HR1.out.symm,(below1 _ _ _).drewq nq⟩
 ·have e0:(N==0)=false:=by rw[beq_eq_false_iff_ne];exact h0
  by_cases h1:N=1
  ·have e1:(N==1)=true:=by simpa using h1
   have HR:Hid ((rowS P 1 N S ((usesL 1 A B C L).map (tyAt ts))).2=true):=hid (by show(N==0||N==1)=true;rw[e0,e1];rfl)
   clear ht ham h0 h1
   go_enter Tryz.func68,Tryz.ntmps68
   go_wp2_with fail
   go_quiet (fail)
   go_wp2_with fail
   refine bodyPost_ret (v:=.tuple #[.int .i64 1,.bool true]) (by simp[results,Tryz.results68,go_sem]) rfl ⟨1,by rw[HR.out],fun _=>HR1.out.symm,(below1 _ _ _).drewq nq⟩
  ·have e1:(N==1)=false:=by rw[beq_eq_false_iff_ne];exact h1
   have HR:Hid ((rowS P 1 N S ((usesL 1 A B C L).map (tyAt ts))).2=false):=hid (by show(N==0||N==1)=false;rw[e0,e1];rfl)
   clear ht ham h0 h1
   go_enter Tryz.func68,Tryz.ntmps68
   go_wp2_with fail
   go_quiet (fail)
   go_wp2_with fail
   refine bodyPost_ret (v:=.tuple #[.int .i64 1,.bool false]) (by simp[results,Tryz.results68,go_sem]) rfl ⟨1,by rw[HR.out],fun _=>HR1.out.symm,(below1 _ _ _).drewq nq⟩
theorem row_12(pv:Value)(P:ProgD)(A B C N:Int)(S:ByteArray)(la:Option Addr)(ln lc:Nat)(T:Bool)(L:List Int)(ta:Option Addr)(tn tc:Nat)(ts:List Int)(w:World)(ht:NumsAt w ta tn ts)(htn:tn≤140737488355328)(ham:Among (usesL 12 A B C L) tn):
 Calls Tryz.prog 68 #[pv,.agg #[.int .i64 12,.int .i64 A,.int .i64 B,.int .i64 C,.int .i64 N,.string S,.slice la ln lc,.bool T],.slice ta tn tc] w (RowPost (rowS P 12 N S ((usesL 12 A B C L).map (tyAt ts))) w):=by
 have HT:Hid (∀u,Below w.heap.size w u→NumsAt u ta tn ts):=hid (fun u hu=>ht.since hu)
 have HR1:Hid ((rowS P 12 N S ((usesL 12 A B C L).map (tyAt ts))).1=3):=hid rfl
 by_cases h0:0≤N
 ·by_cases h1:N≤128
  ·have HR:Hid ((rowS P 12 N S ((usesL 12 A B C L).map (tyAt ts))).2=true):=hid (decide_eq_true ⟨h0,h1⟩)
   clear ht ham
   go_enter Tryz.func68,Tryz.ntmps68
   go_wp2_with fail
   go_quiet (fail)
   go_wp2_with fail
   refine bodyPost_ret (v:=.tuple #[.int .i64 3,.bool true]) (by simp[results,Tryz.results68,go_sem]) rfl ⟨3,by rw[HR.out],fun _=>HR1.out.symm,(below1 _ _ _).drewq nq⟩
  ·have HR:Hid ((rowS P 12 N S ((usesL 12 A B C L).map (tyAt ts))).2=false):=hid (decide_eq_false (fun h=>h1 h.2))
   have h1':128<N:=by omega
   clear ht ham
   go_enter Tryz.func68,Tryz.ntmps68
   go_wp2_with fail
   go_quiet (fail)
   go_wp2_with fail
   refine bodyPost_ret (v:=.tuple #[.int .i64 3,.bool false]) (by simp[results,Tryz.results68,go_sem]<;>omega) rfl ⟨3,by rw[HR.out],fun _=>HR1.out.symm,(below1 _ _ _).drewq nq⟩
 ·have HR:Hid ((rowS P 12 N S ((usesL 12 A B C L).map (tyAt ts))).2=false):=hid (decide_eq_false (fun h=>h0 h.1))
  have hd:decide (0≤N)=false:=decide_eq_false h0
  clear ht ham h0
  go_enter Tryz.func68,Tryz.ntmps68
  go_wp2_with fail
  go_quiet (fail)
  go_wp2_with fail
  refine bodyPost_ret (v:=.tuple #[.int .i64 3,.bool false]) (by simp[results,Tryz.results68,go_sem]) rfl ⟨3,by rw[HR.out],fun _=>HR1.out.symm,(below1 _ _ _).drewq nq⟩
theorem row_3(pv:Value)(P:ProgD)(A B C N:Int)(S:ByteArray)(la:Option Addr)(ln lc:Nat)(T:Bool)(L:List Int)(ta:Option Addr)(tn tc:Nat)(ts:List Int)(w:World)(ht:NumsAt w ta tn ts)(htn:tn≤140737488355328)(ham:Among (usesL 3 A B C L) tn):
 Calls Tryz.prog 68 #[pv,.agg #[.int .i64 3,.int .i64 A,.int .i64 B,.int .i64 C,.int .i64 N,.string S,.slice la ln lc,.bool T],.slice ta tn tc] w (RowPost (rowS P 3 N S ((usesL 3 A B C L).map (tyAt ts))) w):=by
 have hu:usesL 3 A B C L=[A,B]:=by simp[usesL,hasB,fieldsL,oneL,pickL]
 rw[hu]at ham⊢
 have HT:Hid (∀u,Below w.heap.size w u→NumsAt u ta tn ts):=hid (fun u hu=>ht.since hu)
 have HA_AB:Hid (Among [A,B] tn):=hid ham
 have HR1:Hid ((rowS P 3 N S ([A,B].map (tyAt ts))).1=tlV N):=hid rfl
 have hr:(rowS P 3 N S ([A,B].map (tyAt ts))).2=(decide (0≤N∧N≤13)&&areB ts 0 [A,B]):=by
  show(_&&sameB _ _)=_
  simp only[List.map_cons,List.map_nil,sameB_two,areB_two]
 clear ht ham hu
 cases hs:decide (0≤N∧N≤13)with
 |false=>
  have HS:=hid hs
  have HR:Hid ((rowS P 3 N S ([A,B].map (tyAt ts))).2=false):=hid (by rw[hr,hs];rfl)
  clear hr hs
  go_enter Tryz.func68,Tryz.ntmps68
  go_wp2_with(go_at_call 99;(with_reducible refine(sign_any N _).mono ?_);rintro e w' ⟨rfl,rfl⟩;rw[HS.out])
  refine bodyPost_ret (v:=.tuple #[.int .i64 (tlV N),.bool false]) (by simp[results,Tryz.results68,go_sem]) rfl ⟨tlV N,by rw[HR.out],fun _=>HR1.out.symm,below1 _ _ _⟩
 |true=>
  have HS:=hid hs
  cases h0:areB ts 0 [A,B]with
  |false=>
   have H0:=hid h0
   have C0:Hid (Calls Tryz.prog 100 #[.slice ta tn tc,.int .i64 0,.slice (some ⟨w.heap.size+1,0,none⟩) 2 2] ((w.alloc (.cells #[.int .i64 3,.int .i64 A,.int .i64 B,.int .i64 C,.int .i64 N,.string S,.slice la ln lc,.bool T] 64)).alloc (.cells #[.int .i64 A,.int .i64 B] 3)) (fun e w'=>e=.returned (.bool false)∧((w.alloc (.cells #[.int .i64 3,.int .i64 A,.int .i64 B,.int .i64 C,.int .i64 N,.string S,.slice la ln lc,.bool T] 64)).alloc (.cells #[.int .i64 A,.int .i64 B] 3))=w')):=hid (by rw[←H0.out];exact are_any ta tn tc ts 0 _ 2 _ [A,B] _ (HT.out _ (below2 _ _ _ _ _)) (nums_laid 2 [A,B] _ rfl rfl (by simp)) HA_AB.out (by decide) htn)
   have HR:Hid ((rowS P 3 N S ([A,B].map (tyAt ts))).2=false):=hid (by rw[hr,hs,h0];rfl)
   clear hr hs h0
   go_enter Tryz.func68,Tryz.ntmps68
   go_wp2_with(first|(go_at_call 99;(with_reducible refine(sign_any N _).mono ?_);rintro e w' ⟨rfl,rfl⟩;rw[HS.out])|(go_at_call 100;(with_reducible refine(C0.out).mono ?_);rintro e w' ⟨rfl,rfl⟩))
   refine bodyPost_ret (v:=.tuple #[.int .i64 (tlV N),.bool false]) (by simp[results,Tryz.results68,go_sem]) rfl ⟨tlV N,by rw[HR.out],fun _=>HR1.out.symm,below2 _ _ _ _ _⟩
  |true=>
   have H0:=hid h0
   have C0:Hid (Calls Tryz.prog 100 #[.slice ta tn tc,.int .i64 0,.slice (some ⟨w.heap.size+1,0,none⟩) 2 2] ((w.alloc (.cells #[.int .i64 3,.int .i64 A,.int .i64 B,.int .i64 C,.int .i64 N,.string S,.slice la ln lc,.bool T] 64)).alloc (.cells #[.int .i64 A,.int .i64 B] 3)) (fun e w'=>e=.returned (.bool true)∧((w.alloc (.cells #[.int .i64 3,.int .i64 A,.int .i64 B,.int .i64 C,.int .i64 N,.string S,.slice la ln lc,.bool T] 64)).alloc (.cells #[.int .i64 A,.int .i64 B] 3))=w')):=hid (by rw[←H0.out];exact are_any ta tn tc ts 0 _ 2 _ [A,B] _ (HT.out _ (below2 _ _ _ _ _)) (nums_laid 2 [A,B] _ rfl rfl (by simp)) HA_AB.out (by decide) htn)
   have HR:Hid ((rowS P 3 N S ([A,B].map (tyAt ts))).2=true):=hid (by rw[hr,hs,h0];rfl)
   clear hr hs h0
   go_enter Tryz.func68,Tryz.ntmps68
   go_wp2_with(first|(go_at_call 99;(with_reducible refine(sign_any N _).mono ?_);rintro e w' ⟨rfl,rfl⟩;rw[HS.out])|(go_at_call 100;(with_reducible refine(C0.out).mono ?_);rintro e w' ⟨rfl,rfl⟩))
   refine bodyPost_ret (v:=.tuple #[.int .i64 (tlV N),.bool true]) (by simp[results,Tryz.results68,go_sem]) rfl ⟨tlV N,by rw[HR.out],fun _=>HR1.out.symm,below2 _ _ _ _ _⟩
theorem row_25(pv:Value)(P:ProgD)(A B C N:Int)(S:ByteArray)(la:Option Addr)(ln lc:Nat)(T:Bool)(L:List Int)(ta:Option Addr)(tn tc:Nat)(ts:List Int)(w:World)(ht:NumsAt w ta tn ts)(htn:tn≤140737488355328)(ham:Among (usesL 25 A B C L) tn):
 Calls Tryz.prog 68 #[pv,.agg #[.int .i64 25,.int .i64 A,.int .i64 B,.int .i64 C,.int .i64 N,.string S,.slice la ln lc,.bool T],.slice ta tn tc] w (RowPost (rowS P 25 N S ((usesL 25 A B C L).map (tyAt ts))) w):=by
 have hu:usesL 25 A B C L=[A]:=by simp[usesL,hasB,fieldsL,oneL,pickL]
 rw[hu]at ham⊢
 have HT:Hid (∀u,Below w.heap.size w u→NumsAt u ta tn ts):=hid (fun u hu=>ht.since hu)
 have HA_A:Hid (Among [A] tn):=hid ham
 have HR1:Hid ((rowS P 25 N S ([A].map (tyAt ts))).1= -1):=hid rfl
 have hr:(rowS P 25 N S ([A].map (tyAt ts))).2=(areB ts 0 [A]||areB ts 2 [A]):=by
  show(sameB _ _||sameB _ _)=_
  simp only[List.map_cons,List.map_nil,sameB_one,areB_one]
 clear ht ham hu
 cases h0:areB ts 0 [A]with
 |true=>
  have H0:=hid h0
  have C0:Hid (Calls Tryz.prog 100 #[.slice ta tn tc,.int .i64 0,.slice (some ⟨w.heap.size+1,0,none⟩) 1 1] ((w.alloc (.cells #[.int .i64 25,.int .i64 A,.int .i64 B,.int .i64 C,.int .i64 N,.string S,.slice la ln lc,.bool T] 64)).alloc (.cells #[.int .i64 A] 3)) (fun e w'=>e=.returned (.bool true)∧((w.alloc (.cells #[.int .i64 25,.int .i64 A,.int .i64 B,.int .i64 C,.int .i64 N,.string S,.slice la ln lc,.bool T] 64)).alloc (.cells #[.int .i64 A] 3))=w')):=hid (by rw[←H0.out];exact are_any ta tn tc ts 0 _ 1 _ [A] _ (HT.out _ (below2 _ _ _ _ _)) (nums_laid 1 [A] _ rfl rfl (by simp)) HA_A.out (by decide) htn)
  have HR:Hid ((rowS P 25 N S ([A].map (tyAt ts))).2=true):=hid (by rw[hr,h0];rfl)
  clear hr h0
  go_enter Tryz.func68,Tryz.ntmps68
  go_wp2_with(go_at_call 100;(with_reducible refine(C0.out).mono ?_);rintro e w' ⟨rfl,rfl⟩)
  refine bodyPost_ret (v:=.tuple #[.int .i64 (-1),.bool true]) (by simp[results,Tryz.results68,go_sem]) rfl ⟨-1,by rw[HR.out],fun _=>HR1.out.symm,below2 _ _ _ _ _⟩
 |false=>
  have H0:=hid h0
  have C0:Hid (Calls Tryz.prog 100 #[.slice ta tn tc,.int .i64 0,.slice (some ⟨w.heap.size+1,0,none⟩) 1 1] ((w.alloc (.cells #[.int .i64 25,.int .i64 A,.int .i64 B,.int .i64 C,.int .i64 N,.string S,.slice la ln lc,.bool T] 64)).alloc (.cells #[.int .i64 A] 3)) (fun e w'=>e=.returned (.bool false)∧((w.alloc (.cells #[.int .i64 25,.int .i64 A,.int .i64 B,.int .i64 C,.int .i64 N,.string S,.slice la ln lc,.bool T] 64)).alloc (.cells #[.int .i64 A] 3))=w')):=hid (by rw[←H0.out];exact are_any ta tn tc ts 0 _ 1 _ [A] _ (HT.out _ (below2 _ _ _ _ _)) (nums_laid 1 [A] _ rfl rfl (by simp)) HA_A.out (by decide) htn)
  cases h1:areB ts 2 [A]with
  |false=>
   have H1:=hid h1
   have C1:Hid (Calls Tryz.prog 100 #[.slice ta tn tc,.int .i64 2,.slice (some ⟨w.heap.size+1+1,0,none⟩) 1 1] (((w.alloc (.cells #[.int .i64 25,.int .i64 A,.int .i64 B,.int .i64 C,.int .i64 N,.string S,.slice la ln lc,.bool T] 64)).alloc (.cells #[.int .i64 A] 3)).alloc (.cells #[.int .i64 A] 3)) (fun e w'=>e=.returned (.bool false)∧(((w.alloc (.cells #[.int .i64 25,.int .i64 A,.int .i64 B,.int .i64 C,.int .i64 N,.string S,.slice la ln lc,.bool T] 64)).alloc (.cells #[.int .i64 A] 3)).alloc (.cells #[.int .i64 A] 3))=w')):=hid (by rw[←H1.out];exact are_any ta tn tc ts 2 _ 1 _ [A] _ (HT.out _ (below3 _ _ _ _ _ _ _)) (nums_laid 1 [A] _ rfl rfl (by simp)) HA_A.out (by decide) htn)
   have HR:Hid ((rowS P 25 N S ([A].map (tyAt ts))).2=false):=hid (by rw[hr,h0,h1];rfl)
   clear hr h0 h1
   go_enter Tryz.func68,Tryz.ntmps68
   go_wp2_with(first|(go_at_call 100;(with_reducible refine(C0.out).mono ?_);rintro e w' ⟨rfl,rfl⟩)|(go_at_call 100;(with_reducible refine(C1.out).mono ?_);rintro e w' ⟨rfl,rfl⟩))
   refine bodyPost_ret (v:=.tuple #[.int .i64 (-1),.bool false]) (by simp[results,Tryz.results68,go_sem]) rfl ⟨-1,by rw[HR.out],fun _=>HR1.out.symm,below3 _ _ _ _ _ _ _⟩
  |true=>
   have H1:=hid h1
   have C1:Hid (Calls Tryz.prog 100 #[.slice ta tn tc,.int .i64 2,.slice (some ⟨w.heap.size+1+1,0,none⟩) 1 1] (((w.alloc (.cells #[.int .i64 25,.int .i64 A,.int .i64 B,.int .i64 C,.int .i64 N,.string S,.slice la ln lc,.bool T] 64)).alloc (.cells #[.int .i64 A] 3)).alloc (.cells #[.int .i64 A] 3)) (fun e w'=>e=.returned (.bool true)∧(((w.alloc (.cells #[.int .i64 25,.int .i64 A,.int .i64 B,.int .i64 C,.int .i64 N,.string S,.slice la ln lc,.bool T] 64)).alloc (.cells #[.int .i64 A] 3)).alloc (.cells #[.int .i64 A] 3))=w')):=hid (by rw[←H1.out];exact are_any ta tn tc ts 2 _ 1 _ [A] _ (HT.out _ (below3 _ _ _ _ _ _ _)) (nums_laid 1 [A] _ rfl rfl (by simp)) HA_A.out (by decide) htn)
   have HR:Hid ((rowS P 25 N S ([A].map (tyAt ts))).2=true):=hid (by rw[hr,h0,h1];rfl)
   clear hr h0 h1
   go_enter Tryz.func68,Tryz.ntmps68
   go_wp2_with(first|(go_at_call 100;(with_reducible refine(C0.out).mono ?_);rintro e w' ⟨rfl,rfl⟩)|(go_at_call 100;(with_reducible refine(C1.out).mono ?_);rintro e w' ⟨rfl,rfl⟩))
   refine bodyPost_ret (v:=.tuple #[.int .i64 (-1),.bool true]) (by simp[results,Tryz.results68,go_sem]) rfl ⟨-1,by rw[HR.out],fun _=>HR1.out.symm,below3 _ _ _ _ _ _ _⟩
def toV(M:List Int)(n:Int):Int:=if 0≤n∧n<M.length then M.getD n.toNat 0 else n
def Box(u:World)(g:Nat)(P:Array Value):Prop:=(∀j,u.cell? ⟨g,j,none⟩=P[j]?)∧(∀j,u.frozen? ⟨g,j,none⟩=false)
theorem Box.below{u u':World}{g B:Nat}{P:Array Value}(h:Box u g P)(hb:Below B u u')(hg:g<B):Box u' g P:=
 ⟨fun j=>by rw[hb.cell (p:=⟨g,j,none⟩) hg];exact h.1 j,fun j=>by rw[hb.frozen (p:=⟨g,j,none⟩) hg];exact h.2 j⟩
theorem Box.other{u:World}{g g':Nat}{P:Array Value}(h:Box u g P)(hg:g'≠g)(j':Nat)(v:Value):Box (u.setCell ⟨g',j',none⟩ v) g P:=
 ⟨fun j=>(World.cell?_setCell_other (w:=u) (a:=⟨g',j',none⟩) (b:=⟨g,j,none⟩) (v:=v) (by intro he;cases he;exact hg rfl)).trans (h.1 j),fun j=>by rw[World.frozen?_setCell];exact h.2 j⟩
theorem Box.set{u:World}{g:Nat}{P P':Array Value}(h:Box u g P)(j:Nat)(v:Value)(hj:j<P.size)(hP:P'=P.setIfInBounds j v):Box (u.setCell ⟨g,j,none⟩ v) g P':=by
 subst hP
 refine⟨fun i=> ?_,fun i=>by rw[World.frozen?_setCell];exact h.2 i⟩
 by_cases hij:i=j
 ·subst hij
  exact(World.cell?_setCell_same (w:=u) (a:=⟨g,i,none⟩) (v:=v) (u:=P[i]) (by rw[h.1 i];exact Array.getElem?_eq_getElem hj)).trans (by rw[Array.getElem?_setIfInBounds_self_of_lt hj])
 ·exact(World.cell?_setCell_other (w:=u) (a:=⟨g,j,none⟩) (b:=⟨g,i,none⟩) (v:=v) (by intro he;cases he;exact hij rfl)).trans (by rw[h.1 i,Array.getElem?_setIfInBounds_ne (Ne.symm hij)])
theorem Box.laid{w w2:World}{C0 C1:Array Value}{t0 t1:TypeId}(hb:Below (w.heap.size+2) ((w.alloc (.cells C0 t0)).alloc (.cells C1 t1)) w2):Box w2 w.heap.size C0∧Box w2 (w.heap.size+1) C1:=by
 obtain⟨h1,h2,h3,h4⟩:=cell_laid2 hb
 exact⟨⟨h1,h3⟩,⟨h2,h4⟩⟩
theorem fill_below{B:Nat}{w u:World}(h:Below B w u)(g:Nat)(hg:B≤g)(v0 v1 v2 v3 v4 v5 v6 v7:Value):
 Below B w ((((((((u.setCell ⟨g,0,none⟩ v0).setCell ⟨g,1,none⟩ v1).setCell ⟨g,2,none⟩ v2).setCell ⟨g,3,none⟩ v3).setCell ⟨g,4,none⟩ v4).setCell ⟨g,5,none⟩ v5).setCell ⟨g,6,none⟩ v6).setCell ⟨g,7,none⟩ v7):=
 (((((((h.setCell hg _).setCell hg _).setCell hg _).setCell hg _).setCell hg _).setCell hg _).setCell hg _).setCell hg _
theorem fill_own{B:Nat}{e:TypeId}{v:Value}{Z:List Int}{u:World}(h:OwnsI u B e v Z)(g:Nat)(hg:g<B)(v0 v1 v2 v3 v4 v5 v6 v7:Value):
 OwnsI ((((((((u.setCell ⟨g,0,none⟩ v0).setCell ⟨g,1,none⟩ v1).setCell ⟨g,2,none⟩ v2).setCell ⟨g,3,none⟩ v3).setCell ⟨g,4,none⟩ v4).setCell ⟨g,5,none⟩ v5).setCell ⟨g,6,none⟩ v6).setCell ⟨g,7,none⟩ v7) B e v Z:=
 (((((((h.setCell _ _ hg).setCell _ _ hg).setCell _ _ hg).setCell _ _ hg).setCell _ _ hg).setCell _ _ hg).setCell _ _ hg).setCell _ _ hg
def rnI(M:List Int)(b:Bool)(x:Int):Int:=if b then toV M x else 0
def rnL(M:List Int)(b:Bool)(l:List Int):List Int:=if b then l.map (toV M)else []
structure RenSt(w:World)(u:World)(P:Array Value)(va:Option Addr)(vn vc:Nat)(Z:List Int):Prop where
 box:Box u w.heap.size P
 res:Box u (w.heap.size+1) #[.int .i64 0,.int .i64 0,.int .i64 0,.int .i64 0,.int .i64 0,.string ⟨#[]⟩,.slice none 0 0,.bool false]
 own:OwnsI u (w.heap.size+2) 3 (.slice va vn vc) Z
 bel:Below w.heap.size w u
 siz:w.heap.size+2≤u.heap.size
theorem RenSt.put{w u:World}{P P':Array Value}{va:Option Addr}{vn vc:Nat}{Z:List Int}(h:RenSt w u P va vn vc Z)(j:Nat)(v:Value)(hj:j<P.size)(hP:P'=P.setIfInBounds j v):RenSt w (u.setCell ⟨w.heap.size,j,none⟩ v) P' va vn vc Z:=
 ⟨h.box.set j v hj hP,h.res.other (by omega) _ _,h.own.setCell _ _ (by simp),h.bel.setCell (Nat.le_refl _) _,by simpa using h.siz⟩
theorem RenSt.step{w u u':World}{P:Array Value}{va va':Option Addr}{vn vc vn' vc':Nat}{Z Z':List Int}(h:RenSt w u P va vn vc Z)(hb:Below u.heap.size u u')(ho:OwnsI u' u.heap.size 3 (.slice va' vn' vc') Z'):RenSt w u' P va' vn' vc' Z':=
 ⟨h.box.below hb (by have:=h.siz;omega),h.res.below hb (by have:=h.siz;omega),ho.mono h.siz,h.bel.trans (hb.mono (by have:=h.siz;omega)),Nat.le_trans h.siz hb.size⟩
structure SameBut(r:Nat)(u u':World):Prop where
 size:u'.heap.size=u.heap.size
 same:∀ i,i≠r→u'.heap[i]? =u.heap[i]?
 bel:∀ B,B≤r→Below B u u'
 cell:∀ p:Addr,p.block≠r→u'.cell? p=u.cell? p
 frozen:∀ p:Addr,p.block≠r→u'.frozen? p=u.frozen? p
theorem iterAt_same(u:World)(r:Nat)(s:ByteArray)(pos:Nat):SameBut r u (u.iterAt r s pos):=by
 refine⟨Lib.iterAt_size u r s pos,fun i hi=>Lib.iterAt_other u r i s pos hi,fun B hB=>Lib.below_iterAt (Below.refl B u) hB s pos,fun p hp=> ?_,fun p hp=> ?_⟩
 ·simp only[World.cell?,Lib.iterAt_other u r p.block s pos hp]
 ·simp only[World.frozen?,Lib.iterAt_other u r p.block s pos hp]
theorem Box.same{u u':World}{r g:Nat}{P:Array Value}(h:Box u g P)(hs:SameBut r u u')(hg:g≠r):Box u' g P:=
 ⟨fun j=>by rw[hs.cell ⟨g,j,none⟩ hg];exact h.1 j,fun j=>by rw[hs.frozen ⟨g,j,none⟩ hg];exact h.2 j⟩
theorem Box.new(w:World)(C:Array Value)(t:TypeId){n:Nat}(hn:n=w.heap.size):Box (w.alloc (.cells C t)) n C:=by
 subst hn
 exact⟨fun j=>World.cell?_alloc_mark _ _ _ _ _,fun j=>World.frozen?_alloc_at _ _ _ _ rfl⟩
theorem Box.alloc{u:World}{g:Nat}{P:Array Value}(h:Box u g P)(hg:g<u.heap.size)(o:Obj):Box (u.alloc o) g P:=h.below ((Below.refl u.heap.size u).alloc (Nat.le_refl _) o) hg
theorem OwnsI.same{u u':World}{r B:Nat}{e:TypeId}{v:Value}{Z:List Int}(h:OwnsI u B e v Z)(hs:SameBut r u u')(hr:r<B):OwnsI u' B e v Z:=by
 refine⟨h.1, ?_⟩
 rcases h.2 with hn|⟨g,cap,cur,rfl,hg,hh,rest⟩
 ·exact .inl hn
 ·refine .inr ⟨g,cap,cur,rfl,hg, ?_,rest⟩
  rw[hs.same g (by omega)]
  exact hh
theorem NumsAt.same{u u':World}{r:Nat}{a:Option Addr}{n:Nat}{Z:List Int}(h:NumsAt u a n Z)(hs:SameBut r u u')(hr:∀ ad,a=some ad→ad.block≠r):NumsAt u' a n Z:=by
 refine⟨h.1,fun hn=> ?_⟩
 obtain⟨g,off,e,hg,hc⟩:=h.2 hn
 refine⟨g,off,e,by rw[hs.size];exact hg,fun j hj=> ?_⟩
 rw[hs.cell ⟨g,off+j,none⟩ (hr ⟨g,off,none⟩ e)]
 exact hc j hj
end Go.Proofs.YtikoklagffbgiaaGreatDoor

namespace Go.Proofs.YtikoklagffbgiaaGreatDoor
open Go.RowKit (wrap64 intOf Below)
set_option linter.unusedVariables false
def hasT(K:Int)(k:Nat)(f:UInt8):Bool:=((fieldsL K).take k).contains f
theorem hasT_zero(K:Int)(f:UInt8):hasT K 0 f=false:=by simp[hasT]
theorem hasT_next{K:Int}{k:Nat}{g:UInt8}(f:UInt8)(hk:k<(fieldsL K).length)(hg:(fieldsL K)[k]=g):hasT K (k+1) f=(hasT K k f||f==g):=by
 unfold hasT
 rw[List.take_succ_eq_append_getElem hk,hg,Bool.eq_iff_iff]
 simp
theorem hasT_all{K:Int}{k:Nat}(f:UInt8)(hk:(fieldsL K).length≤k):hasT K k f=hasB K f:=by
 unfold hasT hasB
 rw[List.take_of_length_le hk]
theorem letters(K:Int):∀ f∈fieldsL K,f=78∨f=83∨f=65∨f=66∨f=67∨f=76∨f=75:=by
 rcases kinds K with h|h
 ·rcases h with rfl|rfl|rfl|rfl|rfl|rfl|rfl|rfl|rfl|rfl|rfl|rfl|rfl|rfl|rfl|rfl|rfl|rfl|rfl|rfl|rfl|rfl|rfl|rfl|rfl|rfl
  all_goals decide
 ·rw[fields_none h]
  intro f hf
  cases hf
def fstr(K:Int):ByteArray:=mk (fieldsL K)
def plainT(K A B C N:Int)(S:ByteArray)(T:Bool)(k:Nat)(l:Value):Array Value:=#[.int .i64 K,.int .i64 (pickI (hasT K k 65) A),.int .i64 (pickI (hasT K k 66) B),.int .i64 (pickI (hasT K k 67) C),.int .i64 (pickI (hasT K k 78) N),.string (pickS (hasT K k 83) S),l,.bool (hasT K k 75&&T)]
structure PlSt(w:World)(u:World)(K A B C N:Int)(S:ByteArray)(la:Option Addr)(ln lc:Nat)(T:Bool)(L:List Int)(k:Nat)(va:Option Addr)(vn vc:Nat):Prop where
 inb:Box u w.heap.size #[.int .i64 K,.int .i64 A,.int .i64 B,.int .i64 C,.int .i64 N,.string S,.slice la ln lc,.bool T]
 res:Box u (w.heap.size+1) #[.int .i64 0,.int .i64 0,.int .i64 0,.int .i64 0,.int .i64 0,.string ⟨#[]⟩,.slice none 0 0,.bool false]
 box:Box u (w.heap.size+2) (plainT K A B C N S T k (.slice va vn vc))
 it:u.heap[w.heap.size+3]? =some (.stringIter (fstr K) k)
 own:OwnsI u (w.heap.size+4) 3 (.slice va vn vc) (pickL (hasT K k 76) L)
 bel:Below w.heap.size w u
 siz:w.heap.size+4≤u.heap.size
theorem PlSt.at_{w u:World}{K A B C N:Int}{S:ByteArray}{la:Option Addr}{ln lc:Nat}{T:Bool}{L:List Int}{k:Nat}{va:Option Addr}{vn vc:Nat}(h:PlSt w u K A B C N S la ln lc T L k va vn vc):True:=trivial
structure PlMv(w:World)(u:World)(K A B C N:Int)(S:ByteArray)(la:Option Addr)(ln lc:Nat)(T:Bool)(L:List Int)(k:Nat)(va:Option Addr)(vn vc:Nat):Prop where
 inb:Box u w.heap.size #[.int .i64 K,.int .i64 A,.int .i64 B,.int .i64 C,.int .i64 N,.string S,.slice la ln lc,.bool T]
 res:Box u (w.heap.size+1) #[.int .i64 0,.int .i64 0,.int .i64 0,.int .i64 0,.int .i64 0,.string ⟨#[]⟩,.slice none 0 0,.bool false]
 box:Box u (w.heap.size+2) (plainT K A B C N S T k (.slice va vn vc))
 it:u.heap[w.heap.size+3]? =some (.stringIter (fstr K) (k+1))
 own:OwnsI u (w.heap.size+4) 3 (.slice va vn vc) (pickL (hasT K k 76) L)
 bel:Below w.heap.size w u
 siz:w.heap.size+4≤u.heap.size
theorem PlSt.move{w u:World}{K A B C N:Int}{S:ByteArray}{la:Option Addr}{ln lc:Nat}{T:Bool}{L:List Int}{k:Nat}{va:Option Addr}{vn vc:Nat}(h:PlSt w u K A B C N S la ln lc T L k va vn vc):
 PlMv w (u.iterAt (w.heap.size+3) (fstr K) (k+1)) K A B C N S la ln lc T L k va vn vc:=
 have hs:=iterAt_same u (w.heap.size+3) (fstr K) (k+1)
 ⟨h.inb.same hs (by omega),h.res.same hs (by omega),h.box.same hs (by omega),Lib.iterAt_heap _ _ _ _ _ h.it,h.own.same hs (by omega),h.bel.trans (hs.bel _ (by omega)),by rw[hs.size];exact h.siz⟩
theorem heap_setCell_other{u:World}{p:Addr}{v:Value}{i:Nat}(h:i≠p.block):(u.setCell p v).heap[i]? =u.heap[i]? :=Below.heap_setCell u p v i h
theorem setCell_size(u:World)(p:Addr)(v:Value):(u.setCell p v).heap.size=u.heap.size:=by
 show(u.heap.modify _ _).size=_
 rw[Array.size_modify]
theorem PlMv.put{w u:World}{K A B C N:Int}{S:ByteArray}{la:Option Addr}{ln lc:Nat}{T:Bool}{L:List Int}{k:Nat}{va:Option Addr}{vn vc:Nat}(h:PlMv w u K A B C N S la ln lc T L k va vn vc)
 (j:Nat)(v:Value)(hj:j<8)(hP:plainT K A B C N S T (k+1) (.slice va vn vc)=(plainT K A B C N S T k (.slice va vn vc)).setIfInBounds j v)(hL:hasT K (k+1) 76=hasT K k 76):
 PlSt w (u.setCell ⟨w.heap.size+2,j,none⟩ v) K A B C N S la ln lc T L (k+1) va vn vc:=
 ⟨h.inb.other (by omega) _ _,h.res.other (by omega) _ _,h.box.set j v hj hP,by rw[heap_setCell_other (by show w.heap.size+3≠w.heap.size+2;omega)];exact h.it,by rw[hL];exact h.own.setCell _ _ (by show w.heap.size+2<w.heap.size+4;omega),h.bel.setCell (by show w.heap.size≤w.heap.size+2;omega) _,by rw[setCell_size];exact h.siz⟩
theorem PlMv.putL{w u u':World}{K A B C N:Int}{S:ByteArray}{la:Option Addr}{ln lc:Nat}{T:Bool}{L:List Int}{k:Nat}{va va':Option Addr}{vn vc vn' vc':Nat}(h:PlMv w u K A B C N S la ln lc T L k va vn vc)
 (hb:Below (w.heap.size+4) u u')(ho:OwnsI u' (w.heap.size+4) 3 (.slice va' vn' vc') L)(hP:plainT K A B C N S T (k+1) (.slice va' vn' vc')=(plainT K A B C N S T k (.slice va vn vc)).setIfInBounds 6 (.slice va' vn' vc'))(hL:hasT K (k+1) 76=true):
 PlSt w (u'.setCell ⟨w.heap.size+2,6,none⟩ (.slice va' vn' vc')) K A B C N S la ln lc T L (k+1) va' vn' vc':=
 ⟨(h.inb.below hb (by omega)).other (by omega) _ _,(h.res.below hb (by omega)).other (by omega) _ _,(h.box.below hb (by omega)).set 6 _ (by simp[plainT]) hP,by rw[heap_setCell_other (by show w.heap.size+3≠w.heap.size+2;omega),hb.block _ (by omega)];exact h.it,by rw[hL];exact ho.setCell _ _ (by show w.heap.size+2<w.heap.size+4;omega),(h.bel.trans (hb.mono (by omega))).setCell (by show w.heap.size≤w.heap.size+2;omega) _,by rw[setCell_size];exact Nat.le_trans h.siz hb.size⟩
section
variable {K A B C N : Int} {S : ByteArray} {T : Bool} {k : Nat} {l : Value}
theorem plainT_zero(K A B C N:Int)(S:ByteArray)(T:Bool)(l:Value):plainT K A B C N S T 0 l=#[.int .i64 K,.int .i64 0,.int .i64 0,.int .i64 0,.int .i64 0,.string ⟨#[]⟩,l,.bool false]:=by
 simp[plainT,hasT_zero,pickI,pickS]
theorem put_N(hk:k<(fieldsL K).length)(hg:(fieldsL K)[k]=78):plainT K A B C N S T (k+1) l=(plainT K A B C N S T k l).setIfInBounds 4 (.int .i64 N)∧hasT K (k+1) 76=hasT K k 76:=by
 simp[plainT,hasT_next _ hk hg,pickI]
theorem put_S(hk:k<(fieldsL K).length)(hg:(fieldsL K)[k]=83):plainT K A B C N S T (k+1) l=(plainT K A B C N S T k l).setIfInBounds 5 (.string S)∧hasT K (k+1) 76=hasT K k 76:=by
 simp[plainT,hasT_next _ hk hg,pickS]
theorem put_A(hk:k<(fieldsL K).length)(hg:(fieldsL K)[k]=65):plainT K A B C N S T (k+1) l=(plainT K A B C N S T k l).setIfInBounds 1 (.int .i64 A)∧hasT K (k+1) 76=hasT K k 76:=by
 simp[plainT,hasT_next _ hk hg,pickI]
theorem put_B(hk:k<(fieldsL K).length)(hg:(fieldsL K)[k]=66):plainT K A B C N S T (k+1) l=(plainT K A B C N S T k l).setIfInBounds 2 (.int .i64 B)∧hasT K (k+1) 76=hasT K k 76:=by
 simp[plainT,hasT_next _ hk hg,pickI]
theorem put_C(hk:k<(fieldsL K).length)(hg:(fieldsL K)[k]=67):plainT K A B C N S T (k+1) l=(plainT K A B C N S T k l).setIfInBounds 3 (.int .i64 C)∧hasT K (k+1) 76=hasT K k 76:=by
 simp[plainT,hasT_next _ hk hg,pickI]
theorem put_K(hk:k<(fieldsL K).length)(hg:(fieldsL K)[k]=75):plainT K A B C N S T (k+1) l=(plainT K A B C N S T k l).setIfInBounds 7 (.bool T)∧hasT K (k+1) 76=hasT K k 76:=by
 simp[plainT,hasT_next _ hk hg]
theorem put_L{l':Value}(hk:k<(fieldsL K).length)(hg:(fieldsL K)[k]=76):plainT K A B C N S T (k+1) l'=(plainT K A B C N S T k l).setIfInBounds 6 l'∧hasT K (k+1) 76=true:=by
 simp[plainT,hasT_next _ hk hg]
end
theorem fstr_at{K:Int}{k:Nat}(h:k<(fieldsL K).length)(h':k<(fstr K).size):(fstr K)[k]=(fieldsL K)[k]:=by
 show(fieldsL K).toArray[k]'(by simpa using h)=_
 rfl
end Go.Proofs.YtikoklagffbgiaaGreatDoor

namespace Go.Proofs.YtikoklagffbgiaaGreatDoor
set_option linter.unusedVariables false
open Go.RowKit
attribute [local go_sem] Oper.semAt_some
open Go.Lib (hid)
theorem places_any(p:Option Addr)(w:World):
 Calls Tryz.prog 97 #[.pointer p] w fun e w'=>e=.returned (.func (.func 127) #[] #[.pointer (some ⟨w.heap.size,0,none⟩)])∧w'=w.alloc (.cells #[.pointer p] 150):=by
 go_enter Tryz.func97,Tryz.ntmps97
 go_wp2_with fail
 go_ret
 exact⟨rfl,rfl⟩
theorem yield_depth{F:Fence}(hd:F.depth=none){m m':Nat}{P:Program}{l:Nat}{args:Array Value}{W:World}{R:Ending→World→Prop}(h:YieldAt F m P l args W R):YieldAt F m' P l args W R:=
 have room:∀ k,F.room k:=fun k d e=>nomatch hd.symm.trans e
 let ⟨fn,tmps,assign,body,hy,hR⟩:=h
 ⟨fn,tmps,assign,body,hy,hR.1,fun c cs _=>hR.2 c cs (room _)⟩
def firsts(N k:Nat):List (Fin N):=(List.finRange N).take k
theorem firsts_len{N k:Nat}(h:k≤N):(firsts N k).length=k:=by simp[firsts,h]
theorem firsts_next{N k:Nat}(h:k<N):firsts N k++ [⟨k,h⟩]=firsts N (k+1):=by
 unfold firsts
 rw[List.take_succ_eq_append_getElem (by simpa using h)]
 simp
def Yields(N n l:Nat)(pl:Fin N→Addr)(J Jx:List (Fin N)→World→Prop)(Kp:World→World→Prop):Prop:=
 ∀(k:Nat) (h:k<N) (W:World),J (firsts N k) W→YieldAt Fence.wide n Tryz.prog l #[.pointer (some (pl ⟨k,h⟩))] W fun e W'=>
  (e=.returned (.bool true)∧J (firsts N (k+1)) W'∧Kp W W')∨(e=.returned (.bool false)∧Jx (firsts N (k+1)) W')
set_option maxRecDepth 100000 in
set_option maxHeartbeats 2000000 in
theorem each_in(N l:Nat)(pl:Fin N→Addr)(J Jx:List (Fin N)→World→Prop)(Kp:World→World→Prop)(hKr:∀ W,Kp W W)(hKt:∀ {A B C:World},Kp A B→Kp B C→Kp A C)(hY:∀ n,Yields N n l pl J Jx Kp)
 (m g off ln lc:Nat)(la:Option Addr)(hla:0<ln→la=some ⟨g,off,none⟩)(hln:ln≤140737488355328)(hm:m+ln≤N)(hpl:∀ j (h:j<ln),pl ⟨m+j,by omega⟩=⟨g,off+j,none⟩)(n:Nat)(W:World)(hJ:J (firsts N m) W):
 CallsIn Fence.wide n Tryz.prog 129 #[.slice la ln lc,.func (.yield l) #[] #[]] W fun e W'=>
  (e=.returned (.bool true)∧J (firsts N (m+ln)) W'∧Kp W W')∨(e=.returned (.bool false)∧∃ q,q≤N∧Jx (firsts N q) W'):=by
 refine callsIn_of_wp Tryz.func129 rfl trivial ?_ rfl
 simp only[Tryz.ntmps129,List.size_toArray,List.length_cons,List.length_nil,Nat.reduceAdd,Nat.reduceSub,Array.replicate_succ,Array.replicate_zero,List.push_toArray,List.append_toArray,List.nil_append,List.cons_append]
 gi_wp2
 gi_loopw [8] (fun iv wr=>∃ k:Nat,k≤ln∧iv=.int .i64 (k:Int)∧J (firsts N (m+k)) wr∧Kp W wr) (fun iv _=>ln-(intOf iv).toNat)
 case atStart=>exact⟨0,Nat.zero_le _,rfl,hJ,hKr W⟩
 case round=>
  obtain⟨k,hk,rfl,hJs,hKs⟩:=hrel
  by_cases hlt:k<ln
  ·obtain rfl:=hla (by omega)
   have hy0:=hY (n-1) (m+k) (by omega) wr hJs
   rw[hpl k hlt]at hy0
   obtain⟨fn,tmps,assign,body,hy,hR⟩:=hy0
   gi_wp2
   refine⟨(fun h=>(nomatch h)),hR.mono ?_⟩
   rintro e W3 (⟨rfl,hJ3,hk3⟩|⟨rfl,hJx3⟩)
   ·gi_wp2
    go_roundw
    case rel=>exact⟨k+1,by omega,by simp,by rw[←Nat.add_assoc];exact hJ3,hKt hKs hk3⟩
    case measure=>simp[intOf];omega
   ·gi_wp2
    go_ret
    exact .inr ⟨rfl,m+k+1,by omega,hJx3⟩
  ·obtain rfl:k=ln:=by omega
   gi_wp2
   go_ret
   exact .inl ⟨rfl,hJs,hKs⟩
end Go.Proofs.YtikoklagffbgiaaGreatDoor

namespace Go.Proofs.YtikoklagffbgiaaGreatDoor
open Go.RowKit
set_option linter.unusedVariables false
attribute [local go_sem] Oper.semAt_some
section
variable (b g off ln : Nat) (K : Int)
def placeL(f:UInt8):List Addr:=if f=65 then [⟨b,1,none⟩]else if f=66 then [⟨b,2,none⟩]else if f=67 then [⟨b,3,none⟩]else if f=76 then(List.range ln).map fun j=>⟨g,off+j,none⟩else []
def placesT(k:Nat):List Addr:=((fieldsL K).take k).flatMap (placeL b g off ln)
def placesL:List Addr:=(fieldsL K).flatMap (placeL b g off ln)
variable {b g off ln K}
theorem placesT_next{k:Nat}{f:UInt8}(hk:k<(fieldsL K).length)(hf:(fieldsL K)[k]=f):placesT b g off ln K (k+1)=placesT b g off ln K k++placeL b g off ln f:=by
 unfold placesT
 rw[List.take_succ_eq_append_getElem hk,hf,List.flatMap_append]
 simp
theorem placesT_all{k:Nat}(hk:(fieldsL K).length≤k):placesT b g off ln K k=placesL b g off ln K:=by
 unfold placesT placesL
 rw[List.take_of_length_le hk]
theorem placesT_split(k:Nat):∃ r,placesL b g off ln K=placesT b g off ln K k++r:=
 ⟨((fieldsL K).drop k).flatMap (placeL b g off ln),by unfold placesT placesL;rw[←List.flatMap_append,List.take_append_drop]⟩
theorem places_at{k:Nat}{f:UInt8}(hk:k<(fieldsL K).length)(hf:(fieldsL K)[k]=f):
 (placesT b g off ln K k).length+(placeL b g off ln f).length≤(placesL b g off ln K).length∧
 (placesT b g off ln K (k+1)).length=(placesT b g off ln K k).length+(placeL b g off ln f).length∧
 ∀j (h:j<(placeL b g off ln f).length) (h':(placesT b g off ln K k).length+j<(placesL b g off ln K).length),(placesL b g off ln K)[(placesT b g off ln K k).length+j]=(placeL b g off ln f)[j]:=by
 obtain⟨r,hr⟩:=placesT_split (b:=b) (g:=g) (off:=off) (ln:=ln) (K:=K) (k+1)
 rw[placesT_next hk hf]at hr
 refine⟨by rw[hr];simp,by rw[placesT_next hk hf];simp,fun j h h'=> ?_⟩
 simp only[hr,List.append_assoc]
 rw[List.getElem_append_right (by omega),List.getElem_append_left (by omega)]
 congr 1
 omega
end
def placeF(b g off ln:Nat)(K:Int)(i:Fin (placesL b g off ln K).length):Addr:=(placesL b g off ln K)[i.1]'i.2
structure Kept(Bo b:Nat)(W W':World):Prop where
 walks:KeepsWalks W W'
 c0:W'.cell? ⟨Bo,0,none⟩=W.cell? ⟨Bo,0,none⟩
 c6:W'.cell? ⟨b,6,none⟩=W.cell? ⟨b,6,none⟩
theorem Kept.refl(Bo b:Nat)(W:World):Kept Bo b W W:=⟨KeepsWalks.refl W,rfl,rfl⟩
theorem Kept.trans{Bo b:Nat}{A B C:World}(h:Kept Bo b A B)(k:Kept Bo b B C):Kept Bo b A C:=⟨h.walks.trans k.walks,k.c0.trans h.c0,k.c6.trans h.c6⟩
theorem grown_iterAt(w:World)(k:Nat)(s:ByteArray)(pos:Nat):w.grownBy (w.iterAt k s pos) (some k):=
 ⟨rfl,rfl,rfl,by rw[Lib.iterAt_size];exact Nat.le_refl _,fun i _ hi=>Lib.iterAt_other w k i s pos (fun e=>hi (by rw[e]))⟩
structure ItSt(u:World)(n0 Bo b:Nat)(K:Int)(la:Option Addr)(ln lc k:Nat):Prop where
 it:u.heap[n0]? =some (.stringIter (fstr K) k)
 c0:u.cell? ⟨Bo,0,none⟩=some (.pointer (some ⟨b,0,none⟩))
 c6:u.cell? ⟨b,6,none⟩=some (.slice la ln lc)
theorem ItSt.kept{u u':World}{n0 Bo b:Nat}{K:Int}{la:Option Addr}{ln lc k:Nat}(h:ItSt u n0 Bo b K la ln lc k)(hk:Kept Bo b u u'):ItSt u' n0 Bo b K la ln lc k:=
 ⟨hk.walks.same _ _ h.it rfl,hk.c0.trans h.c0,hk.c6.trans h.c6⟩
theorem ItSt.move{u:World}{n0 Bo b:Nat}{K:Int}{la:Option Addr}{ln lc k:Nat}(h:ItSt u n0 Bo b K la ln lc k)(h0:Bo≠n0)(h1:b≠n0):ItSt (u.iterAt n0 (fstr K) (k+1)) n0 Bo b K la ln lc (k+1):=
 have hs:=iterAt_same u n0 (fstr K) (k+1)
 ⟨Lib.iterAt_heap _ _ _ _ _ h.it,(hs.cell ⟨Bo,0,none⟩ h0).trans h.c0,(hs.cell ⟨b,6,none⟩ h1).trans h.c6⟩
theorem it_end{u u':World}{n0 Bo b:Nat}{K:Int}{la:Option Addr}{ln lc k:Nat}(hlt:k<(fieldsL K).length)(h:ItSt u n0 Bo b K la ln lc k)(h':ItSt u' n0 Bo b K la ln lc (k+1)):
 k+1≤(fieldsL K).length∧(fieldsL K).length-u'.iterPos n0<(fieldsL K).length-u.iterPos n0:=by
 refine⟨hlt, ?_⟩
 simp only[World.iterPos,h.it,h'.it]
 omega
set_option maxRecDepth 100000 in
set_option maxHeartbeats 4000000 in
theorem places1_in(K:Int)(l Bo b g off ln lc:Nat)(la:Option Addr)(hla:0<ln→la=some ⟨g,off,none⟩)(hln:ln≤140737488355328)(n:Nat)
 (J Jx:List (Fin (placesL b g off ln K).length)→World→Prop)(W:World)(hJ:AbidesFrom W.heap.size J)
 (hY:∀ n,Yields (placesL b g off ln K).length n l (placeF b g off ln K) J Jx (Kept Bo b))
 (hft:FT W)(hc0:W.cell? ⟨Bo,0,none⟩=some (.pointer (some ⟨b,0,none⟩)))(hcK:W.cell? ⟨b,0,none⟩=some (.int .i64 K))(hc6:W.cell? ⟨b,6,none⟩=some (.slice la ln lc))(h0:J [] W):
 CallsIn Fence.wide n Tryz.prog 127 #[.func (.yield l) #[] #[],.pointer (some ⟨Bo,0,none⟩)] W fun e W'=>(∃v,e=.returned v)∧
  ((∃xs,xs=firsts (placesL b g off ln K).length (placesL b g off ln K).length∧J xs W')∨(∃pre,(∃q,q≤(placesL b g off ln K).length∧pre=firsts _ q)∧Jx pre W')):=by
 have HB:RowKit.Hid (Bo≠W.heap.size∧b≠W.heap.size):=Lib.hid ⟨Nat.ne_of_lt (World.block_lt_of_cell? _ _ hc0),Nat.ne_of_lt (World.block_lt_of_cell? _ _ hc6)⟩
 have HF:=Lib.hid (kfields_any K W hft)
 clear hft
 refine callsIn_of_wp Tryz.func127 rfl trivial ?_ rfl
 simp only[Tryz.ntmps127,List.size_toArray,List.length_cons,List.length_nil,Nat.reduceAdd,Nat.reduceSub,Array.replicate_succ,Array.replicate_zero,List.push_toArray,List.append_toArray,List.nil_append,List.cons_append]
 gi_wp2_with (refine⟨trivial,(fun h=>(nomatch h)), ?_⟩;gi_at_call 128;refine(callsIn_wide.2 HF.out).mono ?_;rintro e w' ⟨rfl,rfl⟩)
 gi_loopw [] (fun wr=>∃ k:Nat,k≤(fieldsL K).length∧RowKit.Hid (ItSt wr W.heap.size Bo b K la ln lc k)∧J (firsts (placesL b g off ln K).length (placesT b g off ln K k).length) wr) (fun wr=>(fieldsL K).length-wr.iterPos W.heap.size)
 case atStart=>
  refine⟨0,Nat.zero_le _,Lib.hid ⟨World.iter_heap W (fstr K) 0, ?_, ?_⟩, ?_⟩
  ·exact(((Below.refl W.heap.size W).alloc (Nat.le_refl _) (.stringIter (fstr K) 0)).cell (p:=⟨Bo,0,none⟩) (World.block_lt_of_cell? _ _ hc0)).trans hc0
  ·exact(((Below.refl W.heap.size W).alloc (Nat.le_refl _) (.stringIter (fstr K) 0)).cell (p:=⟨b,6,none⟩) (World.block_lt_of_cell? _ _ hc6)).trans hc6
  ·exact hJ [] W (W.iter (fstr K) 0) none h0 (World.grownBy_alloc W _ none) (fun r e=>by cases e)
 case round=>
  obtain⟨k,hk,HS,hJs⟩:=hrel
  have hit:=HS.out.it
  by_cases hlt:k<(fieldsL K).length
  ·obtain⟨c,hg⟩:∃ c,(fieldsL K)[k]=c:=⟨_,rfl⟩
   have hks:k<(fstr K).size:=by unfold fstr;rw[mk_size];exact hlt
   have hgs:(fstr K)[k]=c:=by rw[←hg];exact fstr_at hlt hks
   have hlet:=letters K c (by rw[←hg];exact List.getElem_mem _)
   have hnx0:=fun ty=>Lib.run_next_ascii_at (P:=Tryz.prog) wr W.heap.size (fstr K) k ty hit hks (by rw[hgs];rcases hlet with rfl|rfl|rfl|rfl|rfl|rfl|rfl<;>decide)
   rw[hgs]at hnx0
   have HU:=Lib.hid (HS.out.move HB.out.1 HB.out.2)
   have hJu:=hJ _ wr (wr.iterAt W.heap.size (fstr K) (k+1)) (some W.heap.size) hJs (grown_iterAt _ _ _ _) (fun r e=>by cases e;exact⟨Nat.le_refl _,_,hit,rfl⟩)
   obtain⟨u,hu⟩:∃ u,wr.iterAt W.heap.size (fstr K) (k+1)=u:=⟨_,rfl⟩
   rw[hu]at hnx0 HU hJu
   have hat:=places_at (b:=b) (g:=g) (off:=off) (ln:=ln) hlt hg
   have hcu0:=HU.out.c0
   have hcu6:=HU.out.c6
   clear hu hgs hit hks hJs
   rcases hlet with rfl|rfl|rfl|rfl|rfl|rfl|rfl
   ·
    have hnext:(placesT b g off ln K (k+1)).length=(placesT b g off ln K k).length:=by have:=hat.2.1;simpa [placeL]using this
    rw[←hnext]at hJu
    clear hat hg hnext
    have HLT:=Lib.hid hlt
    have HE:=Lib.hid (it_end HLT.out HS.out HU.out)
    clear hlt
    gi_wp2
    go_roundw
    case rel=>exact⟨k+1,HE.out.1,HU,hJu⟩
    case measure=>exact HE.out.2
   ·
    have hnext:(placesT b g off ln K (k+1)).length=(placesT b g off ln K k).length:=by have:=hat.2.1;simpa [placeL]using this
    rw[←hnext]at hJu
    clear hat hg hnext
    have HLT:=Lib.hid hlt
    have HE:=Lib.hid (it_end HLT.out HS.out HU.out)
    clear hlt
    gi_wp2
    go_roundw
    case rel=>exact⟨k+1,HE.out.1,HU,hJu⟩
    case measure=>exact HE.out.2
   ·
    have hpl:placeF b g off ln K ⟨(placesT b g off ln K k).length,by have:=hat.1;simp[placeL]at this;omega⟩=⟨b,1,none⟩:=by have:=hat.2.2 0 (by simp[placeL]) (by have:=hat.1;simp[placeL]at this;omega);simpa [placeL,placeF]using this
    have hy0:=hY (n-1) (placesT b g off ln K k).length (by have:=hat.1;simp[placeL]at this;omega) u hJu
    have hnext:(placesT b g off ln K (k+1)).length=(placesT b g off ln K k).length+1:=by have:=hat.2.1;simpa [placeL]using this
    have hle:(placesT b g off ln K k).length+1≤(placesL b g off ln K).length:=by have:=hat.1;simpa [placeL]using this
    rw[hpl]at hy0
    rw[←hnext]at hy0 hle
    obtain⟨fn,tmps,assign,body,hy,hR⟩:=hy0
    clear hat hg hpl hnext
    have HLT:=Lib.hid hlt
    clear hlt
    gi_wp2
    refine⟨(fun h=>(nomatch h)),hR.mono ?_⟩
    rintro e W3 (⟨rfl,hJ3,hk3⟩|⟨rfl,hJx3⟩)
    ·have HS3:=Lib.hid (HU.out.kept hk3)
     have HE:=Lib.hid (it_end HLT.out HS.out HS3.out)
     clear hk3
     gi_wp2
     go_roundw
     case rel=>exact⟨k+1,HE.out.1,HS3,hJ3⟩
     case measure=>exact HE.out.2
    ·gi_wp2
     refine bodyPost_ret (results_none rfl _ _ _) rfl ?_
     exact⟨⟨_,rfl⟩,.inr ⟨_,⟨_,hle,rfl⟩,hJx3⟩⟩
   ·
    have hpl:placeF b g off ln K ⟨(placesT b g off ln K k).length,by have:=hat.1;simp[placeL]at this;omega⟩=⟨b,2,none⟩:=by have:=hat.2.2 0 (by simp[placeL]) (by have:=hat.1;simp[placeL]at this;omega);simpa [placeL,placeF]using this
    have hy0:=hY (n-1) (placesT b g off ln K k).length (by have:=hat.1;simp[placeL]at this;omega) u hJu
    have hnext:(placesT b g off ln K (k+1)).length=(placesT b g off ln K k).length+1:=by have:=hat.2.1;simpa [placeL]using this
    have hle:(placesT b g off ln K k).length+1≤(placesL b g off ln K).length:=by have:=hat.1;simpa [placeL]using this
    rw[hpl]at hy0
    rw[←hnext]at hy0 hle
    obtain⟨fn,tmps,assign,body,hy,hR⟩:=hy0
    clear hat hg hpl hnext
    have HLT:=Lib.hid hlt
    clear hlt
    gi_wp2
    refine⟨(fun h=>(nomatch h)),hR.mono ?_⟩
    rintro e W3 (⟨rfl,hJ3,hk3⟩|⟨rfl,hJx3⟩)
    ·have HS3:=Lib.hid (HU.out.kept hk3)
     have HE:=Lib.hid (it_end HLT.out HS.out HS3.out)
     clear hk3
     gi_wp2
     go_roundw
     case rel=>exact⟨k+1,HE.out.1,HS3,hJ3⟩
     case measure=>exact HE.out.2
    ·gi_wp2
     refine bodyPost_ret (results_none rfl _ _ _) rfl ?_
     exact⟨⟨_,rfl⟩,.inr ⟨_,⟨_,hle,rfl⟩,hJx3⟩⟩
   ·
    have hpl:placeF b g off ln K ⟨(placesT b g off ln K k).length,by have:=hat.1;simp[placeL]at this;omega⟩=⟨b,3,none⟩:=by have:=hat.2.2 0 (by simp[placeL]) (by have:=hat.1;simp[placeL]at this;omega);simpa [placeL,placeF]using this
    have hy0:=hY (n-1) (placesT b g off ln K k).length (by have:=hat.1;simp[placeL]at this;omega) u hJu
    have hnext:(placesT b g off ln K (k+1)).length=(placesT b g off ln K k).length+1:=by have:=hat.2.1;simpa [placeL]using this
    have hle:(placesT b g off ln K k).length+1≤(placesL b g off ln K).length:=by have:=hat.1;simpa [placeL]using this
    rw[hpl]at hy0
    rw[←hnext]at hy0 hle
    obtain⟨fn,tmps,assign,body,hy,hR⟩:=hy0
    clear hat hg hpl hnext
    have HLT:=Lib.hid hlt
    clear hlt
    gi_wp2
    refine⟨(fun h=>(nomatch h)),hR.mono ?_⟩
    rintro e W3 (⟨rfl,hJ3,hk3⟩|⟨rfl,hJx3⟩)
    ·have HS3:=Lib.hid (HU.out.kept hk3)
     have HE:=Lib.hid (it_end HLT.out HS.out HS3.out)
     clear hk3
     gi_wp2
     go_roundw
     case rel=>exact⟨k+1,HE.out.1,HS3,hJ3⟩
     case measure=>exact HE.out.2
    ·gi_wp2
     refine bodyPost_ret (results_none rfl _ _ _) rfl ?_
     exact⟨⟨_,rfl⟩,.inr ⟨_,⟨_,hle,rfl⟩,hJx3⟩⟩
   ·
    have hnext:(placesT b g off ln K (k+1)).length=(placesT b g off ln K k).length+ln:=by have:=hat.2.1;simpa [placeL]using this
    have hle:(placesT b g off ln K k).length+ln≤(placesL b g off ln K).length:=by have:=hat.1;simpa [placeL]using this
    have HC:=Lib.hid (each_in (placesL b g off ln K).length l (placeF b g off ln K) J Jx (Kept Bo b) (Kept.refl Bo b) Kept.trans hY (placesT b g off ln K k).length g off ln lc la hla hln hle
     (fun j hj=>by have:=hat.2.2 j (by simpa [placeL]using hj) (by omega);simpa [placeL,placeF]using this) (n-1) u hJu)
    rw[←hnext]at HC
    clear hat hg hnext hle
    have HLT:=Lib.hid hlt
    clear hlt
    gi_wp2_with (refine⟨trivial,(fun h=>(nomatch h)), ?_⟩;gi_at_call 129;refine HC.out.mono ?_;rintro e W3 (⟨rfl,hJ3,hk3⟩|⟨rfl,q,hq,hJx3⟩))
    ·have HS3:=Lib.hid (HU.out.kept hk3)
     have HE:=Lib.hid (it_end HLT.out HS.out HS3.out)
     clear hk3
     gi_wp2
     go_roundw
     case rel=>exact⟨k+1,HE.out.1,HS3,hJ3⟩
     case measure=>exact HE.out.2
    ·gi_wp2
     refine bodyPost_ret (results_none rfl _ _ _) rfl ?_
     exact⟨⟨_,rfl⟩,.inr ⟨_,⟨_,hq,rfl⟩,hJx3⟩⟩
   ·
    have hnext:(placesT b g off ln K (k+1)).length=(placesT b g off ln K k).length:=by have:=hat.2.1;simpa [placeL]using this
    rw[←hnext]at hJu
    clear hat hg hnext
    have HLT:=Lib.hid hlt
    have HE:=Lib.hid (it_end HLT.out HS.out HU.out)
    clear hlt
    gi_wp2
    go_roundw
    case rel=>exact⟨k+1,HE.out.1,HU,hJu⟩
    case measure=>exact HE.out.2
  ·have hks:¬ k<(fstr K).size:=by unfold fstr;rw[mk_size];exact hlt
   have hnx0:=fun ty=>Lib.run_next_end_at (P:=Tryz.prog) wr W.heap.size (fstr K) k ty hit hks
   have he:(placesT b g off ln K k).length=(placesL b g off ln K).length:=by rw[placesT_all (by omega)]
   rw[he]at hJs
   gi_wp2
   go_end0
   exact⟨⟨_,rfl⟩,.inl ⟨_,rfl,hJs⟩⟩
end Go.Proofs.YtikoklagffbgiaaGreatDoor

namespace Go.Proofs.YtikoklagffbgiaaGreatDoor
open Go.RowKit
set_option linter.unusedVariables false
section
variable (b g off ln : Nat) (K A B C : Int) (L : List Int)
def placeV(f:UInt8):List (Addr×Int):=if f=65 then [(⟨b,1,none⟩,A)]else if f=66 then [(⟨b,2,none⟩,B)]else if f=67 then [(⟨b,3,none⟩,C)]else if f=76 then(List.range ln).map fun j=>(⟨g,off+j,none⟩,nth L j)else []
def pairsL:List (Addr×Int):=(fieldsL K).flatMap (placeV b g off ln A B C L)
variable {b g off ln K A B C L}
theorem placeV_fst(f:UInt8):(placeV b g off ln A B C L f).map (·.1)=placeL b g off ln f:=by
 unfold placeV placeL
 split
 ·rfl
 ·split
  ·rfl
  ·split
   ·rfl
   ·split
    ·simp[Function.comp_def]
    ·rfl
theorem pairs_fst:(pairsL b g off ln K A B C L).map (·.1)=placesL b g off ln K:=by
 unfold pairsL placesL
 rw[List.map_flatMap]
 congr 1
 funext f
 exact placeV_fst f
theorem pairs_len:(pairsL b g off ln K A B C L).length=(placesL b g off ln K).length:=by rw[←pairs_fst (A:=A) (B:=B) (C:=C) (L:=L),List.length_map]
theorem range_nth{L:List Int}:∀ {n:Nat},L.length=n→(List.range n).map (fun j=>nth L j)=L:=by
 intro n h
 subst h
 apply List.ext_getElem
 ·simp
 ·intro i h1 h2
  simp only[List.getElem_map,List.getElem_range]
  exact nth_is h2
theorem pairs_snd(hL:L.length=ln):(pairsL b g off ln K A B C L).map (·.2)=usesL K A B C L:=by
 have hr:=range_nth hL
 unfold pairsL
 rw[List.map_flatMap]
 rcases kinds K with h|h
 ·rcases h with rfl|rfl|rfl|rfl|rfl|rfl|rfl|rfl|rfl|rfl|rfl|rfl|rfl|rfl|rfl|rfl|rfl|rfl|rfl|rfl|rfl|rfl|rfl|rfl|rfl|rfl
  all_goals simp[fieldsL,placeV,usesL,hasB,oneL,pickL,Function.comp_def,hr]
 ·rw[fields_none h]
  simp[usesL,hasB,fields_none h,oneL,pickL]
theorem pairs_cells{u:World}{la:Option Addr}{N:Int}{S:ByteArray}{lc:Nat}{T:Bool}(hL:L.length=ln)(hla:0<ln→la=some ⟨g,off,none⟩)(hb:∀ j,u.cell? ⟨b,j,none⟩=(#[.int .i64 K,.int .i64 A,.int .i64 B,.int .i64 C,.int .i64 N,.string S,.slice la ln lc,.bool T]:Array Value)[j]?)(hat:NumsAt u la ln L):
 ∀x∈pairsL b g off ln K A B C L,u.cell? x.1=some (numV x.2):=by
 intro x hx
 obtain⟨f,_,hf⟩:=List.mem_flatMap.1 hx
 unfold placeV at hf
 split at hf
 ·simp only[List.mem_singleton]at hf;subst hf;rw[hb];rfl
 ·split at hf
  ·simp only[List.mem_singleton]at hf;subst hf;rw[hb];rfl
  ·split at hf
   ·simp only[List.mem_singleton]at hf;subst hf;rw[hb];rfl
   ·split at hf
    ·obtain⟨j,hj,rfl⟩:=List.mem_map.1 hf
     rw[List.mem_range]at hj
     obtain⟨g',off',he,_,hc⟩:=hat.2 (by omega)
     rw[hla (by omega)]at he
     cases he
     rw[hc j (by omega),nth_is (by omega)]
    ·cases hf
end
def valF(b g off ln:Nat)(K A B C:Int)(L:List Int)(i:Fin (placesL b g off ln K).length):Int:=((pairsL b g off ln K A B C L)[i.1]'(by rw[pairs_len];exact i.2)).2
theorem pair_mem{b g off ln:Nat}{K A B C:Int}{L:List Int}(i:Fin (placesL b g off ln K).length):(placeF b g off ln K i,valF b g off ln K A B C L i)∈pairsL b g off ln K A B C L:=by
 have h:(pairsL b g off ln K A B C L)[i.1]'(by rw[pairs_len];exact i.2)=(placeF b g off ln K i,valF b g off ln K A B C L i):=by
  refine Prod.ext ?_ rfl
  have:=congrArg (·[i.1]?) (pairs_fst (b:=b) (g:=g) (off:=off) (ln:=ln) (K:=K) (A:=A) (B:=B) (C:=C) (L:=L))
  simp only[List.getElem?_map,List.getElem?_eq_getElem (show i.1<(pairsL b g off ln K A B C L).length by rw[pairs_len];exact i.2),List.getElem?_eq_getElem i.2,Option.map_some,Option.some.injEq]at this
  exact this
 rw[←h]
 exact List.getElem_mem _
theorem vals_all{b g off ln:Nat}{K A B C:Int}{L:List Int}(hL:L.length=ln):(firsts (placesL b g off ln K).length (placesL b g off ln K).length).map (valF b g off ln K A B C L)=usesL K A B C L:=by
 rw[←pairs_snd (b:=b) (g:=g) (off:=off) hL]
 apply List.ext_getElem
 ·simp[firsts,pairs_len]
 ·intro i h1 h2
  simp[firsts,valF]
theorem places_stops(K:Int)(Bo b g off ln lc:Nat)(la:Option Addr)(hla:0<ln→la=some ⟨g,off,none⟩)(hln:ln≤140737488355328)(n:Nat)(w:World)(hft:FT w)
 (hc0:w.cell? ⟨Bo,0,none⟩=some (.pointer (some ⟨b,0,none⟩)))(hcK:w.cell? ⟨b,0,none⟩=some (.int .i64 K))(hc6:w.cell? ⟨b,6,none⟩=some (.slice la ln lc)):
 SeqStopsK Fence.wide n Tryz.prog 127 #[.pointer (some ⟨Bo,0,none⟩)] (fun i:Fin (placesL b g off ln K).length=>#[Value.pointer (some (placeF b g off ln K i))]) (Kept Bo b)
  (fun xs=>xs=firsts (placesL b g off ln K).length (placesL b g off ln K).length) (fun pre=>∃ q,q≤(placesL b g off ln K).length∧pre=firsts _ q) (placesL b g off ln K).length w:=by
 intro l J Jx W hW hJ hJx hY h0
 refine places1_in K l Bo b g off ln lc la hla hln n J Jx W hJ (fun m k h W1 hj=> ?_) (hft.since hW) ((hW.cell (p:=⟨Bo,0,none⟩) (World.block_lt_of_cell? _ _ hc0)).trans hc0) ((hW.cell (p:=⟨b,0,none⟩) (World.block_lt_of_cell? _ _ hcK)).trans hcK) ((hW.cell (p:=⟨b,6,none⟩) (World.block_lt_of_cell? _ _ hc6)).trans hc6) h0
 have:=hY (firsts _ k) ⟨k,h⟩ W1 hj (by rw[firsts_len (Nat.le_of_lt h)];exact h)
 rw[firsts_next h]at this
 exact yield_depth rfl this
end Go.Proofs.YtikoklagffbgiaaGreatDoor

namespace Go.Proofs.YtikoklagffbgiaaGreatDoor
set_option linter.unusedVariables false
open Go.RowKit
attribute [local go_sem] Oper.semAt_some
open Go.Lib (hid)
theorem stepIn_append_num{F:Fence}{n:Nat}{P:Program}{u:World}{ops:Array Oper}{o:Oper}{a:Act}{K:Act→World→Prop}{Q:Exit→Act→World→Prop}{E:Prop}(hgd:o.guard=none)(s x:Operand)(t:TypeId)
 (ho:o.op=.call {callee:=.builtin .append,args:=#[s,x],argTypes:=#[t,t]})(e:TypeId)(ht:P.underlying t=some (.slice e))
 (hinfo:(P.info? e).map (fun i=>(i.zero,i.size,i.bytes))=some (some (.int .i64 0),1,8))
 (B:Nat)(v:Value)(Z:List Int)(hs:a.eval s=v)(hown:OwnsI u B e v Z)(hB:B≤u.heap.size)
 (c g:Nat)(z:Int)(hx:a.eval x=.slice (some ⟨g,0,none⟩) 1 c)(hc:u.cell? ⟨g,0,none⟩=some (.int .i64 z))(hlen:(Z.length+1)*8≤140737488355328)
 (h:∀ va vn vc w',OwnsI w' B e (.slice va vn vc) (Z++ [z])→u.grownBy w' v.ownBlock→K (a.put o.dst (.slice va vn vc)) w'):
 if Region.wanted o (yielded ops a.tmps)=true then Oper.wpIn F n P o a u K Q else E:=by
 have hw:Region.wanted o (yielded ops a.tmps)=true:=by simp[Region.wanted,hgd]
 rw[if_pos hw]
 obtain⟨i0,hi,hz0,hz1,hz2⟩:=info_parts hinfo
 obtain⟨v',w',hrun,r1,r2,r3⟩:=run_append_own (P:=P) u B t o.type e i0 (.int .i64 0) 1 8 ht hi hz0 hz1 hz2 rfl (by decide) v Z.length (Z.map numV) hown ⟨g,0,none⟩ 1 c [.int .i64 z] rfl (fun j y hy=>by
  cases j with
  |zero=>simp at hy;subst hy;exact hc
  |succ j=>simp at hy) (by intro y hy;simp at hy;subst hy;rfl) (by unfold maxLen;omega) hlen hB
 have hown':OwnsI w' B e v' (Z++ [z]):=by
  show w'.ownsRow B e 1 v' (Z++ [z]).length ((Z++ [z]).map numV)
  rw[List.map_append,List.length_append]
  exact r1
 obtain⟨va,vn,vc,rfl,_⟩:=hown'.nums
 unfold Oper.wpIn
 refine⟨?_, ?_⟩
 ·simp[Oper.about,ho,resolve,Target.leads,Sem.run_pure]
 ·rw[Oper.semAt_plain F _ _ (by rw[ho];intro c hc';cases hc')]
  simp[execOp,ho,resolve,invoke,builtin,hs,hx,hrun,Result.andThen]
  exact h va vn vc w' hown' r2
structure UseSt(w:World)(W:World)(O:Array Value)(v:Value)(Z:List Int):Prop where
 inb:Box W w.heap.size O
 box:Boxed W (w.heap.size+1) 40 v
 own:OwnsI W (w.heap.size+3) 3 v Z
 bel:Below w.heap.size w W
 siz:w.heap.size+3≤W.heap.size
theorem UseSt.append{w W w1:World}{O:Array Value}{v:Value}{Z:List Int}{z:Int}{va:Option Addr}{vn vc:Nat}{tmp:Obj}(h:UseSt w W O v Z)(ho:OwnsI w1 (w.heap.size+3) 3 (.slice va vn vc) (Z++ [z]))(hg:((W.alloc tmp).drew).grownBy w1 v.ownBlock):
 Boxed w1 (w.heap.size+1) 40 v∧UseSt w (w1.setCell ⟨w.heap.size+1,0,none⟩ (.slice va vn vc)) O (.slice va vn vc) (Z++ [z])∧KeepsOthers W (w1.setCell ⟨w.heap.size+1,0,none⟩ (.slice va vn vc))∧Kept (w.heap.size+1+1) w.heap.size W (w1.setCell ⟨w.heap.size+1,0,none⟩ (.slice va vn vc)):=by
 have hsz:=h.siz
 have hb:Below (w.heap.size+3) W w1:=Below.grown (((Below.refl (w.heap.size+3) W).alloc h.siz tmp).drew) hg (by show _≤(W.alloc tmp).heap.size;simp;omega) (fun k hk=>(h.own.lt k hk).1)
 have hbx:Boxed w1 (w.heap.size+1) 40 v:=(hb.block _ (by omega)).trans h.box
 have hk:KeepsOthers W (w1.setCell ⟨w.heap.size+1,0,none⟩ (.slice va vn vc)):=by
  refine(((KeepsOthers.alloc W tmp).trans (KeepsOthers.drew _)).trans (KeepsOthers.of_grownBy hg fun j o ej hj=> ?_)).trans (KeepsOthers.setCell _ _ _)
  have hlt:=h.own.lt j ej
  have hj':W.heap[j]? =some o:=by
   have h1:((W.alloc tmp).drew).heap[j]? =W.heap[j]? :=((Below.refl W.heap.size W).alloc (Nat.le_refl _) tmp).block j hlt.2
   exact h1.symm.trans hj
  rcases h.own.2 with⟨he,_⟩|⟨g,cap,cur,he,_,hgb,_⟩
  ·subst he;simp[Value.ownBlock]at ej
  ·subst he
   obtain rfl:g=j:=by simpa [Value.ownBlock]using ej
   rw[hgb]at hj';cases hj';rfl
 refine⟨hbx,⟨(h.inb.below hb (by omega)).other (by omega) _ _,hbx.set _,ho.setCell _ _ (by show w.heap.size+1<w.heap.size+3;omega),(h.bel.trans (hb.mono (by omega))).setCell (by show w.heap.size≤w.heap.size+1;omega) _,by rw[setCell_size];exact Nat.le_trans h.siz hb.size⟩,hk,hk.walks, ?_, ?_⟩
 ·exact(World.cell?_setCell_other _ _ _ _ (fun he=>by have:=congrArg Addr.block he;dsimp only at this;omega)).trans (hb.cell (p:=⟨w.heap.size+1+1,0,none⟩) (by show w.heap.size+1+1<w.heap.size+3;omega))
 ·exact(World.cell?_setCell_other _ _ _ _ (fun he=>by have:=congrArg Addr.block he;dsimp only at this;omega)).trans (hb.cell (p:=⟨w.heap.size,6,none⟩) (by show w.heap.size<w.heap.size+3;omega))
theorem UseSt.grown{w W W':World}{O:Array Value}{v:Value}{Z:List Int}{row:Option Nat}(h:UseSt w W O v Z)(hg:W.grownBy W' row)(hr:∀ r,row=some r→w.heap.size+3≤r∧∃ o:Obj,W.heap[r]? =some o∧o.isCells=false):UseSt w W' O v Z:=by
 have hb:Below (w.heap.size+3) W W':=Below.grown (Below.refl _ W) hg h.siz (fun k e=>(hr k e).1)
 refine⟨h.inb.below hb (by omega),(hb.block _ (by omega)).trans h.box,World.ownsRow.kept h.own hg ?_,h.bel.trans (hb.mono (by omega)),Nat.le_trans h.siz hb.size⟩
 rcases h.own.2 with⟨he,_⟩|⟨g,cap,cur,he,_,hgb,_⟩
 ·exact .inl (by rw[he];rfl)
 ·refine .inr fun e'=> ?_
  obtain⟨_,o,ho,hc⟩:=hr g (by rw[←e',he];rfl)
  rw[hgb]at ho;cases ho;cases hc
theorem kept_putObj{Bo b n0:Nat}(h0:Bo<n0)(h1:b<n0)(W:World)(l:Nat)(o o':Obj)(hl:n0≤l)(ho:W.heap[l]? =some o)(_:o.isCells=false)(hw:o.isWalk=false):Kept Bo b W (W.putObj l o'):=
 ⟨KeepsWalks.putObj _ ho hw,by simp only[World.cell?,World.putObj_heap_other (show Bo≠l by omega)],by simp only[World.cell?,World.putObj_heap_other (show b≠l by omega)]⟩
theorem OwnsI.putObj{W:World}{B:Nat}{e:TypeId}{v:Value}{Z:List Int}(h:OwnsI W B e v Z){l:Nat}{o:Obj}(o':Obj)(hl:W.heap[l]? =some o)(ho:o.isCells=false):OwnsI (W.putObj l o') B e v Z:=ownsRow_putObj h o' hl ho
theorem places_len(b g off ln:Nat)(K:Int):(placesL b g off ln K).length≤ln+3:=by
 have h:=congrArg List.length (pairs_snd (b:=b) (g:=g) (off:=off) (ln:=ln) (K:=K) (A:=0) (B:=0) (C:=0) (L:=List.replicate ln 0) (by simp))
 rw[List.length_map,pairs_len]at h
 rw[h]
 unfold usesL
 have h1:=oneL_len (hasB K 65) 0
 have h2:=oneL_len (hasB K 66) 0
 have h3:=oneL_len (hasB K 67) 0
 have h4:(pickL (hasB K 76) (List.replicate ln 0)).length≤ln:=by unfold pickL;split<;>simp
 simp only[List.length_append]
 omega
set_option maxRecDepth 100000 in
set_option maxHeartbeats 4000000 in
theorem kuses_any(K A B C N:Int)(S:ByteArray)(la:Option Addr)(ln lc:Nat)(T:Bool)(L:List Int)(w:World)(hft:FT w)(hat:NumsAt w la ln L)(hnil:la=none→lc=0)(hn:ln≤17592186044000):
 Calls Tryz.prog 118 #[.agg #[.int .i64 K,.int .i64 A,.int .i64 B,.int .i64 C,.int .i64 N,.string S,.slice la ln lc,.bool T]] w
  fun e w'=>∃ va vn vc,e=.returned (.slice va vn vc)∧OwnsI w' w.heap.size 3 (.slice va vn vc) (usesL K A B C L)∧Below w.heap.size w w':=by
 obtain⟨g,off,hla⟩:∃ g off,0<ln→la=some ⟨g,off,none⟩:=by
  by_cases h:0<ln
  ·obtain⟨g,off,e,_⟩:=hat.2 h
   exact⟨g,off,fun _=>e⟩
  ·exact⟨0,0,fun h'=>absurd h' h⟩
 have HA:=hid hat
 have HNIL:=hid hnil
 have HFT:=hid hft
 have HLA:=hid hla
 have HPL:=hid (places_len w.heap.size g off ln K)
 have hmix:Tryz.prog.follows .mixedOrders=true:=by kernel_rfl
 clear hat hnil hft hla
 refine(callsIn_wide (n:=9)).1 ?_
 refine callsIn_of_wp_marks Tryz.func118 rfl trivial ?_ rfl
 simp only[Tryz.ntmps118,List.size_toArray,List.length_cons,List.length_nil,Nat.reduceAdd,Nat.reduceSub,Array.replicate_succ,Array.replicate_zero,List.push_toArray,List.append_toArray,List.nil_append,List.cons_append]
 gi_wp2_with (refine⟨trivial, ?_⟩;gi_at_call 97;refine(callsIn_wide.2 (places_any _ _)).mono ?_;rintro e w' ⟨rfl,rfl⟩)
 have HS0:Hid (UseSt w (((w.alloc (.cells #[.int .i64 K,.int .i64 A,.int .i64 B,.int .i64 C,.int .i64 N,.string S,.slice la ln lc,.bool T] 64)).alloc (.cells #[.slice none 0 0] 40)).alloc (.cells #[.pointer (some ⟨w.heap.size,0,none⟩)] 150)) #[.int .i64 K,.int .i64 A,.int .i64 B,.int .i64 C,.int .i64 N,.string S,.slice la ln lc,.bool T] (.slice none 0 0) []):=
  hid ⟨((Box.new _ _ _ rfl).alloc (by simp) _).alloc (by simp<;>omega) _,by have h:=(Boxed.new (w.alloc (.cells #[.int .i64 K,.int .i64 A,.int .i64 B,.int .i64 C,.int .i64 N,.string S,.slice la ln lc,.bool T] 64)) 40 (.slice none 0 0)).alloc (.cells #[.pointer (some ⟨w.heap.size,0,none⟩)] 150);rw[World.size_alloc]at h;exact h,World.ownsRow_nil _ _ _ 1,(((Below.refl w.heap.size w).alloc (Nat.le_refl _) _).alloc (by simp) _).alloc (by simp<;>omega) _,by simp⟩
 have hcB:(((w.alloc (.cells #[.int .i64 K,.int .i64 A,.int .i64 B,.int .i64 C,.int .i64 N,.string S,.slice la ln lc,.bool T] 64)).alloc (.cells #[.slice none 0 0] 40)).alloc (.cells #[.pointer (some ⟨w.heap.size,0,none⟩)] 150)).cell? ⟨w.heap.size+1+1,0,none⟩=some (.pointer (some ⟨w.heap.size,0,none⟩)):=by
  rw[show w.heap.size+1+1=((w.alloc (.cells #[.int .i64 K,.int .i64 A,.int .i64 B,.int .i64 C,.int .i64 N,.string S,.slice la ln lc,.bool T] 64)).alloc (.cells #[.slice none 0 0] 40)).heap.size by simp]
  exact World.cell?_alloc_mark _ _ _ _ _
 obtain⟨W0,hW0⟩:∃ W0,(((w.alloc (.cells #[.int .i64 K,.int .i64 A,.int .i64 B,.int .i64 C,.int .i64 N,.string S,.slice la ln lc,.bool T] 64)).alloc (.cells #[.slice none 0 0] 40)).alloc (.cells #[.pointer (some ⟨w.heap.size,0,none⟩)] 150))=W0:=⟨_,rfl⟩
 have hz0:W0.heap.size=w.heap.size+3:=by rw[←hW0];simp
 rw[hW0]at HS0 hcB⊢
 have HW0:=hid hW0
 clear hW0
 have hst:=places_stops K (w.heap.size+1+1) w.heap.size g off ln lc la HLA.out (by omega) 8 W0 (HFT.out.since HS0.out.bel) hcB (by rw[HS0.out.inb.1];rfl) (by rw[HS0.out.inb.1];rfl)
 refine wpIn_rangeFunc_ownF rfl (by omega) (gf:=127) (lb:=#[.pointer (some ⟨w.heap.size+1+1,0,none⟩)]) rfl trivial (enters_of Tryz.func127 (by kernel_rfl) rfl) hst Kept.trans ?hKb (Below.refl _ _) (fun _=>rfl)
  (fun pre W=>∃ v,UseSt w W #[.int .i64 K,.int .i64 A,.int .i64 B,.int .i64 C,.int .i64 N,.string S,.slice la ln lc,.bool T] v (pre.map (valF w.heap.size g off ln K A B C L)))
  (fun _ _ _=>False) ?hI (fun _ _ _ _ _ hs _ _=>hs) ⟨_,HS0.out⟩
  (fun i=>{tmps:=#[.agg #[.int .i64 K,.int .i64 A,.int .i64 B,.int .i64 C,.int .i64 N,.string S,.slice la ln lc,.bool T],.pointer (some ⟨w.heap.size,0,none⟩),.slice none 0 0,.pointer (some ⟨w.heap.size+1,0,none⟩),.pointer (some (placeF w.heap.size g off ln K i)),.func (.func 127) #[] #[.pointer (some ⟨w.heap.size+1+1,0,none⟩)],.pointer (some (placeF w.heap.size g off ln K i)),undef,undef,undef,undef,undef,undef,undef],defers:=[]}) ?assign ?body ?done ?stop
 case hKb=>exact kept_putObj (n0:=W0.heap.size) (by omega) (by omega)
 case hI=>rintro pre W W' row ⟨v,hS⟩ hg hr;exact⟨v,hS.grown hg (fun r e=>by rw[←hz0];exact hr r e)⟩
 case assign=>
  intro l x W K hK
  gi_wp2
  exact hK
 case body=>
  rintro l pre x W ⟨v,hS⟩ hlen
  have HS:=hid hS
  have hv:=hS.box.cell
  have hvf:=hS.box.frozen
  have hcx:W.cell? (placeF w.heap.size g off ln K x)=some (numV (valF w.heap.size g off ln K A B C L x)):=pairs_cells HA.out.1 HLA.out hS.inb.1 (HA.out.since hS.bel) _ (pair_mem x)
  obtain⟨ad,had⟩:∃ ad,placeF w.heap.size g off ln K x=ad:=⟨_,rfl⟩
  obtain⟨z,hz⟩:∃ z,valF w.heap.size g off ln K A B C L x=z:=⟨_,rfl⟩
  rw[had,hz]at hcx
  rw[had]
  unfold numV at hcx
  have HOA:Hid (OwnsI ((W.alloc (.cells #[.int .i64 z] 3)).drew) (w.heap.size+3) 3 v (pre.map (valF w.heap.size g off ln K A B C L))):=hid (hS.own.below ((Below.refl _ W).alloc (Nat.le_refl _) _).drew)
  have HBA:Hid (w.heap.size+3≤((W.alloc (.cells #[.int .i64 z] 3)).drew).heap.size):=hid (by have:=hS.siz;show _≤(W.alloc _).heap.size;simp;omega)
  have HCA:Hid (((W.alloc (.cells #[.int .i64 z] 3)).drew).cell? ⟨W.heap.size,0,none⟩=some (.int .i64 z)):=hid (World.cell?_alloc_mark _ _ _ _ _)
  have HLN:Hid (((pre.map (valF w.heap.size g off ln K A B C L)).length+1)*8≤140737488355328):=hid (by rw[List.length_map];have:=HPL.out;omega)
  have HSNEXT:Hid (∀v' W',UseSt w W' #[.int .i64 K,.int .i64 A,.int .i64 B,.int .i64 C,.int .i64 N,.string S,.slice la ln lc,.bool T] v' (pre.map (valF w.heap.size g off ln K A B C L)++ [z])→UseSt w W' #[.int .i64 K,.int .i64 A,.int .i64 B,.int .i64 C,.int .i64 N,.string S,.slice la ln lc,.bool T] v' ((pre++ [x]).map (valF w.heap.size g off ln K A B C L))):=hid (fun v' W' h=>by rw[List.map_append,List.map_cons,List.map_nil,hz];exact h)
  have hva:(W.alloc (.cells #[.int .i64 z] 3)).cell? ⟨w.heap.size+1,0,none⟩=some v:=(((Below.refl _ W).alloc (Nat.le_refl _) _).cell (p:=⟨w.heap.size+1,0,none⟩) hS.box.lt).trans hv
  clear hS hz had
  gi_wp2
  refine wpIn_region_any hmix ?_
  change wpAnyIn _ _ _ _ _ _ _ _ _ (World.drew _)
  refine wpAnyIn_ready (rs:=[0,1]) (by kernel_rfl) (by simp) ?_
  refine AllReadyIn.cons rfl (fun K hK=> ?_) (AllReadyIn.cons rfl (fun K hK=> ?_) AllReadyIn.nil)
  ·go_simp
   refine hK _ _ ?_
   clear hK K
   refine wpAnyIn_ready (rs:=[1]) (by kernel_rfl) (by simp) ?_
   refine AllReadyIn.cons rfl (fun K hK=> ?_) AllReadyIn.nil
   go_simp
   refine hK _ _ ?_
   clear hK K
   refine wpAnyIn_ready (rs:=[2]) (by kernel_rfl) (by simp) ?_
   refine AllReadyIn.cons rfl (fun K hK=> ?_) AllReadyIn.nil
   go_simp
   refine hK _ _ ?_
   clear hK K
   refine wpAnyIn_ready (rs:=[3]) (by kernel_rfl) (by simp) ?_
   refine AllReadyIn.cons rfl (fun K hK=> ?_) AllReadyIn.nil
   go_simp
   refine hK _ _ ?_
   clear hK K
   refine wpAnyIn_ready (rs:=[4]) (by kernel_rfl) (by simp) ?_
   refine AllReadyIn.cons rfl (fun K hK=> ?_) AllReadyIn.nil
   go_simp
   refine hK _ _ ?_
   clear hK K
   refine wpAnyIn_ready (rs:=[5]) (by kernel_rfl) (by simp) ?_
   refine AllReadyIn.cons rfl (fun K hK=> ?_) AllReadyIn.nil
   refine stepIn_append_num rfl _ _ 40 rfl 3 Tryz.underlying40 info_int (w.heap.size+3) _ _ rfl HOA.out HBA.out _ _ z rfl HCA.out HLN.out ?_
   intro va vn vc w1 hown1 hgrow1
   have HS1:=hid (HS.out.append hown1 hgrow1)
   have hc1:=HS1.out.1.cell
   have hf1:=HS1.out.1.frozen
   clear hown1 hgrow1
   refine hK _ _ ?_
   clear hK K
   refine wpAnyIn_ready (rs:=[6]) (by kernel_rfl) (by simp) ?_
   refine AllReadyIn.cons rfl (fun K hK=> ?_) AllReadyIn.nil
   go_simp
   refine hK _ _ ?_
   clear hK K
   refine wpAnyIn_done (by kernel_rfl) ?_ _
   exact⟨HS1.out.2.2.1,HS1.out.2.2.2,_,HSNEXT.out _ _ HS1.out.2.1⟩
  ·go_simp
   refine hK _ _ ?_
   clear hK K
   refine wpAnyIn_ready (rs:=[0,2]) (by kernel_rfl) (by simp) ?_
   refine AllReadyIn.cons rfl (fun K hK=> ?_) (AllReadyIn.cons rfl (fun K hK=> ?_) AllReadyIn.nil)
   ·go_simp
    refine hK _ _ ?_
    clear hK K
    refine wpAnyIn_ready (rs:=[2]) (by kernel_rfl) (by simp) ?_
    refine AllReadyIn.cons rfl (fun K hK=> ?_) AllReadyIn.nil
    go_simp
    refine hK _ _ ?_
    clear hK K
    refine wpAnyIn_ready (rs:=[3]) (by kernel_rfl) (by simp) ?_
    refine AllReadyIn.cons rfl (fun K hK=> ?_) AllReadyIn.nil
    go_simp
    refine hK _ _ ?_
    clear hK K
    refine wpAnyIn_ready (rs:=[4]) (by kernel_rfl) (by simp) ?_
    refine AllReadyIn.cons rfl (fun K hK=> ?_) AllReadyIn.nil
    go_simp
    refine hK _ _ ?_
    clear hK K
    refine wpAnyIn_ready (rs:=[5]) (by kernel_rfl) (by simp) ?_
    refine AllReadyIn.cons rfl (fun K hK=> ?_) AllReadyIn.nil
    refine stepIn_append_num rfl _ _ 40 rfl 3 Tryz.underlying40 info_int (w.heap.size+3) _ _ rfl HOA.out HBA.out _ _ z rfl HCA.out HLN.out ?_
    intro va vn vc w1 hown1 hgrow1
    have HS1:=hid (HS.out.append hown1 hgrow1)
    have hc1:=HS1.out.1.cell
    have hf1:=HS1.out.1.frozen
    clear hown1 hgrow1
    refine hK _ _ ?_
    clear hK K
    refine wpAnyIn_ready (rs:=[6]) (by kernel_rfl) (by simp) ?_
    refine AllReadyIn.cons rfl (fun K hK=> ?_) AllReadyIn.nil
    go_simp
    refine hK _ _ ?_
    clear hK K
    refine wpAnyIn_done (by kernel_rfl) ?_ _
    exact⟨HS1.out.2.2.1,HS1.out.2.2.2,_,HSNEXT.out _ _ HS1.out.2.1⟩
   ·go_simp
    refine hK _ _ ?_
    clear hK K
    refine wpAnyIn_ready (rs:=[0,3]) (by kernel_rfl) (by simp) ?_
    refine AllReadyIn.cons rfl (fun K hK=> ?_) (AllReadyIn.cons rfl (fun K hK=> ?_) AllReadyIn.nil)
    ·go_simp
     refine hK _ _ ?_
     clear hK K
     refine wpAnyIn_ready (rs:=[3]) (by kernel_rfl) (by simp) ?_
     refine AllReadyIn.cons rfl (fun K hK=> ?_) AllReadyIn.nil
     go_simp
     refine hK _ _ ?_
     clear hK K
     refine wpAnyIn_ready (rs:=[4]) (by kernel_rfl) (by simp) ?_
     refine AllReadyIn.cons rfl (fun K hK=> ?_) AllReadyIn.nil
     go_simp
     refine hK _ _ ?_
     clear hK K
     refine wpAnyIn_ready (rs:=[5]) (by kernel_rfl) (by simp) ?_
     refine AllReadyIn.cons rfl (fun K hK=> ?_) AllReadyIn.nil
     refine stepIn_append_num rfl _ _ 40 rfl 3 Tryz.underlying40 info_int (w.heap.size+3) _ _ rfl HOA.out HBA.out _ _ z rfl HCA.out HLN.out ?_
     intro va vn vc w1 hown1 hgrow1
     have HS1:=hid (HS.out.append hown1 hgrow1)
     have hc1:=HS1.out.1.cell
     have hf1:=HS1.out.1.frozen
     clear hown1 hgrow1
     refine hK _ _ ?_
     clear hK K
     refine wpAnyIn_ready (rs:=[6]) (by kernel_rfl) (by simp) ?_
     refine AllReadyIn.cons rfl (fun K hK=> ?_) AllReadyIn.nil
     go_simp
     refine hK _ _ ?_
     clear hK K
     refine wpAnyIn_done (by kernel_rfl) ?_ _
     exact⟨HS1.out.2.2.1,HS1.out.2.2.2,_,HSNEXT.out _ _ HS1.out.2.1⟩
    ·go_simp
     refine hK _ _ ?_
     clear hK K
     refine wpAnyIn_ready (rs:=[0,4]) (by kernel_rfl) (by simp) ?_
     refine AllReadyIn.cons rfl (fun K hK=> ?_) (AllReadyIn.cons rfl (fun K hK=> ?_) AllReadyIn.nil)
     ·go_simp
      refine hK _ _ ?_
      clear hK K
      refine wpAnyIn_ready (rs:=[4]) (by kernel_rfl) (by simp) ?_
      refine AllReadyIn.cons rfl (fun K hK=> ?_) AllReadyIn.nil
      go_simp
      refine hK _ _ ?_
      clear hK K
      refine wpAnyIn_ready (rs:=[5]) (by kernel_rfl) (by simp) ?_
      refine AllReadyIn.cons rfl (fun K hK=> ?_) AllReadyIn.nil
      refine stepIn_append_num rfl _ _ 40 rfl 3 Tryz.underlying40 info_int (w.heap.size+3) _ _ rfl HOA.out HBA.out _ _ z rfl HCA.out HLN.out ?_
      intro va vn vc w1 hown1 hgrow1
      have HS1:=hid (HS.out.append hown1 hgrow1)
      have hc1:=HS1.out.1.cell
      have hf1:=HS1.out.1.frozen
      clear hown1 hgrow1
      refine hK _ _ ?_
      clear hK K
      refine wpAnyIn_ready (rs:=[6]) (by kernel_rfl) (by simp) ?_
      refine AllReadyIn.cons rfl (fun K hK=> ?_) AllReadyIn.nil
      go_simp
      refine hK _ _ ?_
      clear hK K
      refine wpAnyIn_done (by kernel_rfl) ?_ _
      exact⟨HS1.out.2.2.1,HS1.out.2.2.2,_,HSNEXT.out _ _ HS1.out.2.1⟩
     ·go_simp
      refine hK _ _ ?_
      clear hK K
      refine wpAnyIn_ready (rs:=[0]) (by kernel_rfl) (by simp) ?_
      refine AllReadyIn.cons rfl (fun K hK=> ?_) AllReadyIn.nil
      go_simp
      refine hK _ _ ?_
      clear hK K
      refine wpAnyIn_ready (rs:=[5]) (by kernel_rfl) (by simp) ?_
      refine AllReadyIn.cons rfl (fun K hK=> ?_) AllReadyIn.nil
      refine stepIn_append_num rfl _ _ 40 rfl 3 Tryz.underlying40 info_int (w.heap.size+3) _ _ rfl HOA.out HBA.out _ _ z rfl HCA.out HLN.out ?_
      intro va vn vc w1 hown1 hgrow1
      have HS1:=hid (HS.out.append hown1 hgrow1)
      have hc1:=HS1.out.1.cell
      have hf1:=HS1.out.1.frozen
      clear hown1 hgrow1
      refine hK _ _ ?_
      clear hK K
      refine wpAnyIn_ready (rs:=[6]) (by kernel_rfl) (by simp) ?_
      refine AllReadyIn.cons rfl (fun K hK=> ?_) AllReadyIn.nil
      go_simp
      refine hK _ _ ?_
      clear hK K
      refine wpAnyIn_done (by kernel_rfl) ?_ _
      exact⟨HS1.out.2.2.1,HS1.out.2.2.2,_,HSNEXT.out _ _ HS1.out.2.1⟩
 case done=>
  rintro D ys W hD rfl ⟨v,hS⟩ hK
  rw[vals_all HA.out.1]at hS
  obtain⟨va,vn,vc,rfl,_⟩:=hS.own.nums
  have hc:=hS.box.cell
  have HS:=hid hS
  clear hS
  gi_wp2
  refine⟨by simp,.inl ⟨_,_,rfl,run_takeDeferred hK, ?_⟩⟩
  exact⟨_,results_tmp rfl _ _ _,va,vn,vc,rfl,(HS.out.own.mono (by omega)).putObj _ hK rfl,HS.out.bel.trans (belowK_b (w:=w) (Nat.le_refl _) W D _ _ (by omega) hK rfl rfl)⟩
 case stop=>
  rintro D c pre W _ _ h _
  exact h.elim
end Go.Proofs.YtikoklagffbgiaaGreatDoor

namespace Go.Proofs.YtikoklagffbgiaaGreatDoor
open Go.RowKit
set_option linter.unusedVariables false
theorem OwnsI.setOther{w:World}{B:Nat}{e:TypeId}{v:Value}{Z:List Int}(h:OwnsI w B e v Z)(p:Addr)(x:Value)(hp:∀ k,v.ownBlock=some k→p.block≠k):OwnsI (w.setCell p x) B e v Z:=by
 refine⟨h.1, ?_⟩
 rcases h.2 with hn|⟨g,cap,cur,rfl,hg,hh,rest⟩
 ·exact .inl hn
 ·refine .inr ⟨g,cap,cur,rfl,hg, ?_,rest⟩
  rw[Below.heap_setCell _ _ _ _ (Ne.symm (hp g rfl))]
  exact hh
theorem OwnsI.set{w:World}{B:Nat}{e:TypeId}{g n cap:Nat}{Z:List Int}(h:OwnsI w B e (.slice (some ⟨g,0,none⟩) n cap) Z)(j:Nat)(z:Int):OwnsI (w.setCell ⟨g,j,none⟩ (numV z)) B e (.slice (some ⟨g,0,none⟩) n cap) (Z.set j z):=by
 refine⟨by simp, ?_⟩
 rcases h.2 with⟨he,_⟩|⟨g',cap',cur,he,hg,hh,h1,h2,h3,h4⟩
 ·cases he
 ·cases he
  refine .inr ⟨g,cap,cur.setIfInBounds j (numV z),by rw[List.length_set],hg, ?_,by rw[List.length_set];exact h1,h2,by simpa using h3, ?_⟩
  ·obtain⟨hlt,hk⟩:=Array.getElem?_eq_some_iff.1 hh
   show(w.heap.modify g _)[g]? =_
   rw[Array.getElem?_eq_getElem (by rw[Array.size_modify];exact hlt),Array.getElem_modify_self,hk]
   rfl
  ·rw[List.map_set,←h4,List.length_set,Array.toList_setIfInBounds,List.take_set]
section
variable {b g off ln : Nat} {K : Int}
theorem placeF_cases(i:Fin (placesL b g off ln K).length):(placeF b g off ln K i=⟨b,1,none⟩∧hasB K 65=true)∨(placeF b g off ln K i=⟨b,2,none⟩∧hasB K 66=true)∨(placeF b g off ln K i=⟨b,3,none⟩∧hasB K 67=true)∨(∃j,j<ln∧placeF b g off ln K i=⟨g,off+j,none⟩∧hasB K 76=true):=by
 have hm:placeF b g off ln K i∈placesL b g off ln K:=List.getElem_mem _
 obtain⟨f,hf,hx⟩:=List.mem_flatMap.1 hm
 have hB:hasB K f=true:=by unfold hasB;rw[List.contains_iff_mem];exact hf
 unfold placeL at hx
 split at hx
 ·rename_i h;subst h;simp only[List.mem_singleton]at hx;exact .inl ⟨hx,hB⟩
 ·split at hx
  ·rename_i h;subst h;simp only[List.mem_singleton]at hx;exact .inr (.inl ⟨hx,hB⟩)
  ·split at hx
   ·rename_i h;subst h;simp only[List.mem_singleton]at hx;exact .inr (.inr (.inl ⟨hx,hB⟩))
   ·split at hx
    ·rename_i h;subst h
     obtain⟨j,hj,he⟩:=List.mem_map.1 hx
     exact .inr (.inr (.inr ⟨j,List.mem_range.1 hj,he.symm,hB⟩))
    ·cases hx
theorem places_of{f:UInt8}{a:Addr}(hB:hasB K f=true)(ha:a∈placeL b g off ln f):∃ i,placeF b g off ln K i=a:=by
 have hm:a∈placesL b g off ln K:=List.mem_flatMap.2 ⟨f,by unfold hasB at hB;rwa [List.contains_iff_mem]at hB,ha⟩
 obtain⟨i,hi,he⟩:=List.getElem_of_mem hm
 exact⟨⟨i,hi⟩,he⟩
theorem places_nodup(hgb:0<ln→g≠b):(placesL b g off ln K).Nodup:=by
 have hr:((List.range ln).map fun j=>(⟨g,off+j,none⟩:Addr)).Nodup:=List.Pairwise.map _ (fun a c h e=>h (by have:=congrArg Addr.off e;dsimp only at this;omega)) List.nodup_range
 have hne:∀ k j,j<ln→(⟨b,k,none⟩:Addr)≠⟨g,off+j,none⟩:=fun k j hj e=>hgb (by omega) (congrArg Addr.block e).symm
 unfold placesL
 rcases kinds K with h|h
 ·rcases h with rfl|rfl|rfl|rfl|rfl|rfl|rfl|rfl|rfl|rfl|rfl|rfl|rfl|rfl|rfl|rfl|rfl|rfl|rfl|rfl|rfl|rfl|rfl|rfl|rfl|rfl
  all_goals simp[fieldsL,placeL,hr]
  all_goals (intro j hj hb;first|exact absurd hb.symm (hgb (by omega))|(intro _;exact absurd hb.symm (hgb (by omega)))|exact absurd hb (hgb (by omega)))
 ·rw[fields_none h]
  simp
theorem placeF_inj(hgb:0<ln→g≠b){i j:Fin (placesL b g off ln K).length}(h:placeF b g off ln K i=placeF b g off ln K j):i=j:=Fin.ext ((List.getElem_inj (places_nodup hgb)).1 h)
end
structure RnSt(w W:World)(b:Nat)(K X1 X2 X3 N':Int)(S':ByteArray)(T':Bool)(va:Option Addr)(vn vc:Nat)(ma:Option Addr)(m mc:Nat)(Z:List Int):Prop where
 box:Box W b #[.int .i64 K,.int .i64 X1,.int .i64 X2,.int .i64 X3,.int .i64 N',.string S',.slice va vn vc,.bool T']
 res:Box W (w.heap.size+2) #[.int .i64 0,.int .i64 0,.int .i64 0,.int .i64 0,.int .i64 0,.string ⟨#[]⟩,.slice none 0 0,.bool false]
 to_:Box W (w.heap.size+1) #[.slice ma m mc]
 own:OwnsI W (w.heap.size+3) 3 (.slice va vn vc) Z
 bel:Below w.heap.size w W
 siz:b+2≤W.heap.size
 lo:w.heap.size+3≤b
 hg:∀ k,(Value.slice va vn vc).ownBlock=some k→k<b
structure RnAt(w W:World)(b g:Nat)(K N':Int)(S':ByteArray)(T':Bool)(va:Option Addr)(vn vc:Nat)(ma:Option Addr)(m mc:Nat)(cur:Fin (placesL b g 0 vn K).length→Int):Prop where
 st:∃ X1 X2 X3 Z,RnSt w W b K X1 X2 X3 N' S' T' va vn vc ma m mc Z∧(hasB K 65=false→X1=0)∧(hasB K 66=false→X2=0)∧(hasB K 67=false→X3=0)
 cells:∀ i,W.cell? (placeF b g 0 vn K i)=some (numV (cur i))
 frozen:∀ i,W.frozen? (placeF b g 0 vn K i)=false
theorem RnSt.other{w W:World}{b:Nat}{K X1 X2 X3 N':Int}{S':ByteArray}{T':Bool}{va:Option Addr}{vn vc:Nat}{ma:Option Addr}{m mc:Nat}{Z:List Int}(h:RnSt w W b K X1 X2 X3 N' S' T' va vn vc ma m mc Z)(X1' X2' X3':Int)(j:Nat)(z:Int)(hj:j<8)
 (hP:(#[.int .i64 K,.int .i64 X1',.int .i64 X2',.int .i64 X3',.int .i64 N',.string S',.slice va vn vc,.bool T']:Array Value)=(#[.int .i64 K,.int .i64 X1,.int .i64 X2,.int .i64 X3,.int .i64 N',.string S',.slice va vn vc,.bool T']:Array Value).setIfInBounds j (numV z)):
 RnSt w (W.setCell ⟨b,j,none⟩ (numV z)) b K X1' X2' X3' N' S' T' va vn vc ma m mc Z:=
 have hlo:=h.lo
 ⟨h.box.set j _ hj hP,h.res.other (by omega) _ _,h.to_.other (by omega) _ _,h.own.setOther _ _ (fun k hk e=>by have:=h.hg k hk;dsimp only at e;omega),h.bel.setCell (by show w.heap.size≤b;omega) _,by rw[setCell_size];exact h.siz,h.lo,h.hg⟩
theorem RnSt.list{w W:World}{b g:Nat}{K X1 X2 X3 N':Int}{S':ByteArray}{T':Bool}{vn vc:Nat}{ma:Option Addr}{m mc:Nat}{Z:List Int}(h:RnSt w W b K X1 X2 X3 N' S' T' (some ⟨g,0,none⟩) vn vc ma m mc Z)(j:Nat)(z:Int):
 RnSt w (W.setCell ⟨g,j,none⟩ (numV z)) b K X1 X2 X3 N' S' T' (some ⟨g,0,none⟩) vn vc ma m mc (Z.set j z):=
 have hlo:=h.lo
 have hgb:g<b:=h.hg g rfl
 have hg3:w.heap.size+3≤g:=(h.own.lt g rfl).1
 ⟨h.box.other (by omega) _ _,h.res.other (by omega) _ _,h.to_.other (by omega) _ _,h.own.set j z,h.bel.setCell (by show w.heap.size≤g;omega) _,by rw[setCell_size];exact h.siz,h.lo,h.hg⟩
theorem RnAt.put{w W:World}{b g:Nat}{K N':Int}{S':ByteArray}{T':Bool}{va:Option Addr}{vn vc:Nat}{ma:Option Addr}{m mc:Nat}{cur:Fin (placesL b g 0 vn K).length→Int}(h:RnAt w W b g K N' S' T' va vn vc ma m mc cur)
 (hva:0<vn→va=some ⟨g,0,none⟩)(x:Fin (placesL b g 0 vn K).length)(z:Int):
 RnAt w (W.setCell (placeF b g 0 vn K x) (numV z)) b g K N' S' T' va vn vc ma m mc (fun i=>if i=x then z else cur i)∧KeepsOthers W (W.setCell (placeF b g 0 vn K x) (numV z))∧Kept (b+1) b W (W.setCell (placeF b g 0 vn K x) (numV z)):=by
 obtain⟨⟨X1,X2,X3,Z,hs,e1,e2,e3⟩,hc,hf⟩:=h
 have hgb:0<vn→g≠b:=fun hv=>Nat.ne_of_lt (hs.hg g (by rw[hva hv];rfl))
 have hcells:∀ i,(W.setCell (placeF b g 0 vn K x) (numV z)).cell? (placeF b g 0 vn K i)=some (numV (if i=x then z else cur i)):=fun i=>by
  by_cases hi:i=x
  ·subst hi
   rw[if_pos rfl]
   exact World.cell?_setCell_same' _ _ _ (by rw[hc];rfl)
  ·rw[if_neg hi]
   exact(World.cell?_setCell_other _ _ _ _ (fun e=>hi (placeF_inj hgb e.symm))).trans (hc i)
 have hfr:∀ i,(W.setCell (placeF b g 0 vn K x) (numV z)).frozen? (placeF b g 0 vn K i)=false:=fun i=>by rw[World.frozen?_setCell];exact hf i
 have hk:KeepsOthers W (W.setCell (placeF b g 0 vn K x) (numV z)):=KeepsOthers.setCell _ _ _
 have kept:∀ a:Addr,a≠⟨b+1,0,none⟩→a≠⟨b,6,none⟩→Kept (b+1) b W (W.setCell a (numV z)):=fun a h0 h6=>
  ⟨(KeepsOthers.setCell W a (numV z)).walks,World.cell?_setCell_other _ _ _ _ h0,World.cell?_setCell_other _ _ _ _ h6⟩
 have hkp:Kept (b+1) b W (W.setCell (placeF b g 0 vn K x) (numV z)):=by
  rcases placeF_cases x with⟨e,_⟩|⟨e,_⟩|⟨e,_⟩|⟨j,hj,e,_⟩
  ·rw[e];exact kept _ (fun h=>by have:=congrArg Addr.block h;dsimp only at this;omega) (fun h=>by have:=congrArg Addr.off h;dsimp only at this;omega)
  ·rw[e];exact kept _ (fun h=>by have:=congrArg Addr.block h;dsimp only at this;omega) (fun h=>by have:=congrArg Addr.off h;dsimp only at this;omega)
  ·rw[e];exact kept _ (fun h=>by have:=congrArg Addr.block h;dsimp only at this;omega) (fun h=>by have:=congrArg Addr.off h;dsimp only at this;omega)
  ·have hlt:=hs.hg g (by rw[hva (by omega)];rfl)
   rw[e];exact kept _ (fun h=>by have:=congrArg Addr.block h;dsimp only at this;omega) (fun h=>by have:=congrArg Addr.block h;dsimp only at this;omega)
 refine⟨⟨?_,hcells,hfr⟩,hk,hkp⟩
 rcases placeF_cases x with⟨e,hB⟩|⟨e,hB⟩|⟨e,hB⟩|⟨j,hj,e,_⟩
 ·rw[e];exact⟨z,X2,X3,Z,hs.other z X2 X3 1 z (by omega) (by simp[numV]),(fun h=>by rw[hB]at h;cases h),e2,e3⟩
 ·rw[e];exact⟨X1,z,X3,Z,hs.other X1 z X3 2 z (by omega) (by simp[numV]),e1,(fun h=>by rw[hB]at h;cases h),e3⟩
 ·rw[e];exact⟨X1,X2,z,Z,hs.other X1 X2 z 3 z (by omega) (by simp[numV]),e1,e2,(fun h=>by rw[hB]at h;cases h)⟩
 ·obtain rfl:=hva (by omega)
  rw[e]
  exact⟨X1,X2,X3,Z.set (0+j) z,hs.list (0+j) z,e1,e2,e3⟩
def RnRel(M:List Int){N:Nat}(val cur:Fin N→Int)(pre:List (Fin N)):Prop:=∀ k,k≤N→pre=firsts N k→∀ i,cur i=if i.1<k then toV M (val i)else val i
theorem RnRel.next{M:List Int}{N:Nat}{val cur:Fin N→Int}{pre:List (Fin N)}{x:Fin N}{z:Int}(h:RnRel M val cur pre)(hz:z=toV M (cur x)):RnRel M val (fun i=>if i=x then z else cur i) (pre++ [x]):=by
 intro k hk he i
 cases k with
 |zero=>simp[firsts]at he
 |succ k=>
  rw[←firsts_next (show k<N by omega)]at he
  obtain⟨hp,hx⟩:=List.append_inj' he rfl
  have hxk:x.1=k:=by rw[(List.cons.inj hx).1]
  have hcur:=h k (by omega) hp
  show(if i=x then z else cur i)=_
  by_cases hi:i=x
  ·rw[if_pos hi,if_pos (by rw[hi];omega),hz,hcur,if_neg (by omega),hi]
  ·have hne:i.1≠k:=fun e=>hi (Fin.ext (by omega))
   rw[if_neg hi,hcur]
   by_cases hlt:i.1<k
   ·rw[if_pos hlt,if_pos (by omega)]
   ·rw[if_neg hlt,if_neg (by omega)]
theorem RnRel.start{M:List Int}{N:Nat}(val:Fin N→Int):RnRel M val val []:=fun k hk he i=>by
 have h0:k=0:=by
  have:=congrArg List.length he
  rw[firsts_len hk]at this
  simpa using this.symm
 subst h0
 rw[if_neg (by omega)]
theorem RnRel.all{M:List Int}{N:Nat}{val cur:Fin N→Int}(h:RnRel M val cur (firsts N N))(i:Fin N):cur i=toV M (val i):=by
 rw[h N (Nat.le_refl _) rfl i,if_pos i.2]
end Go.Proofs.YtikoklagffbgiaaGreatDoor

namespace Go.Proofs.YtikoklagffbgiaaGreatDoor
set_option linter.unusedSimpArgs false
set_option linter.unusedVariables false
open Go.RowKit (wrap64 intOf Below Hid)
attribute [local go_sem ↓] Go.wp_at_zero Go.wp_at_succ
open Go.Lib (hid)
def RdAt(w:World)(r B:Nat)(L:List UInt8):Prop:=
 ∃a n c,w.heap[r]? =some (.cells #[.slice a n c] 90 (0,0))∧BytesAt w a n c L∧(∀ad,a=some ad→ad.block<B)∧B≤r∧n≤140737488355328
def RX(r:Nat):Nat→Prop:=fun k=>k=r
theorem RdAt.lt{w:World}{r B:Nat}{L:List UInt8}(h:RdAt w r B L):B≤r∧r<w.heap.size:=by
 obtain⟨a,n,c,h1,_,_,h4,_⟩:=h
 exact⟨h4,(Array.getElem?_eq_some_iff.1 h1).1⟩
theorem RdAt.stays{w w':World}{r B:Nat}{L:List UInt8}{X:Nat→Prop}(h:RdAt w r B L)(ho:Off X w w')(hx:∀ k,X k→B≤k∧k≠r):RdAt w' r B L:=by
 have hl:=h.lt
 obtain⟨a,n,c,h1,h2,h3,h4,h5⟩:=h
 refine⟨a,n,c,(ho.block r hl.2 (fun hX=>(hx r hX).2 rfl)).trans h1, ?_,h3,h4,h5⟩
 obtain⟨b1,b2,b3,b4,b5,b6⟩:=h2
 refine⟨b1,b2,b3,b4,fun hn=> ?_,fun ad ha j hj=> ?_⟩
 ·obtain⟨g,off,e,hg⟩:=b5 hn
  exact⟨g,off,e,Nat.lt_of_lt_of_le hg ho.size⟩
 ·obtain⟨g,off,e,hg⟩:=b5 (by omega)
  rw[ho.cell (p:=ad.add j) (by rw[addr_block];rw[e]at ha;cases ha;exact hg) (fun hX=>by rw[addr_block]at hX;have:=(hx _ hX).1;have:=h3 ad ha;omega)]
  exact b6 ad ha j hj
theorem RdAt.since{w w':World}{r B:Nat}{L:List UInt8}(h:RdAt w r B L)(hb:Below w.heap.size w w'):RdAt w' r B L:=
 h.stays (X:=fun _=>False) (Off.since hb) (fun k hk=>hk.elim)
def rdText(L:List UInt8):PR ByteArray:=(rdCount 64 L).bind fun m r=>if m≤r.length then .ok (mk (r.take m)) (r.drop m)else .no 3
end Go.Proofs.YtikoklagffbgiaaGreatDoor
