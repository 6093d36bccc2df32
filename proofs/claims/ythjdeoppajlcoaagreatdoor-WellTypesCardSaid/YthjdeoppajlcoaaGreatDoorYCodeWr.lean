/- Layer 5: the writer (code.writer): what it has written, and what its two calls make of it. -/
import Derived.Test.YthjdeoppajlcoaaGreatDoorYCodePlain
import Derived.Deep.RegionLaw
import Derived.Deep.DrawnRows
import Derived.WalkSmall
namespace Go.Proofs.YthjdeoppajlcoaaGreatDoor
set_option linter.unusedVariables false
set_option maxRecDepth 100000
open Go.RowKit (wrap64 intOf Below Hid)
attribute [local go_sem ↓] Go.wp_at_zero Go.wp_at_succ
open Go.Lib (hid)
def cu(w:World)(x B:Nat)(v:Value)(L:List UInt8):Prop:=
 w.heap[x]? =some (.cells #[v] 86 (0,0))∧eG w B 5 v L∧x<B∧B≤w.heap.size
def WX(x:Nat)(v:Value):Nat→Prop:=fun k=>k=x∨v.ownBlock=some k
def NewAt(w:World)(v v':Value):Prop:=∀ k,v'.ownBlock=some k→v.ownBlock=some k∨w.heap.size≤k
def di(x B:Nat)(v:Value)(L:List UInt8)(o:Out)(val:Value)(w:World)(e:Ending)(w':World):Prop:=
 (∃l v',o=.ok l∧e=.returned val∧cu w' x B v' (L++l)∧Off (WX x v) w w'∧NewAt w v v')∨(∃er,o=.no er∧e=.panicked [{v:=.iface 30 (.int .i64 er),recovered:=false}]∧Off (WX x v) w w')
theorem cu.cell{w:World}{x B:Nat}{v:Value}{L:List UInt8}(h:cu w x B v L):w.cell? ⟨x,0,none⟩=some v:=by
 simp[World.cell?,h.1]
theorem cu.free{w:World}{x B:Nat}{v:Value}{L:List UInt8}(h:cu w x B v L)(o:Nat):w.frozen? ⟨x,o,none⟩=false:=by
 simp[World.frozen?,h.1]
theorem cu.lt{w:World}{x B:Nat}{v:Value}{L:List UInt8}(h:cu w x B v L):x<w.heap.size:=(Array.getElem?_eq_some_iff.1 h.1).1
theorem cu.own{w:World}{x B:Nat}{v:Value}{L:List UInt8}(h:cu w x B v L){k:Nat}(hk:v.ownBlock=some k):B≤k∧k<w.heap.size:=h.2.1.lt k hk
theorem cu.ne{w:World}{x B:Nat}{v:Value}{L:List UInt8}(h:cu w x B v L):v.ownBlock≠some x:=fun e=>by
 have:=(h.own e).1
 have:=h.2.2.1
 omega
theorem cu.stays{w w':World}{x B:Nat}{v:Value}{L:List UInt8}{X:Nat→Prop}(h:cu w x B v L)(ho:Off X w w')(hx:∀ k,X k→¬ WX x v k):cu w' x B v L:=by
 refine⟨(ho.block x h.lt (fun hX=>hx x hX (.inl rfl))).trans h.1, ?_,h.2.2.1,Nat.le_trans h.2.2.2 ho.size⟩
 exact jw h.2.1 (fun b hb hlt=>ho.block b hlt (fun hX=>hx b hX (.inr hb)))
theorem cu.since{w w':World}{x B:Nat}{v:Value}{L:List UInt8}(h:cu w x B v L)(hb:Below w.heap.size w w'):cu w' x B v L:=
 h.stays (X:=fun _=>False) (Off.since hb) (fun k hk=>hk.elim)
theorem NewAt.refl(w:World)(v:Value):NewAt w v v:=fun k h=>.inl h
theorem NewAt.trans{w w1:World}{v v1 v2:Value}(h:NewAt w v v1)(h':NewAt w1 v1 v2)(hs:w.heap.size≤w1.heap.size):NewAt w v v2:=fun k hk=>by
 rcases h' k hk with h1|h1
 ·exact h k h1
 ·exact .inr (by omega)
theorem Off.wr{w w1 w2:World}{x:Nat}{v v1:Value}(h:Off (WX x v) w w1)(hn:NewAt w v v1)(h':Off (WX x v1) w1 w2):Off (WX x v) w w2:=
 h.trans_new h' (fun i hi=>by
  rcases hi with rfl|hi
  ·exact .inl (.inl rfl)
  ·rcases hn i hi with h1|h1
   ·exact .inl (.inr h1)
   ·exact .inr h1)
theorem lW{P:Program}{u:World}{ops:Array Oper}{o:Oper}{a:Act}{K:Act→World→Prop}{Q:Exit→Act→World→Prop}{E:Prop}(hgd:o.guard=none)(s x:Operand)(t:TypeId)
 (ho:o.op=.call {callee:=.builtin .append,args:=#[s,x],argTypes:=#[t,t]})(e:TypeId)(ht:P.underlying t=some (.slice e))
 (hinfo:(P.info? e).map (fun i=>(i.zero,i.size,i.bytes))=some (some (.int .u8 0),1,1))
 (B:Nat)(v:Value)(l:List UInt8)(hs:a.eval s=v)(hown:eG u B e v l)(hB:B≤u.heap.size)
 (xa:Option Addr)(m c:Nat)(news:List UInt8)(hx:a.eval x=.slice xa m c)(hat:BytesAt u xa m c news)(hpos:0<m)(hlen:l.length+m≤140737488355328)
 (h:∀ va vn vc w',eG w' B e (.slice va vn vc) (l++news)→u.grownBy w' v.ownBlock→NewAt u v (.slice va vn vc)→K (a.put o.dst (.slice va vn vc)) w'):
 if Region.wanted o (yielded ops a.tmps)=true then Oper.wp P o a u K Q else E:=by
 obtain⟨i0,hi,hz0,hz1,hz2⟩:=info_parts hinfo
 obtain⟨h1,h2,h3,h4,h5,h6⟩:=hat
 subst h1
 obtain⟨g,off,rfl,hg⟩:=h5 hpos
 refine step_append_lies u hgd s x t ho B e i0 (.int .u8 0) 1 1 ht hi hz0 hz1 hz2 rfl (by decide) v l.length (l.map ko) hs hown ⟨g,off,none⟩ news.length c (news.map ko) hx (by simp) (fun j z hz=> ?_) qF hpos (by unfold maxLen;omega) (by omega) hB u.heap.size rfl ?_
 ·rw[List.getElem?_map]at hz
  obtain⟨y,hy,rfl⟩:=Option.map_eq_some_iff.1 hz
  obtain⟨hj,rfl⟩:=List.getElem?_eq_some_iff.1 hy
  exact h6 _ rfl j hj
 ·intro g' cap w' hown' hgrow hat' hlt
  refine h _ _ _ w' ?_ hgrow ?_
  ·show w'.ownsRow B e 1 _ (l++news).length ((l++news).map ko)
   rw[List.map_append,List.length_append]
   exact hown'
  ·intro k hk
   simp only[Value.ownBlock,Option.some.injEq]at hk
   subst hk
   rcases hat' with h'|h'
   ·exact .inl h'
   ·exact .inr (by omega)
theorem cu.next{w u:World}{x B:Nat}{v v':Value}{L l:List UInt8}(h:cu w x B v L)(hown:eG u B 5 v' (L++l))(ho:Off (fun k=>v.ownBlock=some k) w u)(hn:NewAt w v v'):
 cu (u.setCell ⟨x,0,none⟩ v') x B v' (L++l)∧Off (WX x v) w (u.setCell ⟨x,0,none⟩ v'):=by
 have hxs:u.heap[x]? =some (.cells #[v] 86 (0,0)):=(ho.block x h.lt h.ne).trans h.1
 have hxl:x<u.heap.size:=Nat.lt_of_lt_of_le h.lt ho.size
 have hne:∀ k,v'.ownBlock=some k→k≠x:=fun k hk e=>by
  subst e
  rcases hn k hk with h'|h'
  ·exact h.ne h'
  ·have:=h.lt;omega
 refine⟨⟨?_, ?_,h.2.2.1, ?_⟩,(ho.mono (fun i _ hi=>.inr hi)).setCell (.inl (.inl rfl)) _⟩
 ·simp only[World.setCell,Array.getElem?_modify,if_pos,hxs]
  simp
 ·exact jw hown (fun b hb _=>Below.heap_setCell _ _ _ _ (hne b hb))
 ·simp only[World.setCell,Array.size_modify]
  exact Nat.le_trans h.2.2.2 ho.size
theorem Co(x B:Nat)(v:Value)(L:List UInt8)(n:Int)(w:World)(h:cu w x B v L)(hr:InR n)(hl:L.length+10≤140737488355328):
 Calls Tryz.prog 188 #[.pointer (some ⟨x,0,none⟩),.int .i64 n] w (di x B v L (kI n) (.int .i64 n) w):=by
 have hc:=h.cell
 have hfz:=h.free 0
 have hxl:=h.lt
 have hpl:=dn n
 have hpp:=ze n
 have HW:=hid h
 obtain⟨hr0,hr1⟩:=hr
 clear h
 go_enter Tryz.func188,Tryz.ntmps188
 go_wp2_with fail
 have hd0:Below w.heap.size w w.drew:=(Below.refl _ _).drew
 go_region_law
  (first
    |(rw[if_pos (by rfl)];go_simp;go_at_call 190;(with_reducible refine(put_any none 0 0 [] n _ (BytesAt.nil _) (by decide) hr0 hr1).mono ?_);rintro e w1 ⟨va,vn,vc,rfl,hown1,hb1⟩;rw[List.nil_append]at hown1;have hn1:=hown1.len;have hd1:=kH hd0 hb1;have hc1:w1.cell? ⟨x,0,none⟩=some v:=(hd1.cell (p:=⟨x,0,none⟩) hxl).trans hc;have hs1:=hd1.size;have hW1:=HW.out.since hd1)
    |(refine lW (by rfl) _ _ 53 (by rfl) 5 Tryz.underlying53 mJ B v L (by rfl) hW1.2.1 hW1.2.2.2 _ _ _ _ (by rfl) hown1.read (by omega) (by omega) ?_;intro va2 vn2 vc2 w2 hown2 hg2 hn2;have hW2:=hW1.next hown2 (Off.grown (Off.refl _ _) hg2 (fun k hk=>.inl hk)) hn2;have hc2:w2.cell? ⟨x,0,none⟩=some v:=(hg2.cell_far ⟨x,0,none⟩ hW1.lt hW1.ne.symm).trans hc1;have hf2:w2.frozen? ⟨x,0,none⟩=false:=(hg2.frozen_far ⟨x,0,none⟩ hW1.lt hW1.ne.symm).trans (hW1.free 0)))
 all_goals
  go_wp2_with fail
  go_ret
  exact .inl ⟨_,.slice va2 vn2 vc2,rfl,rfl,hW2.1,(Off.since hd1).trans hW2.2,fun k hk=>(hn2 k hk).imp id (by omega)⟩
def kT(s:ByteArray):Out:=(chk (decide (s.size≤64)) 2).and (.ok (FV s))
theorem zb{s:ByteArray}(h:s.size≤64):1≤(FV s).length∧(FV s).length≤74:=by
 have:=dn (s.size:Int)
 have:=ze (s.size:Int)
 simp only[FV,List.length_append,nG]
 omega
theorem wr_text(x B:Nat)(v:Value)(L:List UInt8)(s:ByteArray)(w:World)(h:cu w x B v L)(hl:L.length+80≤140737488355328):
 Calls Tryz.prog 189 #[.pointer (some ⟨x,0,none⟩),.string s] w (di x B v L (kT s) (.string s) w):=by
 by_cases hs:s.size≤64
 ·have hc:=h.cell
  have hfz:=h.free 0
  have hxl:=h.lt
  have HO:Hid (kT s=.ok (FV s)):=hid (by simp[kT,chk,hs])
  have HP:=hid (zb hs)
  have HW:=hid h
  have hd0:Below w.heap.size w w.drew:=(Below.refl _ _).drew
  clear h
  go_enter Tryz.func189,Tryz.ntmps189
  go_wp2_with fail
  go_region_law
   (first
     |(rw[if_pos (by rfl)];go_simp;go_at_call 191;(with_reducible refine(FU none 0 0 [] s _ (BytesAt.nil _) (by omega)).mono ?_);rintro e w1 ⟨va,vn,vc,rfl,hown1,hb1⟩;rw[List.nil_append]at hown1;have hn1:=hown1.len;have hd1:=kH hd0 hb1;have hc1:w1.cell? ⟨x,0,none⟩=some v:=(hd1.cell (p:=⟨x,0,none⟩) hxl).trans hc;have hs1:=hd1.size;have hW1:=HW.out.since hd1;have hp1:=HP.out)
     |(refine lW (by rfl) _ _ 53 (by rfl) 5 Tryz.underlying53 mJ B v L (by rfl) hW1.2.1 hW1.2.2.2 _ _ _ (FV s) (by rfl) hown1.read (by rw[←hn1];exact hp1.1) (by rw[←hn1];exact Nat.le_trans (Nat.add_le_add_left hp1.2 _) (by omega)) ?_;intro va2 vn2 vc2 w2 hown2 hg2 hn2;have hW2:=hW1.next hown2 (Off.grown (Off.refl _ _) hg2 (fun k hk=>.inl hk)) hn2;have hc2:w2.cell? ⟨x,0,none⟩=some v:=(hg2.cell_far ⟨x,0,none⟩ hW1.lt hW1.ne.symm).trans hc1;have hf2:w2.frozen? ⟨x,0,none⟩=false:=(hg2.frozen_far ⟨x,0,none⟩ hW1.lt hW1.ne.symm).trans (hW1.free 0)))
  all_goals
   go_wp2_with fail
   go_ret
   exact .inl ⟨_,.slice va2 vn2 vc2,HO.out,rfl,hW2.1,(Off.since hd1).trans hW2.2,fun k hk=>(hn2 k hk).imp id (by omega)⟩
 ·have HO:Hid (kT s=.no 2):=hid (by simp[kT,chk,hs])
  have hs':64<s.size:=by omega
  clear h
  go_enter Tryz.func189,Tryz.ntmps189
  go_wp2_with fail
  exact⟨rfl,.inr ⟨2,HO.out,rfl,Off.refl _ _⟩⟩
end Go.Proofs.YthjdeoppajlcoaaGreatDoor
