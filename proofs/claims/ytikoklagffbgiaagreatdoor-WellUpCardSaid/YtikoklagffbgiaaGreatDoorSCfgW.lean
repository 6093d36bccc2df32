/- Layer 7: the document's walk, which calls itself: which blocks were met, and left. -/
import Derived.Test.YtikoklagffbgiaaGreatDoorST2

namespace Go.Proofs.YtikoklagffbgiaaGreatDoor
set_option linter.unusedSimpArgs false
set_option linter.unusedVariables false
open Go.RowKit (wrap64 intOf Below Hid)
open Go.Lib (hid)
theorem wpList_append_numW{P:Program}(w:World){ops:Array Oper}{rest:List Oper}{o:Oper}{a:Act}{Q:Exit→Act→World→Prop}(hgd:o.guard=none)(s x:Operand)(t:TypeId)
 (ho:o.op=.call {callee:=.builtin .append,args:=#[s,x],argTypes:=#[t,t]})(e:TypeId)(ht:P.underlying t=some (.slice e))
 (hinfo:(P.info? e).map (fun i=>(i.zero,i.size,i.bytes))=some (some (.int .i64 0),1,8))
 (B:Nat)(v:Value)(Z:List Int)(hs:a.eval s=v)(hown:OwnsI w B e v Z)(hB:B≤w.heap.size)
 (C:Array Value)(c g:Nat)(z:Int)(hx:a.eval x=.slice (some ⟨g,0,none⟩) 1 c)(hg:g=w.heap.size)(hC:C=#[.int .i64 z])
 (hlen:(Z.length+1)*8≤140737488355328)
 (h:∀ va vn vc w',OwnsI w' B e (.slice va vn vc) (Z++ [z])→(w.alloc (.cells C e)).grownBy w' v.ownBlock→(∀i,(Value.slice va vn vc).ownBlock=some i→v.ownBlock=some i∨w.heap.size≤i)→wpList P ops Q rest (a.put o.dst (.slice va vn vc)) w'):wpList P ops Q (o::rest) a (w.alloc (.cells C e)):=by
 obtain⟨i0,hi,hz0,hz1,hz2⟩:=info_parts hinfo
 subst hC hg
 have hcell:(w.alloc (.cells #[.int .i64 z] e)).cell? ⟨w.heap.size,0,none⟩=some (.int .i64 z):=by rw[World.cell?_alloc_mark];rfl
 have hown1:OwnsI (w.alloc (.cells #[.int .i64 z] e)) B e v Z:=World.ownsRow.alloc hown _
 refine wpList_plain hgd fun K hK'=> ?_
 obtain⟨v',w',hrun,r1,r2,_⟩:=run_append_own (P:=P) (w.alloc (.cells #[.int .i64 z] e)) B t o.type e i0 (.int .i64 0) 1 8 ht hi hz0 hz1 hz2 rfl (by decide) v Z.length (Z.map numV) hown1 ⟨w.heap.size,0,none⟩ 1 c [.int .i64 z] rfl (fun j u hu=>by
  obtain⟨hj,rfl⟩:=List.getElem?_eq_some_iff.1 hu
  simp only[List.length_cons,List.length_nil]at hj
  obtain rfl:j=0:=by omega
  simp[Addr.add]) (by intro u hu;simp at hu;subst hu;rfl) (by unfold maxLen;omega) hlen (by simp;omega)
 have hwh:=append_where ht hi hz0 hz1 hz2 hown1 hcell hlen hrun
 have hown2:OwnsI w' B e v' (Z++ [z]):=by
  show w'.ownsRow B e 1 v' (Z++ [z]).length ((Z++ [z]).map numV)
  rw[List.map_append,List.length_append]
  exact r1
 obtain⟨va,vn,vc,rfl,_⟩:=hown2.nums
 unfold Oper.wp
 simp[execOp,ho,resolve,invoke,builtin,hs,hx,hrun,Result.andThen]
 exact hK' _ _ (h va vn vc w' hown2 r2 (fun i hi'=>(hwh i hi').imp id (fun h'=>by simp at h';omega)))
def WkAt(pw:Nat)(W:World)(mv lv:Value):Prop:=W.heap[pw]? =some (.cells #[mv,lv] 116 (0,0))
structure WkSt(pw:Nat)(W:World)(mv lv:Value)(met left:List Int):Prop where
 blk:WkAt pw W mv lv
 met:OwnsI W (pw+1) 3 mv met
 left:OwnsI W (pw+1) 3 lv left
 apart:∀ i,mv.ownBlock=some i→lv.ownBlock≠some i
structure WkKeep(pw:Nat)(W W':World)(mv mv':Value):Prop where
 off:Off (fun i=>i=pw∨mv.ownBlock=some i) W W'
 new:∀ i,mv'.ownBlock=some i→mv.ownBlock=some i∨W.heap.size≤i
theorem WkKeep.refl(pw:Nat)(W:World)(mv:Value):WkKeep pw W W mv mv:=⟨Off.refl _ _,fun i h=>.inl h⟩
theorem WkKeep.trans{pw:Nat}{A B C:World}{a b c:Value}(h:WkKeep pw A B a b)(k:WkKeep pw B C b c):WkKeep pw A C a c:=
 ⟨h.off.trans_new k.off (fun i hi=>by
  rcases hi with rfl|hi
  ·exact .inl (.inl rfl)
  ·rcases h.new i hi with h'|h'
   ·exact .inl (.inr h')
   ·exact .inr h'),fun i hi=>by
  rcases k.new i hi with h'|h'
  ·exact h.new i h'
  ·exact .inr (Nat.le_trans h.off.size h')⟩
theorem WkKeep.since{pw:Nat}{W W':World}{mv:Value}(hb:Below W.heap.size W W'):WkKeep pw W W' mv mv:=⟨Off.since hb,fun i h=>.inl h⟩
theorem WkSt.since{pw:Nat}{W W':World}{mv lv:Value}{met left:List Int}(h:WkSt pw W mv lv met left)(hb:Below W.heap.size W W'):WkSt pw W' mv lv met left:=
 ⟨(hb.block pw (Array.getElem?_eq_some_iff.1 h.blk).1).trans h.blk,h.met.below hb,h.left.below hb,h.apart⟩
theorem WkKeep.below{pw n0:Nat}{W W':World}{mv mv':Value}{met:List Int}(h:WkKeep pw W W' mv mv')(hm:OwnsI W (pw+1) 3 mv met)(hn:n0≤pw)(hW:n0≤W.heap.size):Below n0 W W':=
 h.off.below hW (fun i hi=>by
  rcases hi with rfl|hi
  ·exact hn
  ·have:=(hm.lt i hi).1;omega)
theorem WkSt.meet{pw:Nat}{W w1:World}{mv lv mv':Value}{met left:List Int}{b:Int}{C:Array Value}{et:TypeId}(h:WkSt pw W mv lv met left)(ho:OwnsI w1 (pw+1) 3 mv' (met++ [b]))(hg:(W.alloc (.cells C et)).grownBy w1 mv.ownBlock)(hwh:∀ i,mv'.ownBlock=some i→mv.ownBlock=some i∨W.heap.size≤i):
 WkAt pw w1 mv lv∧WkSt pw (w1.setCell ⟨pw,0,none⟩ mv') mv' lv (met++ [b]) left∧WkKeep pw W (w1.setCell ⟨pw,0,none⟩ mv') mv mv':=by
 have hpl:pw<W.heap.size:=(Array.getElem?_eq_some_iff.1 h.blk).1
 have hmpw:mv.ownBlock≠some pw:=fun e=>by have:=(h.met.lt pw e).1;omega
 have hblk:WkAt pw w1 mv lv:=(hg.block pw (by simp;omega) (fun e=>hmpw e.symm)).trans ((Below.heap_alloc W _ pw hpl).trans h.blk)
 have hlt1:pw<w1.heap.size:=(Array.getElem?_eq_some_iff.1 hblk).1
 have hl1:OwnsI w1 (pw+1) 3 lv left:=World.ownsRow.kept (World.ownsRow.alloc h.left _) hg (by
  cases hv:lv.ownBlock with
  |none=>exact .inl rfl
  |some i=>exact .inr fun e=>h.apart i e.symm hv)
 refine⟨hblk,⟨?_,ho.setCell _ _ (by show pw<pw+1;omega),hl1.setCell _ _ (by show pw<pw+1;omega),fun i hi hl=> ?_⟩, ?_,fun i hi=>hwh i hi⟩
 ·unfold WkAt at hblk⊢
  have:=heap_setCell_same w1 pw 0 #[mv,lv] 116 mv' hblk
  simpa using this
 ·rcases hwh i hi with h'|h'
  ·exact h.apart i h' hl
  ·have:=(h.left.lt i hl).2;omega
 ·exact(((Off.since ((Below.refl W.heap.size W).alloc (Nat.le_refl _) _)).grown hg (fun k hk=>.inl (.inr hk))).setCell (.inl (.inl rfl)) _)
end Go.Proofs.YtikoklagffbgiaaGreatDoor
