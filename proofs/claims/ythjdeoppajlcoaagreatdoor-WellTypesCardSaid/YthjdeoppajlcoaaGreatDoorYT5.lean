/- Layer 8: a tree that grows: what its parts are before it is settled. -/
import Derived.Test.YthjdeoppajlcoaaGreatDoorYCodeCe
import Derived.Test.YthjdeoppajlcoaaGreatDoorYDomH
import Derived.Test.YthjdeoppajlcoaaGreatDoorYRegS

namespace Go.Proofs.YthjdeoppajlcoaaGreatDoor
set_option linter.unusedSimpArgs false
set_option linter.unusedVariables false
open Go.RowKit (wrap64 intOf Below)
def GB(u v:World):Prop:=Below u.heap.size u v
theorem GB.refl(u:World):GB u u:=Below.refl _ _
theorem GB.trans{u v x:World}(h:GB u v)(k:GB v x):GB u x:=Below.trans h (Below.mono k (Below.size h))
def mQ(w:World)(B n:Nat)(z:Int)(v:Value):Prop:=∃ g,v=.slice (some ⟨g,0,none⟩) n n∧aj w B 3 (.slice (some ⟨g,0,none⟩) n n) (List.replicate n z)
theorem mQ.since{w w':World}{B n:Nat}{z:Int}{v:Value}(h:mQ w B n z v)(hb:GB w w'):mQ w' B n z v:=by
 obtain⟨g,e,ho⟩:=h
 exact⟨g,e,ho.below hb⟩
theorem mQ.lt{w:World}{B n:Nat}{z:Int}{v:Value}(h:mQ w B n z v){k:Nat}(hk:v.ownBlock=some k):k<w.heap.size:=by
 obtain⟨g,rfl,ho⟩:=h
 exact(ho.lt k hk).2
def GrR(r:Int)(a:Option Addr)(n c:Nat)(f:ak)(B:Nat):Nat→(Nat→Value)→World→Prop
 |0,vals,_=>vals 0=.agg #[.int .i64 r,.slice a n c]
 |1,vals,w=>∃ va vn vc,vals 1=.slice va vn vc∧aj w B 3 (.slice va vn vc) (aD f)
 |2,vals,w=>∃ q,vals 2=.slice (some ⟨q,0,none⟩) 1 1∧w.cell? ⟨q,0,none⟩=some (.int .i64 (-1))
 |3,vals,_=>vals 3=.int .i64 (n:Int)
 |4,vals,w=>mQ w B n (-1) (vals 4)
 |5,vals,_=>vals 5=.agg #[.int .i64 r,.slice a n c]
 |6,vals,w=>∃ g vs,vals 6=.slice (some ⟨g,0,none⟩) n n∧jl w B 40 3 (.slice (some ⟨g,0,none⟩) n n) vs (dR f n 0)∧vs.length=n
 |7,vals,w=>∃ q,vals 7=.slice (some ⟨q,0,none⟩) 1 1∧w.cell? ⟨q,0,none⟩=some (.int .i64 (-1))
 |8,vals,_=>vals 8=.int .i64 (n:Int)
 |9,vals,w=>mQ w B n (-1) (vals 9)
 |10,vals,_=>vals 10=.int .i64 (n:Int)
 |11,vals,w=>mQ w B n 0 (vals 11)
 |12,vals,_=>vals 12=.int .i64 (n:Int)
 |13,vals,w=>mQ w B n 0 (vals 13)
 |14,vals,_=>vals 14=.int .i64 (n:Int)
 |15,vals,w=>mQ w B n 0 (vals 15)
 |16,vals,_=>vals 16=.agg #[vals 1,vals 4,vals 6,vals 9,vals 11,vals 13,vals 15,.int .i64 0]
 |17,vals,w=>∃ p C,vals 17=.pointer (some ⟨p,0,none⟩)∧B≤p∧vals 16=.agg C∧w.heap[p]? =some (.cells C 159 (0,0))
 |18,vals,w=>∃ b,vals 18=.pointer (some ⟨b,0,none⟩)∧B≤b∧w.heap[b]? =some (.cells #[.pointer none] 160 (0,0))
 |_,_,_=>True
def GrD(n:Nat):Nat→Value→World→Nat→Prop
 |1,v,_,k=>v.ownBlock=some k
 |4,v,_,k=>v.ownBlock=some k
 |6,v,w,k=>v.ownBlock=some k∨∃ g j x,v.ownBlock=some g∧j<n∧w.cell? ⟨g,j,none⟩=some x∧x.ownBlock=some k
 |9,v,_,k=>v.ownBlock=some k
 |11,v,_,k=>v.ownBlock=some k
 |13,v,_,k=>v.ownBlock=some k
 |15,v,_,k=>v.ownBlock=some k
 |17,v,_,k=>v=.pointer (some ⟨k,0,none⟩)
 |18,v,_,k=>v=.pointer (some ⟨k,0,none⟩)
 |_,_,_,_=>False
section
variable {r : Int} {a : Option Addr} {n c : Nat} {f : ak} {B : Nat}
theorem gr_mono(i:Nat)(vals:Nat→Value)(w w':World)(h:GrR r a n c f B i vals w)(hb:GB w w'):GrR r a n c f B i vals w':=by
 have hcell:∀ {q:Nat} {x:Value},w.cell? ⟨q,0,none⟩=some x→w'.cell? ⟨q,0,none⟩=some x:=fun h=>(Below.cell hb (World.block_lt_of_cell? (a:=⟨_,0,none⟩) _ h)).trans h
 have hblk:∀ {q:Nat} {o:Obj},w.heap[q]? =some o→w'.heap[q]? =some o:=fun h=>(Below.block hb _ (Array.getElem?_eq_some_iff.1 h).1).trans h
 unfold GrR at h⊢
 split at h<;>first
  |exact h
  |exact h.since hb
  |(obtain⟨va,vn,vc,e,ho⟩:=h;exact⟨va,vn,vc,e,ho.below hb⟩)
  |(obtain⟨q,e,hc⟩:=h;exact⟨q,e,hcell hc⟩)
  |(obtain⟨g,vs,e,ho,hl⟩:=h;exact⟨g,vs,e,ho.since hb,hl⟩)
  |(obtain⟨p,C,e,hB,hC,hp⟩:=h;exact⟨p,C,e,hB,hC,hblk hp⟩)
  |(obtain⟨b,e,hB,hp⟩:=h;exact⟨b,e,hB,hblk hp⟩)
abbrev qX:List (List Nat):=[[],[0],[],[],[2,3,1],[],[5,4],[],[],[7,8,6],[],[10,10],[],[12,12],[],[14,14],[1,4,6,9,11,13,15],[16],[]]
abbrev qW:List (Option Tmp):=[some 11,some 12,some 13,some 14,some 15,some 16,some 17,some 18,some 19,some 20,some 21,some 22,some 23,some 24,some 25,some 26,some 27,some 28,some 4]
theorem gr_deps(i:Nat)(vals vals':Nat→Value)(w:World)(hi:i<19)(h1:vals i=vals' i)(h2:∀ j∈oh qX i,vals j=vals' j)(h:GrR r a n c f B i vals w):GrR r a n c f B i vals' w:=by
 unfold GrR at h⊢
 split at h
 case h_17=>
  have e:∀ j∈[1,4,6,9,11,13,15],vals j=vals' j:=h2
  rw[←h1,←e 1 (by decide),←e 4 (by decide),←e 6 (by decide),←e 9 (by decide),←e 11 (by decide),←e 13 (by decide),←e 15 (by decide)]
  exact h
 case h_18=>
  have e:vals 16=vals' 16:=h2 16 (by decide)
  rw[←h1,←e]
  exact h
 all_goals first
  |(rw[←h1];exact h)
  |trivial
theorem gr_dlt(i:Nat)(vals:Nat→Value)(w:World)(k:Nat)(h:GrR r a n c f B i vals w)(hd:GrD n i (vals i) w k):k<w.heap.size:=by
 unfold GrD at hd
 split at hd
 ·obtain⟨va,vn,vc,e,ho⟩:=h
  rw[e]at hd
  exact(ho.lt _ hd).2
 ·exact mQ.lt h hd
 ·obtain⟨g,vs,e,ho,hl⟩:=h
  rw[e]at hd
  rcases hd with hd|⟨g',j,x,hg,hj,hx,hk⟩
  ·obtain⟨cur,hc,_⟩:=dG ho.row hd
   exact(Array.getElem?_eq_some_iff.1 hc).1
  ·cases hg
   have hj':j<vs.length:=by omega
   have:=ho.cell hj'
   rw[hx]at this
   cases this
   exact((ho.own j hj' (by rw[←ho.len];exact hj')).lt _ hk).2
 ·exact mQ.lt h hd
 ·exact mQ.lt h hd
 ·exact mQ.lt h hd
 ·exact mQ.lt h hd
 ·obtain⟨p,C,e,hB,hC,hp⟩:=h
  rw[e]at hd
  cases hd
  exact(Array.getElem?_eq_some_iff.1 hp).1
 ·obtain⟨b,e,hB,hp⟩:=h
  rw[e]at hd
  cases hd
  exact(Array.getElem?_eq_some_iff.1 hp).1
 ·exact hd.elim
theorem gr_dk(i:Nat)(vals:Nat→Value)(w w':World)(k:Nat)(h:GrR r a n c f B i vals w)(hb:GB w w')(hd:GrD n i (vals i) w' k):GrD n i (vals i) w k:=by
 unfold GrD at hd⊢
 split at hd<;>first
  |exact hd
  |skip
 obtain⟨g,vs,e,ho,hl⟩:=h
 rcases hd with hd|⟨g',j,x,hg,hj,hx,hk⟩
 ·exact .inl hd
 ·refine .inr ⟨g',j,x,hg,hj, ?_,hk⟩
  rw[e]at hg
  obtain⟨cur,hc,_⟩:=dG ho.row hg
  exact(Below.cell hb (p:=⟨g',j,none⟩) (Array.getElem?_eq_some_iff.1 hc).1).symm.trans hx
end
section
variable {W W' : World} {B p n : Nat} {g : Nat → Nat} {Z : Nat → List Int} {ov fv : Value} {ord : List Int} {vs : List Value} {FR : List (List Int)} {rd : Int}
theorem aI.keptT{X:Nat→Prop}(h:aI W B p n g Z ov fv ord vs FR rd)(hb:Off X W W')(hX:∀ i,X i→∀ (C:Array Value) (t:TypeId),(t=3∨t=40∨t=159)→W.heap[i]? ≠some (Obj.cells C t (0,0))):aI W' B p n g Z ov fv ord vs FR rd:=by
 have hk:∀ i (C:Array Value) (t:TypeId),(t=3∨t=40∨t=159)→W.heap[i]? =some (Obj.cells C t (0,0))→W'.heap[i]? =W.heap[i]? :=fun i C t ht e=>hb.block i (Array.getElem?_eq_some_iff.1 e).1 (fun hx=>hX i hx C t ht e)
 have hown:∀ {v:Value} {L:List Int},aj W B 3 v L→aj W' B 3 v L:=fun ho=>jJ ho fun i hi=>by obtain⟨cur,hc,_⟩:=bL ho hi;exact hk i _ _ (.inl rfl) hc
 exact⟨(hk p _ _ (.inr (.inr rfl)) h.blk).trans h.blk,h.ge,⟨fun i hi=>hown (h.rows.own i hi),h.rows.apart⟩,hown h.ord,h.ordne,h.fr.kept hb (fun i hi=>.inr fun C t ht=>hX i hi C t (by rcases ht with rfl|rfl;exact .inr (.inl rfl);exact .inl rfl)),h.frne⟩
end
def g5(a b c d e:Nat):Nat→Nat:=fun i=>if i=0 then a else if i=1 then b else if i=2 then c else if i=3 then d else e
def Z2(n:Nat):Nat→List Int:=fun k=>if k<2 then List.replicate n (-1)else List.replicate n 0
def lV(ov:Value)(gf:Nat)(vs:List Value):Prop:=∀ k,ov.ownBlock=some k→k≠gf∧∀ j (h:j<vs.length),vs[j].ownBlock≠some k
section
variable {r : Int} {a : Option Addr} {n c : Nat} {f : ak} {B : Nat}
theorem gr_tree{vals:Nat→Value}{w:World}(hR:∀ i,i<19→GrR r a n c f B i vals w)(hD:∀ i j,i<19→j<19→i≠j→∀ k,GrD n i (vals i) w k→¬ GrD n j (vals j) w k):
 ∃p bt q0 q1 q2 q3 q4 gf va vn vc vs,vals 1=.slice va vn vc∧vals 4=.slice (some ⟨q0,0,none⟩) n n∧vals 6=.slice (some ⟨gf,0,none⟩) n n∧vals 9=.slice (some ⟨q1,0,none⟩) n n∧vals 11=.slice (some ⟨q2,0,none⟩) n n∧vals 13=.slice (some ⟨q3,0,none⟩) n n∧vals 15=.slice (some ⟨q4,0,none⟩) n n∧vals 17=.pointer (some ⟨p,0,none⟩)∧vals 18=.pointer (some ⟨bt,0,none⟩)∧
  aI w B p n (g5 q0 q1 q2 q3 q4) (Z2 n) (.slice va vn vc) (.slice (some ⟨gf,0,none⟩) n n) (aD f) vs (dR f n 0) 0∧vs.length=n∧lV (.slice va vn vc) gf vs∧w.heap[bt]? =some (.cells #[.pointer none] 160 (0,0))∧B≤bt:=by
 obtain⟨va,vn,vc,e1,ho1⟩:GrR r a n c f B 1 vals w:=hR 1 (by omega)
 obtain⟨q0,e4,ho4⟩:GrR r a n c f B 4 vals w:=hR 4 (by omega)
 obtain⟨gf,vs,e6,ho6,hl6⟩:GrR r a n c f B 6 vals w:=hR 6 (by omega)
 obtain⟨q1,e9,ho9⟩:GrR r a n c f B 9 vals w:=hR 9 (by omega)
 obtain⟨q2,e11,ho11⟩:GrR r a n c f B 11 vals w:=hR 11 (by omega)
 obtain⟨q3,e13,ho13⟩:GrR r a n c f B 13 vals w:=hR 13 (by omega)
 obtain⟨q4,e15,ho15⟩:GrR r a n c f B 15 vals w:=hR 15 (by omega)
 have e16:vals 16=.agg #[vals 1,vals 4,vals 6,vals 9,vals 11,vals 13,vals 15,.int .i64 0]:=hR 16 (by omega)
 obtain⟨p,C,e17,hpB,hC,hp⟩:GrR r a n c f B 17 vals w:=hR 17 (by omega)
 obtain⟨bt,e18,hbB,hb⟩:GrR r a n c f B 18 vals w:=hR 18 (by omega)
 rw[e16]at hC
 cases hC
 rw[e1,e4,e6,e9,e11,e13,e15]at hp
 have hq:∀ i,i<5→∃ s,s<19∧(s=4∨s=9∨s=11∨s=13∨s=15)∧s=[4,9,11,13,15].getD i 0∧GrD n s (vals s) w (g5 q0 q1 q2 q3 q4 i):=by
  intro i hi
  have h5:i=0∨i=1∨i=2∨i=3∨i=4:=by omega
  rcases h5 with rfl|rfl|rfl|rfl|rfl
  ·exact⟨4,by omega,by simp,rfl,by show(vals 4).ownBlock=_;rw[e4];rfl⟩
  ·exact⟨9,by omega,by simp,rfl,by show(vals 9).ownBlock=_;rw[e9];rfl⟩
  ·exact⟨11,by omega,by simp,rfl,by show(vals 11).ownBlock=_;rw[e11];rfl⟩
  ·exact⟨13,by omega,by simp,rfl,by show(vals 13).ownBlock=_;rw[e13];rfl⟩
  ·exact⟨15,by omega,by simp,rfl,by show(vals 15).ownBlock=_;rw[e15];rfl⟩
 have hrow:∀ i,i<5→aj w B 3 (.slice (some ⟨g5 q0 q1 q2 q3 q4 i,0,none⟩) n n) (Z2 n i):=by
  intro i hi
  have h5:i=0∨i=1∨i=2∨i=3∨i=4:=by omega
  rcases h5 with rfl|rfl|rfl|rfl|rfl
  ·exact ho4
  ·exact ho9
  ·exact ho11
  ·exact ho13
  ·exact ho15
 refine⟨p,bt,q0,q1,q2,q3,q4,gf,va,vn,vc,vs,e1,e4,e6,e9,e11,e13,e15,e17,e18,⟨hp,hpB,⟨hrow,fun i j hi hj hne e=> ?_⟩,ho1,fun i hi e=> ?_,ho6,fun i hi j hj e=> ?_⟩,hl6,fun k hk=>⟨fun e=> ?_,fun j hj e=> ?_⟩,hb,hbB⟩
 ·obtain⟨s,hs,_,es,hd⟩:=hq i hi
  obtain⟨s',hs',_,es',hd'⟩:=hq j hj
  have hss:s≠s':=by
   have h5:i=0∨i=1∨i=2∨i=3∨i=4:=by omega
   have h5':j=0∨j=1∨j=2∨j=3∨j=4:=by omega
   rw[es,es']
   rcases h5 with rfl|rfl|rfl|rfl|rfl<;>rcases h5' with rfl|rfl|rfl|rfl|rfl<;>simp at hne⊢
  rw[e]at hd
  exact hD s s' hs hs' hss _ hd hd'
 ·obtain⟨s,hs,hs5,_,hd⟩:=hq i hi
  refine hD 1 s (by omega) hs (by omega) (g5 q0 q1 q2 q3 q4 i) ?_ hd
  show(vals 1).ownBlock=_
  rw[e1];exact e
 ·obtain⟨s,hs,hs5,_,hd⟩:=hq i hi
  refine hD 6 s (by omega) hs (by omega) (g5 q0 q1 q2 q3 q4 i) (.inr ⟨gf,j,vs[j],by rw[e6];rfl,by omega,ho6.cell hj,e⟩) hd
 ·refine hD 1 6 (by omega) (by omega) (by omega) k ?_ (.inl ?_)
  ·show(vals 1).ownBlock=_
   rw[e1];exact hk
  ·rw[e6,e];rfl
 ·refine hD 1 6 (by omega) (by omega) (by omega) k ?_ (.inr ⟨gf,j,vs[j],by rw[e6];rfl,by omega,ho6.cell hj,e⟩)
  show(vals 1).ownBlock=_
  rw[e1];exact hk
end
def ZP(Z:Nat→List Int)(PL:List Int):Nat→List Int:=fun k=>if k=0 then PL else Z k
theorem ZP_put(Z:Nat→List Int)(PL PL2:List Int):(fun k=>if k=0 then PL2 else ZP Z PL k)=ZP Z PL2:=by
 funext k
 unfold ZP
 by_cases h:k=0<;>simp[h]
theorem ZP_zero(Z:Nat→List Int)(PL:List Int):ZP Z PL 0=PL:=rfl
theorem ZP_same(Z:Nat→List Int):ZP Z (Z 0)=Z:=by
 funext k
 unfold ZP
 by_cases h:k=0
 ·subst h;simp
 ·simp[h]
open Classical in
noncomputable def dO(f:ak)(i v:Nat):Int:=if iH f v∧plF f v<i then(plF f v:Int)else -1
theorem AL(f:ak)(v:Nat):dO f 0 v= -1:=by unfold dO;rw[if_neg (by omega)]
theorem AO{f:ak}{n i b:Nat}{PL:List Int}(hl:PL.length=n)(hp:∀ v,v<n→nth PL v=dO f i v)(hi:i<(aD f).length)(hb:(aD f)[i]=(b:Int))(hbn:b<n):∀ v,v<n→nth (PL.set b (i:Int)) v=dO f (i+1) v:=by
 intro v hv
 have h1:=AQ hi hb
 rw[dP (by omega)]
 by_cases e:v=b
 ·subst e
  unfold dO
  rw[if_pos rfl,if_pos ⟨h1.1,by omega⟩,h1.2]
 ·rw[if_neg e,hp v hv]
  unfold dO
  by_cases hm:iH f v
  ·have hne:plF f v≠i:=fun e2=>e (by
    have h2:=xH hm
    simp only[e2]at h2
    have:=h2.symm.trans hb
    omega)
   by_cases hlt:plF f v<i
   ·rw[if_pos ⟨hm,hlt⟩,if_pos ⟨hm,by omega⟩]
   ·rw[if_neg (fun h=>hlt h.2),if_neg (fun h=>hlt (by have:=h.2;omega))]
  ·rw[if_neg (fun h=>hm h.1),if_neg (fun h=>hm h.1)]
theorem qf{f:ak}{v:Nat}:(0≤dO f (aD f).length v↔iH f v)∧(iH f v→dO f (aD f).length v=(plF f v:Int)):=by
 unfold dO
 by_cases hm:iH f v
 ·rw[if_pos ⟨hm,sP hm⟩]
  exact⟨⟨fun _=>hm,fun _=>by omega⟩,fun _=>rfl⟩
 ·rw[if_neg (fun h=>hm h.1)]
  exact⟨⟨fun h=>absurd h (by omega),fun h=>absurd h hm⟩,fun h=>absurd h hm⟩
def kY(f:ak)(n:Nat)(d:Int→Bool)(i:Nat):List (List Int):=(List.range n).map fun(b:Nat)=>if b<i then(ahL f n b).filter (fun z=> !d z)else ahL f n b
theorem Eg(f:ak)(n:Nat)(d:Int→Bool)(i:Nat):(kY f n d i).length=n:=by simp[kY]
theorem lS{f:ak}{n i b:Nat}{d:Int→Bool}(h:b<(kY f n d i).length):(kY f n d i)[b]=if b<i then(ahL f n b).filter (fun z=> !d z)else ahL f n b:=by simp[kY]
theorem Bw{f:ak}{n:Nat}{d:Int→Bool}(hn:n=f.blocks.length):kY f n d 0=dR f n 0:=by
 apply List.ext_getElem
 ·simp[kY,dR,hn]
 ·intro b h1 h2
  rw[lS h1,ig h2]
  simp
theorem Bz{f:ak}{n i:Nat}{d:Int→Bool}(hi:i<n):(kY f n d i).set i ((ahL f n i).filter (fun z=> !d z))=kY f n d (i+1):=by
 apply List.ext_getElem
 ·simp[kY]
 ·intro b h1 h2
  rw[List.getElem_set]
  split
  ·rename_i e;subst e;rw[lS,if_pos (by omega)]
  ·rename_i e
   rw[lS,lS]
   by_cases hb:b<i
   ·rw[if_pos hb,if_pos (by omega)]
   ·rw[if_neg hb,if_neg (by omega)]
section
variable {W W' : World} {B p n gf : Nat} {g : Nat → Nat} {Z : Nat → List Int} {ov : Value} {ord : List Int} {vs : List Value} {FR : List (List Int)} {rd : Int}
theorem aI.refrom{w1:World}{i:Nat}{v':Value}{Z':List Int}(h:aI W B p n g Z ov (.slice (some ⟨gf,0,none⟩) n n) ord vs FR rd)(ha:lV ov gf vs)(hl:vs.length=n)(hi:i<vs.length)(hb:Off (fun k=>(vs[i]).ownBlock=some k) W w1)(ho:aj w1 B 3 v' Z')(hv:∀ k,v'.ownBlock=some k→(vs[i]).ownBlock=some k):
 aI (w1.setCell ⟨gf,i,none⟩ v') B p n g Z ov (.slice (some ⟨gf,0,none⟩) n n) ord (vs.set i v') (FR.set i Z') rd∧lV ov gf (vs.set i v')∧Off (fun k=>(vs[i]).ownBlock=some k∨k=gf) W (w1.setCell ⟨gf,i,none⟩ v'):=by
 have hp:=h.fr.push (w1:=w1) (U:=W) (Z':=Z') (v':=v') (i:=i) (by decide) hl.symm hi (Below.refl _ _) ⟨hb.os,hb.tape,hb.output,hb.size,fun k hk hne=>hb.block k hk (fun e=>hne e.symm)⟩ ho (fun k hk=>.inl (hv k hk))
 obtain⟨h1,_,h3,_,_⟩:=hp
 have hiF:i<FR.length:=by rw[←h.fr.len];exact hi
 have hpb:∀ {k:Nat} {C:Array Value} {t:TypeId},W.heap[k]? =some (.cells C t (0,0))→(vs[i]).ownBlock≠some k→k≠gf→(w1.setCell ⟨gf,i,none⟩ v').heap[k]? =W.heap[k]? :=fun hk h1 h2=>h3.block _ (Array.getElem?_eq_some_iff.1 hk).1 (fun hx=>hx.elim h1 h2)
 have hgf:∃ cur,W.heap[gf]? =some (.cells cur 40 (0,0)):=by obtain⟨cur,hc,_⟩:=dG h.fr.row (i:=gf) rfl;exact⟨cur,hc⟩
 obtain⟨curf,hcf⟩:=hgf
 have hpne:(vs[i]).ownBlock≠some p:=fun e=>by
  obtain⟨cur,hc,_⟩:=bL (h.fr.own i hi hiF) e
  have h2:=h.blk
  rw[hc]at h2;simp at h2
 have hpf:p≠gf:=fun e=>by have h2:=h.blk;rw[e,hcf]at h2;simp at h2
 refine⟨⟨(hpb h.blk hpne hpf).trans h.blk,h.ge,⟨fun k hk=>jJ (h.rows.own k hk) fun q hq=> ?_,h.rows.apart⟩,jJ h.ord fun q hq=> ?_,h.ordne,h1,fun k hk j hj=> ?_⟩,fun k hk=>⟨(ha k hk).1,fun j hj=> ?_⟩,h3⟩
 ·have e:g k=q:=by have h':some (g k)=some q:=hq;cases h';rfl
  subst e
  obtain⟨cur,hc,_⟩:=h.gblk hk
  exact hpb hc (h.frne k hk i hi) (fun e=>by rw[e,hcf]at hc;simp at hc)
 ·obtain⟨cur,hc,_⟩:=bL h.ord hq
  exact hpb hc ((ha q hq).2 i hi) (ha q hq).1
 ·simp only[List.length_set]at hj
  rw[List.getElem_set]
  split
  ·exact fun e=>h.frne k hk i hi (hv _ e)
  ·exact h.frne k hk j hj
 ·simp only[List.length_set]at hj
  rw[List.getElem_set]
  split
  ·exact fun e=>(ha k hk).2 i hi (hv _ e)
  ·exact(ha k hk).2 j hj
end
set_option maxRecDepth 100000 in
theorem Aq{W:World}{p:Nat}{a:Option Addr}{c:Nat}(h0:W.cell? ⟨p,0,none⟩=some (.slice a 0 c)):
 Calls Tryz.prog 141 #[.pointer (some ⟨p,0,none⟩)] W fun e w'=>e=.returned (.tuple #[])∧w'=W:=by
 go_enter Tryz.func141,Tryz.ntmps141
 go_wp2_with fail
 go_loop [2] (fun v2=>∃ ch:Bool,v2=.bool ch) (fun v2=>match v2 with| .bool true=>1|_=>0)
 case atStart=>exact⟨true,rfl⟩
 case round=>
  obtain⟨ch,rfl⟩:=hrel
  cases ch with
  |false=>
   go_wp2_with fail
   go_end0
   exact⟨rfl,rfl⟩
  |true=>
   go_wp2_with fail
   go_loop [2,12] (fun v2 v12=>v2=.bool false∧v12=.int .i64 0) (fun _ _=>0)
   case atStart=>exact⟨rfl,rfl⟩
   case round=>
    obtain⟨rfl,rfl⟩:=hrel
    go_wp2_with fail
    go_round
    case rel=>exact⟨false,rfl⟩
    case measure=>simp
open Classical in
noncomputable def metZ(f:ak)(z:Int):Bool:=decide (∃v:Nat,z=(v:Int)∧iH f v)
noncomputable def frL(f:ak)(n:Nat):List (List Int):=(List.range n).map fun(b:Nat)=>(ahL f n b).filter (metZ f)
theorem zw{f:ak}{z:Int}:metZ f z=true↔∃ v:Nat,z=(v:Int)∧iH f v:=by unfold metZ;simp
theorem Hu{f:ak}{n b:Nat}(h:b<(frL f n).length):(frL f n)[b]=(ahL f n b).filter (metZ f):=by simp[frL]
theorem Ht{f:ak}{n b:Nat}(hn:n=f.blocks.length){z:Int}:z∈(ahL f n b).filter (metZ f)↔∃ q:Nat,z=(q:Int)∧iH f q∧(b:Int)∈nxF f q:=by
 rw[List.mem_filter,ahL_mem,zw]
 constructor
 ·rintro ⟨⟨_,h2⟩,q,rfl,hq⟩
  exact⟨q,rfl,hq,by simpa using h2⟩
 ·rintro ⟨q,rfl,hq,h2⟩
  have:=iJ hq
  exact⟨⟨⟨by omega,by omega⟩,by simpa using h2⟩,q,rfl,hq⟩
theorem AJ{f:ak}{n:Nat}{PL:List Int}(hn:n=f.blocks.length)(hp:∀ v,v<n→nth PL v=dO f (aD f).length v)(z:Int):dF n PL z=metZ f z:=by
 rw[Bool.eq_iff_iff,zw]
 unfold dF
 rw[decide_eq_true_eq]
 constructor
 ·rintro ⟨h0,h1,h2⟩
  obtain⟨v,rfl⟩:=Int.eq_ofNat_of_zero_le h0
  rw[Int.toNat_natCast,hp v (by omega)]at h2
  exact⟨v,rfl,qf.1.1 h2⟩
 ·rintro ⟨v,rfl,hv⟩
  have:=iJ hv
  refine⟨by omega,by omega, ?_⟩
  rw[Int.toNat_natCast,hp v (by omega)]
  exact qf.1.2 hv
theorem Eh{f:ak}{n:Nat}{PL:List Int}(hn:n=f.blocks.length)(hp:∀ v,v<n→nth PL v=dO f (aD f).length v):kY f n (fun z=> !dF n PL z) n=frL f n:=by
 apply List.ext_getElem
 ·simp[kY,frL]
 ·intro b h1 h2
  rw[lS h1,Hu h2,if_pos (by simpa [kY]using h1)]
  congr 1
  funext z
  rw[AJ hn hp]
  simp
theorem Gm{f:ak}{n:Nat}{PL:List Int}(hn:n=f.blocks.length)(h0:0<n)(hp:∀ v,v<n→nth PL v=dO f (aD f).length v):Given (kJ f) (iH f) (plF f) n (aD f).length (aD f) PL (frL f n) where
 rpo:=pY f (by omega)
 lt:=fun v hv=>by rw[hn];exact iJ hv
 plK:=fun v hv=>sP hv
 olen:=rfl
 K0:=(rG f).2 (by omega)
 Kn:=by rw[hn];exact dZ f
 ordAt:=fun i hi=>by
  obtain⟨v,hv,_⟩:=sQ hi
  exact⟨v,hv,AQ hi hv⟩
 place:=fun v hv=>by rw[hp v (by rw[hn];exact iJ hv)];exact qf.2 hv
 from_:=fun b hb hMb=>by
  rw[Hu hb]
  refine⟨fun z hz=> ?_,fun q hq he=>(Ht hn).2 ⟨q,rfl,hq,he.1⟩,Nat.le_trans (List.length_filter_le _ _) (yj f n b)⟩
  obtain⟨q,rfl,hq,h⟩:=(Ht hn).1 hz
  exact⟨q,rfl,hq,h,iJ hMb⟩
theorem F9{f:ak}(h:f.blocks.length=0)(v:Nat):¬ iH f v:=fun hv=>by have:=iJ hv;omega
theorem AU{f:ak}(h:f.blocks.length=0):aD f=[]:=by
 have:=dZ f
 exact List.eq_nil_of_length_eq_zero (by omega)
theorem xq{f:ak}{W:World}{B p n gf:Nat}{g:Nat→Nat}{Z:Nat→List Int}{ov:Value}{vs:List Value}
 (hA:aI W B p n g Z ov (.slice (some ⟨gf,0,none⟩) n n) (aD f) vs (frL f n) 0)(hn:n=f.blocks.length)(hp:∀ v,v<n→nth (Z 0) v=dO f (aD f).length v)(hvs:vs.length=n)(hZ1:Z 1=List.replicate n (-1))(hle:∀ v,v<n→nth (Z 4) v≤0)(hn5:n≤100000):
 Calls Tryz.prog 141 #[.pointer (some ⟨p,0,none⟩)] W (su (kJ f) (iH f) (plF f) W B p n g Z ov (.slice (some ⟨gf,0,none⟩) n n) (aD f) vs (frL f n)):=by
 by_cases h0:0<n
 ·exact Ar hA (Gm hn h0 hp) hvs hZ1 hle hn5
 ·have hn0:f.blocks.length=0:=by omega
  have hM:=F9 hn0
  obtain⟨oa,on,oc,rfl,hon⟩:=hA.ord.nums
  have hz:on=0:=by rw[←hon.1,AU hn0];rfl
  subst hz
  refine(Aq (a:=oa) (c:=oc) (by simp[World.cell?,hA.blk])).mono ?_
  rintro e w' ⟨rfl,rfl⟩
  refine⟨rfl,Z 1,Z 4,0,0,⟨by rw[EX];exact hA,Off.refl _ _,fun v hv=>by omega⟩,⟨⟨fun v hv=>absurd hv (hM v),fun v _=> ?_,fun v=> ?_,fun v c h=> ?_,fun v c h=> ?_,fun v a hv=>absurd hv (hM v),fun v c hv=>absurd hv (hM v)⟩,fun v hv=>absurd hv (hM v),fun v c hv=>absurd hv (hM v)⟩,by omega⟩
  ·unfold gH;rw[if_neg (by omega)]
  ·unfold gH;rw[if_neg (by omega)];omega
  ·unfold gH at h;rw[if_neg (by omega)]at h;omega
  ·unfold gH at h;rw[if_neg (by omega)]at h;omega
def ordF(f:ak)(i:Nat):Nat:=(nth (aD f) i).toNat
theorem sS{f:ak}{i:Nat}(h:i<(aD f).length):(aD f)[i]=(ordF f i:Int):=by
 obtain⟨v,hv,_⟩:=sQ h
 unfold ordF
 rw[bN h,hv];rfl
theorem Gc{f:ak}{n m:Nat}{UP:List Int}(hs:fK (kJ f) (iH f) (plF f) n UP m):nN (iH f) (plF f) (gH n UP) (ordF f) (aD f).length where
 at_:=fun c hc=>⟨by have h1:=xH hc;rw[sS (sP hc)]at h1;omega,sP hc⟩
 met:=fun k hk=>AQ hk (sS hk)
 lt:=fun v c h=>⟨(hs.tree.lt v c h).1,(hs.tree.lt v c h).2.1⟩
 up0:=fun v hv h=>by
  have h0:0<f.blocks.length:=by have:=iJ hv;omega
  exact(hs.tree.known v hv (fun e=>h (((pY f h0).pl0 v hv).2 e))).2 (hs.all v hv)
 low:=hs.tree.low
theorem root_of{f:ak}{n m:Nat}{UP:List Int}(hs:fK (kJ f) (iH f) (plF f) n UP m)(h:0<(aD f).length):gH n UP (ordF f 0)<0:=by
 have h0:0<f.blocks.length:=(rG f).1 h
 have h1:=AQ h (sS h)
 have h2:=((pY f h0).pl0 _ h1.1).1 h1.2
 rw[h2,hs.tree.none 0 (by simp)]
 omega
structure GrownSt(W:World)(f:ak)(B p n:Nat)(g:Nat→Nat)(Z:Nat→List Int)(ov:Value)(gf:Nat)(vs:List Value)(rd m:Nat):Prop where
 at_:aI W B p n g Z ov (.slice (some ⟨gf,0,none⟩) n n) (aD f) vs (frL f n) (rd:Int)
 len:n=f.blocks.length
 vsl:vs.length=n
 place:∀ v,v<n→nth (Z 0) v=dO f (aD f).length v
 set:fK (kJ f) (iH f) (plF f) n (Z 1) m
 over:∀ a b,iH f a→iH f b→(numB (Z 2) (Z 3) a b=true↔On (gH n (Z 1)) b a)
 pass:∀ v,v<n→nth (Z 4) v≤(rd:Int)
theorem over_of{f:ak}{n m K:Nat}{UP NU EN:List Int}{S N:Nat→Nat}(hs:fK (kJ f) (iH f) (plF f) n UP m)(hN:bV (iH f) (plF f) (gH n UP) (ordF f) K S N)(h1:∀ v,iH f v→nth NU v=(N v:Int))(h2:∀ v,iH f v→nth EN v=(S v:Int)+(N v:Int))(a b:Nat)(ha:iH f a)(hb:iH f b):numB NU EN a b=true↔On (gH n UP) b a:=by
 have h0:0<f.blocks.length:=by have:=iJ ha;omega
 rw[←hN.over (pY f h0) hs.tree hs.all ha hb]
 unfold numB
 rw[decide_eq_true_eq,h1 a ha,h1 b hb,h2 a ha]
 omega
theorem aI.base{W:World}{B B' p n:Nat}{g:Nat→Nat}{Z:Nat→List Int}{ov fv:Value}{ord:List Int}{vs:List Value}{FR:List (List Int)}{rd:Int}(h:aI W B p n g Z ov fv ord vs FR rd)(hB:B'≤B):aI W B' p n g Z ov fv ord vs FR rd:=
 ⟨h.blk,Nat.le_trans hB h.ge,⟨fun i hi=>(h.rows.own i hi).mono hB,h.rows.apart⟩,h.ord.mono hB,h.ordne,h.fr.mono hB,h.frne⟩
theorem own_len(a:Option Addr)(n m c:Nat):(Value.slice a n c).ownBlock=(Value.slice a m c).ownBlock:=by cases a<;>rfl
end Go.Proofs.YthjdeoppajlcoaaGreatDoor

namespace Go.Proofs.YthjdeoppajlcoaaGreatDoor
set_option linter.unusedSimpArgs false
set_option linter.unusedVariables false
open Go.RowKit (wrap64 intOf Below Hid)
attribute [local go_sem ↓] Go.wp_at_zero Go.wp_at_succ
open Go.Lib (hid)
def OpPost(y:OpD)(w:World)(e:Ending)(w':World):Prop:=∃ k a b c n s va vn vc t,e=.returned (.agg #[.int .i64 k,.int .i64 a,.int .i64 b,.int .i64 c,.int .i64 n,.string s,.slice va vn vc,.bool t])∧
 OpO w' (From w.heap.size) [.int .i64 k,.int .i64 a,.int .i64 b,.int .i64 c,.int .i64 n,.string s,.slice va vn vc,.bool t] (jW y)∧Below w.heap.size w w'
theorem InR.pick{b:Bool}{z:Int}(h:InR z):InR (jk b z):=by
 cases b
 ·exact InR.zero
 ·exact h
theorem F3(pa:Option Addr)(pn pc:Nat)(y:OpD)(w:World)(h:OpQ w [.int .i64 y.K,.int .i64 y.A,.int .i64 y.B,.int .i64 y.C,.int .i64 y.N,.string y.S,.slice pa pn pc,.bool y.T] y)(hft:FT w):
 Calls Tryz.prog 149 #[.agg #[.int .i64 y.K,.int .i64 y.A,.int .i64 y.B,.int .i64 y.C,.int .i64 y.N,.string y.S,.slice pa pn pc,.bool y.T]] w (OpPost y w):=by
 obtain⟨l,he,r1,r2,r3,r4,r5,r6,a,n,c,he2,hat,hnil,hn,hr⟩:=h
 simp only[List.cons.injEq,true_and,and_true]at he
 rw[←he]at he2
 cases he2
 have hl:=hat.1
 refine(Bj y.K y.A y.B y.C y.N y.S pa pn pc y.T y.L w hft hat hnil (by omega)).mono ?_
 rintro e w' ⟨va,vn,vc,rfl,hown,hb⟩
 refine⟨_,_,_,_,_,_,va,vn,vc,_,rfl,⟨_,rfl,r1,r2.pick,r3.pick,r4.pick,r5.pick, ?_,aj.numsO hown ?_ ?_⟩,hb⟩
 ·show(uS _ y.S).size≤_
  unfold uS
  split
  ·exact r6
  ·exact Nat.zero_le _
 ·show(dA _ y.L).length*8≤_
  unfold dA
  split
  ·rw[hl];exact hn
  ·simp
 ·intro z hz
  have hz:z∈dA (hasB y.K 76) y.L:=hz
  unfold dA at hz
  split at hz
  ·exact hr z hz
  ·cases hz
theorem info_op:(Tryz.prog.info? 64).map (fun i=>(i.zero,i.size,i.bytes))=some (some (.agg #[.int .i64 0,.int .i64 0,.int .i64 0,.int .i64 0,.int .i64 0,.string ⟨#[]⟩,.slice none 0 0,.bool false]),8,88):=by kernel_rfl
def Ch(xs:List OpD)(w:World)(e:Ending)(w':World):Prop:=∃ va vn vc,e=.returned (.slice va vn vc)∧gW 64 8 OpO w' (From w.heap.size) (.slice va vn vc) (xs.map jW)∧Below w.heap.size w w'
set_option maxRecDepth 100000 in
set_option maxHeartbeats 2000000 in
theorem each_op(a:Option Addr)(n c:Nat)(xs:List OpD)(w:World)(h:gG OpQ 8 w (.slice a n c) xs)(hlen:xs.length≤100000)(hft:FT w):
 Calls Tryz.prog 148 #[.slice a n c,.func (.func 149) #[] #[]] w (Ch xs w):=by
 obtain⟨a',c',g,off,he,hnil,hcap,hg⟩:=h.cells
 cases he
 have HG:=hid hg
 have HLN:=hid hlen
 obtain⟨ln,hln⟩:∃ ln,ln=xs.length:=⟨_,rfl⟩
 have HL:=hid hln
 rw[←hln]at hlen
 have hcap':ln≤140737488351232:=by omega
 have HFT:=hid hft
 clear hft
 clear hg hln h
 rw[←HL.out]
 go_enter Tryz.func148,Tryz.ntmps148
 go_wp2_with fail
 go_loopw[5,10] (fun sv iv wr=>∃ (k:Nat) (va:Option Addr) (vn vc:Nat),k≤ln∧iv=.int .i64 (k:Int)∧sv=.slice va vn vc∧Hid (gW 64 8 OpO wr (From w.heap.size) (.slice va vn vc) ((xs.take k).map jW)∧Below w.heap.size w wr)) (fun _ iv _=>ln-(intOf iv).toNat)
 case atStart=>exact⟨0,none,0,0,Nat.zero_le _,rfl,rfl,hid ⟨gW.none _ _,Below.refl _ _⟩⟩
 case round=>
  obtain⟨k,va,vn,vc,hk,rfl,rfl,HR⟩:=hrel
  by_cases hlt:k<ln
  ·have hkx:k<xs.length:=by rw[←HL.out];exact hlt
   obtain⟨rfl,hgl,hcs⟩:=HG.out (by omega)
   obtain⟨cs,hc8,hcell,hq⟩:=hcs k hkx
   replace hq:=OpQ.lasts _ _ _ _ HR.out.2 hq
   replace hcell:∀ j (hj:j<cs.length),wr.cell? ⟨g,off+k*8+j,none⟩=some cs[j]:=fun j hj=>(HR.out.2.cell (p:=⟨g,off+k*8+j,none⟩) hgl).trans (hcell j hj)
   obtain⟨y,hy⟩:∃ y,y=xs[k]:=⟨_,rfl⟩
   rw[←hy]at hq
   have HY:=hid hy
   obtain⟨pv,rfl,r1,r2,r3,r4,r5,r6,hpv⟩:=hq
   obtain⟨pa,pn,pc,rfl,hpv'⟩:=hpv
   have hq:OpQ wr [.int .i64 y.K,.int .i64 y.A,.int .i64 y.B,.int .i64 y.C,.int .i64 y.N,.string y.S,.slice pa pn pc,.bool y.T] y:=⟨_,rfl,r1,r2,r3,r4,r5,r6,⟨pa,pn,pc,rfl,hpv'⟩⟩
   clear hpv' r1 r2 r3 r4 r5 r6
   have hc0:=hcell 0 (by simp)
   have hc1:=hcell 1 (by simp)
   have hc2:=hcell 2 (by simp)
   have hc3:=hcell 3 (by simp)
   have hc4:=hcell 4 (by simp)
   have hc5:=hcell 5 (by simp)
   have hc6:=hcell 6 (by simp)
   have hc7:=hcell 7 (by simp)
   simp only[Nat.add_zero,List.getElem_cons_zero,List.getElem_cons_succ]at hc0 hc1 hc2 hc3 hc4 hc5 hc6 hc7
   have hbl:Below wr.heap.size wr (wr.alloc (.cells #[.int .i64 y.K,.int .i64 y.A,.int .i64 y.B,.int .i64 y.C,.int .i64 y.N,.string y.S,.slice pa pn pc,.bool y.T] 64)):=(Below.refl _ _).alloc (Nat.le_refl _) _
   have HQ1:=hid (OpQ.lasts _ _ _ _ hbl hq)
   have HF1:=hid ((HFT.out.since HR.out.2).since hbl)
   have hwz:w.heap.size≤wr.heap.size:=HR.out.2.size
   have HKX:=hid hkx
   clear hcell hq hcs hbl hc8 hy 
   go_wp2_with fail
   refine(F3 pa pn pc y _ HQ1.out HF1.out).mono ?_
   rintro e w1 ⟨q1,q2,q3,q4,q5,q6,ua,un,uc,q7,rfl,hq1,hb1⟩
   have hb2:=kH ((Below.refl wr.heap.size wr).alloc (Nat.le_refl _) _) hb1
   have hrow:=HR.out.1.holds OpO.holds (w':=w1) (S':=From w.heap.size) (fun b hb hS=>⟨hb2.block b hb,hS⟩)
   have hfar:∀ b,(Value.slice va vn vc).ownBlock=some b→b<wr.heap.size+1:=fun b hb=>by have:=(HR.out.1.own hb).2;omega
   have hw1:w.heap.size≤w1.heap.size:=Nat.le_trans hwz hb2.size
   have hbw:=HR.out.2.trans (hb2.mono hwz)
   have HQ2:=hid (OpO.holds.wider hq1 (S':=From (wr.heap.size+1)) (fun b _ hb=>by simpa [From]using hb))
   have HRW:=hid hrow
   have HFA:=hid hfar
   have HBW:=hid hbw
   have HTK:Hid (((xs.take k).map jW).length≤100000):=hid (by simp only[List.length_map,List.length_take];have:=HLN.out;omega)
   clear hb1 hb2 hq1 hrow hfar hbw HQ1
   go_wp2_with(at_builtin;refine cO w1 rfl _ _ 47 rfl 64 Tryz.underlying47 _ 8 88 info_op rfl (by decide) (by decide) OpO.holds w.heap.size (.slice va vn vc) ((xs.take k).map jW) rfl HRW.out hw1 _ 1 w1.heap.size rfl rfl rfl (by intro u hu;simp at hu;rcases hu with rfl|rfl|rfl|rfl|rfl|rfl|rfl|rfl<;>rfl) (jW y) (wr.heap.size+1) HQ2.out (by omega) HFA.out HTK.out ?_;intro va2 vn2 vc2 w2 hrow2 hb3)
   have HK':Hid (gW 64 8 OpO w2 (From w.heap.size) (.slice va2 vn2 vc2) ((xs.take (k+1)).map jW)∧Below w.heap.size w w2):=hid ⟨by rw[List.take_succ_eq_append_getElem HKX.out,List.map_append,List.map_cons,List.map_nil,←HY.out];exact hrow2,HBW.out.trans hb3⟩
   clear hrow2 hb3 HRW HFA HBW HTK HQ2
   go_wp2_with fail
   go_roundw
   case rel=>exact⟨k+1,va2,vn2,vc2,by omega,by go_num,rfl,HK'⟩
   case measure=>simp[intOf];omega
  ·have HE:Hid (gW 64 8 OpO wr (From w.heap.size) (.slice va vn vc) (xs.map jW)∧Below w.heap.size w wr):=hid (by have h:=HR.out;rw[List.take_of_length_le (by rw[←HL.out];omega)]at h;exact h)
   go_wp2_with fail
   go_ret
   exact⟨va,vn,vc,rfl,HE.out⟩
theorem jr{u:World}{b o0 o1 o2 o3 o4 o5 o6 o7:Nat}{v0 v1 v2 v3 v4 v5 v6 v7:Value}{p:Addr}(h:p.block≠b):((((((((u.setCell ⟨b,o0,none⟩ v0).setCell ⟨b,o1,none⟩ v1).setCell ⟨b,o2,none⟩ v2).setCell ⟨b,o3,none⟩ v3).setCell ⟨b,o4,none⟩ v4).setCell ⟨b,o5,none⟩ v5).setCell ⟨b,o6,none⟩ v6).setCell ⟨b,o7,none⟩ v7).cell? p=u.cell? p:=by
 rw[fw h,fw h,fw h,fw h,fw h,fw h,fw h,fw h]
theorem y8{u:World}{b o0 o1:Nat}{v0 v1:Value}{p:Addr}(h:p.block≠b):((u.setCell ⟨b,o0,none⟩ v0).setCell ⟨b,o1,none⟩ v1).cell? p=u.cell? p:=by
 rw[fw h,fw h]
def Ff(y:dD)(w:World)(e:Ending)(w':World):Prop:=∃ va vn vc ua un uc k x t l ta tn tc sa sn sc,e=.returned (.agg #[.slice va vn vc,.slice ua un uc,.int .i64 k,.int .i64 x,.int .i64 t,.int .i64 l,.slice ta tn tc,.slice sa sn sc])∧
 fU w' (From w.heap.size) [.slice va vn vc,.slice ua un uc,.int .i64 k,.int .i64 x,.int .i64 t,.int .i64 l,.slice ta tn tc,.slice sa sn sc] (eU y)∧Below w.heap.size w w'
theorem gW.past{α:Type}{T k:Nat}{Q:World→(Nat→Prop)→List Value→α→Prop}(hQ:Holds Q){n:Nat}{u u':World}{v:Value}{xs:List α}(h:gW T k Q u (From (n+2)) v xs)(ho:Off (fun b=>b=n+1) u u'):gW T k Q u' (From n) v xs:=
 (h.off hQ ho (fun b hb e=>by have:n+2≤b:=hb;omega)).wider hQ (fun b _ hb=>Nat.le_trans (by omega) hb)
theorem Holds.past{α:Type}{Q:World→(Nat→Prop)→List Value→α→Prop}(hQ:Holds Q){n:Nat}{u u':World}{cs:List Value}{x:α}(h:Q u (From (n+2)) cs x)(ho:Off (fun b=>b=n+1) u u'):Q u' (From n) cs x:=
 hQ.wider (hQ.off h ho (fun b hb e=>by have:n+2≤b:=hb;omega)) (fun b _ hb=>Nat.le_trans (by omega) hb)
set_option maxRecDepth 100000 in
set_option maxHeartbeats 4000000 in
theorem vS(pa oa la ma:Option Addr)(pn pc on oc ln lc mn mc:Nat)(y:dD)(w:World)(h:aM w [.slice pa pn pc,.slice oa on oc,.int .i64 y.fin.K,.int .i64 y.fin.A,.int .i64 y.fin.To,.int .i64 y.fin.Else,.slice la ln lc,.slice ma mn mc] y)(hft:FT w)(hsm:tV y):
 Calls Tryz.prog 115 #[.agg #[.slice pa pn pc,.slice oa on oc,.int .i64 y.fin.K,.int .i64 y.fin.A,.int .i64 y.fin.To,.int .i64 y.fin.Else,.slice la ln lc,.slice ma mn mc]] w (Ff y w):=by
 obtain⟨pv,ov,es,he,hp,ho,hend⟩:=h
 simp only[List.cons.injEq,true_and,and_true]at he
 obtain⟨rfl,rfl,rfl⟩:=he
 have hl0:=qJ.start w #[.slice pa pn pc,.slice oa on oc,.int .i64 y.fin.K,.int .i64 y.fin.A,.int .i64 y.fin.To,.int .i64 y.fin.Else,.slice la ln lc,.slice ma mn mc] #[.slice none 0 0,.slice none 0 0,.int .i64 0,.int .i64 0,.int .i64 0,.int .i64 0,.slice none 0 0,.slice none 0 0] 51 51
 have HL0:=hid hl0
 have HP:=hid (hp.since hl0.bel)
 have HO:=hid (ho.since OpQ.lasts hl0.bel)
 have HE:=hid (Fj.lasts _ _ _ _ hl0.bel hend)
 have HF:=hid (hft.since hl0.bel)
 have HSM:=hid (show y.ops.length≤100000 from hsm)
 clear hp ho hend hft hsm hl0
 go_enter Tryz.func115,Tryz.ntmps115
 go_wp2_with fail
 have hi:=HL0.out.c0
 have hi0:=hi 0
 have hi1:=hi 1
 have hi2:=hi 2
 have hi3:=hi 3
 have hi4:=hi 4
 have hi5:=hi 5
 have hi6:=hi 6
 have hi7:=hi 7
 clear hi
 simp only[List.getElem?_toArray,List.getElem?_cons_zero,List.getElem?_cons_succ]at hi0 hi1 hi2 hi3 hi4 hi5 hi6 hi7
 go_region_held3 (fun u=>u.cell? ⟨w.heap.size,0,none⟩=some (.slice pa pn pc)∧u.cell? ⟨w.heap.size,1,none⟩=some (.slice oa on oc)∧u.cell? ⟨w.heap.size,2,none⟩=some (.int .i64 y.fin.K)∧u.cell? ⟨w.heap.size,3,none⟩=some (.int .i64 y.fin.A)∧u.cell? ⟨w.heap.size,4,none⟩=some (.int .i64 y.fin.To)∧u.cell? ⟨w.heap.size,5,none⟩=some (.int .i64 y.fin.Else)∧u.cell? ⟨w.heap.size,6,none⟩=some (.slice la ln lc)∧u.cell? ⟨w.heap.size,7,none⟩=some (.slice ma mn mc))
  (first|(with_reducible exact⟨hi0,hi1,hi2,hi3,hi4,hi5,hi6,hi7⟩)|(with_reducible exact⟨hj0,hj1,hj2,hj3,hj4,hj5,hj6,hj7⟩)|(with_reducible exact⟨hk0,hk1,hk2,hk3,hk4,hk5,hk6,hk7⟩)|(with_reducible exact⟨hm0,hm1,hm2,hm3,hm4,hm5,hm6,hm7⟩)|(rw[jr (by simp),jr (by simp),jr (by simp),jr (by simp),jr (by simp),jr (by simp),jr (by simp),jr (by simp)];with_reducible exact⟨hm0,hm1,hm2,hm3,hm4,hm5,hm6,hm7⟩))
  (first
    |(go_at_call 113;(with_reducible refine(mP pa pn pc y.params _ HP.out).mono ?_);rintro e w1 ⟨va,vn,vc,rfl,hn1,hb1⟩;have hl1:=HL0.out.step hb1;have hn2:=hn1.first HL0.out;have hz:=hl1.c0;have hj0:w1.cell? ⟨w.heap.size,0,none⟩=some (.slice pa pn pc):=hz 0;have hj1:w1.cell? ⟨w.heap.size,1,none⟩=some (.slice oa on oc):=hz 1;have hj2:w1.cell? ⟨w.heap.size,2,none⟩=some (.int .i64 y.fin.K):=hz 2;have hj3:w1.cell? ⟨w.heap.size,3,none⟩=some (.int .i64 y.fin.A):=hz 3;have hj4:w1.cell? ⟨w.heap.size,4,none⟩=some (.int .i64 y.fin.To):=hz 4;have hj5:w1.cell? ⟨w.heap.size,5,none⟩=some (.int .i64 y.fin.Else):=hz 5;have hj6:w1.cell? ⟨w.heap.size,6,none⟩=some (.slice la ln lc):=hz 6;have hj7:w1.cell? ⟨w.heap.size,7,none⟩=some (.slice ma mn mc):=hz 7;clear hz;have ho1:=HO.out.since OpQ.lasts hb1;have he1:=Fj.lasts _ _ _ _ hb1 HE.out;have hf1:=HF.out.since hb1)
    |(go_at_call 148;(with_reducible refine(each_op oa on oc y.ops _ ho1 HSM.out hf1).mono ?_);rintro e w2 ⟨ua,un,uc,rfl,hr1,hb2⟩;have hl2:=hl1.step hb2;have hr2:=hr1.wider OpO.holds (S':=From (w.heap.size+2)) (fun b _ hb=>Nat.le_trans hl1.size hb);have hn3:=hn2.off (X:=fun _=>False) (Off.since hb2) (fun _ _ h=>h);have hz:=hl2.c0;have hk0:w2.cell? ⟨w.heap.size,0,none⟩=some (.slice pa pn pc):=hz 0;have hk1:w2.cell? ⟨w.heap.size,1,none⟩=some (.slice oa on oc):=hz 1;have hk2:w2.cell? ⟨w.heap.size,2,none⟩=some (.int .i64 y.fin.K):=hz 2;have hk3:w2.cell? ⟨w.heap.size,3,none⟩=some (.int .i64 y.fin.A):=hz 3;have hk4:w2.cell? ⟨w.heap.size,4,none⟩=some (.int .i64 y.fin.To):=hz 4;have hk5:w2.cell? ⟨w.heap.size,5,none⟩=some (.int .i64 y.fin.Else):=hz 5;have hk6:w2.cell? ⟨w.heap.size,6,none⟩=some (.slice la ln lc):=hz 6;have hk7:w2.cell? ⟨w.heap.size,7,none⟩=some (.slice ma mn mc):=hz 7;clear hz;have he2:=Fj.lasts _ _ _ _ hb2 he1)
    |(go_at_call 150;(with_reducible refine(Ey y.fin.K y.fin.A y.fin.To y.fin.Else la ma ln lc mn mc y.fin _ he2).mono ?_);rintro e w3 ⟨k,x,t,l,ta,tn,tc,sa,sn,sc,rfl,hx1,hb3⟩;have hl3:=hl2.step hb3;have hx2:=Hf.holds.wider hx1 (S':=From (w.heap.size+2)) (fun b _ hb=>Nat.le_trans hl2.size hb);have hn4:=hn3.off (X:=fun _=>False) (Off.since hb3) (fun _ _ h=>h);have hr3:=hr2.off OpO.holds (X:=fun _=>False) (Off.since hb3) (fun _ _ h=>h);have hz:=hl3.c0;have hm0:w3.cell? ⟨w.heap.size,0,none⟩=some (.slice pa pn pc):=hz 0;have hm1:w3.cell? ⟨w.heap.size,1,none⟩=some (.slice oa on oc):=hz 1;have hm2:w3.cell? ⟨w.heap.size,2,none⟩=some (.int .i64 y.fin.K):=hz 2;have hm3:w3.cell? ⟨w.heap.size,3,none⟩=some (.int .i64 y.fin.A):=hz 3;have hm4:w3.cell? ⟨w.heap.size,4,none⟩=some (.int .i64 y.fin.To):=hz 4;have hm5:w3.cell? ⟨w.heap.size,5,none⟩=some (.int .i64 y.fin.Else):=hz 5;have hm6:w3.cell? ⟨w.heap.size,6,none⟩=some (.slice la ln lc):=hz 6;have hm7:w3.cell? ⟨w.heap.size,7,none⟩=some (.slice ma mn mc):=hz 7;clear hz;have hc1:=hl3.c1;have hf3:=hl3.f1))
 all_goals
  have HN:=hid hn4
  have HR:=hid hr3
  have HX:=hid hx2
  have HL:=hid hl3
  clear hn1 hn2 hn3 hn4 hr1 hr2 hr3 hx1 hx2 hl1 hl2 hl3 ho1 he1 he2 hf1
  go_wp2_with fail
  refine bodyPost_ret (v:=.agg #[.slice va vn vc,.slice ua un uc,.int .i64 k,.int .i64 x,.int .i64 t,.int .i64 l,.slice ta tn tc,.slice sa sn sc]) (by simp[results,Tryz.results115,go_sem,hc1]) rfl ⟨_,_,_,_,_,_,_,_,_,_,_,_,_,_,_,_,rfl,⟨_,_,_,rfl,HN.out.past (((((((((Off.refl (fun b=>b=w.heap.size+1) _).setCell (.inl rfl) _).setCell (.inl rfl) _).setCell (.inl rfl) _).setCell (.inl rfl) _).setCell (.inl rfl) _).setCell (.inl rfl) _).setCell (.inl rfl) _).setCell (.inl rfl) _),HR.out.past OpO.holds (((((((((Off.refl (fun b=>b=w.heap.size+1) _).setCell (.inl rfl) _).setCell (.inl rfl) _).setCell (.inl rfl) _).setCell (.inl rfl) _).setCell (.inl rfl) _).setCell (.inl rfl) _).setCell (.inl rfl) _).setCell (.inl rfl) _),Hf.holds.past HX.out (((((((((Off.refl (fun b=>b=w.heap.size+1) _).setCell (.inl rfl) _).setCell (.inl rfl) _).setCell (.inl rfl) _).setCell (.inl rfl) _).setCell (.inl rfl) _).setCell (.inl rfl) _).setCell (.inl rfl) _).setCell (.inl rfl) _)⟩,((((((((HL.out.bel.setCell (by simp) _).setCell (by simp) _).setCell (by simp) _).setCell (by simp) _).setCell (by simp) _).setCell (by simp) _).setCell (by simp) _).setCell (by simp) _)⟩
end Go.Proofs.YthjdeoppajlcoaaGreatDoor

namespace Go.Proofs.YthjdeoppajlcoaaGreatDoor
set_option linter.unusedSimpArgs false
set_option linter.unusedVariables false
open Go.RowKit (wrap64 intOf Below Hid)
open Go.Lib (hid)
theorem Ew(
 a1 a2:Option Addr) (n1 n2 c1 c2:Nat) (Z1 Z2:List Int) (w:World) (h1:ai w a1 n1 Z1) (h2:ai w a2 n2 Z2) (hn1:n1≤140737488355328) (hn2:n2≤140737488355328):
 Calls Tryz.prog 116 #[.slice a1 n1 c1,.slice a2 n2 c2] w (bG (aG Z1 Z2) w):=by
 by_cases hne:n1=n2
 ·subst hne
  have HZ1:=hid h1.1
  have HZ2:=hid h2.1
  have H1:=hid h1.2
  have H2:=hid h2.2
  clear h1 h2
  by_cases h0:0<n1
  ·obtain⟨g1,o1,rfl,hg1,hc1⟩:=H1.out h0
   obtain⟨g2,o2,rfl,hg2,hc2⟩:=H2.out h0
   have HC1:=hid hc1
   have HC2:=hid hc2
   clear hc1 hc2 H1 H2
   go_enter Tryz.func116,Tryz.ntmps116
   go_wp2_with fail
   go_loopw[13] (fun iv wr=>∃ k:Nat,k≤n1∧iv=.int .i64 (k:Int)∧Hid (Z1.take k=Z2.take k)∧∃ d,wr=w.drewN d) (fun iv _=>n1-(intOf iv).toNat)
   case atStart=>exact⟨0,Nat.zero_le _,rfl,hid rfl,0,rfl⟩
   case round=>
    obtain⟨k,hk,rfl,HT,d,rfl⟩:=hrel
    by_cases hlt:k<n1
    ·have hkl1:k<Z1.length:=by rw[HZ1.out];exact hlt
     have hkl2:k<Z2.length:=by rw[HZ2.out];exact hlt
     obtain⟨z1,hz1⟩:∃ z,Z1[k]=z:=⟨_,rfl⟩
     obtain⟨z2,hz2⟩:∃ z,Z2[k]=z:=⟨_,rfl⟩
     have hcell1:w.cell? ⟨g1,o1+k,none⟩=some (.int .i64 z1):=by rw[HC1.out k hkl1,hz1];rfl
     have hcell2:w.cell? ⟨g2,o2+k,none⟩=some (.int .i64 z2):=by rw[HC2.out k hkl2,hz2];rfl
     by_cases hzz:z1=z2
     ·have HT2:Hid (Z1.take (k+1)=Z2.take (k+1)):=hid (by rw[List.take_succ_eq_append_getElem hkl1,List.take_succ_eq_append_getElem hkl2,hz1,hz2,hzz,HT.out])
      clear hz1 hz2
      subst hzz
      go_wp2_with fail
      go_quiet (fail)
      go_wp2_with fail
      go_roundw
      case rel=>exact⟨k+1,by omega,by go_num,HT2,_,rfl⟩
      case measure=>simp[intOf];omega
     ·have HE:Hid (aG Z1 Z2=false):=hid (by
       unfold aG
       rw[decide_eq_false_iff_not]
       intro he
       subst he
       exact hzz (hz1.symm.trans hz2))
      have hd:(z1 !=z2)=true:=by simpa using hzz
      clear hz1 hz2 hzz
      go_wp2_with fail
      go_quiet (fail)
      go_wp2_with fail
      go_ret
      exact⟨by rw[HE.out];rfl,d+nq,by rw[World.drewN_drewN]⟩
    ·obtain rfl:k=n1:=by omega
     have HE:Hid (aG Z1 Z2=true):=hid (by
      unfold aG
      rw[decide_eq_true_iff]
      have:=HT.out
      rw[List.take_of_length_le (by rw[HZ1.out];exact Nat.le_refl _),List.take_of_length_le (by rw[HZ2.out];exact Nat.le_refl _)]at this
      exact this)
     go_wp2_with fail
     go_ret
     exact⟨by rw[HE.out];rfl,d,rfl⟩
  ·obtain rfl:n1=0:=by omega
   have e1:=List.eq_nil_of_length_eq_zero HZ1.out
   have e2:=List.eq_nil_of_length_eq_zero HZ2.out
   subst e1 e2
   go_enter Tryz.func116,Tryz.ntmps116
   go_wp2_with fail
   refine wp_loop_rounds 1 ?_
   rw[rounds_succ]
   go_wp2_with fail
   go_ret
   exact⟨rfl,0,rfl⟩
 ·have HE:Hid (aG Z1 Z2=false):=hid (by
   unfold aG
   rw[decide_eq_false_iff_not]
   intro he
   subst he
   exact hne (h1.1.symm.trans h2.1))
  have hd:((n1:Int) !=(n2:Int))=true:=by simp;omega
  clear h1 h2 hne
  go_enter Tryz.func116,Tryz.ntmps116
  go_wp2_with fail
  go_ret
  exact⟨by rw[HE.out];rfl,0,rfl⟩
end Go.Proofs.YthjdeoppajlcoaaGreatDoor
