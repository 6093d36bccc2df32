/- Layer 7: the document's Deep: how far blocks are, by rounds. -/
import Derived.Test.YthjdeoppajlcoaaGreatDoorYCfgI
import Derived.Test.YthjdeoppajlcoaaGreatDoorYCfgJ
import Derived.Test.YthjdeoppajlcoaaGreatDoorYCfgW
import Derived.Test.YthjdeoppajlcoaaGreatDoorYKindPlainW
import Derived.Deep.LoopGhost
import Derived.Laws.CopyOwn
import Derived.Deep.RegionLaw
import Derived.Deep.RegionWith
namespace Go.Proofs.YthjdeoppajlcoaaGreatDoor
set_option linter.unusedSimpArgs false
set_option linter.unusedVariables false
open Go.RowKit (wrap64 intOf Below)
theorem zi{W:World}{B:Nat}{e:TypeId}{va:Option Addr}{vn vc:Nat}{Z:List Int}(h:aj W B e (.slice va vn vc) Z)(h0:0<Z.length):∃ g,va=some ⟨g,0,none⟩∧B≤g∧g<W.heap.size:=by
 rcases h.2 with⟨e,h'⟩|⟨g,cap,cur,e,hB,hh,_⟩
 ·omega
 ·cases e;exact⟨g,rfl,hB,(Array.getElem?_eq_some_iff.1 hh).1⟩
theorem iP{W:World}{B:Nat}{e:TypeId}{g vn vc:Nat}{Z:List Int}(h:aj W B e (.slice (some ⟨g,0,none⟩) vn vc) Z){j:Nat}(hj:j<Z.length):W.cell? ⟨g,j,none⟩=some (.int .i64 (nth Z j)):=by
 have:=World.ownsRow.cells h rfl j (dN Z[j]) (by rw[List.getElem?_map,List.getElem?_eq_getElem hj];rfl)
 rw[aU,Nat.zero_add]at this
 rw[bN hj]
 exact this
theorem lM{W:World}{B:Nat}{e:TypeId}{g vn vc:Nat}{Z:List Int}(h:aj W B e (.slice (some ⟨g,0,none⟩) vn vc) Z)(j:Nat):W.frozen? ⟨g,j,none⟩=false:=by
 have hn:=h.read.1
 subst hn
 exact World.ownsRow.frozenAt h j
theorem jI{W:World}{B:Nat}{e:TypeId}{g vn vc:Nat}{Z:List Int}(h:aj W B e (.slice (some ⟨g,0,none⟩) vn vc) Z)(j:Nat)(z:Int):aj (W.setCell ⟨g,j,none⟩ (.int .i64 z)) B e (.slice (some ⟨g,0,none⟩) vn vc) (Z.set j z):=by
 have hn:=h.read.1
 subst hn
 have:=(World.ownsRow.stored h j (.int .i64 z)).1
 show World.ownsRow _ B e 1 _ (Z.set j z).length ((Z.set j z).map dN)
 rw[List.length_set,List.map_set]
 exact this
theorem ah{w u:World}{C0:Array Value}{t0:TypeId}(hb:Below (w.heap.size+1) (w.alloc (.cells C0 t0)) u)(j:Nat)(v:Value)(h:C0[j]? =some v):u.cell? ⟨w.heap.size,j,none⟩=some v:=by
 rw[iT hb j,h]
theorem ai.drop{w:World}{a:Option Addr}{n c:Nat}{L:List Int}(h:ai w a n L)(hc:n≤c)(k:Nat)(hk:k≤n):ai w (Bv a c k) (n-k) (L.drop k):=by
 refine⟨by rw[List.length_drop,h.1],fun hn=> ?_⟩
 obtain⟨g,off,rfl,hg,hcell⟩:=h.2 (by omega)
 refine⟨g,off+k,by rw[Bu _ _ _ (by omega),aU],hg,fun j hj=> ?_⟩
 rw[List.length_drop]at hj
 rw[List.getElem_drop,Nat.add_assoc]
 exact hcell (k+j) (by omega)
theorem FL:∀ w,(sizeOf 3).run Tryz.prog w=.ok 1 w:=fun w=>by
 obtain⟨i0,hi,hz0,hz1,hz2⟩:=info_parts aT
 simp[sizeOf,typeInfo,hi,hz1]
theorem kQ{P:Program}{f:FuncId}{args:Array Value}{w:World}{a n:Nat}{v:Value}(h:Calls P f args (w.drewN (a+n)) fun e w'=>e=.returned v∧∃ m,w'=(w.drewN (a+n)).drewN m):
 Calls P f args (w.drewN (a+n)) fun e w''=>e=.returned v∧∃ m,w''=w.drewN (a+m):=
 h.mono fun _ _ ⟨he,m,hm⟩=>⟨he,n+m,by rw[hm,World.drewN_drewN,Nat.add_assoc]⟩
end Go.Proofs.YthjdeoppajlcoaaGreatDoor

namespace Go.Proofs.YthjdeoppajlcoaaGreatDoor
set_option linter.unusedSimpArgs false
set_option linter.unusedVariables false
set_option maxHeartbeats 4000000
set_option maxRecDepth 100000
open Go.RowKit (wrap64 intOf Below Hid)
open Go.Lib (hid)
structure Rows5(W:World)(B n:Nat)(g:Nat→Nat)(Z:Nat→List Int):Prop where
 own:∀ i,i<5→aj W B 3 (.slice (some ⟨g i,0,none⟩) n n) (Z i)
 apart:∀ i j,i<5→j<5→i≠j→g i≠g j
structure aI(W:World)(B p n:Nat)(g:Nat→Nat)(Z:Nat→List Int)(ov fv:Value)(ord:List Int)(vs:List Value)(FR:List (List Int))(rd:Int):Prop where
 blk:W.heap[p]? =some (.cells #[ov,.slice (some ⟨g 0,0,none⟩) n n,fv,.slice (some ⟨g 1,0,none⟩) n n,.slice (some ⟨g 2,0,none⟩) n n,.slice (some ⟨g 3,0,none⟩) n n,.slice (some ⟨g 4,0,none⟩) n n,.int .i64 rd] 159 (0,0))
 ge:B≤p
 rows:Rows5 W B n g Z
 ord:aj W B 3 ov ord
 ordne:∀ i,i<5→ov.ownBlock≠some (g i)
 fr:jl W B 40 3 fv vs FR
 frne:∀ i,i<5→∀ j (h:j<vs.length),vs[j].ownBlock≠some (g i)
section
variable {W W' : World} {B p n : Nat} {g : Nat → Nat} {Z : Nat → List Int} {ov fv : Value} {ord : List Int} {vs : List Value} {FR : List (List Int)} {rd : Int}
theorem jJ{W':World}{B:Nat}{e:TypeId}{v:Value}{L:List Int}(h:aj W B e v L)(hk:∀ i,v.ownBlock=some i→W'.heap[i]? =W.heap[i]?):aj W' B e v L:=by
 refine⟨h.1, ?_⟩
 rcases h.2 with hn|⟨g,cap,cur,rfl,hB,hg,rest⟩
 ·exact .inl hn
 ·exact .inr ⟨g,cap,cur,rfl,hB,(hk g rfl).trans hg,rest⟩
theorem aI.len(h:aI W B p n g Z ov fv ord vs FR rd){i:Nat}(hi:i<5):(Z i).length=n:=(h.rows.own i hi).read.1
theorem aI.plt(h:aI W B p n g Z ov fv ord vs FR rd):p<W.heap.size:=(Array.getElem?_eq_some_iff.1 h.blk).1
theorem aI.gblk(h:aI W B p n g Z ov fv ord vs FR rd){i:Nat}(hi:i<5):∃ cur,W.heap[g i]? =some (.cells cur 3 (0,0))∧B≤g i:=bL (h.rows.own i hi) rfl
theorem aI.pne(h:aI W B p n g Z ov fv ord vs FR rd){i:Nat}(hi:i<5):g i≠p:=fun e=>by
 obtain⟨cur,hc,_⟩:=h.gblk hi
 have:=h.blk
 rw[e,this]at hc
 simp at hc
theorem aI.since(h:aI W B p n g Z ov fv ord vs FR rd)(hb:Below W.heap.size W W'):aI W' B p n g Z ov fv ord vs FR rd:=
 ⟨(hb.block p h.plt).trans h.blk,h.ge,⟨fun i hi=>(h.rows.own i hi).below hb,h.rows.apart⟩,h.ord.below hb,h.ordne,h.fr.since hb,h.frne⟩
theorem aI.cell(h:aI W B p n g Z ov fv ord vs FR rd){i j:Nat}(hi:i<5)(hj:j<n):W.cell? ⟨g i,j,none⟩=some (.int .i64 (nth (Z i) j)):=iP (h.rows.own i hi) (by rw[h.len hi];exact hj)
theorem aI.free(h:aI W B p n g Z ov fv ord vs FR rd){i:Nat}(hi:i<5)(j:Nat):W.frozen? ⟨g i,j,none⟩=false:=lM (h.rows.own i hi) j
theorem aI.put(h:aI W B p n g Z ov fv ord vs FR rd){i:Nat}(hi:i<5)(j:Nat)(z:Int):aI (W.setCell ⟨g i,j,none⟩ (.int .i64 z)) B p n g (fun k=>if k=i then(Z i).set j z else Z k) ov fv ord vs FR rd:=by
 have hk:∀ k,k≠g i→(W.setCell ⟨g i,j,none⟩ (.int .i64 z)).heap[k]? =W.heap[k]? :=fun k hk=>Below.heap_setCell _ _ _ _ hk
 obtain⟨cur,hc,_⟩:=h.gblk hi
 refine⟨(hk p (fun e=>h.pne hi e.symm)).trans h.blk,h.ge,⟨fun k hk5=> ?_,h.rows.apart⟩,jJ h.ord (fun k hkb=>hk k (fun e=>h.ordne i hi (by rw[hkb,e]))),h.ordne, ?_,h.frne⟩
 ·by_cases e:k=i
  ·subst e
   rw[if_pos rfl]
   exact jI (h.rows.own k hi) j z
  ·rw[if_neg e]
   exact jJ (h.rows.own k hk5) (fun b hb=>hk b (fun e2=>by
    have hb':some (g k)=some b:=hb
    cases hb'
    exact h.rows.apart k i hk5 hi e e2))
 ·refine⟨?_,h.fr.len,fun k h1 h2=>jJ (h.fr.own k h1 h2) (fun b hb=>hk b (fun e=>h.frne i hi k h1 (by rw[hb,e]))),h.fr.apart⟩
  refine⟨h.fr.row.1, ?_⟩
  rcases h.fr.row.2 with hn|⟨q,cap,cur',e,hB,hq,rest⟩
  ·exact .inl hn
  ·refine .inr ⟨q,cap,cur',e,hB,(hk q (fun e2=> ?_)).trans hq,rest⟩
   rw[e2,hc]at hq
   simp at hq
theorem aI.turn(h:aI W B p n g Z ov fv ord vs FR rd)(rd':Int):aI (W.setCell ⟨p,7,none⟩ (.int .i64 rd')) B p n g Z ov fv ord vs FR rd':=by
 have hk:∀ k,k≠p→(W.setCell ⟨p,7,none⟩ (.int .i64 rd')).heap[k]? =W.heap[k]? :=fun k hk=>Below.heap_setCell _ _ _ _ hk
 have hb:=h.blk
 refine⟨?_,h.ge,⟨fun k hk5=>jJ (h.rows.own k hk5) (fun b hb=>hk b (fun e2=>by
  have hb':some (g k)=some b:=hb
  cases hb'
  exact h.pne hk5 e2)),h.rows.apart⟩,jJ h.ord (fun k hkb=>hk k (fun e=> ?_)),h.ordne,h.fr.kept (X:=fun i=>i=p) (Off.setCell (X:=fun i=>i=p) (p:=⟨p,7,none⟩) (Off.refl (fun i=>i=p) W) (.inl rfl) _) (fun i hi=>.inr fun C t ht e=> ?_),h.frne⟩
 ·have:=heap_setCell_same W p 7 _ _ (.int .i64 rd') hb
  rw[this]
  rfl
 ·obtain⟨cur,hc,_⟩:=bL h.ord hkb
  rw[e,hb]at hc
  simp at hc
 ·subst hi
  rw[hb]at e
  rcases ht with rfl|rfl<;>simp at e
end
structure Means(E:Nat→Nat→Prop)(M:Nat→Prop)(pl:Nat→Nat)(up:Nat→Int)(m n:Nat)(PL UP:List Int):Prop where
 tree:Tree E M pl up m
 rpo:Rpo E M pl
 lt:∀ v,M v→v<n
 place:∀ v,M v→nth PL v=(pl v:Int)
 above:∀ v,v<n→nth UP v=up v
structure kG(W0:World)(E:Nat→Nat→Prop)(M:Nat→Prop)(pl:Nat→Nat)(up:Nat→Int)(m B p n:Nat)(g:Nat→Nat)(Z:Nat→List Int)(ov fv:Value)(ord:List Int)(vs:List Value)(FR:List (List Int))(rd:Int)(j0 f0 j f:Nat)(PS:List Int)(W:World):Prop where
 at_:aI W B p n g (fun k=>if k=4 then PS else Z k) ov fv ord vs FR rd
 off:Off (fun i=>i=g 4) W0 W
 meet:Cj up j0 f0 j f
 mj:M j
 mf:M f
 lj:pl j<m
 lf:pl f<m
 pass:∀ v,v<n→nth PS v=rd→On up v j∨(On up v f∧v≠f)
 le:(∀v,v<n→nth (Z 4) v≤rd)→∀ v,v<n→nth PS v≤rd
theorem kG.kept{W0:World}{E:Nat→Nat→Prop}{M:Nat→Prop}{pl:Nat→Nat}{up:Nat→Int}{m B p n:Nat}{g:Nat→Nat}{Z:Nat→List Int}{ov fv:Value}{ord:List Int}{vs:List Value}{FR:List (List Int)}{rd:Int}{j0 f0 j f:Nat}{PS:List Int}{W W':World}(h:kG W0 E M pl up m B p n g Z ov fv ord vs FR rd j0 f0 j f PS W)(hb:Below W.heap.size W W'):kG W0 E M pl up m B p n g Z ov fv ord vs FR rd j0 f0 j f PS W':=
 ⟨h.at_.since hb,h.off.trans (Off.since hb),h.meet,h.mj,h.mf,h.lj,h.lf,h.pass,h.le⟩
theorem kG.goj{W0:World}{E:Nat→Nat→Prop}{M:Nat→Prop}{pl:Nat→Nat}{up:Nat→Int}{m B p n:Nat}{g:Nat→Nat}{Z:Nat→List Int}{ov fv:Value}{ord:List Int}{vs:List Value}{FR:List (List Int)}{rd:Int}{j0 f0 j f y:Nat}{PS:List Int}{W:World}(h:kG W0 E M pl up m B p n g Z ov fv ord vs FR rd j0 f0 j f PS W)(hT:Tree E M pl up m)(hl:pl f<pl j)(hy:up j=(y:Int)):kG W0 E M pl up m B p n g Z ov fv ord vs FR rd j0 f0 y f PS W∧pl y<pl j:=by
 have hlt:=hT.lt j y hy
 refine⟨⟨h.at_,h.off,h.meet.goj hT hl hy,hlt.1,h.mf,hlt.2.2,h.lf,fun v hv hp=> ?_,h.le⟩,hlt.2.1⟩
 rcases h.pass v hv hp with h1|h1
 ·exact .inl (h1.trans (.step hy (.refl _)))
 ·exact .inr h1
theorem kG.gof{W0:World}{E:Nat→Nat→Prop}{M:Nat→Prop}{pl:Nat→Nat}{up:Nat→Int}{m B p n:Nat}{g:Nat→Nat}{Z:Nat→List Int}{ov fv:Value}{ord:List Int}{vs:List Value}{FR:List (List Int)}{rd:Int}{j0 f0 j f y:Nat}{PS:List Int}{W:World}(h:kG W0 E M pl up m B p n g Z ov fv ord vs FR rd j0 f0 j f PS W)(hT:Tree E M pl up m)(hl:pl j<pl f)(hy:up f=(y:Int))(hf:f<n)(hW:g 4<W0.heap.size):kG W0 E M pl up m B p n g Z ov fv ord vs FR rd j0 f0 j y (PS.set f rd) (W.setCell ⟨g 4,f,none⟩ (.int .i64 rd))∧pl y<pl f:=by
 have hlt:=hT.lt f y hy
 have hput:=h.at_.put (i:=4) (by omega) f rd
 have hlen:PS.length=n:=by have:=h.at_.len (i:=4) (by omega);simpa using this
 refine⟨⟨?_,h.off.setCell (.inl rfl) _,h.meet.gof hT hl hy,h.mj,hlt.1,h.lj,hlt.2.2,fun v hv hp=> ?_,fun hle v hv=> ?_⟩,hlt.2.1⟩
 ·have e:(fun k=>if k=4 then List.set ((fun k=>if k=4 then PS else Z k) 4) f rd else(fun k=>if k=4 then PS else Z k) k)=(fun k=>if k=4 then PS.set f rd else Z k):=funext fun k=>by
   by_cases hk:k=4
   ·simp[hk]
   ·simp[hk]
  rw[e]at hput
  exact hput
 ·rw[dP (by omega)]at hp
  by_cases e:v=f
  ·subst e
   exact .inr ⟨.step hy (.refl _),fun e=>by rw[←e]at hlt;omega⟩
  ·rw[if_neg e]at hp
   rcases h.pass v hv hp with h1|⟨h1,h2⟩
   ·exact .inl h1
   ·refine .inr ⟨h1.trans (.step hy (.refl _)),fun e2=> ?_⟩
    have h3:=sW hT.lt h1
    rw[e2]at h3
    omega
 ·rw[dP (by omega)]
  split
  ·exact Int.le_refl _
  ·exact h.le hle v hv
set_option maxRecDepth 100000 in
set_option maxHeartbeats 4000000 in
theorem Ga{E:Nat→Nat→Prop}{M:Nat→Prop}{pl:Nat→Nat}{up:Nat→Int}{m:Nat}{W:World}{B p n:Nat}{g:Nat→Nat}{Z:Nat→List Int}{ov fv:Value}{ord:List Int}{vs:List Value}{FR:List (List Int)}{rd:Int}
 (hA:aI W B p n g Z ov fv ord vs FR rd)(hT:Means E M pl up m n (Z 0) (Z 1))(j0 f0:Nat)(hj:M j0)(hf:M f0)(hjm:pl j0<m)(hfm:pl f0<m)(hps:∀ v,v<n→nth (Z 4) v=rd→On up v j0)(hn:n≤1099511627776):
 Calls Tryz.prog 166 #[.pointer (some ⟨p,0,none⟩),.int .i64 (j0:Int),.int .i64 (f0:Int)] W fun e w'=>∃ (x:Nat) (PS:List Int),e=.returned (.int .i64 (x:Int))∧aI w' B p n g (fun k=>if k=4 then PS else Z k) ov fv ord vs FR rd∧Off (fun i=>i=g 4) W w'∧(On up j0 x∧On up f0 x∧∀ z,On up j0 z→On up f0 z→On up x z)∧(∀v,v<n→nth PS v=rd→On up v x)∧((∀v,v<n→nth (Z 4) v≤rd)→∀ v,v<n→nth PS v≤rd):=by
 have HT:=hid hT
 have HS0:Hid (kG W E M pl up m B p n g Z ov fv ord vs FR rd j0 f0 j0 f0 (Z 4) W):=hid ⟨by
  have e:(fun k=>if k=4 then Z 4 else Z k)=Z:=funext fun k=>by split;rename_i h;rw[h];rfl
  rw[e];exact hA,Off.refl _ _,Cj.start _ _,hj,hf,hjm,hfm,fun v hv h=>.inl (hps v hv h),fun h=>h⟩
 have HG4:Hid (g 4<W.heap.size):=hid (by obtain⟨cur,hc,_⟩:=hA.gblk (i:=4) (by omega);exact(Array.getElem?_eq_some_iff.1 hc).1)
 clear hA hT hj hf hjm hfm hps
 go_enter Tryz.func166,Tryz.ntmps166
 go_wp2_with fail
 go_loopw[1,2] (fun v1 v2 wr=>∃ (j f:Nat) (PS:List Int),v1=.int .i64 (j:Int)∧v2=.int .i64 (f:Int)∧Hid (kG W E M pl up m B p n g Z ov fv ord vs FR rd j0 f0 j f PS wr)) (fun v1 v2 _=>pl (intOf v1).toNat+pl (intOf v2).toNat)
 case atStart=>exact⟨j0,f0,Z 4,rfl,rfl,HS0⟩
 case round=>
  obtain⟨j,f,PS,rfl,rfl,HI⟩:=hrel
  clear HS0
  obtain⟨wo,hwo⟩:∃ u,u=wr:=⟨_,rfl⟩
  rw[←hwo]at HI⊢
  clear hwo
  have hjn:j<n:=HT.out.lt j HI.out.mj
  have hfn:f<n:=HT.out.lt f HI.out.mf
  by_cases hjf:j=f
  ·have hjb:((j:Int) !=(f:Int))=false:=by rw[hjf];simp
   have HJF:=hid hjf
   clear hjf
   go_wp2_with fail
   go_ret
   refine⟨j,PS,rfl,HI.out.at_,HI.out.off,HI.out.meet.found (by rw[HJF.out];exact .refl _),fun v hv h=> ?_,HI.out.le⟩
   rcases HI.out.pass v hv h with h1|⟨h1,h2⟩
   ·exact h1
   ·rw[HJF.out];exact h1
  ·have hjb:((j:Int) !=(f:Int))=true:=by rw[bne_iff_ne];omega
   have HJF:=hid hjf
   clear hjf
   have c1:wo.cell? ⟨p,1,none⟩=some (.slice (some ⟨g 0,0,none⟩) n n):=by simp[World.cell?,HI.out.at_.blk]
   have c3:wo.cell? ⟨p,3,none⟩=some (.slice (some ⟨g 1,0,none⟩) n n):=by simp[World.cell?,HI.out.at_.blk]
   have c6:wo.cell? ⟨p,6,none⟩=some (.slice (some ⟨g 4,0,none⟩) n n):=by simp[World.cell?,HI.out.at_.blk]
   have c7:wo.cell? ⟨p,7,none⟩=some (.int .i64 rd):=by simp[World.cell?,HI.out.at_.blk]
   have p1:wo.cell? ⟨g 0,j,none⟩=some (.int .i64 (pl j:Int)):=by
    have:=HI.out.at_.cell (i:=0) (by omega) hjn
    simpa [HT.out.place j HI.out.mj]using this
   have p2:wo.cell? ⟨g 0,f,none⟩=some (.int .i64 (pl f:Int)):=by
    have:=HI.out.at_.cell (i:=0) (by omega) hfn
    simpa [HT.out.place f HI.out.mf]using this
   have u1:wo.cell? ⟨g 1,j,none⟩=some (.int .i64 (up j)):=by
    have:=HI.out.at_.cell (i:=1) (by omega) hjn
    simpa [HT.out.above j hjn]using this
   have s1:wo.cell? ⟨g 4,f,none⟩=some (.int .i64 (nth PS f)):=by
    have:=HI.out.at_.cell (i:=4) (by omega) hfn
    simpa using this
   have sf:wo.frozen? ⟨g 4,f,none⟩=false:=HI.out.at_.free (by omega) f
   have hji:(j:Int)<(n:Int):=by omega
   have hj0:(0:Int)≤(j:Int):=by omega
   have hfi:(f:Int)<(n:Int):=by omega
   have hf0:(0:Int)≤(f:Int):=by omega
   have HNE:Hid (pl j≠pl f):=hid fun e=>HJF.out (HT.out.rpo.inj j f HI.out.mj HI.out.mf e)
   by_cases hgt:pl f<pl j
   ·have hdec:decide ((pl f:Int)<(pl j:Int))=true:=decide_eq_true (by omega)
    obtain⟨y,hy⟩:∃ y:Nat,up j=(y:Int):=by
     refine Int.eq_ofNat_of_zero_le ((HT.out.tree.known j HI.out.mj (fun e=> ?_)).2 HI.out.lj)
     have:=(HT.out.rpo.pl0 j HI.out.mj).2 e
     omega
    have HY:=hid hy
    rw[hy]at u1
    have HGT:=hid hgt
    clear hy hgt
    go_wp2_with fail
    go_quiet (fail)
    go_wp2_with fail
    go_roundw
    case rel=>exact⟨y,f,PS,rfl,rfl,hid ((HI.out.goj HT.out.tree HGT.out HY.out).1.kept (below_drewN _ (Below.refl _ _)))⟩
    case measure=>have h2:=(HI.out.goj HT.out.tree HGT.out HY.out).2;simp only[intOf,Int.toNat_natCast];omega
   ·have hdec:decide ((pl f:Int)<(pl j:Int))=false:=decide_eq_false (by omega)
    have hnlt:¬ ((pl f:Int)<(pl j:Int)):=by omega
    have hlej:(pl j:Int)≤(pl f:Int):=by omega
    have HLT:Hid (pl j<pl f):=hid (by have:=HNE.out;omega)
    clear hgt
    by_cases hpd:nth PS f=rd
    ·rw[hpd]at s1
     have hrb:(rd==rd)=true:=by simp
     have HPD:=hid hpd
     clear hpd
     go_wp2_with fail
     go_quiet (fail)
     go_wp2_with fail
     go_quiet (fail)
     go_wp2_with fail
     go_ret
     refine⟨j,PS,rfl,(HI.out.kept (below_drewN _ (below_drewN _ (Below.refl wo.heap.size wo)))).at_,(HI.out.kept (below_drewN _ (below_drewN _ (Below.refl wo.heap.size wo)))).off,HI.out.meet.found ?_,fun v hv h=> ?_,HI.out.le⟩
     ·rcases HI.out.pass f hfn HPD.out with h|⟨_,h⟩
      ·exact h
      ·exact absurd rfl h
     ·rcases HI.out.pass v hv h with h1|⟨h1,h2⟩
      ·exact h1
      ·rcases HI.out.pass f hfn HPD.out with h|⟨_,h⟩
       ·exact h1.trans h
       ·exact absurd rfl h
    ·have hrb:(nth PS f==rd)=false:=by simpa using hpd
     have hrn:¬ nth PS f=rd:=hpd
     obtain⟨y,hy⟩:∃ y:Nat,up f=(y:Int):=by
      refine Int.eq_ofNat_of_zero_le ((HT.out.tree.known f HI.out.mf (fun e=> ?_)).2 HI.out.lf)
      have:=(HT.out.rpo.pl0 f HI.out.mf).2 e
      have:=HLT.out
      omega
     have HY:=hid hy
     clear hy hpd
     go_wp2_with fail
     go_quiet (fail)
     go_wp2_with fail
     go_quiet (fail)
     go_wp2_with fail
     generalize hwv:World.drewN (World.drewN wo _) _=wv
     have HIV:Hid (kG W E M pl up m B p n g Z ov fv ord vs FR rd j0 f0 j f PS wv.drew):=hid (by rw[←hwv];exact HI.out.kept (below_drewN _ (below_drewN _ (Below.refl wo.heap.size wo))).drew)
     clear hwv c1 c3 c6 c7 p1 p2 u1 s1 sf
     have e6:wv.drew.cell? ⟨p,6,none⟩=some (.slice (some ⟨g 4,0,none⟩) n n):=by simp[World.cell?,HIV.out.at_.blk]
     have e7:wv.drew.cell? ⟨p,7,none⟩=some (.int .i64 rd):=by simp[World.cell?,HIV.out.at_.blk]
     have hs1:wv.drew.cell? ⟨g 4,f,none⟩=some (.int .i64 (nth PS f)):=by
      have:=HIV.out.at_.cell (i:=4) (by omega) hfn
      simpa using this
     have hsf:wv.drew.frozen? ⟨g 4,f,none⟩=false:=HIV.out.at_.free (by omega) f
     refine pI (S:=(fun u:World=>u.cell? ⟨p,6,none⟩=some (.slice (some ⟨g 4,0,none⟩) n n)∧u.cell? ⟨p,7,none⟩=some (.int .i64 rd))) 10 (by kernel_rfl) ⟨e6,e7⟩ (fun hHeld=> ?_)
     refine zZ 0 45 ?_
     (try simp only[Act.put,zA,zB,zC])
     refine zZ 1 46 ?_
     (try simp only[Act.put,zA,zB,zC])
     refine zZ 2 47 ?_
     (try simp only[Act.put,zA,zB,zC])
     refine zZ 3 48 ?_
     (try simp only[Act.put,zA,zB,zC])
     refine zZ 4 49 ?_
     (try simp only[Act.put,zA,zB,zC])
     refine zZ 5 50 ?_
     (try simp only[Act.put,zA,zB,zC])
     refine zZ 6 51 ?_
     (try simp only[Act.put,zA,zB,zC])
     refine zZ 7 52 ?_
     (try simp only[Act.put,zA,zB,zC])
     refine zZ 8 53 ?_
     (try simp only[Act.put,zA,zB,zC])
     refine zZ 9 54 ?_
     (try simp only[Act.put,zA,zB,zC])
     refine dW (by kernel_rfl) rfl (by kernel_rfl) (fun K hK=> ?_)
     rw[if_pos (by rfl)]
     go_simp
     refine hK.out _ _ ?_
     clear hK K
     (try simp only[Act.put,zA,zB,zC])
     have hg0:=HIV.out.gof HT.out.tree HLT.out HY.out hfn HG4.out
     obtain⟨wx,hwx⟩:∃ wx,(wv.setCell ⟨g 4,f,none⟩ (.int .i64 rd)).drew=wx:=⟨_,rfl⟩
     have hwx2:wv.drew.setCell ⟨g 4,f,none⟩ (.int .i64 rd)=wx:=hwx
     rw[hwx2]at hg0
     have HG:=hid hg0
     rw[hwx]
     clear hwx hwx2 hg0 e6 e7 hs1 hsf hHeld
     have d3:wx.cell? ⟨p,3,none⟩=some (.slice (some ⟨g 1,0,none⟩) n n):=by simp[World.cell?,HG.out.1.at_.blk]
     have d1:wx.cell? ⟨g 1,f,none⟩=some (.int .i64 (y:Int)):=by
      have:=HG.out.1.at_.cell (i:=1) (by omega) hfn
      simpa [HT.out.above f hfn,HY.out]using this
     go_wp2_with fail
     go_roundw
     case rel=>exact⟨j,y,_,rfl,rfl,hid HG.out.1⟩
     case measure=>have h2:=HG.out.2;simp only[intOf,Int.toNat_natCast];omega
theorem D7{up:Nat→Int}{PP PP':Nat→Prop}{q:Nat}(h0:∀ p,¬PP p)(h:∀ p,PP' p↔PP p∨p=q):mU up PP' q:=
 ⟨fun p hp=>by
  rcases(h p).1 hp with h1|rfl
  ·exact absurd h1 (h0 p)
  ·exact .refl _,fun z hz=>hz q ((h q).2 (.inr rfl))⟩
theorem Bl{up:Nat→Int}{PP PP':Nat→Prop}{q x y:Nat}(hJ:mU up PP x)(h:∀ p,PP' p↔PP p∨p=q)(hf:On up x y∧On up q y∧∀ z,On up x z→On up q z→On up y z):mU up PP' y:=
 ⟨fun p hp=>by
  rcases(h p).1 hp with h1|rfl
  ·exact(hJ.1 p h1).trans hf.1
  ·exact hf.2.1,fun z hz=>hf.2.2 z (hJ.2 z fun p hp=>hz p ((h p).2 (.inl hp))) (hz q ((h q).2 (.inr rfl)))⟩
theorem rP{up:Nat→Int}{PP PP':Nat→Prop}{x:Nat}(hJ:mU up PP x)(h:∀ p,PP' p↔PP p):mU up PP' x:=
 ⟨fun p hp=>hJ.1 p ((h p).1 hp),fun z hz=>hJ.2 z fun p hp=>hz p ((h p).2 hp)⟩
structure jh(W0:World)(M:Nat→Prop)(pl:Nat→Nat)(up:Nat→Int)(m B p n:Nat)(g:Nat→Nat)(Z:Nat→List Int)(ov fv:Value)(ord:List Int)(vs:List Value)(FR:List (List Int))(rd:Int)(Lb:List Int)(i:Nat)(jv:Int)(PS:List Int)(W:World):Prop where
 at_:aI W B p n g (fun k=>if k=4 then PS else Z k) ov fv ord vs FR rd
 off:Off (fun i=>i=p∨i=g 4) W0 W
 le:∀ v,v<n→nth PS v≤rd
 st:((∀q:Nat,¬((q:Int)∈Lb.take i∧pl q<m))∧jv= -1∧∀ v,v<n→nth PS v≠rd)∨(∃x:Nat,jv=(x:Int)∧mU up (fun q=>(q:Int)∈Lb.take i∧pl q<m) x∧M x∧pl x<m∧∀ v,v<n→nth PS v=rd→On up v x)
section
variable {W0 W W' : World} {M : Nat → Prop} {pl : Nat → Nat} {up : Nat → Int} {m B p n : Nat} {g : Nat → Nat} {Z : Nat → List Int} {ov fv : Value} {ord : List Int} {vs : List Value} {FR : List (List Int)} {rd : Int} {Lb : List Int} {i : Nat} {jv : Int} {PS : List Int}
theorem nZ{Lb:List Int}{i q:Nat}(hi:i<Lb.length)(hq:Lb[i]=(q:Int))(c:Nat→Prop)(x:Nat):((x:Int)∈Lb.take (i+1)∧c x)↔((x:Int)∈Lb.take i∧c x)∨(x=q∧c q):=by
 rw[List.take_succ_eq_append_getElem hi,List.mem_append,List.mem_singleton,hq]
 constructor
 ·rintro ⟨h|h,hc⟩
  ·exact .inl ⟨h,hc⟩
  ·have:x=q:=by omega
   subst this;exact .inr ⟨rfl,hc⟩
 ·rintro (⟨h,hc⟩|⟨rfl,hc⟩)
  ·exact⟨.inl h,hc⟩
  ·exact⟨.inr rfl,hc⟩
theorem jh.skip(h:jh W0 M pl up m B p n g Z ov fv ord vs FR rd Lb i jv PS W){q:Nat}(hi:i<Lb.length)(hq:Lb[i]=(q:Int))(hm:¬ pl q<m):jh W0 M pl up m B p n g Z ov fv ord vs FR rd Lb (i+1) jv PS W:=by
 have e:∀ x:Nat,((x:Int)∈Lb.take (i+1)∧pl x<m)↔((x:Int)∈Lb.take i∧pl x<m):=fun x=>by
  rw[nZ hi hq (fun x=>pl x<m) x]
  exact⟨fun h=>h.resolve_right (fun h'=>hm h'.2),.inl⟩
 refine⟨h.at_,h.off,h.le, ?_⟩
 rcases h.st with⟨h1,h2,h3⟩|⟨x,h1,h2,h3⟩
 ·exact .inl ⟨fun x hx=>h1 x ((e x).1 hx),h2,h3⟩
 ·exact .inr ⟨x,h1,rP h2 e,h3⟩
theorem jh.first(h:jh W0 M pl up m B p n g Z ov fv ord vs FR rd Lb i jv PS W){q:Nat}(hi:i<Lb.length)(hq:Lb[i]=(q:Int))(hm:pl q<m)(hM:M q)(hj:jv<0):jh W0 M pl up m B p n g Z ov fv ord vs FR rd Lb (i+1) (q:Int) PS W:=by
 refine⟨h.at_,h.off,h.le, ?_⟩
 rcases h.st with⟨h1,h2,h3⟩|⟨x,h1,_⟩
 ·refine .inr ⟨q,rfl,D7 (PP:=fun q=>(q:Int)∈Lb.take i∧pl q<m) h1 fun x=> ?_,hM,hm,fun v hv hp=>absurd hp (h3 v hv)⟩
  rw[nZ hi hq (fun x=>pl x<m) x]
  exact⟨fun h=>h.imp id (·.1),fun h=>h.imp id (fun h=>⟨h,hm⟩)⟩
 ·omega
theorem jh.more(h:jh W0 M pl up m B p n g Z ov fv ord vs FR rd Lb i jv PS W){q x y:Nat}{PS2:List Int}(hi:i<Lb.length)(hq:Lb[i]=(q:Int))(hm:pl q<m)(hj:jv=(x:Int))(hlt:∀ v c:Nat,up v=(c:Int)→M c∧pl c<pl v∧pl c<m)
 (ha:aI W' B p n g (fun k=>if k=4 then PS2 else(fun k=>if k=4 then PS else Z k) k) ov fv ord vs FR rd)(ho:Off (fun i=>i=g 4) W W')(hf:On up x y∧On up q y∧∀ z,On up x z→On up q z→On up y z)(hp:∀ v,v<n→nth PS2 v=rd→On up v y)(hle:∀ v,v<n→nth PS2 v≤rd):
 jh W0 M pl up m B p n g Z ov fv ord vs FR rd Lb (i+1) (y:Int) PS2 W':=by
 have e:(fun k=>if k=4 then PS2 else(fun k=>if k=4 then PS else Z k) k)=(fun k=>if k=4 then PS2 else Z k):=funext fun k=>by
  by_cases hk:k=4<;>simp[hk]
 rw[e]at ha
 rcases h.st with⟨_,h2,_⟩|⟨x',h1,h2,hMx,hxm,_⟩
 ·omega
 ·have hxx:x'=x:=by omega
  subst hxx
  refine⟨ha,h.off.trans (ho.mono fun i _ hi=>.inr hi),hle,.inr ⟨y,rfl,Bl h2 (q:=q) (fun z=> ?_) hf,Dt hlt hMx hf.1, ?_,hp⟩⟩
  ·rw[nZ hi hq (fun x=>pl x<m) z]
   exact⟨fun h=>h.imp id (·.1),fun h=>h.imp id (fun h=>⟨h,hm⟩)⟩
  ·rcases xM hlt hf.1 with rfl|⟨_,_,h3⟩
   ·exact hxm
   ·exact h3
end
set_option maxRecDepth 100000 in
set_option maxHeartbeats 4000000 in
theorem D8{E:Nat→Nat→Prop}{M:Nat→Prop}{pl:Nat→Nat}{up:Nat→Int}{m:Nat}{W:World}{B p n gf:Nat}{g:Nat→Nat}{Z:Nat→List Int}{ov:Value}{ord:List Int}{vs:List Value}{FR:List (List Int)}{rd:Int}
 (hA:aI W B p n g Z ov (.slice (some ⟨gf,0,none⟩) n n) ord vs FR rd)(hT:Means E M pl up m n (Z 0) (Z 1))(b:Nat)(Lb:List Int)(hvs:vs.length=n)(hb:b<n)(hMb:M b)(hb0:b≠0)(hbm:pl b≤m)(hm0:0<m)(hLb:∀ h:b<FR.length,FR[b]=Lb)(hin:∀ z∈Lb,∃q:Nat,z=(q:Int)∧M q∧E q b)(hall:∀ q,M q→E q b→(q:Int)∈Lb)(hle:∀ v,v<n→nth (Z 4) v≤rd)(hrd:0≤rd∧rd≤4611686018427387904)(hn:n≤1099511627776)(hLn:Lb.length≤n):
 Calls Tryz.prog 158 #[.pointer (some ⟨p,0,none⟩),.int .i64 (b:Int)] W fun e w'=>∃ (x:Nat) (PS:List Int),e=.returned (.int .i64 (x:Int))∧aI w' B p n g (fun k=>if k=4 then PS else Z k) ov (.slice (some ⟨gf,0,none⟩) n n) ord vs FR (rd+1)∧Off (fun i=>i=p∨i=g 4) W w'∧mU up (fun q=>M q∧E q b∧pl q<m) x∧∀ v,v<n→nth PS v≤rd+1:=by
 have HT:=hid hT
 have hfl:b<FR.length:=by rw[←hA.fr.len,hvs];exact hb
 have hvl:b<vs.length:=by rw[hvs];exact hb
 have hown:=hA.fr.own b hvl hfl
 rw[hLb hfl]at hown
 obtain⟨xa,xn,xc,hxv,hxn⟩:=hown.nums
 have hcf:W.cell? ⟨gf,b,none⟩=some (.slice xa xn xc):=by rw[←hxv];exact hA.fr.cell hvl
 have hxl:xn=Lb.length:=hxn.1.symm
 have HAP:Hid (∀g0 off,xa=some ⟨g0,off,none⟩→¬ (g0=p∨g0=g 4)):=hid fun g0 off e=>by
  have hob:vs[b].ownBlock=some g0:=by rw[hxv,e];rfl
  rintro (h|h)
  ·obtain⟨cur,hc,_⟩:=bL hown hob
   have h2:=hA.blk
   rw[h,h2]at hc
   simp at hc
  ·exact hA.frne 4 (by omega) b hvl (by rw[hob,h])
 have hgf:gf<W.heap.size:=World.block_lt_of_cell? (a:=⟨gf,b,none⟩) _ hcf
 have hgp:gf≠p:=fun e=>by
  obtain⟨cur,hc,_⟩:=dG hA.fr.row (i:=gf) rfl
  have h2:=hA.blk
  rw[e,h2]at hc
  simp at hc
 have c2:W.cell? ⟨p,2,none⟩=some (.slice (some ⟨gf,0,none⟩) n n):=by simp[World.cell?,hA.blk]
 have c7:W.cell? ⟨p,7,none⟩=some (.int .i64 rd):=by simp[World.cell?,hA.blk]
 have f7:W.frozen? ⟨p,7,none⟩=false:=by simp[World.frozen?,hA.blk]
 have hw7:wrap64 (rd+1)=rd+1:=by unfold wrap64;omega
 have HA:=hid hA
 have HXN:=hid hxn
 have HIN:=hid hin
 have HALL:=hid hall
 have HLE:=hid hle
 have HMB:=hid hMb
 have hbi:(b:Int)<(n:Int):=by omega
 have hbi0:(0:Int)≤(b:Int):=by omega
 clear hT hfl hvl hown hxv hxn hLb hin hall hle hA hMb
 go_enter Tryz.func158,Tryz.ntmps158
 go_wp2_with fail
 obtain⟨W1,hW1⟩:∃ W1,W.setCell ⟨p,7,none⟩ (.int .i64 (rd+1))=W1:=⟨_,rfl⟩
 have HS0:Hid (jh W M pl up m B p n g Z ov (.slice (some ⟨gf,0,none⟩) n n) ord vs FR (rd+1) Lb 0 (-1) (Z 4) W1):=hid (by
  rw[←hW1]
  refine⟨?_,Off.setCell (X:=fun i=>i=p∨i=g 4) (p:=⟨p,7,none⟩) (Off.refl _ W) (.inl (.inl rfl)) _,fun v hv=>by have:=HLE.out v hv;omega,.inl ⟨by simp,rfl,fun v hv=>by have:=HLE.out v hv;omega⟩⟩
  have e:(fun k=>if k=4 then Z 4 else Z k)=Z:=funext fun k=>by split;rename_i h;rw[h];rfl
  rw[e]
  exact HA.out.turn (rd+1))
 rw[hW1]
 clear hW1 c2 c7 f7 hcf
 go_loopw[5,23] (fun v5 v23 wr=>∃ (i:Nat) (jv:Int) (PS:List Int),i≤xn∧v5=.int .i64 jv∧v23=.int .i64 (i:Int)∧Hid (jh W M pl up m B p n g Z ov (.slice (some ⟨gf,0,none⟩) n n) ord vs FR (rd+1) Lb i jv PS wr)) (fun _ v23 _=>xn-(intOf v23).toNat)
 case atStart=>exact⟨0, -1,Z 4,Nat.zero_le _,rfl,rfl,HS0⟩
 case round=>
  obtain⟨i,jv,PS,hi,rfl,rfl,HI⟩:=hrel
  clear HS0
  obtain⟨wo,hwo⟩:∃ u,u=wr:=⟨_,rfl⟩
  rw[←hwo]at HI⊢
  clear hwo
  have hxn2:xn≤n:=by omega
  by_cases hlt:i<xn
  ·have HIL:Hid (i<Lb.length):=hid (by omega)
   obtain⟨g0,off,rfl,hg0,hcs⟩:=HXN.out.2 (by omega)
   obtain⟨q,hq,hMq,hEq⟩:=HIN.out _ (List.getElem_mem HIL.out)
   have hcq:wo.cell? ⟨g0,off+i,none⟩=some (.int .i64 (q:Int)):=by
    have h1:=hcs i HIL.out
    rw[hq]at h1
    exact(HI.out.off.cell (p:=⟨g0,off+i,none⟩) hg0 (HAP.out g0 off rfl)).trans h1
   have hqn:q<n:=HT.out.lt q hMq
   have c3:wo.cell? ⟨p,3,none⟩=some (.slice (some ⟨g 1,0,none⟩) n n):=by simp[World.cell?,HI.out.at_.blk]
   have u1:wo.cell? ⟨g 1,q,none⟩=some (.int .i64 (up q)):=by
    have:=HI.out.at_.cell (i:=1) (by omega) hqn
    simpa [HT.out.above q hqn]using this
   have hqi:(q:Int)<(n:Int):=by omega
   have hqi0:(0:Int)≤(q:Int):=by omega
   have HQ:=hid hq
   have HMQ:=hid hMq
   clear hcs hg0 hq hMq hEq hqn
   have hw:wrap64 ((i:Int)+1)=(i:Int)+1:=by unfold wrap64;omega
   have HW:=hid hw
   clear hw
   by_cases hskip:q≠0∧up q<0
   ·have hq0:((q:Int) !=0)=true:=by rw[bne_iff_ne];have:=hskip.1;omega
    have hneg:=hskip.2
    have HSK:Hid (¬pl q<m):=hid fun h=>by have:=(HT.out.tree.known q HMQ.out hskip.1).2 h;omega
    clear hskip
    go_wp2_with fail
    go_roundw
    case rel=>exact⟨i+1,jv,PS,hlt,rfl,by go_num,hid (HI.out.skip HIL.out HQ.out HSK.out)⟩
    case measure=>simp[intOf];omega
   ·have HQM:Hid (pl q<m):=hid (by
     by_cases h0:q=0
     ·rw[(HT.out.rpo.pl0 q HMQ.out).2 h0];exact hm0
     ·exact(HT.out.tree.known q HMQ.out h0).1 (by omega))
    by_cases hjn:jv<0
    ·have HJN:=hid hjn
     by_cases h0:q=0
     ·subst h0
      clear hskip
      go_wp2_with fail
      go_roundw
      case rel=>exact⟨i+1,0,PS,hlt,rfl,by go_num,hid (HI.out.first HIL.out HQ.out HQM.out HMQ.out HJN.out)⟩
      case measure=>simp[intOf];omega
     ·have hq0:((q:Int) !=0)=true:=by rw[bne_iff_ne];omega
      have hnn:¬ up q<0:=fun h=>hskip ⟨h0,h⟩
      clear hskip
      go_wp2_with fail
      go_roundw
      case rel=>exact⟨i+1,_,PS,hlt,rfl,by go_num,hid (HI.out.first HIL.out HQ.out HQM.out HMQ.out HJN.out)⟩
      case measure=>simp[intOf];omega
    ·obtain⟨x,hx,hJx,hMx,hxm,hpx⟩:∃ x:Nat,jv=(x:Int)∧mU up (fun q=>(q:Int)∈Lb.take i∧pl q<m) x∧M x∧pl x<m∧∀ v,v<n→nth PS v=rd+1→On up v x:=by
      rcases HI.out.st with⟨_,h2,_⟩|h
      ·omega
      ·exact h
     subst hx
     have CM:=hid (Ga HI.out.at_ (E:=E) (M:=M) (pl:=pl) (up:=up) (m:=m) ⟨HT.out.tree,HT.out.rpo,HT.out.lt,HT.out.place,HT.out.above⟩ x q hMx HMQ.out hxm HQM.out hpx hn)
     clear hJx hMx hxm hpx
     by_cases h0:q=0
     ·subst h0
      clear hskip
      go_wp2_with(go_at_call 166;refine CM.out.mono ?_;rintro e w5 ⟨y,PS2,rfl,ha,ho,hf,hp,hl⟩;have HN:=hid (HI.out.more HIL.out HQ.out HQM.out rfl HT.out.tree.lt ha ho hf hp (hl HI.out.le));clear ha ho hf hp hl)
      go_roundw
      case rel=>exact⟨i+1,_,PS2,hlt,rfl,by go_num,HN⟩
      case measure=>simp[intOf];omega
     ·have hq0:((q:Int) !=0)=true:=by rw[bne_iff_ne];omega
      have hnn:¬ up q<0:=fun h=>hskip ⟨h0,h⟩
      clear hskip
      go_wp2_with(go_at_call 166;refine CM.out.mono ?_;rintro e w5 ⟨y,PS2,rfl,ha,ho,hf,hp,hl⟩;have HN:=hid (HI.out.more HIL.out HQ.out HQM.out rfl HT.out.tree.lt ha ho hf hp (hl HI.out.le));clear ha ho hf hp hl)
      go_roundw
      case rel=>exact⟨i+1,_,PS2,hlt,rfl,by go_num,HN⟩
      case measure=>simp[intOf];omega
  ·obtain rfl:i=xn:=by omega
   obtain⟨x,hx,hJx,_⟩:∃ x:Nat,jv=(x:Int)∧mU up (fun q=>(q:Int)∈Lb.take i∧pl q<m) x∧True:=by
    rcases HI.out.st with⟨h1,_,_⟩|⟨x,h1,h2,_⟩
    ·obtain⟨u,hu,he,hl⟩:=HT.out.rpo.fwd b HMB.out hb0
     exact absurd ⟨by rw[List.take_of_length_le (by omega)];exact HALL.out u hu he,by omega⟩ (h1 u)
    ·exact⟨x,h1,h2,trivial⟩
   subst hx
   have HJ:Hid (mU up (fun q=>M q∧E q b∧pl q<m) x):=hid (rP hJx fun q=>by
    rw[List.take_of_length_le (by omega)]
    constructor
    ·rintro ⟨h1,h2,h3⟩;exact⟨HALL.out q h1 h2,h3⟩
    ·rintro ⟨h1,h2⟩
     obtain⟨q',e,h3,h4⟩:=HIN.out _ h1
     have:q'=q:=by omega
     subst this
     exact⟨h3,h4,h2⟩)
   clear hJx
   go_wp2_with fail
   go_ret
   exact⟨x,PS,rfl,HI.out.at_,HI.out.off,HJ.out,HI.out.le⟩
def ZU(Z:Nat→List Int)(UP PS:List Int):Nat→List Int:=fun k=>if k=1 then UP else if k=4 then PS else Z k
theorem ZU_pass(Z:Nat→List Int)(UP PS PS2:List Int):(fun k=>if k=4 then PS2 else ZU Z UP PS k)=ZU Z UP PS2:=by
 funext k
 unfold ZU
 by_cases h4:k=4
 ·subst h4;simp
 ·simp[h4]
theorem ZU_up(Z:Nat→List Int)(UP UP2 PS:List Int):(fun k=>if k=1 then UP2 else ZU Z UP PS k)=ZU Z UP2 PS:=by
 funext k
 unfold ZU
 by_cases h1:k=1
 ·simp[h1]
 ·simp[h1]
theorem EX(Z:Nat→List Int):ZU Z (Z 1) (Z 4)=Z:=by
 funext k
 unfold ZU
 by_cases h1:k=1
 ·subst h1;simp
 ·by_cases h4:k=4
  ·subst h4;simp
  ·simp[h1,h4]
structure Given(E:Nat→Nat→Prop)(M:Nat→Prop)(pl:Nat→Nat)(n K:Nat)(ord:List Int)(PL:List Int)(FR:List (List Int)):Prop where
 rpo:Rpo E M pl
 lt:∀ v,M v→v<n
 plK:∀ v,M v→pl v<K
 olen:ord.length=K
 K0:0<K
 Kn:K≤n
 ordAt:∀ i (h:i<ord.length),∃v:Nat,ord[i]=(v:Int)∧M v∧pl v=i
 place:∀ v,M v→nth PL v=(pl v:Int)
 from_:∀ b (h:b<FR.length),M b→(∀z∈FR[b],∃q:Nat,z=(q:Int)∧M q∧E q b)∧(∀q,M q→E q b→(q:Int)∈FR[b])∧FR[b].length≤n
structure GY(W0:World)(B p n:Nat)(g:Nat→Nat)(Z:Nat→List Int)(ov fv:Value)(ord:List Int)(vs:List Value)(FR:List (List Int))(UP PS:List Int)(r:Nat)(W:World):Prop where
 at_:aI W B p n g (ZU Z UP PS) ov fv ord vs FR (r:Int)
 off:Off (fun i=>i=p∨i=g 1∨i=g 4) W0 W
 le:∀ v,v<n→nth PS v≤(r:Int)
structure fK(E:Nat→Nat→Prop)(M:Nat→Prop)(pl:Nat→Nat)(n:Nat)(UP:List Int)(m:Nat):Prop where
 tree:Tree E M pl (gH n UP) m
 all:∀ v,M v→pl v<m
 fix:∀ v c:Nat,M v→gH n UP v=(c:Int)→∀ p,M p→E p v→On (gH n UP) p c
def su(E:Nat→Nat→Prop)(M:Nat→Prop)(pl:Nat→Nat)(W:World)(B p n:Nat)(g:Nat→Nat)(Z:Nat→List Int)(ov fv:Value)(ord:List Int)(vs:List Value)(FR:List (List Int))(e:Ending)(w':World):Prop:=
 e=.returned (.tuple #[])∧∃ (UP PS:List Int) (r m:Nat),GY W B p n g Z ov fv ord vs FR UP PS r w'∧fK E M pl n UP m∧r≤1000010000100000
set_option maxRecDepth 100000 in
set_option maxHeartbeats 4000000 in
theorem Ar{E:Nat→Nat→Prop}{M:Nat→Prop}{pl:Nat→Nat}{W:World}{B p n K gf:Nat}{g:Nat→Nat}{Z:Nat→List Int}{ov:Value}{ord:List Int}{vs:List Value}{FR:List (List Int)}
 (hA:aI W B p n g Z ov (.slice (some ⟨gf,0,none⟩) n n) ord vs FR 0)(hG:Given E M pl n K ord (Z 0) FR)(hvs:vs.length=n)(hZ1:Z 1=List.replicate n (-1))(hle:∀ v,v<n→nth (Z 4) v≤0)(hn:n≤100000):
 Calls Tryz.prog 141 #[.pointer (some ⟨p,0,none⟩)] W (su E M pl W B p n g Z ov (.slice (some ⟨gf,0,none⟩) n n) ord vs FR):=by
 have HG:=hid hG
 have hup0:gH n (Z 1)=fun _=> -1:=funext fun v=>by
  unfold gH
  split
  ·rename_i h;rw[hZ1,bN (by simpa using h)];simp
  ·rfl
 have hn0:0<n:=by have:=hG.K0;have:=hG.Kn;omega
 obtain⟨oa,on,oc,rfl,hon⟩:=hA.ord.nums
 have HON:=hid hon
 have HOL:Hid (on=K):=hid (hon.1.symm.trans hG.olen)
 have honn:on≤n:=by have:=HOL.out;have:=hG.Kn;omega
 have hbd:(n*(n+1)+1)*n≤1000010000100000:=by
  have h1:n*(n+1)≤100000*100001:=Nat.mul_le_mul hn (by omega)
  have h2:(n*(n+1)+1)*n≤(100000*100001+1)*100000:=Nat.mul_le_mul (by omega) hn
  omega
 have HBD:=hid hbd
 have HS0:Hid (GY W B p n g Z (.slice oa on oc) (.slice (some ⟨gf,0,none⟩) n n) ord vs FR (Z 1) (Z 4) 0 W∧(Z 1).length=n∧Tree E M pl (gH n (Z 1)) 1∧wI E M pl (gH n (Z 1)) 0 1∧(1:Nat)≤K∧1≤1∧(true=false→fK E M pl n (Z 1) 1)∧ji n pl (Z 1)+1=(if true=true then ji n pl (Z 1)+1 else 0)∧0+(ji n pl (Z 1)+1)*n≤1000010000100000):=hid ⟨⟨by rw[EX];exact hA,Off.refl _ _,fun v hv=>by have:=hle v hv;omega⟩,by rw[hZ1];simp,by rw[hup0];exact Tree.start hG.rpo,by rw[hup0];exact wI.start,hG.K0,Nat.le_refl _,(fun h=>nomatch h),rfl,by
  have h1:=Fy n pl (Z 1)
  have h2:(ji n pl (Z 1)+1)*n≤(n*(n+1)+1)*n:=Nat.mul_le_mul_right _ (by omega)
  omega⟩
 clear hA hle hZ1 hup0 hon hbd hG
 go_enter Tryz.func141,Tryz.ntmps141
 go_wp2_with fail
 go_loopg [2] (ji n pl (Z 1)+1) (fun gk v2 wr=>∃ (UP PS:List Int) (r m:Nat) (ch:Bool),v2=.bool ch∧Hid (GY W B p n g Z (.slice oa on oc) (.slice (some ⟨gf,0,none⟩) n n) ord vs FR UP PS r wr∧UP.length=n∧Tree E M pl (gH n UP) m∧wI E M pl (gH n UP) 0 m∧m≤K∧1≤m∧(ch=false→fK E M pl n UP m)∧gk=(if ch=true then ji n pl UP+1 else 0)∧r+gk*n≤1000010000100000))
 case atStart=>exact⟨Z 1,Z 4,0,1,true,rfl,HS0⟩
 case round=>
  obtain⟨UP,PS,r,m,ch,rfl,HI⟩:=hrel
  clear HS0
  obtain⟨wo,hwo⟩:∃ u,u=wr:=⟨_,rfl⟩
  rw[←hwo]at HI⊢
  clear hwo
  cases ch with
  |false=>
   go_wp2_with fail
   go_end0
   exact⟨rfl,UP,PS,r,m,HI.out.1,HI.out.2.2.2.2.2.2.1 (by simp),by have:=HI.out.2.2.2.2.2.2.2.2;omega⟩
  |true=>
   have hgk:gk=ji n pl UP+1:=by have:=HI.out.2.2.2.2.2.2.2.1;simpa using this
   have hrb:r+gk*n≤1000010000100000:=HI.out.2.2.2.2.2.2.2.2
   have hrb2:r+(ji n pl UP*n+n)≤1000010000100000:=by rw[hgk,Nat.succ_mul]at hrb;exact hrb
   have HRB:=hid hrb2
   have HGK:=hid hgk
   have HST:=hid HI.out.1
   have HPS:Hid (iL E M pl n K UP UP m 0 false):=hid (iL.begin HI.out.2.1 HI.out.2.2.1 HI.out.2.2.2.1 HI.out.2.2.2.2.1 HI.out.2.2.2.2.2.1)
   have c0:wo.cell? ⟨p,0,none⟩=some (.slice oa on oc):=by simp[World.cell?,HI.out.1.at_.blk]
   have HOW:Hid (ai wo oa on ord):=hid HI.out.1.at_.ord.read
   have HON2:Hid (∀g0 off,oa=some ⟨g0,off,none⟩→¬ (g0=p∨g0=g 1∨g0=g 4)):=hid fun g0 off e=>by
    have hob:(Value.slice oa on oc).ownBlock=some g0:=by rw[e];rfl
    rintro (h|h|h)
    ·obtain⟨cur,hc,_⟩:=bL HI.out.1.at_.ord hob
     have h2:=HI.out.1.at_.blk
     rw[h,h2]at hc
     simp at hc
    ·exact HI.out.1.at_.ordne 1 (by omega) (by rw[hob,h])
    ·exact HI.out.1.at_.ordne 4 (by omega) (by rw[hob,h])
   have HOF0:Hid (Off (fun i=>i=p∨i=g 1∨i=g 4) W wo):=hid HI.out.1.off
   clear HI hgk hrb hrb2
   go_wp2_with fail
   clear c0
   go_loopw[2,12] (fun v2 v12 wr=>∃ (i:Nat) (UQ PQ:List Int) (s mi:Nat) (ch:Bool),i≤on∧v2=.bool ch∧v12=.int .i64 (i:Int)∧Hid (GY wo B p n g Z (.slice oa on oc) (.slice (some ⟨gf,0,none⟩) n n) ord vs FR UQ PQ s wr∧iL E M pl n K UP UQ mi i ch∧s≤r+i)) (fun _ v12 _=>on-(intOf v12).toNat)
   case atStart=>exact⟨0,UP,PS,r,m,false,Nat.zero_le _,rfl,rfl,hid ⟨⟨HST.out.at_,Off.refl _ _,HST.out.le⟩,HPS.out,Nat.le_refl _⟩⟩
   case round=>
    obtain⟨i,UQ,PQ,s,mi,ch,hi,rfl,rfl,HJ⟩:=hrel
    clear HST HPS
    obtain⟨wq,hwq⟩:∃ u,u=wr:=⟨_,rfl⟩
    rw[←hwq]at HJ⊢
    clear hwq
    by_cases hlt:i<on
    ·have HIL:Hid (i<ord.length):=hid (by have:=HG.out.olen;have:=HOL.out;omega)
     obtain⟨b,hb,hMb,hpb⟩:=HG.out.ordAt i HIL.out
     obtain⟨g0,off,rfl,hg0,hcs⟩:=HOW.out.2 (by omega)
     have hcb:wq.cell? ⟨g0,off+i,none⟩=some (.int .i64 (b:Int)):=by
      have h1:=hcs i HIL.out
      rw[hb]at h1
      exact(HJ.out.1.off.cell (p:=⟨g0,off+i,none⟩) hg0 (HON2.out g0 off rfl)).trans h1
     have hbn:b<n:=HG.out.lt b hMb
     have HMB:=hid hMb
     have HPB:=hid hpb
     clear hcs hg0 hb hMb hpb
     by_cases hb0:b=0
     ·subst hb0
      have hi0:i=0:=by rw[←HPB.out];exact(HG.out.rpo.pl0 0 HMB.out).2 rfl
      have HI0:=hid hi0
      clear hi0
      go_wp2_with fail
      go_roundw
      case rel=>exact⟨i+1,UQ,PQ,s,mi,ch,hlt,rfl,by go_num,hid ⟨HJ.out.1,by have h:=HJ.out.2.1;rw[HI0.out]at h ⊢;exact h.zero HG.out.rpo,by have:=HJ.out.2.2;omega⟩⟩
      case measure=>simp[intOf];omega
     ·have hbb:((b:Int)==0)=false:=by rw[beq_eq_false_iff_ne];omega
      have HB0:=hid hb0
      have hsb:(s:Int)≤4611686018427387904:=by have:=HJ.out.2.2;have:=HRB.out;have:=HG.out.Kn;omega
      have CJ:=hid (D8 HJ.out.1.at_ (E:=E) (M:=M) (pl:=pl) (up:=gH n UQ) (m:=mi) ⟨HJ.out.2.1.tree,HG.out.rpo,HG.out.lt,HG.out.place,fun v hv=>(pO hv).symm⟩ b (FR[b]'(by rw[←HJ.out.1.at_.fr.len,hvs];exact hbn)) hvs hbn HMB.out hb0 (by rw[HPB.out];exact HJ.out.2.1.im) HJ.out.2.1.m1 (fun _=>rfl) (HG.out.from_ b _ HMB.out).1 (HG.out.from_ b _ HMB.out).2.1 (by intro v hv;exact HJ.out.1.le v hv) ⟨by omega,hsb⟩ (by omega) (HG.out.from_ b _ HMB.out).2.2)
      have hbi:(b:Int)<(n:Int):=by omega
      have hbi0:(0:Int)≤(b:Int):=by omega
      clear hb0
      have hwl:ji n pl UQ≤ji n pl UP:=by
       cases ch with
       |false=>rw[(HJ.out.2.1.same rfl).1];exact Nat.le_refl _
       |true=>exact Nat.le_of_lt (HJ.out.2.1.less rfl)
      have HWL:=hid hwl
      clear hwl
      go_upto_region 8 with(go_at_call 158;refine CJ.out.mono ?_;rintro e w5 ⟨x,PS2,rfl,ha,ho,hj,hl⟩;rw[ZU_pass]at ha;have e3:w5.cell? ⟨p,3,none⟩=some (.slice (some ⟨g 1,0,none⟩) n n):=(by simp[World.cell?,ha.blk]);have e1:w5.cell? ⟨g 1,b,none⟩=some (.int .i64 (nth UQ b)):=(by have h:=ha.cell (i:=1) (by omega) hbn;simpa [ZU]using h);have ef:w5.frozen? ⟨g 1,b,none⟩=false:=ha.free (by omega) b;have HA5:=hid ha;have HO5:=hid ho;have HJ5:=hid hj;have HL5:=hid hl;clear ha ho hj hl)
      by_cases hx:nth UQ b=(x:Int)
      ·have hxb:((x:Int) !=nth UQ b)=false:=by rw[hx];simp
       have HX:=hid hx
       clear hx
       go_wp2_with fail
       go_roundw
       case rel=>exact⟨i+1,UQ,PS2,s+1,mi,ch,hlt,rfl,by go_num,hid ⟨⟨HA5.out,HJ.out.1.off.trans (HO5.out.mono fun k _ hk=>by rcases hk with h|h;exact .inl h;exact .inr (.inr h)),HL5.out⟩,HJ.out.2.1.stay HG.out.rpo HMB.out HB0.out hbn HPB.out (by have:=HOL.out;omega) HJ5.out HX.out,by have:=HJ.out.2.2;omega⟩⟩
       case measure=>simp[intOf];omega
      ·have hxb:((x:Int) !=nth UQ b)=true:=by rw[bne_iff_ne];exact fun e=>hx e.symm
       have HX:=hid hx
       clear hx
       go_wp2_with fail
       go_roundw
       case rel=>
        refine⟨i+1,UQ.set b (x:Int),PS2,s+1,max mi (i+1),true,hlt,rfl,by go_num,hid ⟨⟨?_,(HJ.out.1.off.trans (HO5.out.mono fun k _ hk=>by rcases hk with h|h;exact .inl h;exact .inr (.inr h))).setCell (.inl (.inr (.inl rfl))) _,HL5.out⟩,HJ.out.2.1.move HG.out.rpo HG.out.Kn HG.out.plK HWL.out HMB.out HB0.out hbn HPB.out (by have:=HOL.out;omega) HJ5.out HX.out,by have:=HJ.out.2.2;omega⟩⟩
        have h:=HA5.out.put (i:=1) (by omega) b (x:Int)
        rw[ZU_up]at h
        exact h
       case measure=>simp[intOf];omega
    ·obtain rfl:i=on:=by omega
     have hplK:∀ v,M v→pl v<i:=fun v hv=>by have:=HG.out.plK v hv;have:=HOL.out;omega
     have HEND:Hid ((ch=false→fK E M pl n UQ mi)∧wI E M pl (gH n UQ) 0 mi):=hid ⟨fun hc=>by
      have h:=HJ.out.2.1
      rw[hc,HOL.out]at h
      have h2:=h.fixed HG.out.plK
      exact⟨h.tree,h2.1,h2.2⟩,HJ.out.2.1.pass.again hplK⟩
     have HMS:Hid ((if ch=true then ji n pl UQ+1 else 0)<gk∧s+(if ch=true then ji n pl UQ+1 else 0)*n≤1000010000100000):=hid (by
      have h1:=HGK.out
      have h2:=HRB.out
      have h3:=HJ.out.2.2
      cases ch with
      |false=>simp;omega
      |true=>
       have h4:=HJ.out.2.1.less rfl
       have h5:(ji n pl UQ+1)*n≤ji n pl UP*n:=Nat.mul_le_mul_right _ (by omega)
       simp only[if_true]
       omega)
     go_wp2_with fail
     go_roundg (if ch=true then ji n pl UQ+1 else 0)
     case rel=>exact⟨UQ,PQ,s,mi,ch,rfl,hid ⟨⟨HJ.out.1.at_,HOF0.out.trans HJ.out.1.off,HJ.out.1.le⟩,HJ.out.2.1.len,HJ.out.2.1.tree,HEND.out.2,HJ.out.2.1.mK,HJ.out.2.1.m1,HEND.out.1,rfl,HMS.out.2⟩⟩
     all_goals exact HMS.out.1
def filled(n k:Nat)(v:Int):List Value:=List.replicate k (dN v)++List.replicate (n-k) (dN 0)
theorem rT{n k:Nat}(v:Int)(h:k≤n):(filled n k v).length=n:=by simp[filled];omega
theorem qB{n k m:Nat}(v:Int)(h:k+m≤n):splice (filled n k v) k (List.replicate m (dN v))=filled n (k+m) v:=by
 unfold splice filled
 rw[List.take_left' (by simp),List.length_replicate,List.drop_append]
 simp only[List.length_replicate,List.drop_replicate]
 rw[show k-(k+m)=0 by omega,List.replicate_zero,List.nil_append,show k+m-k=m by omega,show n-k-m=n-(k+m) by omega,←List.append_assoc,List.replicate_append_replicate]
theorem El{n k j:Nat}{v:Int}(hj:j<k)(hk:k≤n):(filled n k v)[j]? =some (.int .i64 v):=by
 unfold filled
 rw[List.getElem?_append_left (by simpa using hj),List.getElem?_replicate,if_pos hj];rfl
theorem xU(n:Nat)(v:Int):(madeCells #[Value.int .i64 0] n)=(filled n 0 v).toArray:=by
 apply Array.ext
 ·simp[madeCells,filled]
 ·intro i h1 h2
  simp[madeCells,filled,Nat.mod_one,dN]
theorem xV(n:Nat)(v:Int):filled n n v=(List.replicate n v).map dN:=by simp[filled]
theorem jK(q:Int)(Q:Nat)(hq:q=Q)(hQ:Q≤1099511627776)(u:World):(Instr.makeSlice 40 (.int .i64 q) (.int .i64 q)).run Tryz.prog u=.ok (.slice (some ⟨u.heap.size,0,none⟩) Q Q) (u.alloc (.cells (madeCells #[.int .i64 0] Q) 3)):=by
 obtain⟨i0,hi,hz0,hz1,hz2⟩:=info_parts aT
 subst hq
 have h:=run_make (P:=Tryz.prog) u 40 3 i0 (.int .i64 0) Tryz.underlying40 hi hz0 .i64 .i64 (Q:Int) (Q:Int) (by omega) (by omega) (by rw[hz2];omega) (by omega)
 simpa [hz1,Value.cells]using h
set_option maxRecDepth 100000 in
set_option maxHeartbeats 2000000 in
theorem rD(g cx:Nat)(v:Int)(n:Nat)(w:World)(hx:w.cell? ⟨g,0,none⟩=some (.int .i64 v))(hn:n≤1099511627776):
 Calls Tryz.prog 136 #[.slice (some ⟨g,0,none⟩) 1 cx,.int .i64 (n:Int)] w fun e w'=>e=.returned (.slice (some ⟨w.heap.size,0,none⟩) n n)∧aj w' w.heap.size 3 (.slice (some ⟨w.heap.size,0,none⟩) n n) (List.replicate n v)∧Below w.heap.size w w':=by
 have hmk:=jK n n rfl hn
 have hsz:(Tryz.prog.info? 3).map (·.size)=some 1:=by kernel_rfl
 have hgl:g<w.heap.size:=World.block_lt_of_cell? (a:=⟨g,0,none⟩) _ hx
 have HGL:=hid hgl
 have HX:=hid hx
 have CB:=hid (Tryz.bits_Mul 1 n (by decide) (by omega))
 have e1:((1*n/18446744073709551616:Nat):Int)=0:=by rw[Nat.one_mul,Nat.div_eq_of_lt (by omega)];rfl
 have e2:((1*n%18446744073709551616:Nat):Int)=(n:Int):=by rw[Nat.one_mul,Nat.mod_eq_of_lt (by omega)]
 have e3:¬ ((n:Int)<0):=by omega
 have e4:IntKind.u64.wrap (n:Int)=(n:Int):=by simp[IntKind.wrap,IntKind.bits,IntKind.signed];omega
 have e5:IntKind.i64.wrap (n:Int)=(n:Int):=by simp[IntKind.wrap,IntKind.bits,IntKind.signed];omega
 have e6:¬ ((9223372036854775807:Int)<(n:Int)):=by omega
 rw[e1,e2]at CB
 clear hx hgl
 go_enter Tryz.func136,Tryz.ntmps136
 obtain⟨k0,hk0⟩:∃ k0,k0=min 1 n:=⟨_,rfl⟩
 have hG:(w.alloc (.cells (madeCells #[.int .i64 0] n) 3)).heap[w.heap.size]? =some (.cells (filled n 0 v).toArray 3 (0,0)):=by rw[xU n v];exact World.alloc_heap_new w _
 have HG:=hid hG
 have HK0:Hid (k0≤n∧(0<n→1≤k0)∧(List.replicate k0 (dN v)).length=Nat.min 1 n):=hid ⟨by omega,by omega,by rw[List.length_replicate];exact hk0⟩
 clear hG hk0
 go_upto_region 7 with(go_at_call 155;refine(CB.out _).mono ?_;rintro e w1 ⟨rfl,hw1⟩;rw[hw1];clear hw1 w1)
 refine wp_region_lit ?_
 refine wpList_plain rfl fun K hK=> ?_
 go_simp
 refine hK _ _ ?_
 refine wpList_plain rfl fun K hK=> ?_
 go_simp
 refine hK _ _ ?_
 refine wpList_copy_splice rfl (.tmp 31) (.tmp 32) 40 40 rfl 3 Tryz.underlying40 hsz (some ⟨w.heap.size,0,none⟩) (some ⟨g,0,none⟩) n n 1 cx rfl rfl w.heap.size 0 (filled n 0 v) 3 HG.out (List.replicate k0 (dN v)) HK0.out.2.2 (fun h=>⟨rfl,_,rfl,fun j u hu=> ?_⟩) ?_ ?_ w.heap.size w ?_ (Nat.le_refl _) ?_
 ·rw[List.getElem?_replicate]at hu
  split at hu
  ·have hj:j=0:=by
    have:=HK0.out.2.2
    rw[List.length_replicate]at this
    have h1:Nat.min 1 n≤1:=Nat.min_le_left _ _
    omega
   subst hj
   simp only[Option.some.injEq]at hu
   subst hu
   rw[aU]
   exact(((Below.refl w.heap.size w).alloc (Nat.le_refl _) _).cell (p:=⟨g,0,none⟩) HGL.out).trans HX.out
  ·cases hu
 ·rw[rT v (Nat.zero_le _),List.length_replicate];have:=HK0.out.1;omega
 ·intro u hu;rw[List.mem_replicate]at hu;rw[hu.2];rfl
 ·exact(Below.refl w.heap.size w).alloc (Nat.le_refl _) _
 intro w2 hg2 hb2
 have HG2:Hid (w2.heap[w.heap.size]? =some (.cells (filled n k0 v).toArray 3 (0,0))):=hid (by have h:=hg2.out;rw[qB v (by have:=HK0.out.1;omega),Nat.zero_add]at h;exact h)
 have HB2:=hid hb2
 clear hg2 hb2 hmk
 rw[List.length_replicate]
 go_wp2_with fail
 go_loopw[8] (fun v8 wr=>∃ k:Nat,k≤n∧(0<n→1≤k)∧v8=.int .i64 (k:Int)∧Hid (wr.heap[w.heap.size]? =some (.cells (filled n k v).toArray 3 (0,0))∧Below w.heap.size w wr)) (fun v8 _=>n-(intOf v8).toNat)
 case atStart=>exact⟨k0,HK0.out.1,HK0.out.2.1,rfl,hid ⟨HG2.out,HB2.out⟩⟩
 case round=>
  obtain⟨k,hk,hk1,rfl,HI⟩:=hrel
  clear HG HG2 HB2 CB HK0
  obtain⟨wo,hwo⟩:∃ u,u=wr:=⟨_,rfl⟩
  rw[←hwo]at HI⊢
  clear hwo
  by_cases hlt:k<n
  ·obtain⟨m,hm⟩:∃ m,m=min k (n-k):=⟨_,rfl⟩
   have HM:Hid (k+m≤n∧1≤m∧(List.replicate m (dN v)).length=Nat.min k (n-k)):=hid ⟨by omega,by omega,by rw[List.length_replicate];exact hm⟩
   have hne:¬ n=k:=by omega
   have hki:(k:Int)<(n:Int):=by omega
   have hkn:(k:Int)≤(n:Int):=by omega
   have hk0':(0:Int)≤(k:Int):=by omega
   clear hm
   have HPOS:Hid (0<(List.replicate m (dN v)).length→(some (⟨w.heap.size,k,none⟩:Addr)=some ⟨w.heap.size,k,none⟩)∧∃ ad,some (⟨w.heap.size,0,none⟩:Addr)=some ad∧∀ j u,(List.replicate m (dN v))[j]? =some u→wo.drew.cell? (ad.add j)=some u):=hid fun h=>⟨rfl,_,rfl,fun j u hu=>by
    rw[List.getElem?_replicate]at hu
    split at hu
    ·simp only[Option.some.injEq]at hu
     subst hu
     rw[aU,Nat.zero_add]
     have h2:=HM.out.2.2
     rw[List.length_replicate]at h2
     have h3:Nat.min k (n-k)≤k:=Nat.min_le_left _ _
     have h1:=El (v:=v) (show j<k by omega) (Nat.le_of_lt hlt)
     have h4:=HI.out.1
     simp only[World.cell?,World.drew,h4,Option.isSome_none,Bool.false_eq_true,if_false]
     simpa [dN]using h1
    ·cases hu⟩
   go_upto_region 9 with fail
   go_region_law (refine step_copy_splice rfl (.tmp 41) (.tmp 44) 40 40 rfl 3 Tryz.underlying40 hsz (some ⟨w.heap.size,k,none⟩) (some ⟨w.heap.size,0,none⟩) (n-k) (n-k) k n (by simp[Act.eval,Act.put]) (by simp[Act.eval,Act.put]) w.heap.size k (filled n k v) 3 HI.out.1 (List.replicate m (dN v)) HM.out.2.2 HPOS.out (by rw[rT v (Nat.le_of_lt hlt),List.length_replicate];exact HM.out.1) (by intro u hu;rw[List.mem_replicate]at hu;rw[hu.2];rfl) w.heap.size w HI.out.2.drew (Nat.le_refl _) ?_;intro w4 hg4 hb4;have HG4:Hid (w4.heap[w.heap.size]? =some (.cells (filled n (k+m) v).toArray 3 (0,0))):=hid (by have h:=hg4.out;rw[qB v HM.out.1]at h;exact h);have HB4:=hid hb4;clear hg4 hb4;rw[List.length_replicate])
   have hwkm:IntKind.i64.wrap ((k:Int)+(m:Int))=((k+m:Nat):Int):=by have:=HM.out.1;simp[IntKind.wrap,IntKind.bits,IntKind.signed];omega
   have HM1:=HM.out.1
   have HM2:=HM.out.2.1
   go_wp2_with fail
   go_roundw
   case rel=>exact⟨k+m,HM1,fun _=>by omega,(by first|omega|rfl|(simp;done)|go_num),hid ⟨HG4.out,HB4.out⟩⟩
   case measure=>simp only[intOf,hwkm];omega
  ·obtain rfl:k=n:=by omega
   go_wp2_with fail
   go_ret
   refine⟨rfl,⟨by simp,.inr ⟨w.heap.size,k,_,by simp,Nat.le_refl _,HI.out.1,by simp,by unfold maxLen;omega,by simp[filled],by rw[xV];simp⟩⟩,HI.out.2⟩
theorem decl_9(g:Nat){sa:Option Addr}{sn sc:Nat}{ca:Option Addr}{cn cc:Nat}{fa:Option Addr}{fn fc:Nat}{P:aB}(A B C N:Int)(S:ByteArray)(la:Option Addr)(ln lc:Nat)(T:Bool)(L:List Int)(ta:Option Addr)(tn tc:Nat)(ts:List Int)(w:World)
 (hP:aX w g sa sn sc ca cn cc fa fn fc P)(hat:ai w la ln L)(hln:ln≤17592186044000)(ht:ai w ta tn ts)(htn:tn≤140737488355328)(hr:∀ z∈ts,InR z)(hN:InR N)(ham:Among (aA 9 A B C L) tn):
 Calls Tryz.prog 101 #[.pointer (some ⟨g,0,none⟩),.agg #[.int .i64 9,.int .i64 A,.int .i64 B,.int .i64 C,.int .i64 N,.string S,.slice la ln lc,.bool T],.slice ta tn tc] w (aF (aC P 9 N S ((aA 9 A B C L).map (aQ ts))) w):=by
 have hu:aA 9 A B C L=L:=by simp[aA,hasB,av,iF,dA]
 rw[hu]at ham⊢
 obtain⟨W0,hW0⟩:∃ W0,W0=w.alloc (.cells #[.int .i64 9,.int .i64 A,.int .i64 B,.int .i64 C,.int .i64 N,.string S,.slice la ln lc,.bool T] 64):=⟨_,rfl⟩
 have hw0:∀ u,Below (w.heap.size+1) W0 u→Below w.heap.size w u:=fun u hu=>by rw[hW0]at hu;exact bq hu
 have HW:=hid hw0
 have HP:Hid (∀u,Below (w.heap.size+1) W0 u→aX u g sa sn sc ca cn cc fa fn fc P):=hid (fun u hu=>hP.since (hw0 u hu))
 have HT:Hid (∀u,Below (w.heap.size+1) W0 u→ai u ta tn ts):=hid (fun u hu=>ht.since (hw0 u hu))
 have HL:Hid (∀u,Below (w.heap.size+1) W0 u→ai u la ln L):=hid (fun u hu=>hat.since (hw0 u hu))
 have HC:Hid (∀u,Below (w.heap.size+1) W0 u→u.cell? ⟨w.heap.size,0,none⟩=some (.int .i64 9)∧u.cell? ⟨w.heap.size,1,none⟩=some (.int .i64 A)∧u.cell? ⟨w.heap.size,2,none⟩=some (.int .i64 B)∧u.cell? ⟨w.heap.size,3,none⟩=some (.int .i64 C)∧u.cell? ⟨w.heap.size,4,none⟩=some (.int .i64 N)∧u.cell? ⟨w.heap.size,5,none⟩=some (.string S)∧u.cell? ⟨w.heap.size,6,none⟩=some (.slice la ln lc)∧u.cell? ⟨w.heap.size,7,none⟩=some (.bool T)∧u.cell? ⟨g,0,none⟩=some (.slice sa sn sc)∧u.cell? ⟨g,1,none⟩=some (.slice ca cn cc)∧u.cell? ⟨g,2,none⟩=some (.slice fa fn fc)):=
  hid (fun u hu=>by have hp:=HP.out u hu;rw[hW0]at hu;exact⟨ah hu 0 _ rfl,ah hu 1 _ rfl,ah hu 2 _ rfl,ah hu 3 _ rfl,ah hu 4 _ rfl,ah hu 5 _ rfl,ah hu 6 _ rfl,ah hu 7 _ rfl,hp.c0,hp.c1,hp.c2⟩)
 have HZ:Hid (w.heap.size+1≤W0.heap.size):=hid (by rw[hW0];simp)
 have H0:Hid (Below (w.heap.size+1) W0 W0.drew):=hid (Below.refl _ _).drew
 have H1:Hid (Below (w.heap.size+1) W0 W0.drew.drew):=hid (Below.refl _ _).drew.drew
 have H2:Hid (Below (w.heap.size+1) W0 W0):=hid (Below.refl _ _)
 have hlc:=hP.c.len
 by_cases h:0≤N∧N<(cn:Int)
 ·obtain⟨k,rfl⟩:=Int.eq_ofNat_of_zero_le h.1
  have hk:k<cn:=by omega
  obtain⟨cg,co,cs,hx,rfl,hcl,hcs,f,m,rfl,⟨a,fnn,fcc,rfl,hfa,_,hfb,_⟩,_⟩:=hP.c.elem hk
  have hc0:w.cell? ⟨cg,co+k*2,none⟩=some (.slice a fnn fcc):=hcs 0 (by simp)
  have HCK:Hid (∀u,Below (w.heap.size+1) W0 u→u.cell? ⟨cg,co+k*2,none⟩=some (.slice a fnn fcc)):=hid (fun u hu=>((hw0 u hu).cell (p:=⟨cg,co+k*2,none⟩) (World.block_lt_of_cell? _ _ hc0)).trans hc0)
  have hfo:fieldsOf P k=(P.classes[k]).fields:=by unfold fieldsOf;rw[List.getElem?_eq_getElem hx]
  obtain⟨l,hl⟩:∃ l,(P.classes[k]).fields=l:=⟨_,rfl⟩
  rw[hl]at hfa hfo
  have HF:Hid (∀u,Below (w.heap.size+1) W0 u→ai u a fnn l):=hid (fun u hu=>hfa.since (hw0 u hu))
  have HM:=hid (fun u hu=>ql ta tn tc ts la ln lc L a fnn fcc l u (HT.out u hu) (HL.out u hu) (HF.out u hu) ham (by omega) (by omega) htn)
  have HI:=hid (show vE (k:Int) (cn:Int)=true from decide_eq_true h)
  have hwr:IntKind.i64.wrap (6+(k:Int))=6+(k:Int):=wrap_small _ (by omega) (by omega)
  have HRR:Hid (aC P 9 (k:Int) S (L.map (aQ ts))=(6+(k:Int),iB ts L l)):=hid (by
   show(if 0≤(k:Int)∧(k:Int)<P.classes.length then(6+(k:Int),aG (L.map (aQ ts)) (fieldsOf P (k:Int).toNat))else(-1,false))=_
   rw[if_pos (by omega),show((k:Int)).toNat=k from rfl,hfo]
   rfl)
  have HR:Hid ((aC P 9 (k:Int) S (L.map (aQ ts))).2=iB ts L l):=hid (by rw[HRR.out])
  have HR1:Hid ((aC P 9 (k:Int) S (L.map (aQ ts))).1=6+(k:Int)):=hid (by rw[HRR.out])
  clear hcs hfa hP hat ht ham h hc0 hw0 hl hr hfo
  go_enter Tryz.func101,Tryz.ntmps101
  go_wp2_with fail
  rw[←hW0]
  clear hW0
  go_region_held3 (fun u=>u.cell? ⟨w.heap.size,0,none⟩=some (.int .i64 9)∧u.cell? ⟨w.heap.size,1,none⟩=some (.int .i64 A)∧u.cell? ⟨w.heap.size,2,none⟩=some (.int .i64 B)∧u.cell? ⟨w.heap.size,3,none⟩=some (.int .i64 C)∧u.cell? ⟨w.heap.size,4,none⟩=some (.int .i64 (k:Int))∧u.cell? ⟨w.heap.size,5,none⟩=some (.string S)∧u.cell? ⟨w.heap.size,6,none⟩=some (.slice la ln lc)∧u.cell? ⟨w.heap.size,7,none⟩=some (.bool T)∧u.cell? ⟨g,0,none⟩=some (.slice sa sn sc)∧u.cell? ⟨g,1,none⟩=some (.slice (some ⟨cg,co,none⟩) cn cc)∧u.cell? ⟨g,2,none⟩=some (.slice fa fn fc))
   (exact HC.out _ (Hid.out (by assumption)))
   (first|(go_at_call 98;(with_reducible refine(eF _ _ _).mono ?_);rintro e w' ⟨rfl,rfl⟩;rw[HI.out]))
  go_wp2_with fail
  go_region_held3 (fun u=>u.cell? ⟨w.heap.size,0,none⟩=some (.int .i64 9)∧u.cell? ⟨w.heap.size,1,none⟩=some (.int .i64 A)∧u.cell? ⟨w.heap.size,2,none⟩=some (.int .i64 B)∧u.cell? ⟨w.heap.size,3,none⟩=some (.int .i64 C)∧u.cell? ⟨w.heap.size,4,none⟩=some (.int .i64 (k:Int))∧u.cell? ⟨w.heap.size,5,none⟩=some (.string S)∧u.cell? ⟨w.heap.size,6,none⟩=some (.slice la ln lc)∧u.cell? ⟨w.heap.size,7,none⟩=some (.bool T)∧u.cell? ⟨g,0,none⟩=some (.slice sa sn sc)∧u.cell? ⟨g,1,none⟩=some (.slice (some ⟨cg,co,none⟩) cn cc)∧u.cell? ⟨g,2,none⟩=some (.slice fa fn fc)∧u.cell? ⟨cg,co+k*2,none⟩=some (.slice a fnn fcc))
   (exact(by have hx1:=HC.out _ (Hid.out (by assumption));have hy0:=HCK.out _ (Hid.out (by assumption));exact⟨hx1.1,hx1.2.1,hx1.2.2.1,hx1.2.2.2.1,hx1.2.2.2.2.1,hx1.2.2.2.2.2.1,hx1.2.2.2.2.2.2.1,hx1.2.2.2.2.2.2.2.1,hx1.2.2.2.2.2.2.2.2.1,hx1.2.2.2.2.2.2.2.2.2.1,hx1.2.2.2.2.2.2.2.2.2.2,hy0⟩))
   (first|(go_at_call 132;(with_reducible refine(HM.out _ (Hid.out (by assumption))).mono ?_);rintro e w' ⟨rfl,hb⟩;have HB:=hid (nV (Hid.out (by assumption:Hid (Below (w.heap.size+1) W0 _))) HZ.out hb);clear hb))
  all_goals go_wp2_with fail
  all_goals refine bodyPost_ret (v:=.tuple #[.int .i64 (6+(k:Int)),.bool (iB ts L l)]) (by simp[results,Tryz.results101,go_sem]) rfl ⟨6+(k:Int),by rw[HR.out],fun _=>HR1.out.symm,HW.out _ (by first|exact Hid.out (by assumption)|exact H0.out.drewq _|exact H2.out.drewq _)⟩
 ·have HI:=hid (show vE N (cn:Int)=false from decide_eq_false h)
  have HR:Hid ((aC P 9 N S (L.map (aQ ts))).2=false):=hid (by
   unfold aC
   rw[if_neg (show ¬(9:Int)=0 by decide),if_neg (show ¬(9:Int)=1 by decide),if_neg (show ¬(9:Int)=2 by decide),if_neg (show ¬(9:Int)=3 by decide),if_neg (show ¬(9:Int)=4 by decide),if_neg (show ¬(9:Int)=5 by decide),if_neg (show ¬(9:Int)=6 by decide),if_neg (show ¬(9:Int)=7 by decide),if_neg (show ¬(9:Int)=8 by decide),if_pos rfl,if_neg (by omega)]
   skip)
  clear hP hat ht ham h hw0 hr
  go_enter Tryz.func101,Tryz.ntmps101
  go_wp2_with fail
  rw[←hW0]
  clear hW0
  go_region_held3 (fun u=>u.cell? ⟨w.heap.size,0,none⟩=some (.int .i64 9)∧u.cell? ⟨w.heap.size,1,none⟩=some (.int .i64 A)∧u.cell? ⟨w.heap.size,2,none⟩=some (.int .i64 B)∧u.cell? ⟨w.heap.size,3,none⟩=some (.int .i64 C)∧u.cell? ⟨w.heap.size,4,none⟩=some (.int .i64 N)∧u.cell? ⟨w.heap.size,5,none⟩=some (.string S)∧u.cell? ⟨w.heap.size,6,none⟩=some (.slice la ln lc)∧u.cell? ⟨w.heap.size,7,none⟩=some (.bool T)∧u.cell? ⟨g,0,none⟩=some (.slice sa sn sc)∧u.cell? ⟨g,1,none⟩=some (.slice ca cn cc)∧u.cell? ⟨g,2,none⟩=some (.slice fa fn fc))
   (exact HC.out _ (Hid.out (by assumption)))
   (first|(go_at_call 98;(with_reducible refine(eF _ _ _).mono ?_);rintro e w' ⟨rfl,rfl⟩;rw[HI.out]))
  go_wp2_with fail
  refine bodyPost_ret (v:=.tuple #[.int .i64 (-1),.bool false]) (by simp[results,Tryz.results101,go_sem]) rfl ⟨-1,by rw[HR.out],fun h=>(by rw[HR.out]at h;cases h),HW.out _ (by first|exact Hid.out (by assumption)|exact H0.out.drewq _|exact H2.out.drewq _)⟩
theorem decl_10(g:Nat){sa:Option Addr}{sn sc:Nat}{ca:Option Addr}{cn cc:Nat}{fa:Option Addr}{fn fc:Nat}{P:aB}(A B C N:Int)(S:ByteArray)(la:Option Addr)(ln lc:Nat)(T:Bool)(L:List Int)(ta:Option Addr)(tn tc:Nat)(ts:List Int)(w:World)
 (hP:aX w g sa sn sc ca cn cc fa fn fc P)(hat:ai w la ln L)(hln:ln≤17592186044000)(ht:ai w ta tn ts)(htn:tn≤140737488355328)(hr:∀ z∈ts,InR z)(hN:InR N)(ham:Among (aA 10 A B C L) tn):
 Calls Tryz.prog 101 #[.pointer (some ⟨g,0,none⟩),.agg #[.int .i64 10,.int .i64 A,.int .i64 B,.int .i64 C,.int .i64 N,.string S,.slice la ln lc,.bool T],.slice ta tn tc] w (aF (aC P 10 N S ((aA 10 A B C L).map (aQ ts))) w):=by
 have hu:aA 10 A B C L=[A]:=by simp[aA,hasB,av,iF,dA]
 rw[hu]at ham⊢
 obtain⟨W0,hW0⟩:∃ W0,W0=w.alloc (.cells #[.int .i64 10,.int .i64 A,.int .i64 B,.int .i64 C,.int .i64 N,.string S,.slice la ln lc,.bool T] 64):=⟨_,rfl⟩
 have hw0:∀ u,Below (w.heap.size+1) W0 u→Below w.heap.size w u:=fun u hu=>by rw[hW0]at hu;exact bq hu
 have HW:=hid hw0
 have HP:Hid (∀u,Below (w.heap.size+1) W0 u→aX u g sa sn sc ca cn cc fa fn fc P):=hid (fun u hu=>hP.since (hw0 u hu))
 have HT:Hid (∀u,Below (w.heap.size+1) W0 u→ai u ta tn ts):=hid (fun u hu=>ht.since (hw0 u hu))
 have HL:Hid (∀u,Below (w.heap.size+1) W0 u→ai u la ln L):=hid (fun u hu=>hat.since (hw0 u hu))
 have HC:Hid (∀u,Below (w.heap.size+1) W0 u→u.cell? ⟨w.heap.size,0,none⟩=some (.int .i64 10)∧u.cell? ⟨w.heap.size,1,none⟩=some (.int .i64 A)∧u.cell? ⟨w.heap.size,2,none⟩=some (.int .i64 B)∧u.cell? ⟨w.heap.size,3,none⟩=some (.int .i64 C)∧u.cell? ⟨w.heap.size,4,none⟩=some (.int .i64 N)∧u.cell? ⟨w.heap.size,5,none⟩=some (.string S)∧u.cell? ⟨w.heap.size,6,none⟩=some (.slice la ln lc)∧u.cell? ⟨w.heap.size,7,none⟩=some (.bool T)∧u.cell? ⟨g,0,none⟩=some (.slice sa sn sc)∧u.cell? ⟨g,1,none⟩=some (.slice ca cn cc)∧u.cell? ⟨g,2,none⟩=some (.slice fa fn fc)):=
  hid (fun u hu=>by have hp:=HP.out u hu;rw[hW0]at hu;exact⟨ah hu 0 _ rfl,ah hu 1 _ rfl,ah hu 2 _ rfl,ah hu 3 _ rfl,ah hu 4 _ rfl,ah hu 5 _ rfl,ah hu 6 _ rfl,ah hu 7 _ rfl,hp.c0,hp.c1,hp.c2⟩)
 have HZ:Hid (w.heap.size+1≤W0.heap.size):=hid (by rw[hW0];simp)
 have H0:Hid (Below (w.heap.size+1) W0 W0.drew):=hid (Below.refl _ _).drew
 have H1:Hid (Below (w.heap.size+1) W0 W0.drew.drew):=hid (Below.refl _ _).drew.drew
 have H2:Hid (Below (w.heap.size+1) W0 W0):=hid (Below.refl _ _)
 obtain⟨yA,hA⟩:∃ t,aQ ts A=t:=⟨_,rfl⟩
 have RA:InR yA:=by rw[←hA];exact hr _ (lF ht.1 (ham A (by simp)))
 obtain⟨gA,oA,jA,eA,fA,lA,cA⟩:=ht.type (ham A (by simp))
 rw[hA]at cA
 have HTA:Hid (∀u,Below (w.heap.size+1) W0 u→u.cell? ⟨gA,oA+jA,none⟩=some (.int .i64 yA)):=hid (fun u hu=>((hw0 u hu).cell (p:=⟨gA,oA+jA,none⟩) (World.block_lt_of_cell? _ _ cA)).trans cA)
 rw[List.map_cons,List.map_nil,hA]
 obtain⟨f1,f2,hf⟩:∃ f1 f2,bC P yA N=(f1,f2):=⟨_,_,rfl⟩
 have HFD:Hid (∀u,Below (w.heap.size+1) W0 u→Calls Tryz.prog 133 #[.pointer (some ⟨g,0,none⟩),.int .i64 yA,.int .i64 N] u fun e w'=>e=.returned (.tuple #[.int .i64 f1,.bool f2])∧u=w'):=hid (fun u hu=>by have:=vN g yA N u (HP.out u hu) RA hN;rw[hf]at this;exact this)
 have HR:Hid ((aC P 10 N S [yA]).2=f2):=hid (by show(bC P yA N).2=f2;rw[hf])
 have HR1:Hid ((aC P 10 N S [yA]).1=f1):=hid (by show(bC P yA N).1=f1;rw[hf])
 subst eA fA
 clear hP hat ht ham hw0 hr hA cA hf
 go_enter Tryz.func101,Tryz.ntmps101
 go_wp2_with fail
 rw[←hW0]
 clear hW0
 go_region_held3 (fun u=>u.cell? ⟨w.heap.size,0,none⟩=some (.int .i64 10)∧u.cell? ⟨w.heap.size,1,none⟩=some (.int .i64 (jA:Int))∧u.cell? ⟨w.heap.size,2,none⟩=some (.int .i64 B)∧u.cell? ⟨w.heap.size,3,none⟩=some (.int .i64 C)∧u.cell? ⟨w.heap.size,4,none⟩=some (.int .i64 N)∧u.cell? ⟨w.heap.size,5,none⟩=some (.string S)∧u.cell? ⟨w.heap.size,6,none⟩=some (.slice la ln lc)∧u.cell? ⟨w.heap.size,7,none⟩=some (.bool T)∧u.cell? ⟨g,0,none⟩=some (.slice sa sn sc)∧u.cell? ⟨g,1,none⟩=some (.slice ca cn cc)∧u.cell? ⟨g,2,none⟩=some (.slice fa fn fc)∧u.cell? ⟨gA,oA+jA,none⟩=some (.int .i64 yA))
  (exact(by have hx1:=HC.out _ (Hid.out (by assumption));have hy0:=HTA.out _ (Hid.out (by assumption));exact⟨hx1.1,hx1.2.1,hx1.2.2.1,hx1.2.2.2.1,hx1.2.2.2.2.1,hx1.2.2.2.2.2.1,hx1.2.2.2.2.2.2.1,hx1.2.2.2.2.2.2.2.1,hx1.2.2.2.2.2.2.2.2.1,hx1.2.2.2.2.2.2.2.2.2.1,hx1.2.2.2.2.2.2.2.2.2.2,hy0⟩))
  (first|(go_at_call 133;(with_reducible refine(HFD.out _ (Hid.out (by assumption))).mono ?_);rintro e w' ⟨rfl,rfl⟩))
 all_goals go_wp2_with fail
 all_goals refine bodyPost_ret (v:=.tuple #[.int .i64 f1,.bool f2]) (by simp[results,Tryz.results101,go_sem]) rfl ⟨f1,by rw[HR.out],fun _=>HR1.out.symm,HW.out _ (by first|exact Hid.out (by assumption)|exact H0.out.drewq _|exact H2.out.drewq _)⟩
theorem decl_11(g:Nat){sa:Option Addr}{sn sc:Nat}{ca:Option Addr}{cn cc:Nat}{fa:Option Addr}{fn fc:Nat}{P:aB}(A B C N:Int)(S:ByteArray)(la:Option Addr)(ln lc:Nat)(T:Bool)(L:List Int)(ta:Option Addr)(tn tc:Nat)(ts:List Int)(w:World)
 (hP:aX w g sa sn sc ca cn cc fa fn fc P)(hat:ai w la ln L)(hln:ln≤17592186044000)(ht:ai w ta tn ts)(htn:tn≤140737488355328)(hr:∀ z∈ts,InR z)(hN:InR N)(ham:Among (aA 11 A B C L) tn):
 Calls Tryz.prog 101 #[.pointer (some ⟨g,0,none⟩),.agg #[.int .i64 11,.int .i64 A,.int .i64 B,.int .i64 C,.int .i64 N,.string S,.slice la ln lc,.bool T],.slice ta tn tc] w (aF (aC P 11 N S ((aA 11 A B C L).map (aQ ts))) w):=by
 have hu:aA 11 A B C L=[A,B]:=by simp[aA,hasB,av,iF,dA]
 rw[hu]at ham⊢
 obtain⟨W0,hW0⟩:∃ W0,W0=w.alloc (.cells #[.int .i64 11,.int .i64 A,.int .i64 B,.int .i64 C,.int .i64 N,.string S,.slice la ln lc,.bool T] 64):=⟨_,rfl⟩
 have hw0:∀ u,Below (w.heap.size+1) W0 u→Below w.heap.size w u:=fun u hu=>by rw[hW0]at hu;exact bq hu
 have HW:=hid hw0
 have HP:Hid (∀u,Below (w.heap.size+1) W0 u→aX u g sa sn sc ca cn cc fa fn fc P):=hid (fun u hu=>hP.since (hw0 u hu))
 have HT:Hid (∀u,Below (w.heap.size+1) W0 u→ai u ta tn ts):=hid (fun u hu=>ht.since (hw0 u hu))
 have HL:Hid (∀u,Below (w.heap.size+1) W0 u→ai u la ln L):=hid (fun u hu=>hat.since (hw0 u hu))
 have HC:Hid (∀u,Below (w.heap.size+1) W0 u→u.cell? ⟨w.heap.size,0,none⟩=some (.int .i64 11)∧u.cell? ⟨w.heap.size,1,none⟩=some (.int .i64 A)∧u.cell? ⟨w.heap.size,2,none⟩=some (.int .i64 B)∧u.cell? ⟨w.heap.size,3,none⟩=some (.int .i64 C)∧u.cell? ⟨w.heap.size,4,none⟩=some (.int .i64 N)∧u.cell? ⟨w.heap.size,5,none⟩=some (.string S)∧u.cell? ⟨w.heap.size,6,none⟩=some (.slice la ln lc)∧u.cell? ⟨w.heap.size,7,none⟩=some (.bool T)∧u.cell? ⟨g,0,none⟩=some (.slice sa sn sc)∧u.cell? ⟨g,1,none⟩=some (.slice ca cn cc)∧u.cell? ⟨g,2,none⟩=some (.slice fa fn fc)):=
  hid (fun u hu=>by have hp:=HP.out u hu;rw[hW0]at hu;exact⟨ah hu 0 _ rfl,ah hu 1 _ rfl,ah hu 2 _ rfl,ah hu 3 _ rfl,ah hu 4 _ rfl,ah hu 5 _ rfl,ah hu 6 _ rfl,ah hu 7 _ rfl,hp.c0,hp.c1,hp.c2⟩)
 have HZ:Hid (w.heap.size+1≤W0.heap.size):=hid (by rw[hW0];simp)
 have H0:Hid (Below (w.heap.size+1) W0 W0.drew):=hid (Below.refl _ _).drew
 have H1:Hid (Below (w.heap.size+1) W0 W0.drew.drew):=hid (Below.refl _ _).drew.drew
 have H2:Hid (Below (w.heap.size+1) W0 W0):=hid (Below.refl _ _)
 obtain⟨yA,hA⟩:∃ t,aQ ts A=t:=⟨_,rfl⟩
 have RA:InR yA:=by rw[←hA];exact hr _ (lF ht.1 (ham A (by simp)))
 obtain⟨gA,oA,jA,eA,fA,lA,cA⟩:=ht.type (ham A (by simp))
 rw[hA]at cA
 have HTA:Hid (∀u,Below (w.heap.size+1) W0 u→u.cell? ⟨gA,oA+jA,none⟩=some (.int .i64 yA)):=hid (fun u hu=>((hw0 u hu).cell (p:=⟨gA,oA+jA,none⟩) (World.block_lt_of_cell? _ _ cA)).trans cA)
 obtain⟨yB,hB⟩:∃ t,aQ ts B=t:=⟨_,rfl⟩
 have RB:InR yB:=by rw[←hB];exact hr _ (lF ht.1 (ham B (by simp)))
 obtain⟨gB,oB,jB,eB,fB,lB,cB⟩:=ht.type (ham B (by simp))
 rw[hB]at cB
 have HTB:Hid (∀u,Below (w.heap.size+1) W0 u→u.cell? ⟨gB,oB+jB,none⟩=some (.int .i64 yB)):=hid (fun u hu=>((hw0 u hu).cell (p:=⟨gB,oB+jB,none⟩) (World.block_lt_of_cell? _ _ cB)).trans cB)
 rw[List.map_cons,List.map_cons,List.map_nil,hA,hB]
 obtain⟨f1,f2,hf⟩:∃ f1 f2,bC P yA N=(f1,f2):=⟨_,_,rfl⟩
 have HFD:Hid (∀u,Below (w.heap.size+1) W0 u→Calls Tryz.prog 133 #[.pointer (some ⟨g,0,none⟩),.int .i64 yA,.int .i64 N] u fun e w'=>e=.returned (.tuple #[.int .i64 f1,.bool f2])∧u=w'):=hid (fun u hu=>by have:=vN g yA N u (HP.out u hu) RA hN;rw[hf]at this;exact this)
 have hrr:(aC P 11 N S [yA,yB]).2=(f2&&(yB==f1)):=by show((bC P yA N).2&&(yB==(bC P yA N).1))=_;rw[hf]
 have HR1:Hid ((aC P 11 N S [yA,yB]).1= -1):=hid rfl
 subst eA
 cases eB
 subst fA fB
 have hx2:=HTA.out W0 H2.out
 have hx3:=HTB.out W0 H2.out
 obtain⟨z0,z1,z2,z3,z4,z5,z6,z7,z8,z9,z10⟩:=HC.out W0 H2.out
 clear hP hat ht ham hw0 hr hA hB cA cB hf
 cases f2 with
 |false=>
  have HR:Hid ((aC P 11 N S [yA,yB]).2=false):=hid (by rw[hrr];rfl)
  clear hrr
  go_enter Tryz.func101,Tryz.ntmps101
  go_wp2_with fail
  rw[←hW0]
  clear hW0
  go_region_held3 (fun u=>u.cell? ⟨w.heap.size,0,none⟩=some (.int .i64 11)∧u.cell? ⟨w.heap.size,1,none⟩=some (.int .i64 (jA:Int))∧u.cell? ⟨w.heap.size,2,none⟩=some (.int .i64 (jB:Int))∧u.cell? ⟨w.heap.size,3,none⟩=some (.int .i64 C)∧u.cell? ⟨w.heap.size,4,none⟩=some (.int .i64 N)∧u.cell? ⟨w.heap.size,5,none⟩=some (.string S)∧u.cell? ⟨w.heap.size,6,none⟩=some (.slice la ln lc)∧u.cell? ⟨w.heap.size,7,none⟩=some (.bool T)∧u.cell? ⟨g,0,none⟩=some (.slice sa sn sc)∧u.cell? ⟨g,1,none⟩=some (.slice ca cn cc)∧u.cell? ⟨g,2,none⟩=some (.slice fa fn fc)∧u.cell? ⟨gA,oA+jA,none⟩=some (.int .i64 yA)∧u.cell? ⟨gA,oA+jB,none⟩=some (.int .i64 yB))
   (exact(by have hx1:=HC.out _ (Hid.out (by assumption));have hy0:=HTA.out _ (Hid.out (by assumption));have hy1:=HTB.out _ (Hid.out (by assumption));exact⟨hx1.1,hx1.2.1,hx1.2.2.1,hx1.2.2.2.1,hx1.2.2.2.2.1,hx1.2.2.2.2.2.1,hx1.2.2.2.2.2.2.1,hx1.2.2.2.2.2.2.2.1,hx1.2.2.2.2.2.2.2.2.1,hx1.2.2.2.2.2.2.2.2.2.1,hx1.2.2.2.2.2.2.2.2.2.2,hy0,hy1⟩))
   (first|(go_at_call 133;(with_reducible refine(HFD.out _ (Hid.out (by assumption))).mono ?_);rintro e w' ⟨rfl,rfl⟩))
  all_goals go_wp2_with fail
  all_goals go_quiet (fail)
  all_goals go_wp2_with fail
  all_goals refine bodyPost_ret (v:=.tuple #[.int .i64 (-1),.bool false]) (by simp[results,Tryz.results101,go_sem]) rfl ⟨-1,by rw[HR.out],fun _=>HR1.out.symm,HW.out _ (by first|exact Hid.out (by assumption)|exact H0.out.drewq _|exact H2.out.drewq _)⟩
 |true=>
  have HR:Hid ((aC P 11 N S [yA,yB]).2=(yB==f1)):=hid (by rw[hrr];rfl)
  clear hrr
  go_enter Tryz.func101,Tryz.ntmps101
  go_wp2_with fail
  rw[←hW0]
  clear hW0
  go_region_held3 (fun u=>u.cell? ⟨w.heap.size,0,none⟩=some (.int .i64 11)∧u.cell? ⟨w.heap.size,1,none⟩=some (.int .i64 (jA:Int))∧u.cell? ⟨w.heap.size,2,none⟩=some (.int .i64 (jB:Int))∧u.cell? ⟨w.heap.size,3,none⟩=some (.int .i64 C)∧u.cell? ⟨w.heap.size,4,none⟩=some (.int .i64 N)∧u.cell? ⟨w.heap.size,5,none⟩=some (.string S)∧u.cell? ⟨w.heap.size,6,none⟩=some (.slice la ln lc)∧u.cell? ⟨w.heap.size,7,none⟩=some (.bool T)∧u.cell? ⟨g,0,none⟩=some (.slice sa sn sc)∧u.cell? ⟨g,1,none⟩=some (.slice ca cn cc)∧u.cell? ⟨g,2,none⟩=some (.slice fa fn fc)∧u.cell? ⟨gA,oA+jA,none⟩=some (.int .i64 yA)∧u.cell? ⟨gA,oA+jB,none⟩=some (.int .i64 yB))
   (exact(by have hx1:=HC.out _ (Hid.out (by assumption));have hy0:=HTA.out _ (Hid.out (by assumption));have hy1:=HTB.out _ (Hid.out (by assumption));exact⟨hx1.1,hx1.2.1,hx1.2.2.1,hx1.2.2.2.1,hx1.2.2.2.2.1,hx1.2.2.2.2.2.1,hx1.2.2.2.2.2.2.1,hx1.2.2.2.2.2.2.2.1,hx1.2.2.2.2.2.2.2.2.1,hx1.2.2.2.2.2.2.2.2.2.1,hx1.2.2.2.2.2.2.2.2.2.2,hy0,hy1⟩))
   (first|(go_at_call 133;(with_reducible refine(HFD.out _ (Hid.out (by assumption))).mono ?_);rintro e w' ⟨rfl,rfl⟩))
  all_goals go_wp2_with fail
  all_goals go_quiet (fail)
  all_goals go_wp2_with fail
  all_goals refine bodyPost_ret (v:=.tuple #[.int .i64 (-1),.bool (yB==f1)]) (by simp[results,Tryz.results101,go_sem]) rfl ⟨-1,by rw[HR.out],fun _=>HR1.out.symm,HW.out _ (by first|exact Hid.out (by assumption)|exact H0.out.drewq _|exact H2.out.drewq _)⟩
theorem decl_22(g:Nat){sa:Option Addr}{sn sc:Nat}{ca:Option Addr}{cn cc:Nat}{fa:Option Addr}{fn fc:Nat}{P:aB}(A B C N:Int)(S:ByteArray)(la:Option Addr)(ln lc:Nat)(T:Bool)(L:List Int)(ta:Option Addr)(tn tc:Nat)(ts:List Int)(w:World)
 (hP:aX w g sa sn sc ca cn cc fa fn fc P)(hat:ai w la ln L)(hln:ln≤17592186044000)(ht:ai w ta tn ts)(htn:tn≤140737488355328)(hr:∀ z∈ts,InR z)(hN:InR N)(ham:Among (aA 22 A B C L) tn):
 Calls Tryz.prog 101 #[.pointer (some ⟨g,0,none⟩),.agg #[.int .i64 22,.int .i64 A,.int .i64 B,.int .i64 C,.int .i64 N,.string S,.slice la ln lc,.bool T],.slice ta tn tc] w (aF (aC P 22 N S ((aA 22 A B C L).map (aQ ts))) w):=by
 have hu:aA 22 A B C L=[A]:=by simp[aA,hasB,av,iF,dA]
 rw[hu]at ham⊢
 obtain⟨W0,hW0⟩:∃ W0,W0=w.alloc (.cells #[.int .i64 22,.int .i64 A,.int .i64 B,.int .i64 C,.int .i64 N,.string S,.slice la ln lc,.bool T] 64):=⟨_,rfl⟩
 have hw0:∀ u,Below (w.heap.size+1) W0 u→Below w.heap.size w u:=fun u hu=>by rw[hW0]at hu;exact bq hu
 have HW:=hid hw0
 have HP:Hid (∀u,Below (w.heap.size+1) W0 u→aX u g sa sn sc ca cn cc fa fn fc P):=hid (fun u hu=>hP.since (hw0 u hu))
 have HT:Hid (∀u,Below (w.heap.size+1) W0 u→ai u ta tn ts):=hid (fun u hu=>ht.since (hw0 u hu))
 have HL:Hid (∀u,Below (w.heap.size+1) W0 u→ai u la ln L):=hid (fun u hu=>hat.since (hw0 u hu))
 have HC:Hid (∀u,Below (w.heap.size+1) W0 u→u.cell? ⟨w.heap.size,0,none⟩=some (.int .i64 22)∧u.cell? ⟨w.heap.size,1,none⟩=some (.int .i64 A)∧u.cell? ⟨w.heap.size,2,none⟩=some (.int .i64 B)∧u.cell? ⟨w.heap.size,3,none⟩=some (.int .i64 C)∧u.cell? ⟨w.heap.size,4,none⟩=some (.int .i64 N)∧u.cell? ⟨w.heap.size,5,none⟩=some (.string S)∧u.cell? ⟨w.heap.size,6,none⟩=some (.slice la ln lc)∧u.cell? ⟨w.heap.size,7,none⟩=some (.bool T)∧u.cell? ⟨g,0,none⟩=some (.slice sa sn sc)∧u.cell? ⟨g,1,none⟩=some (.slice ca cn cc)∧u.cell? ⟨g,2,none⟩=some (.slice fa fn fc)):=
  hid (fun u hu=>by have hp:=HP.out u hu;rw[hW0]at hu;exact⟨ah hu 0 _ rfl,ah hu 1 _ rfl,ah hu 2 _ rfl,ah hu 3 _ rfl,ah hu 4 _ rfl,ah hu 5 _ rfl,ah hu 6 _ rfl,ah hu 7 _ rfl,hp.c0,hp.c1,hp.c2⟩)
 have HZ:Hid (w.heap.size+1≤W0.heap.size):=hid (by rw[hW0];simp)
 have H0:Hid (Below (w.heap.size+1) W0 W0.drew):=hid (Below.refl _ _).drew
 have H1:Hid (Below (w.heap.size+1) W0 W0.drew.drew):=hid (Below.refl _ _).drew.drew
 have H2:Hid (Below (w.heap.size+1) W0 W0):=hid (Below.refl _ _)
 obtain⟨yA,hA⟩:∃ t,aQ ts A=t:=⟨_,rfl⟩
 have RA:InR yA:=by rw[←hA];exact hr _ (lF ht.1 (ham A (by simp)))
 obtain⟨gA,oA,jA,eA,fA,lA,cA⟩:=ht.type (ham A (by simp))
 rw[hA]at cA
 have HTA:Hid (∀u,Below (w.heap.size+1) W0 u→u.cell? ⟨gA,oA+jA,none⟩=some (.int .i64 yA)):=hid (fun u hu=>((hw0 u hu).cell (p:=⟨gA,oA+jA,none⟩) (World.block_lt_of_cell? _ _ cA)).trans cA)
 rw[List.map_cons,List.map_nil,hA]
 have hlc:=hP.c.len
 have HPT:Hid (∀u,Below (w.heap.size+1) W0 u→Calls Tryz.prog 134 #[.pointer (some ⟨g,0,none⟩),.int .i64 yA] u fun e w'=>e=.returned (.bool (Az cn yA))∧u=w'):=hid (fun u hu=>qd g ca cn cc yA u (HP.out u hu).c1 RA (by omega))
 have HR:Hid ((aC P 22 N S [yA]).2=Az cn yA):=hid (by show Az P.classes.length yA=_;rw[hlc.1])
 have HR1:Hid ((aC P 22 N S [yA]).1=5):=hid rfl
 subst eA fA
 have hx1:=HC.out W0 H2.out
 have hx2:=HTA.out W0 H2.out
 have HPT0:=hid (HPT.out W0 H2.out)
 have HBW:=hid (HW.out W0 H2.out)
 rw[hW0]at hx1 hx2 HPT0 HBW
 obtain⟨z0,z1,z2,z3,z4,z5,z6,z7,z8,z9,z10⟩:=hx1
 clear hP hat ht ham hw0 hr hA cA HPT HW HC HTA HP HT HL H0 H1 H2 HZ hW0
 go_enter Tryz.func101,Tryz.ntmps101
 go_wp2_with(go_at_call 134;(with_reducible refine(HPT0.out).mono ?_);rintro e w' ⟨rfl,rfl⟩)
 refine bodyPost_ret (v:=.tuple #[.int .i64 5,.bool (Az cn yA)]) (by simp[results,Tryz.results101,go_sem]) rfl ⟨5,by rw[HR.out],fun _=>HR1.out.symm,HBW.out⟩
theorem decl_23(g:Nat){sa:Option Addr}{sn sc:Nat}{ca:Option Addr}{cn cc:Nat}{fa:Option Addr}{fn fc:Nat}{P:aB}(A B C N:Int)(S:ByteArray)(la:Option Addr)(ln lc:Nat)(T:Bool)(L:List Int)(ta:Option Addr)(tn tc:Nat)(ts:List Int)(w:World)
 (hP:aX w g sa sn sc ca cn cc fa fn fc P)(hat:ai w la ln L)(hln:ln≤17592186044000)(ht:ai w ta tn ts)(htn:tn≤140737488355328)(hr:∀ z∈ts,InR z)(hN:InR N)(ham:Among (aA 23 A B C L) tn):
 Calls Tryz.prog 101 #[.pointer (some ⟨g,0,none⟩),.agg #[.int .i64 23,.int .i64 A,.int .i64 B,.int .i64 C,.int .i64 N,.string S,.slice la ln lc,.bool T],.slice ta tn tc] w (aF (aC P 23 N S ((aA 23 A B C L).map (aQ ts))) w):=by
 have hu:aA 23 A B C L=L:=by simp[aA,hasB,av,iF,dA]
 rw[hu]at ham⊢
 obtain⟨W0,hW0⟩:∃ W0,W0=w.alloc (.cells #[.int .i64 23,.int .i64 A,.int .i64 B,.int .i64 C,.int .i64 N,.string S,.slice la ln lc,.bool T] 64):=⟨_,rfl⟩
 have hw0:∀ u,Below (w.heap.size+1) W0 u→Below w.heap.size w u:=fun u hu=>by rw[hW0]at hu;exact bq hu
 have HW:=hid hw0
 have HP:Hid (∀u,Below (w.heap.size+1) W0 u→aX u g sa sn sc ca cn cc fa fn fc P):=hid (fun u hu=>hP.since (hw0 u hu))
 have HT:Hid (∀u,Below (w.heap.size+1) W0 u→ai u ta tn ts):=hid (fun u hu=>ht.since (hw0 u hu))
 have HL:Hid (∀u,Below (w.heap.size+1) W0 u→ai u la ln L):=hid (fun u hu=>hat.since (hw0 u hu))
 have HC:Hid (∀u,Below (w.heap.size+1) W0 u→u.cell? ⟨w.heap.size,0,none⟩=some (.int .i64 23)∧u.cell? ⟨w.heap.size,1,none⟩=some (.int .i64 A)∧u.cell? ⟨w.heap.size,2,none⟩=some (.int .i64 B)∧u.cell? ⟨w.heap.size,3,none⟩=some (.int .i64 C)∧u.cell? ⟨w.heap.size,4,none⟩=some (.int .i64 N)∧u.cell? ⟨w.heap.size,5,none⟩=some (.string S)∧u.cell? ⟨w.heap.size,6,none⟩=some (.slice la ln lc)∧u.cell? ⟨w.heap.size,7,none⟩=some (.bool T)∧u.cell? ⟨g,0,none⟩=some (.slice sa sn sc)∧u.cell? ⟨g,1,none⟩=some (.slice ca cn cc)∧u.cell? ⟨g,2,none⟩=some (.slice fa fn fc)):=
  hid (fun u hu=>by have hp:=HP.out u hu;rw[hW0]at hu;exact⟨ah hu 0 _ rfl,ah hu 1 _ rfl,ah hu 2 _ rfl,ah hu 3 _ rfl,ah hu 4 _ rfl,ah hu 5 _ rfl,ah hu 6 _ rfl,ah hu 7 _ rfl,hp.c0,hp.c1,hp.c2⟩)
 have HZ:Hid (w.heap.size+1≤W0.heap.size):=hid (by rw[hW0];simp)
 have H0:Hid (Below (w.heap.size+1) W0 W0.drew):=hid (Below.refl _ _).drew
 have H1:Hid (Below (w.heap.size+1) W0 W0.drew.drew):=hid (Below.refl _ _).drew.drew
 have H2:Hid (Below (w.heap.size+1) W0 W0):=hid (Below.refl _ _)
 have hlc:=hP.f.len
 by_cases h:0≤N∧N<(fn:Int)
 ·obtain⟨k,rfl⟩:=Int.eq_ofNat_of_zero_le h.1
  have hk:k<fn:=by omega
  obtain⟨fg,fo,cs,hx,rfl,hcl,hcs,b,rfl,_,hbl⟩:=hP.f.elem hk
  have hb2:=hbl
  obtain⟨ba,bn,bc,rfl,_⟩:=hb2
  have hc0:w.cell? ⟨fg,fo+k*2,none⟩=some (.int .i64 (P.funcs[k]).ret):=hcs 0 (by simp)
  have hc1:w.cell? ⟨fg,fo+k*2+1,none⟩=some (.slice ba bn bc):=hcs 1 (by simp)
  have hfo:funcOf P k=P.funcs[k]:=by unfold funcOf;rw[List.getElem?_eq_getElem hx]
  obtain⟨G,hG⟩:∃ G,P.funcs[k]=G:=⟨_,rfl⟩
  rw[hG]at hbl hfo hc0
  have HCK:Hid (∀u,Below (w.heap.size+1) W0 u→u.cell? ⟨fg,fo+k*2,none⟩=some (.int .i64 G.ret)):=hid (fun u hu=>((hw0 u hu).cell (p:=⟨fg,fo+k*2,none⟩) (World.block_lt_of_cell? _ _ hc0)).trans hc0)
  have HCL:Hid (∀u,Below (w.heap.size+1) W0 u→u.cell? ⟨fg,fo+k*2+1,none⟩=some (.slice ba bn bc)):=hid (fun u hu=>((hw0 u hu).cell (p:=⟨fg,fo+k*2+1,none⟩) (World.block_lt_of_cell? _ _ hc1)).trans hc1)
  have HBL:Hid (∀u,Below (w.heap.size+1) W0 u→gG aM 8 u (.slice ba bn bc) G.blocks):=hid (fun u hu=>hbl.since aM.lasts (hw0 u hu))
  obtain⟨c1,c2,hcc⟩:∃ c1 c2,vV G ts L=(c1,c2):=⟨_,_,rfl⟩
  have HM:Hid (∀u,Below (w.heap.size+1) W0 u→Calls Tryz.prog 135 #[.agg #[.int .i64 G.ret,.slice ba bn bc],.agg #[.int .i64 23,.int .i64 A,.int .i64 B,.int .i64 C,.int .i64 (k:Int),.string S,.slice la ln lc,.bool T],.slice ta tn tc] u fun e w'=>e=.returned (.tuple #[.int .i64 c1,.bool c2])∧Below u.heap.size u w'):=hid (fun u hu=>by have:=GL ba bn bc G 23 A B C (k:Int) S la ln lc T L ta tn tc ts u (HBL.out u hu) (HL.out u hu) hln (HT.out u hu) htn ham;rw[hcc]at this;exact this)
  have HI:=hid (show vE (k:Int) (fn:Int)=true from decide_eq_true h)
  have HRR:Hid (aC P 23 (k:Int) S (L.map (aQ ts))=(c1,c2)):=hid (by
   rw[←hcc]
   show(if 0≤(k:Int)∧(k:Int)<P.funcs.length∧(funcOf P (k:Int).toNat).blocks.length≠0 then((funcOf P (k:Int).toNat).ret,aG (L.map (aQ ts)) (jX (funcOf P (k:Int).toNat)))else(-1,false))=_
   rw[show((k:Int)).toNat=k from rfl,hfo]
   unfold vV
   by_cases hb0:G.blocks.length=0
   ·rw[if_neg (fun hh=>hh.2.2 hb0),if_pos hb0]
   ·rw[if_pos ⟨by omega,by omega,hb0⟩,if_neg hb0]
    rfl)
  have HR:Hid ((aC P 23 (k:Int) S (L.map (aQ ts))).2=c2):=hid (by rw[HRR.out])
  have HR1:Hid ((aC P 23 (k:Int) S (L.map (aQ ts))).1=c1):=hid (by rw[HRR.out])
  clear hcs hbl hP hat ht ham h hc0 hc1 hw0 hG hr hfo hcc
  go_enter Tryz.func101,Tryz.ntmps101
  go_wp2_with fail
  rw[←hW0]
  clear hW0
  go_region_held3 (fun u=>u.cell? ⟨w.heap.size,0,none⟩=some (.int .i64 23)∧u.cell? ⟨w.heap.size,1,none⟩=some (.int .i64 A)∧u.cell? ⟨w.heap.size,2,none⟩=some (.int .i64 B)∧u.cell? ⟨w.heap.size,3,none⟩=some (.int .i64 C)∧u.cell? ⟨w.heap.size,4,none⟩=some (.int .i64 (k:Int))∧u.cell? ⟨w.heap.size,5,none⟩=some (.string S)∧u.cell? ⟨w.heap.size,6,none⟩=some (.slice la ln lc)∧u.cell? ⟨w.heap.size,7,none⟩=some (.bool T)∧u.cell? ⟨g,0,none⟩=some (.slice sa sn sc)∧u.cell? ⟨g,1,none⟩=some (.slice ca cn cc)∧u.cell? ⟨g,2,none⟩=some (.slice (some ⟨fg,fo,none⟩) fn fc))
   (exact HC.out _ (Hid.out (by assumption)))
   (first|(go_at_call 98;(with_reducible refine(eF _ _ _).mono ?_);rintro e w' ⟨rfl,rfl⟩;rw[HI.out]))
  go_wp2_with fail
  go_region_held3 (fun u=>u.cell? ⟨w.heap.size,0,none⟩=some (.int .i64 23)∧u.cell? ⟨w.heap.size,1,none⟩=some (.int .i64 A)∧u.cell? ⟨w.heap.size,2,none⟩=some (.int .i64 B)∧u.cell? ⟨w.heap.size,3,none⟩=some (.int .i64 C)∧u.cell? ⟨w.heap.size,4,none⟩=some (.int .i64 (k:Int))∧u.cell? ⟨w.heap.size,5,none⟩=some (.string S)∧u.cell? ⟨w.heap.size,6,none⟩=some (.slice la ln lc)∧u.cell? ⟨w.heap.size,7,none⟩=some (.bool T)∧u.cell? ⟨g,0,none⟩=some (.slice sa sn sc)∧u.cell? ⟨g,1,none⟩=some (.slice ca cn cc)∧u.cell? ⟨g,2,none⟩=some (.slice (some ⟨fg,fo,none⟩) fn fc)∧u.cell? ⟨fg,fo+k*2,none⟩=some (.int .i64 G.ret)∧u.cell? ⟨fg,fo+k*2+1,none⟩=some (.slice ba bn bc))
   (exact(by have hx1:=HC.out _ (Hid.out (by assumption));have hy0:=HCK.out _ (Hid.out (by assumption));have hy1:=HCL.out _ (Hid.out (by assumption));exact⟨hx1.1,hx1.2.1,hx1.2.2.1,hx1.2.2.2.1,hx1.2.2.2.2.1,hx1.2.2.2.2.2.1,hx1.2.2.2.2.2.2.1,hx1.2.2.2.2.2.2.2.1,hx1.2.2.2.2.2.2.2.2.1,hx1.2.2.2.2.2.2.2.2.2.1,hx1.2.2.2.2.2.2.2.2.2.2,hy0,hy1⟩))
   (first|(go_at_call 135;(with_reducible refine(HM.out _ (Hid.out (by assumption))).mono ?_);rintro e w' ⟨rfl,hb⟩;have HB:=hid (nV (Hid.out (by assumption:Hid (Below (w.heap.size+1) W0 _))) HZ.out hb);clear hb))
  all_goals go_wp2_with fail
  all_goals refine bodyPost_ret (v:=.tuple #[.int .i64 c1,.bool c2]) (by simp[results,Tryz.results101,go_sem]) rfl ⟨c1,by rw[HR.out],fun _=>HR1.out.symm,HW.out _ (by first|exact Hid.out (by assumption)|exact H0.out.drewq _|exact H2.out.drewq _)⟩
 ·have HI:=hid (show vE N (fn:Int)=false from decide_eq_false h)
  have HR:Hid ((aC P 23 N S (L.map (aQ ts))).2=false):=hid (by
   unfold aC
   rw[if_neg (show ¬(23:Int)=0 by decide),if_neg (show ¬(23:Int)=1 by decide),if_neg (show ¬(23:Int)=2 by decide),if_neg (show ¬(23:Int)=3 by decide),if_neg (show ¬(23:Int)=4 by decide),if_neg (show ¬(23:Int)=5 by decide),if_neg (show ¬(23:Int)=6 by decide),if_neg (show ¬(23:Int)=7 by decide),if_neg (show ¬(23:Int)=8 by decide),if_neg (show ¬(23:Int)=9 by decide),if_neg (show ¬(23:Int)=10 by decide),if_neg (show ¬(23:Int)=11 by decide),if_neg (show ¬(23:Int)=12 by decide),if_neg (show ¬(23:Int)=13 by decide),if_neg (show ¬(23:Int)=14 by decide),if_neg (show ¬(23:Int)=15 by decide),if_neg (show ¬(23:Int)=16 by decide),if_neg (show ¬(23:Int)=17 by decide),if_neg (show ¬(23:Int)=18 by decide),if_neg (show ¬(23:Int)=19 by decide),if_neg (show ¬(23:Int)=20 by decide),if_neg (show ¬(23:Int)=21 by decide),if_neg (show ¬(23:Int)=22 by decide),if_pos rfl,if_neg (by omega)]
   skip)
  clear hP hat ht ham h hw0 hr
  go_enter Tryz.func101,Tryz.ntmps101
  go_wp2_with fail
  rw[←hW0]
  clear hW0
  go_region_held3 (fun u=>u.cell? ⟨w.heap.size,0,none⟩=some (.int .i64 23)∧u.cell? ⟨w.heap.size,1,none⟩=some (.int .i64 A)∧u.cell? ⟨w.heap.size,2,none⟩=some (.int .i64 B)∧u.cell? ⟨w.heap.size,3,none⟩=some (.int .i64 C)∧u.cell? ⟨w.heap.size,4,none⟩=some (.int .i64 N)∧u.cell? ⟨w.heap.size,5,none⟩=some (.string S)∧u.cell? ⟨w.heap.size,6,none⟩=some (.slice la ln lc)∧u.cell? ⟨w.heap.size,7,none⟩=some (.bool T)∧u.cell? ⟨g,0,none⟩=some (.slice sa sn sc)∧u.cell? ⟨g,1,none⟩=some (.slice ca cn cc)∧u.cell? ⟨g,2,none⟩=some (.slice fa fn fc))
   (exact HC.out _ (Hid.out (by assumption)))
   (first|(go_at_call 98;(with_reducible refine(eF _ _ _).mono ?_);rintro e w' ⟨rfl,rfl⟩;rw[HI.out]))
  go_wp2_with fail
  refine bodyPost_ret (v:=.tuple #[.int .i64 (-1),.bool false]) (by simp[results,Tryz.results101,go_sem]) rfl ⟨-1,by rw[HR.out],fun h=>(by rw[HR.out]at h;cases h),HW.out _ (by first|exact Hid.out (by assumption)|exact H0.out.drewq _|exact H2.out.drewq _)⟩
set_option maxRecDepth 100000 in
set_option maxHeartbeats 4000000 in
theorem decl_24(g:Nat){sa:Option Addr}{sn sc:Nat}{ca:Option Addr}{cn cc:Nat}{fa:Option Addr}{fn fc:Nat}{P:aB}(A B C N:Int)(S:ByteArray)(la:Option Addr)(ln lc:Nat)(T:Bool)(L:List Int)(ta:Option Addr)(tn tc:Nat)(ts:List Int)(w:World)
 (hP:aX w g sa sn sc ca cn cc fa fn fc P)(hat:ai w la ln L)(hln:ln≤17592186044000)(ht:ai w ta tn ts)(htn:tn≤140737488355328)(hr:∀ z∈ts,InR z)(hN:InR N)(ham:Among (aA 24 A B C L) tn):
 Calls Tryz.prog 101 #[.pointer (some ⟨g,0,none⟩),.agg #[.int .i64 24,.int .i64 A,.int .i64 B,.int .i64 C,.int .i64 N,.string S,.slice la ln lc,.bool T],.slice ta tn tc] w (aF (aC P 24 N S ((aA 24 A B C L).map (aQ ts))) w):=by
 have hu:aA 24 A B C L=A::L:=by simp[aA,hasB,av,iF,dA]
 rw[hu]at ham⊢
 obtain⟨W0,hW0⟩:∃ W0,W0=w.alloc (.cells #[.int .i64 24,.int .i64 A,.int .i64 B,.int .i64 C,.int .i64 N,.string S,.slice la ln lc,.bool T] 64):=⟨_,rfl⟩
 have hw0:∀ u,Below (w.heap.size+1) W0 u→Below w.heap.size w u:=fun u hu=>by rw[hW0]at hu;exact bq hu
 have HW:=hid hw0
 have HP:Hid (∀u,Below (w.heap.size+1) W0 u→aX u g sa sn sc ca cn cc fa fn fc P):=hid (fun u hu=>hP.since (hw0 u hu))
 have HT:Hid (∀u,Below (w.heap.size+1) W0 u→ai u ta tn ts):=hid (fun u hu=>ht.since (hw0 u hu))
 have HL:Hid (∀u,Below (w.heap.size+1) W0 u→ai u la ln L):=hid (fun u hu=>hat.since (hw0 u hu))
 have HC:Hid (∀u,Below (w.heap.size+1) W0 u→u.cell? ⟨w.heap.size,0,none⟩=some (.int .i64 24)∧u.cell? ⟨w.heap.size,1,none⟩=some (.int .i64 A)∧u.cell? ⟨w.heap.size,2,none⟩=some (.int .i64 B)∧u.cell? ⟨w.heap.size,3,none⟩=some (.int .i64 C)∧u.cell? ⟨w.heap.size,4,none⟩=some (.int .i64 N)∧u.cell? ⟨w.heap.size,5,none⟩=some (.string S)∧u.cell? ⟨w.heap.size,6,none⟩=some (.slice la ln lc)∧u.cell? ⟨w.heap.size,7,none⟩=some (.bool T)∧u.cell? ⟨g,0,none⟩=some (.slice sa sn sc)∧u.cell? ⟨g,1,none⟩=some (.slice ca cn cc)∧u.cell? ⟨g,2,none⟩=some (.slice fa fn fc)):=
  hid (fun u hu=>by have hp:=HP.out u hu;rw[hW0]at hu;exact⟨ah hu 0 _ rfl,ah hu 1 _ rfl,ah hu 2 _ rfl,ah hu 3 _ rfl,ah hu 4 _ rfl,ah hu 5 _ rfl,ah hu 6 _ rfl,ah hu 7 _ rfl,hp.c0,hp.c1,hp.c2⟩)
 have HZ:Hid (w.heap.size+1≤W0.heap.size):=hid (by rw[hW0];simp)
 have H0:Hid (Below (w.heap.size+1) W0 W0.drew):=hid (Below.refl _ _).drew
 have H1:Hid (Below (w.heap.size+1) W0 W0.drew.drew):=hid (Below.refl _ _).drew.drew
 have H2:Hid (Below (w.heap.size+1) W0 W0):=hid (Below.refl _ _)
 obtain⟨yA,hA⟩:∃ t,aQ ts A=t:=⟨_,rfl⟩
 have RA:InR yA:=by rw[←hA];exact hr _ (lF ht.1 (ham A (by simp)))
 obtain⟨gA,oA,jA,eA,fA,lA,cA⟩:=ht.type (ham A (by simp))
 rw[hA]at cA
 have HTA:Hid (∀u,Below (w.heap.size+1) W0 u→u.cell? ⟨gA,oA+jA,none⟩=some (.int .i64 yA)):=hid (fun u hu=>((hw0 u hu).cell (p:=⟨gA,oA+jA,none⟩) (World.block_lt_of_cell? _ _ cA)).trans cA)
 rw[List.map_cons,hA]
 have hlc:=hP.s.len
 have haL:Among L tn:=fun v hv=>ham v (List.mem_cons_of_mem _ hv)
 by_cases h:0≤N∧N<(sn:Int)
 ·obtain⟨k,rfl⟩:=Int.eq_ofNat_of_zero_le h.1
  have hk:k<sn:=by omega
  obtain⟨sg,so,cs,hx,rfl,hcl,hcs,p,rfl,⟨pa,pn,pc,rfl,hpa,_,hpb,_⟩,_⟩:=hP.s.elem hk
  have hc0:w.cell? ⟨sg,so+k*2,none⟩=some (.slice pa pn pc):=hcs 0 (by simp)
  have hc1:w.cell? ⟨sg,so+k*2+1,none⟩=some (.int .i64 (P.sigs[k]).ret):=hcs 1 (by simp)
  have hfo:iw P k=P.sigs[k]:=by unfold iw;rw[List.getElem?_eq_getElem hx]
  obtain⟨G,hG⟩:∃ G,P.sigs[k]=G:=⟨_,rfl⟩
  rw[hG]at hpa hfo hc1
  have HCK:Hid (∀u,Below (w.heap.size+1) W0 u→u.cell? ⟨sg,so+k*2,none⟩=some (.slice pa pn pc)):=hid (fun u hu=>((hw0 u hu).cell (p:=⟨sg,so+k*2,none⟩) (World.block_lt_of_cell? _ _ hc0)).trans hc0)
  have HCL:Hid (∀u,Below (w.heap.size+1) W0 u→u.cell? ⟨sg,so+k*2+1,none⟩=some (.int .i64 G.ret)):=hid (fun u hu=>((hw0 u hu).cell (p:=⟨sg,so+k*2+1,none⟩) (World.block_lt_of_cell? _ _ hc1)).trans hc1)
  have HF:Hid (∀u,Below (w.heap.size+1) W0 u→ai u pa pn G.params):=hid (fun u hu=>hpa.since (hw0 u hu))
  have HM:=hid (fun u hu=>ql ta tn tc ts la ln lc L pa pn pc G.params u (HT.out u hu) (HL.out u hu) (HF.out u hu) haL (by omega) (by omega) htn)
  have HI:=hid (show vE (k:Int) (sn:Int)=true from decide_eq_true h)
  have HRR:Hid (aC P 24 (k:Int) S (yA::L.map (aQ ts))=(G.ret,(yA==5)&&iB ts L G.params)):=hid (by
   show(if 0≤(k:Int)∧(k:Int)<P.sigs.length then((iw P (k:Int).toNat).ret,nth (yA::L.map (aQ ts)) 0==5&&aG ((yA::L.map (aQ ts)).drop 1) (iw P (k:Int).toNat).params)else(-1,false))=_
   rw[if_pos (by omega),show((k:Int)).toNat=k from rfl,hfo]
   rfl)
  have hrr:(aC P 24 (k:Int) S (yA::L.map (aQ ts))).2=((yA==5)&&iB ts L G.params):=by rw[HRR.out]
  have HR1:Hid ((aC P 24 (k:Int) S (yA::L.map (aQ ts))).1=G.ret):=hid (by rw[HRR.out])
  subst fA
  have HEA:=hid eA
  subst eA
  clear hcs hpa hP hat ht ham h hc0 hc1 hw0 hG hr hfo haL hA cA HRR
  have hx1:=HC.out W0 H2.out
  have hx2:=HTA.out W0 H2.out
  have hx3:=HCK.out W0 H2.out
  have hx4:=HCL.out W0 H2.out
  obtain⟨z0,z1,z2,z3,z4,z5,z6,z7,z8,z9,z10⟩:=hx1
  have HZS:=hid (fun(C0:Array Value) t0=>H2.out.alloc HZ.out (.cells C0 t0))
  have hv1:=HC.out _ (HZS.out #[.slice none 0 0,.int .i64 0] 60)
  have hv2:=HTA.out _ (HZS.out #[.slice none 0 0,.int .i64 0] 60)
  have hv3:=HCK.out _ (HZS.out #[.slice none 0 0,.int .i64 0] 60)
  have hv4:=HCL.out _ (HZS.out #[.slice none 0 0,.int .i64 0] 60)
  obtain⟨u0,u1,u2,u3,u4,u5,u6,u7,u8,u9,u10⟩:=hv1
  have hs1:=HC.out _ (HZS.out #[.slice pa pn pc,.int .i64 G.ret] 60)
  have hs2:=HTA.out _ (HZS.out #[.slice pa pn pc,.int .i64 G.ret] 60)
  obtain⟨v0,v1,v2,v3,v4,v5,v6,v7,v8,v9,v10⟩:=hs1
  have H3:=hid (HZS.out #[.slice pa pn pc,.int .i64 G.ret] 60).drew.drew.drew
  have H4:=hid (HZS.out #[.slice pa pn pc,.int .i64 G.ret] 60).drew.drew
  cases h5:(yA==5)with
  |false=>
   have HR:Hid ((aC P 24 (k:Int) S (yA::L.map (aQ ts))).2=false):=hid (by rw[hrr,h5];rfl)
   clear hrr
   go_enter Tryz.func101,Tryz.ntmps101
   go_wp2_with fail
   rw[←hW0]
   clear hW0
   go_region_held3 (fun u=>u.cell? ⟨w.heap.size,0,none⟩=some (.int .i64 24)∧u.cell? ⟨w.heap.size,1,none⟩=some (.int .i64 (jA:Int))∧u.cell? ⟨w.heap.size,2,none⟩=some (.int .i64 B)∧u.cell? ⟨w.heap.size,3,none⟩=some (.int .i64 C)∧u.cell? ⟨w.heap.size,4,none⟩=some (.int .i64 (k:Int))∧u.cell? ⟨w.heap.size,5,none⟩=some (.string S)∧u.cell? ⟨w.heap.size,6,none⟩=some (.slice la ln lc)∧u.cell? ⟨w.heap.size,7,none⟩=some (.bool T)∧u.cell? ⟨g,0,none⟩=some (.slice (some ⟨sg,so,none⟩) sn sc)∧u.cell? ⟨g,1,none⟩=some (.slice ca cn cc)∧u.cell? ⟨g,2,none⟩=some (.slice fa fn fc))
    (exact HC.out _ (Hid.out (by assumption)))
    (first|(go_at_call 98;(with_reducible refine(eF _ _ _).mono ?_);rintro e w' ⟨rfl,rfl⟩;rw[HI.out]))
   go_wp2_with fail
   go_region
   go_wp2_with fail
   go_quiet (fail)
   go_wp2_with fail
   refine bodyPost_ret (v:=.tuple #[.int .i64 G.ret,.bool false]) (by simp[results,Tryz.results101,go_sem]) rfl ⟨G.ret,by rw[HR.out],fun _=>HR1.out.symm,HW.out _ (by first|exact Hid.out (by assumption)|exact H0.out.drewq _|exact H2.out.drewq _|exact H4.out.drewq _)⟩
  |true=>
   have HR:Hid ((aC P 24 (k:Int) S (yA::L.map (aQ ts))).2=iB ts L G.params):=hid (by rw[hrr,h5];rfl)
   clear hrr
   go_enter Tryz.func101,Tryz.ntmps101
   go_wp2_with fail
   rw[←hW0]
   clear hW0
   go_region_held3 (fun u=>u.cell? ⟨w.heap.size,0,none⟩=some (.int .i64 24)∧u.cell? ⟨w.heap.size,1,none⟩=some (.int .i64 (jA:Int))∧u.cell? ⟨w.heap.size,2,none⟩=some (.int .i64 B)∧u.cell? ⟨w.heap.size,3,none⟩=some (.int .i64 C)∧u.cell? ⟨w.heap.size,4,none⟩=some (.int .i64 (k:Int))∧u.cell? ⟨w.heap.size,5,none⟩=some (.string S)∧u.cell? ⟨w.heap.size,6,none⟩=some (.slice la ln lc)∧u.cell? ⟨w.heap.size,7,none⟩=some (.bool T)∧u.cell? ⟨g,0,none⟩=some (.slice (some ⟨sg,so,none⟩) sn sc)∧u.cell? ⟨g,1,none⟩=some (.slice ca cn cc)∧u.cell? ⟨g,2,none⟩=some (.slice fa fn fc))
    (exact HC.out _ (Hid.out (by assumption)))
    (first|(go_at_call 98;(with_reducible refine(eF _ _ _).mono ?_);rintro e w' ⟨rfl,rfl⟩;rw[HI.out]))
   go_wp2_with fail
   go_region
   go_wp2_with fail
   go_region_with (go_at_call 132;(refine(HM.out _ H3.out).mono ?_);rintro e w' ⟨rfl,hb⟩;have hq1:w'.cell? ⟨W0.heap.size,1,none⟩=some (.int .i64 G.ret):=(hb.cell (p:=⟨W0.heap.size,1,none⟩) (by show W0.heap.size<(W0.alloc _).heap.size;simp)).trans (World.cell?_alloc_mark _ _ _ _ _);have HB:=hid (nV H3.out HZ.out hb);clear hb)
   all_goals go_wp2_with fail
   all_goals refine bodyPost_ret (v:=.tuple #[.int .i64 G.ret,.bool (iB ts L G.params)]) (by simp[results,Tryz.results101,go_sem]) rfl ⟨G.ret,by rw[HR.out],fun _=>HR1.out.symm,HW.out _ (by first|exact Hid.out (by assumption)|exact H0.out.drewq _|exact H2.out.drewq _)⟩
 ·have HI:=hid (show vE N (sn:Int)=false from decide_eq_false h)
  have HR:Hid ((aC P 24 N S (yA::L.map (aQ ts))).2=false):=hid (by
   unfold aC
   rw[if_neg (show ¬(24:Int)=0 by decide),if_neg (show ¬(24:Int)=1 by decide),if_neg (show ¬(24:Int)=2 by decide),if_neg (show ¬(24:Int)=3 by decide),if_neg (show ¬(24:Int)=4 by decide),if_neg (show ¬(24:Int)=5 by decide),if_neg (show ¬(24:Int)=6 by decide),if_neg (show ¬(24:Int)=7 by decide),if_neg (show ¬(24:Int)=8 by decide),if_neg (show ¬(24:Int)=9 by decide),if_neg (show ¬(24:Int)=10 by decide),if_neg (show ¬(24:Int)=11 by decide),if_neg (show ¬(24:Int)=12 by decide),if_neg (show ¬(24:Int)=13 by decide),if_neg (show ¬(24:Int)=14 by decide),if_neg (show ¬(24:Int)=15 by decide),if_neg (show ¬(24:Int)=16 by decide),if_neg (show ¬(24:Int)=17 by decide),if_neg (show ¬(24:Int)=18 by decide),if_neg (show ¬(24:Int)=19 by decide),if_neg (show ¬(24:Int)=20 by decide),if_neg (show ¬(24:Int)=21 by decide),if_neg (show ¬(24:Int)=22 by decide),if_neg (show ¬(24:Int)=23 by decide),if_pos rfl,if_neg (by omega)]
   skip)
  clear hP hat ht ham h hw0 hr fA eA cA hA haL
  go_enter Tryz.func101,Tryz.ntmps101
  go_wp2_with fail
  rw[←hW0]
  clear hW0
  go_region_held3 (fun u=>u.cell? ⟨w.heap.size,0,none⟩=some (.int .i64 24)∧u.cell? ⟨w.heap.size,1,none⟩=some (.int .i64 A)∧u.cell? ⟨w.heap.size,2,none⟩=some (.int .i64 B)∧u.cell? ⟨w.heap.size,3,none⟩=some (.int .i64 C)∧u.cell? ⟨w.heap.size,4,none⟩=some (.int .i64 N)∧u.cell? ⟨w.heap.size,5,none⟩=some (.string S)∧u.cell? ⟨w.heap.size,6,none⟩=some (.slice la ln lc)∧u.cell? ⟨w.heap.size,7,none⟩=some (.bool T)∧u.cell? ⟨g,0,none⟩=some (.slice sa sn sc)∧u.cell? ⟨g,1,none⟩=some (.slice ca cn cc)∧u.cell? ⟨g,2,none⟩=some (.slice fa fn fc))
   (exact HC.out _ (Hid.out (by assumption)))
   (first|(go_at_call 98;(with_reducible refine(eF _ _ _).mono ?_);rintro e w' ⟨rfl,rfl⟩;rw[HI.out]))
  go_wp2_with fail
  refine bodyPost_ret (v:=.tuple #[.int .i64 (-1),.bool false]) (by simp[results,Tryz.results101,go_sem]) rfl ⟨-1,by rw[HR.out],fun h=>(by rw[HR.out]at h;cases h),HW.out _ (by first|exact Hid.out (by assumption)|exact H0.out.drewq _|exact H2.out.drewq _)⟩
theorem Di{P:aB}{K N:Int}{S:ByteArray}{l:List Int}(h:K<0∨25<K):aC P K N S l=(-1,false):=by
 unfold aC
 repeat rw[if_neg (by omega)]
theorem EF(g:Nat){sa:Option Addr}{sn sc:Nat}{ca:Option Addr}{cn cc:Nat}{fa:Option Addr}{fn fc:Nat}{P:aB}(K:Int)(h:K<0∨25<K)(A B C N:Int)(S:ByteArray)(la:Option Addr)(ln lc:Nat)(T:Bool)(L:List Int)(ta:Option Addr)(tn tc:Nat)(ts:List Int)(w:World)
 (hP:aX w g sa sn sc ca cn cc fa fn fc P)(hat:ai w la ln L)(hln:ln≤17592186044000)(ht:ai w ta tn ts)(htn:tn≤140737488355328)(hr:∀ z∈ts,InR z)(hN:InR N)(ham:Among (aA K A B C L) tn):
 Calls Tryz.prog 101 #[.pointer (some ⟨g,0,none⟩),.agg #[.int .i64 K,.int .i64 A,.int .i64 B,.int .i64 C,.int .i64 N,.string S,.slice la ln lc,.bool T],.slice ta tn tc] w (aF (aC P K N S ((aA K A B C L).map (aQ ts))) w):=by
 rw[Di h]
 clear hP hat ht ham hr hN
 rcases h with h|h
 all_goals
  go_enter Tryz.func101,Tryz.ntmps101
  go_wp2
  exact bodyPost_ret (v:=.tuple #[.int .i64 (-1),.bool false]) (by simp[results,Tryz.results101,go_sem]) rfl ⟨-1,rfl,(fun h=>by cases h),bD _ _ _⟩
theorem row_9(g:Nat){sa:Option Addr}{sn sc:Nat}{ca:Option Addr}{cn cc:Nat}{fa:Option Addr}{fn fc:Nat}{P:aB}(A B C N:Int)(S:ByteArray)(la:Option Addr)(ln lc:Nat)(T:Bool)(L:List Int)(ta:Option Addr)(tn tc:Nat)(ts:List Int)(w:World)
 (hP:aX w g sa sn sc ca cn cc fa fn fc P)(hat:ai w la ln L)(hln:ln≤17592186044000)(ht:ai w ta tn ts)(htn:tn≤140737488355328)(hr:∀ z∈ts,InR z)(hN:InR N)(ham:Among (aA 9 A B C L) tn):
 Calls Tryz.prog 68 #[.pointer (some ⟨g,0,none⟩),.agg #[.int .i64 9,.int .i64 A,.int .i64 B,.int .i64 C,.int .i64 N,.string S,.slice la ln lc,.bool T],.slice ta tn tc] w (aF (aC P 9 N S ((aA 9 A B C L).map (aQ ts))) w):=by
 have HD:=hid (decl_9 g A B C N S la ln lc T L ta tn tc ts (w.alloc (.cells #[.int .i64 9,.int .i64 A,.int .i64 B,.int .i64 C,.int .i64 N,.string S,.slice la ln lc,.bool T] 64)) (hP.since (bD _ _ _)) (hat.since (bD _ _ _)) hln (ht.since (bD _ _ _)) htn hr hN ham)
 clear hP hat ht ham hr hN
 go_enter Tryz.func68,Tryz.ntmps68
 go_wp2_with(go_at_call 101;(with_reducible refine(HD.out).mono ?_);rintro e w' ⟨t,rfl,hx,hb⟩)
 exact bodyPost_ret (v:=.tuple #[.int .i64 t,.bool _]) (by simp[results,Tryz.results68,go_sem]) rfl ⟨t,rfl,hx,(bD _ _ _).trans (hb.mono (by simp))⟩
theorem row_10(g:Nat){sa:Option Addr}{sn sc:Nat}{ca:Option Addr}{cn cc:Nat}{fa:Option Addr}{fn fc:Nat}{P:aB}(A B C N:Int)(S:ByteArray)(la:Option Addr)(ln lc:Nat)(T:Bool)(L:List Int)(ta:Option Addr)(tn tc:Nat)(ts:List Int)(w:World)
 (hP:aX w g sa sn sc ca cn cc fa fn fc P)(hat:ai w la ln L)(hln:ln≤17592186044000)(ht:ai w ta tn ts)(htn:tn≤140737488355328)(hr:∀ z∈ts,InR z)(hN:InR N)(ham:Among (aA 10 A B C L) tn):
 Calls Tryz.prog 68 #[.pointer (some ⟨g,0,none⟩),.agg #[.int .i64 10,.int .i64 A,.int .i64 B,.int .i64 C,.int .i64 N,.string S,.slice la ln lc,.bool T],.slice ta tn tc] w (aF (aC P 10 N S ((aA 10 A B C L).map (aQ ts))) w):=by
 have HD:=hid (decl_10 g A B C N S la ln lc T L ta tn tc ts (w.alloc (.cells #[.int .i64 10,.int .i64 A,.int .i64 B,.int .i64 C,.int .i64 N,.string S,.slice la ln lc,.bool T] 64)) (hP.since (bD _ _ _)) (hat.since (bD _ _ _)) hln (ht.since (bD _ _ _)) htn hr hN ham)
 clear hP hat ht ham hr hN
 go_enter Tryz.func68,Tryz.ntmps68
 go_wp2_with(go_at_call 101;(with_reducible refine(HD.out).mono ?_);rintro e w' ⟨t,rfl,hx,hb⟩)
 exact bodyPost_ret (v:=.tuple #[.int .i64 t,.bool _]) (by simp[results,Tryz.results68,go_sem]) rfl ⟨t,rfl,hx,(bD _ _ _).trans (hb.mono (by simp))⟩
theorem row_11(g:Nat){sa:Option Addr}{sn sc:Nat}{ca:Option Addr}{cn cc:Nat}{fa:Option Addr}{fn fc:Nat}{P:aB}(A B C N:Int)(S:ByteArray)(la:Option Addr)(ln lc:Nat)(T:Bool)(L:List Int)(ta:Option Addr)(tn tc:Nat)(ts:List Int)(w:World)
 (hP:aX w g sa sn sc ca cn cc fa fn fc P)(hat:ai w la ln L)(hln:ln≤17592186044000)(ht:ai w ta tn ts)(htn:tn≤140737488355328)(hr:∀ z∈ts,InR z)(hN:InR N)(ham:Among (aA 11 A B C L) tn):
 Calls Tryz.prog 68 #[.pointer (some ⟨g,0,none⟩),.agg #[.int .i64 11,.int .i64 A,.int .i64 B,.int .i64 C,.int .i64 N,.string S,.slice la ln lc,.bool T],.slice ta tn tc] w (aF (aC P 11 N S ((aA 11 A B C L).map (aQ ts))) w):=by
 have HD:=hid (decl_11 g A B C N S la ln lc T L ta tn tc ts (w.alloc (.cells #[.int .i64 11,.int .i64 A,.int .i64 B,.int .i64 C,.int .i64 N,.string S,.slice la ln lc,.bool T] 64)) (hP.since (bD _ _ _)) (hat.since (bD _ _ _)) hln (ht.since (bD _ _ _)) htn hr hN ham)
 clear hP hat ht ham hr hN
 go_enter Tryz.func68,Tryz.ntmps68
 go_wp2_with(go_at_call 101;(with_reducible refine(HD.out).mono ?_);rintro e w' ⟨t,rfl,hx,hb⟩)
 exact bodyPost_ret (v:=.tuple #[.int .i64 t,.bool _]) (by simp[results,Tryz.results68,go_sem]) rfl ⟨t,rfl,hx,(bD _ _ _).trans (hb.mono (by simp))⟩
theorem row_22(g:Nat){sa:Option Addr}{sn sc:Nat}{ca:Option Addr}{cn cc:Nat}{fa:Option Addr}{fn fc:Nat}{P:aB}(A B C N:Int)(S:ByteArray)(la:Option Addr)(ln lc:Nat)(T:Bool)(L:List Int)(ta:Option Addr)(tn tc:Nat)(ts:List Int)(w:World)
 (hP:aX w g sa sn sc ca cn cc fa fn fc P)(hat:ai w la ln L)(hln:ln≤17592186044000)(ht:ai w ta tn ts)(htn:tn≤140737488355328)(hr:∀ z∈ts,InR z)(hN:InR N)(ham:Among (aA 22 A B C L) tn):
 Calls Tryz.prog 68 #[.pointer (some ⟨g,0,none⟩),.agg #[.int .i64 22,.int .i64 A,.int .i64 B,.int .i64 C,.int .i64 N,.string S,.slice la ln lc,.bool T],.slice ta tn tc] w (aF (aC P 22 N S ((aA 22 A B C L).map (aQ ts))) w):=by
 have HD:=hid (decl_22 g A B C N S la ln lc T L ta tn tc ts (w.alloc (.cells #[.int .i64 22,.int .i64 A,.int .i64 B,.int .i64 C,.int .i64 N,.string S,.slice la ln lc,.bool T] 64)) (hP.since (bD _ _ _)) (hat.since (bD _ _ _)) hln (ht.since (bD _ _ _)) htn hr hN ham)
 clear hP hat ht ham hr hN
 go_enter Tryz.func68,Tryz.ntmps68
 go_wp2_with(go_at_call 101;(with_reducible refine(HD.out).mono ?_);rintro e w' ⟨t,rfl,hx,hb⟩)
 exact bodyPost_ret (v:=.tuple #[.int .i64 t,.bool _]) (by simp[results,Tryz.results68,go_sem]) rfl ⟨t,rfl,hx,(bD _ _ _).trans (hb.mono (by simp))⟩
theorem row_23(g:Nat){sa:Option Addr}{sn sc:Nat}{ca:Option Addr}{cn cc:Nat}{fa:Option Addr}{fn fc:Nat}{P:aB}(A B C N:Int)(S:ByteArray)(la:Option Addr)(ln lc:Nat)(T:Bool)(L:List Int)(ta:Option Addr)(tn tc:Nat)(ts:List Int)(w:World)
 (hP:aX w g sa sn sc ca cn cc fa fn fc P)(hat:ai w la ln L)(hln:ln≤17592186044000)(ht:ai w ta tn ts)(htn:tn≤140737488355328)(hr:∀ z∈ts,InR z)(hN:InR N)(ham:Among (aA 23 A B C L) tn):
 Calls Tryz.prog 68 #[.pointer (some ⟨g,0,none⟩),.agg #[.int .i64 23,.int .i64 A,.int .i64 B,.int .i64 C,.int .i64 N,.string S,.slice la ln lc,.bool T],.slice ta tn tc] w (aF (aC P 23 N S ((aA 23 A B C L).map (aQ ts))) w):=by
 have HD:=hid (decl_23 g A B C N S la ln lc T L ta tn tc ts (w.alloc (.cells #[.int .i64 23,.int .i64 A,.int .i64 B,.int .i64 C,.int .i64 N,.string S,.slice la ln lc,.bool T] 64)) (hP.since (bD _ _ _)) (hat.since (bD _ _ _)) hln (ht.since (bD _ _ _)) htn hr hN ham)
 clear hP hat ht ham hr hN
 go_enter Tryz.func68,Tryz.ntmps68
 go_wp2_with(go_at_call 101;(with_reducible refine(HD.out).mono ?_);rintro e w' ⟨t,rfl,hx,hb⟩)
 exact bodyPost_ret (v:=.tuple #[.int .i64 t,.bool _]) (by simp[results,Tryz.results68,go_sem]) rfl ⟨t,rfl,hx,(bD _ _ _).trans (hb.mono (by simp))⟩
theorem row_24(g:Nat){sa:Option Addr}{sn sc:Nat}{ca:Option Addr}{cn cc:Nat}{fa:Option Addr}{fn fc:Nat}{P:aB}(A B C N:Int)(S:ByteArray)(la:Option Addr)(ln lc:Nat)(T:Bool)(L:List Int)(ta:Option Addr)(tn tc:Nat)(ts:List Int)(w:World)
 (hP:aX w g sa sn sc ca cn cc fa fn fc P)(hat:ai w la ln L)(hln:ln≤17592186044000)(ht:ai w ta tn ts)(htn:tn≤140737488355328)(hr:∀ z∈ts,InR z)(hN:InR N)(ham:Among (aA 24 A B C L) tn):
 Calls Tryz.prog 68 #[.pointer (some ⟨g,0,none⟩),.agg #[.int .i64 24,.int .i64 A,.int .i64 B,.int .i64 C,.int .i64 N,.string S,.slice la ln lc,.bool T],.slice ta tn tc] w (aF (aC P 24 N S ((aA 24 A B C L).map (aQ ts))) w):=by
 have HD:=hid (decl_24 g A B C N S la ln lc T L ta tn tc ts (w.alloc (.cells #[.int .i64 24,.int .i64 A,.int .i64 B,.int .i64 C,.int .i64 N,.string S,.slice la ln lc,.bool T] 64)) (hP.since (bD _ _ _)) (hat.since (bD _ _ _)) hln (ht.since (bD _ _ _)) htn hr hN ham)
 clear hP hat ht ham hr hN
 go_enter Tryz.func68,Tryz.ntmps68
 go_wp2_with(go_at_call 101;(with_reducible refine(HD.out).mono ?_);rintro e w' ⟨t,rfl,hx,hb⟩)
 exact bodyPost_ret (v:=.tuple #[.int .i64 t,.bool _]) (by simp[results,Tryz.results68,go_sem]) rfl ⟨t,rfl,hx,(bD _ _ _).trans (hb.mono (by simp))⟩
theorem FP(g:Nat){sa:Option Addr}{sn sc:Nat}{ca:Option Addr}{cn cc:Nat}{fa:Option Addr}{fn fc:Nat}{P:aB}(K:Int)(h:K<0∨25<K)(A B C N:Int)(S:ByteArray)(la:Option Addr)(ln lc:Nat)(T:Bool)(L:List Int)(ta:Option Addr)(tn tc:Nat)(ts:List Int)(w:World)
 (hP:aX w g sa sn sc ca cn cc fa fn fc P)(hat:ai w la ln L)(hln:ln≤17592186044000)(ht:ai w ta tn ts)(htn:tn≤140737488355328)(hr:∀ z∈ts,InR z)(hN:InR N)(ham:Among (aA K A B C L) tn):
 Calls Tryz.prog 68 #[.pointer (some ⟨g,0,none⟩),.agg #[.int .i64 K,.int .i64 A,.int .i64 B,.int .i64 C,.int .i64 N,.string S,.slice la ln lc,.bool T],.slice ta tn tc] w (aF (aC P K N S ((aA K A B C L).map (aQ ts))) w):=by
 have HD:=hid (EF g K h A B C N S la ln lc T L ta tn tc ts (w.alloc (.cells #[.int .i64 K,.int .i64 A,.int .i64 B,.int .i64 C,.int .i64 N,.string S,.slice la ln lc,.bool T] 64)) (hP.since (bD _ _ _)) (hat.since (bD _ _ _)) hln (ht.since (bD _ _ _)) htn hr hN ham)
 clear hP hat ht ham hr hN
 rcases h with h|h
 all_goals
  go_enter Tryz.func68,Tryz.ntmps68
  go_wp2_with(go_at_call 101;(with_reducible refine(HD.out).mono ?_);rintro e w' ⟨t,rfl,hx,hb⟩)
  exact bodyPost_ret (v:=.tuple #[.int .i64 t,.bool _]) (by simp[results,Tryz.results68,go_sem]) rfl ⟨t,rfl,hx,(bD _ _ _).trans (hb.mono (by simp))⟩
theorem row_any(g:Nat){sa:Option Addr}{sn sc:Nat}{ca:Option Addr}{cn cc:Nat}{fa:Option Addr}{fn fc:Nat}{P:aB}(K:Int)(A B C N:Int)(S:ByteArray)(la:Option Addr)(ln lc:Nat)(T:Bool)(L:List Int)(ta:Option Addr)(tn tc:Nat)(ts:List Int)(w:World)
 (hP:aX w g sa sn sc ca cn cc fa fn fc P)(hat:ai w la ln L)(hln:ln≤17592186044000)(ht:ai w ta tn ts)(htn:tn≤140737488355328)(hr:∀ z∈ts,InR z)(hN:InR N)(ham:Among (aA K A B C L) tn):
 Calls Tryz.prog 68 #[.pointer (some ⟨g,0,none⟩),.agg #[.int .i64 K,.int .i64 A,.int .i64 B,.int .i64 C,.int .i64 N,.string S,.slice la ln lc,.bool T],.slice ta tn tc] w (aF (aC P K N S ((aA K A B C L).map (aQ ts))) w):=by
 rcases kinds K with h|h
 ·rcases h with rfl|rfl|rfl|rfl|rfl|rfl|rfl|rfl|rfl|rfl|rfl|rfl|rfl|rfl|rfl|rfl|rfl|rfl|rfl|rfl|rfl|rfl|rfl|rfl|rfl|rfl
  ·exact row_0 _ P A B C N S la ln lc T L ta tn tc ts w ht htn ham
  ·exact row_1 _ P A B C N S la ln lc T L ta tn tc ts w ht htn ham
  ·exact row_2 _ P A B C N S la ln lc T L ta tn tc ts w ht htn ham
  ·exact row_3 _ P A B C N S la ln lc T L ta tn tc ts w ht htn ham
  ·exact row_4 _ P A B C N S la ln lc T L ta tn tc ts w ht htn ham
  ·exact row_5 _ P A B C N S la ln lc T L ta tn tc ts w ht htn ham
  ·exact row_6 _ P A B C N S la ln lc T L ta tn tc ts w ht htn ham
  ·exact row_7 _ P A B C N S la ln lc T L ta tn tc ts w ht htn ham
  ·exact row_8 _ P A B C N S la ln lc T L ta tn tc ts w ht htn ham
  ·exact row_9 g A B C N S la ln lc T L ta tn tc ts w hP hat hln ht htn hr hN ham
  ·exact row_10 g A B C N S la ln lc T L ta tn tc ts w hP hat hln ht htn hr hN ham
  ·exact row_11 g A B C N S la ln lc T L ta tn tc ts w hP hat hln ht htn hr hN ham
  ·exact row_12 _ P A B C N S la ln lc T L ta tn tc ts w ht htn ham
  ·exact row_13 _ P A B C N S la ln lc T L ta tn tc ts w ht htn ham
  ·exact row_14 _ P A B C N S la ln lc T L ta tn tc ts w ht htn ham
  ·exact row_15 _ P A B C N S la ln lc T L ta tn tc ts w ht htn ham
  ·exact row_16 _ P A B C N S la ln lc T L ta tn tc ts w ht htn ham
  ·exact row_17 _ P A B C N S la ln lc T L ta tn tc ts w ht htn ham
  ·exact row_18 _ P A B C N S la ln lc T L ta tn tc ts w ht htn ham
  ·exact row_19 _ P A B C N S la ln lc T L ta tn tc ts w ht htn ham
  ·exact row_20 _ P A B C N S la ln lc T L ta tn tc ts w ht htn ham
  ·exact row_21 _ P A B C N S la ln lc T L ta tn tc ts w ht htn ham
  ·exact row_22 g A B C N S la ln lc T L ta tn tc ts w hP hat hln ht htn hr hN ham
  ·exact row_23 g A B C N S la ln lc T L ta tn tc ts w hP hat hln ht htn hr hN ham
  ·exact row_24 g A B C N S la ln lc T L ta tn tc ts w hP hat hln ht htn hr hN ham
  ·exact row_25 _ P A B C N S la ln lc T L ta tn tc ts w ht htn ham
 ·exact FP g K h A B C N S la ln lc T L ta tn tc ts w hP hat hln ht htn hr hN ham
set_option maxRecDepth 100000 in
set_option maxHeartbeats 1000000 in
theorem uP(r:Int)(a:Option Addr)(n c:Nat)(f:ak)(w:World)(hrow:gG aM 8 w (.slice a n c) f.blocks)(hn:n≤1099511627776):
 Calls Tryz.prog 38 #[.agg #[.int .i64 r,.slice a n c]] w fun e w'=>∃ va vn vc,e=.returned (.slice va vn vc)∧aj w' w.heap.size 3 (.slice va vn vc) (aD f)∧Below w.heap.size w w':=by
 have hlen:n=f.blocks.length:=by obtain⟨_,_,_,e,h,_⟩:=hrow;cases e;exact h.symm
 obtain⟨U,hU⟩:∃ U,((w.alloc (.cells #[.int .i64 r,.slice a n c] 36)).alloc (.cells #[.slice none 0 0,.slice none 0 0] 116))=U:=⟨_,rfl⟩
 have hb:Below w.heap.size w U:=by rw[←hU];exact((Below.refl w.heap.size w).alloc (Nat.le_refl _) _).alloc (by simp) _
 have hblk:wH (w.heap.size+1) U (.slice none 0 0) (.slice none 0 0):=by
  rw[←hU]
  have:=World.alloc_heap_new (w.alloc (.cells #[.int .i64 r,.slice a n c] 36)) (.cells #[.slice none 0 0,.slice none 0 0] 116)
  rw[World.size_alloc]at this
  exact this
 have hst:tT (w.heap.size+1) U (.slice none 0 0) (.slice none 0 0) [] []:=⟨hblk,World.ownsRow_nil _ _ _ 1,World.ownsRow_nil _ _ _ 1,fun i h=>by cases h⟩
 have hw:=FB r a n c f (w.heap.size+1) w hrow hn (by omega) (n+1) 0 [] [] _ _ U hb hst Inv.nil (Nat.le_refl _) (by simp)
 have HALL:Hid ((bf n (nxF f) (n+1) ([],[]) 0).2=aD f):=hid (by rw[hlen];rfl)
 have HW:=hid hw
 have HB:=hid hb
 have HST:=hid hst
 have hsz:U.heap.size=w.heap.size+2:=by rw[←hU];simp
 clear hw hb hst hblk hlen
 go_enter Tryz.func38,Tryz.ntmps38
 go_upto_region 2 with fail
 have hc0:U.cell? ⟨w.heap.size,0,none⟩=some (.int .i64 r):=by rw[←hU];exact(World.cell?_of_block (a:=⟨w.heap.size,0,none⟩) ((World.grownBy_alloc (w.alloc (.cells #[.int .i64 r,.slice a n c] 36)) _ none).block w.heap.size (by simp) (fun e=>by cases e))).trans (World.cell?_alloc_mark _ _ _ _ _)
 have hc1:U.cell? ⟨w.heap.size,1,none⟩=some (.slice a n c):=by rw[←hU];exact(World.cell?_of_block (a:=⟨w.heap.size,1,none⟩) ((World.grownBy_alloc (w.alloc (.cells #[.int .i64 r,.slice a n c] 36)) _ none).block w.heap.size (by simp) (fun e=>by cases e))).trans (World.cell?_alloc_mark _ _ _ _ _)
 clear hU
 go_wp2_with((go_at_call 69;refine HW.out.mono ?_);rintro e w2 ⟨rfl,mv,lv,hs,hk⟩;rw[HALL.out]at hs;have HS:=hid hs;have HK:=hid hk;have hcl:w2.cell? ⟨w.heap.size+1,1,none⟩=some lv:=(by have:=hs.blk;unfold wH at this;simp[World.cell?,this]);clear hs hk)
 go_ret
 obtain⟨va,vn,vc,rfl,_⟩:=HS.out.left.nums
 exact⟨va,vn,vc,rfl,HS.out.left.mono (by omega),HB.out.trans (HK.out.below HST.out.met (by omega) (by omega))⟩
set_option maxHeartbeats 20000000 in
theorem rres_25(g:Nat){sa:Option Addr}{sn sc:Nat}{ca:Option Addr}{cn cc:Nat}{fa:Option Addr}{fn fc:Nat}{P:aB}(A B C N:Int)(S:ByteArray)(la:Option Addr)(ln lc:Nat)(T:Bool)(va:Option Addr)(vn vc:Nat)(w:World)(x:Int)
 (hP:aX w g sa sn sc ca cn cc fa fn fc P)(hv:ai w va vn [x])(hvn:vn≤140737488355328)(hr:∀ z∈[x],InR z)(hN:InR N):
 Calls Tryz.prog 70 #[.pointer (some ⟨g,0,none⟩),.agg #[.int .i64 25,.int .i64 A,.int .i64 B,.int .i64 C,.int .i64 N,.string S,.slice la ln lc,.bool T],.slice va vn vc] w (aF (aC P 25 N S [x]) w):=by
 obtain⟨W0,hW0⟩:∃ W0,W0=w.alloc (.cells #[.int .i64 25,.int .i64 A,.int .i64 B,.int .i64 C,.int .i64 N,.string S,.slice la ln lc,.bool T] 64):=⟨_,rfl⟩
 have hw0:∀ u,Below (w.heap.size+1) W0 u→Below w.heap.size w u:=fun u hu=>by rw[hW0]at hu;exact bq hu
 have HW:=hid hw0
 have H2:Hid (Below (w.heap.size+1) W0 W0):=hid (Below.refl _ _)
 have hp:=hP.since (hw0 _ H2.out)
 have hq:=hv.since (hw0 _ H2.out)
 obtain⟨z0,z1,z2,z3,z4,z5,z6,z7⟩:W0.cell? ⟨w.heap.size,0,none⟩=some (.int .i64 25)∧W0.cell? ⟨w.heap.size,1,none⟩=some (.int .i64 A)∧W0.cell? ⟨w.heap.size,2,none⟩=some (.int .i64 B)∧W0.cell? ⟨w.heap.size,3,none⟩=some (.int .i64 C)∧W0.cell? ⟨w.heap.size,4,none⟩=some (.int .i64 N)∧W0.cell? ⟨w.heap.size,5,none⟩=some (.string S)∧W0.cell? ⟨w.heap.size,6,none⟩=some (.slice la ln lc)∧W0.cell? ⟨w.heap.size,7,none⟩=some (.bool T):=
  by have hu:=H2.out;rw[hW0]at hu ⊢;exact⟨ah hu 0 _ rfl,ah hu 1 _ rfl,ah hu 2 _ rfl,ah hu 3 _ rfl,ah hu 4 _ rfl,ah hu 5 _ rfl,ah hu 6 _ rfl,ah hu 7 _ rfl⟩
 have z8:=hp.c0
 have z9:=hp.c1
 have z10:=hp.c2
 obtain⟨lg,lo,rfl,_,hlc⟩:=hq.2 (by have:=hv.1;simp at this;omega)
 have hl0:W0.cell? ⟨lg,lo,none⟩=some (.int .i64 x):=hlc 0 (by simp)
 have hvn0:vn=1:=hv.1.symm
 subst hvn0
 have HR1:Hid ((aC P 25 N S [x]).1= -1):=hid rfl
 have hrr:(aC P 25 N S [x]).2=((x==0)||(x==2)):=by show(aG _ _||aG _ _)=_;rw[iy,iy]
 clear hP hv hp hq hw0 hr hN hlc
 cases e0:(x==0)with
 |true=>
  have HR:Hid ((aC P 25 N S [x]).2=true):=hid (by rw[hrr,e0];rfl)
  clear hrr
  go_enter Tryz.func70,Tryz.ntmps70
  go_wp2_with(go_at_call 102;(with_reducible refine(sG _).mono ?_);rintro e w' ⟨rfl,rfl⟩;rw[←hW0];clear hW0)
  go_quiet (fail)
  go_wp2_with fail
  refine bodyPost_ret (v:=.tuple #[.int .i64 (-1),.bool true]) (by simp[results,Tryz.results70,go_sem]) rfl ⟨-1,by rw[HR.out],fun _=>HR1.out.symm,HW.out _ (by first|exact H2.out.drewq _|exact(H2.out.drewq _).drewq _|exact((H2.out.drewq _).drewq _).drewq _|exact H2.out)⟩
 |false=>
  cases e1:(x==2)with
  |true=>
   have HR:Hid ((aC P 25 N S [x]).2=true):=hid (by rw[hrr,e0,e1];rfl)
   clear hrr
   go_enter Tryz.func70,Tryz.ntmps70
   go_wp2_with(go_at_call 102;(with_reducible refine(sG _).mono ?_);rintro e w' ⟨rfl,rfl⟩;rw[←hW0];clear hW0)
   go_quiet (fail)
   go_wp2_with fail
   refine bodyPost_ret (v:=.tuple #[.int .i64 (-1),.bool true]) (by simp[results,Tryz.results70,go_sem]) rfl ⟨-1,by rw[HR.out],fun _=>HR1.out.symm,HW.out _ (by first|exact H2.out.drewq _|exact(H2.out.drewq _).drewq _|exact((H2.out.drewq _).drewq _).drewq _|exact H2.out)⟩
  |false=>
   have HR:Hid ((aC P 25 N S [x]).2=false):=hid (by rw[hrr,e0,e1];rfl)
   clear hrr
   go_enter Tryz.func70,Tryz.ntmps70
   go_wp2_with(go_at_call 102;(with_reducible refine(sG _).mono ?_);rintro e w' ⟨rfl,rfl⟩;rw[←hW0];clear hW0)
   go_quiet (fail)
   go_wp2_with fail
   refine bodyPost_ret (v:=.tuple #[.int .i64 (-1),.bool false]) (by simp[results,Tryz.results70,go_sem]) rfl ⟨-1,by rw[HR.out],fun _=>HR1.out.symm,HW.out _ (by first|exact H2.out.drewq _|exact(H2.out.drewq _).drewq _|exact((H2.out.drewq _).drewq _).drewq _|exact H2.out)⟩
set_option maxHeartbeats 20000000 in
theorem rres_22(g:Nat){sa:Option Addr}{sn sc:Nat}{ca:Option Addr}{cn cc:Nat}{fa:Option Addr}{fn fc:Nat}{P:aB}(A B C N:Int)(S:ByteArray)(la:Option Addr)(ln lc:Nat)(T:Bool)(va:Option Addr)(vn vc:Nat)(w:World)(x:Int)
 (hP:aX w g sa sn sc ca cn cc fa fn fc P)(hv:ai w va vn [x])(hvn:vn≤140737488355328)(hr:∀ z∈[x],InR z)(hN:InR N):
 Calls Tryz.prog 70 #[.pointer (some ⟨g,0,none⟩),.agg #[.int .i64 22,.int .i64 A,.int .i64 B,.int .i64 C,.int .i64 N,.string S,.slice la ln lc,.bool T],.slice va vn vc] w (aF (aC P 22 N S [x]) w):=by
 obtain⟨W0,hW0⟩:∃ W0,W0=w.alloc (.cells #[.int .i64 22,.int .i64 A,.int .i64 B,.int .i64 C,.int .i64 N,.string S,.slice la ln lc,.bool T] 64):=⟨_,rfl⟩
 have hw0:∀ u,Below (w.heap.size+1) W0 u→Below w.heap.size w u:=fun u hu=>by rw[hW0]at hu;exact bq hu
 have HW:=hid hw0
 have H2:Hid (Below (w.heap.size+1) W0 W0):=hid (Below.refl _ _)
 have hp:=hP.since (hw0 _ H2.out)
 have hq:=hv.since (hw0 _ H2.out)
 obtain⟨z0,z1,z2,z3,z4,z5,z6,z7⟩:W0.cell? ⟨w.heap.size,0,none⟩=some (.int .i64 22)∧W0.cell? ⟨w.heap.size,1,none⟩=some (.int .i64 A)∧W0.cell? ⟨w.heap.size,2,none⟩=some (.int .i64 B)∧W0.cell? ⟨w.heap.size,3,none⟩=some (.int .i64 C)∧W0.cell? ⟨w.heap.size,4,none⟩=some (.int .i64 N)∧W0.cell? ⟨w.heap.size,5,none⟩=some (.string S)∧W0.cell? ⟨w.heap.size,6,none⟩=some (.slice la ln lc)∧W0.cell? ⟨w.heap.size,7,none⟩=some (.bool T):=
  by have hu:=H2.out;rw[hW0]at hu ⊢;exact⟨ah hu 0 _ rfl,ah hu 1 _ rfl,ah hu 2 _ rfl,ah hu 3 _ rfl,ah hu 4 _ rfl,ah hu 5 _ rfl,ah hu 6 _ rfl,ah hu 7 _ rfl⟩
 have z8:=hp.c0
 have z9:=hp.c1
 have z10:=hp.c2
 obtain⟨lg,lo,rfl,_,hlc⟩:=hq.2 (by have:=hv.1;simp at this;omega)
 have hl0:W0.cell? ⟨lg,lo,none⟩=some (.int .i64 x):=hlc 0 (by simp)
 have hvn0:vn=1:=hv.1.symm
 subst hvn0
 have hlc1:=hP.c.len
 obtain⟨hx1,hx2⟩:InR x:=hr x (by simp)
 have HR1:Hid ((aC P 22 N S [x]).1=5):=hid rfl
 have hrr:(aC P 22 N S [x]).2=Az cn x:=by show Az P.classes.length x=_;rw[hlc1.1]
 by_cases h6:6≤x
 ·by_cases hc:x-6<(cn:Int)
  ·have HR:Hid ((aC P 22 N S [x]).2=true):=hid (by rw[hrr];exact decide_eq_true ⟨h6,hc⟩)
   clear hP hv hp hq hw0 hr hN hlc hrr
   go_enter Tryz.func70,Tryz.ntmps70
   go_wp2_with(go_at_call 102;(with_reducible refine(sH _).mono ?_);rintro e w' ⟨rfl,rfl⟩;rw[←hW0];clear hW0)
   go_quiet (fail)
   go_wp2_with fail
   refine bodyPost_ret (v:=.tuple #[.int .i64 5,.bool true]) (by simp[results,Tryz.results70,go_sem]) rfl ⟨5,by rw[HR.out],fun _=>HR1.out.symm,HW.out _ (by first|exact H2.out.drewq _|exact(H2.out.drewq _).drewq _|exact((H2.out.drewq _).drewq _).drewq _|exact H2.out)⟩
  ·have HR:Hid ((aC P 22 N S [x]).2=false):=hid (by rw[hrr];exact decide_eq_false (fun h=>hc h.2))
   have hd:decide (x-6<(cn:Int))=false:=decide_eq_false hc
   clear hP hv hp hq hw0 hr hN hlc hrr hc
   go_enter Tryz.func70,Tryz.ntmps70
   go_wp2_with(go_at_call 102;(with_reducible refine(sH _).mono ?_);rintro e w' ⟨rfl,rfl⟩;rw[←hW0];clear hW0)
   go_quiet (fail)
   go_wp2_with fail
   refine bodyPost_ret (v:=.tuple #[.int .i64 5,.bool false]) (by simp[results,Tryz.results70,go_sem]) rfl ⟨5,by rw[HR.out],fun _=>HR1.out.symm,HW.out _ (by first|exact H2.out.drewq _|exact(H2.out.drewq _).drewq _|exact((H2.out.drewq _).drewq _).drewq _|exact H2.out)⟩
 ·have HR:Hid ((aC P 22 N S [x]).2=false):=hid (by rw[hrr];exact decide_eq_false (fun h=>h6 h.1))
  have hd:decide (6≤x)=false:=decide_eq_false h6
  clear hP hv hp hq hw0 hr hN hlc hrr h6
  go_enter Tryz.func70,Tryz.ntmps70
  go_wp2_with(go_at_call 102;(with_reducible refine(sH _).mono ?_);rintro e w' ⟨rfl,rfl⟩;rw[←hW0];clear hW0)
  go_quiet (fail)
  go_wp2_with fail
  refine bodyPost_ret (v:=.tuple #[.int .i64 5,.bool false]) (by simp[results,Tryz.results70,go_sem]) rfl ⟨5,by rw[HR.out],fun _=>HR1.out.symm,HW.out _ (by first|exact H2.out.drewq _|exact(H2.out.drewq _).drewq _|exact((H2.out.drewq _).drewq _).drewq _|exact H2.out)⟩
set_option maxHeartbeats 20000000 in
theorem rres_9(g:Nat){sa:Option Addr}{sn sc:Nat}{ca:Option Addr}{cn cc:Nat}{fa:Option Addr}{fn fc:Nat}{P:aB}(A B C N:Int)(S:ByteArray)(la:Option Addr)(ln lc:Nat)(T:Bool)(va:Option Addr)(vn vc:Nat)(w:World)(l:List Int)
 (hP:aX w g sa sn sc ca cn cc fa fn fc P)(hv:ai w va vn l)(hvn:vn≤140737488355328)(hr:∀ z∈l,InR z)(hN:InR N):
 Calls Tryz.prog 70 #[.pointer (some ⟨g,0,none⟩),.agg #[.int .i64 9,.int .i64 A,.int .i64 B,.int .i64 C,.int .i64 N,.string S,.slice la ln lc,.bool T],.slice va vn vc] w (aF (aC P 9 N S l) w):=by
 obtain⟨W0,hW0⟩:∃ W0,W0=w.alloc (.cells #[.int .i64 9,.int .i64 A,.int .i64 B,.int .i64 C,.int .i64 N,.string S,.slice la ln lc,.bool T] 64):=⟨_,rfl⟩
 have hw0:∀ u,Below (w.heap.size+1) W0 u→Below w.heap.size w u:=fun u hu=>by rw[hW0]at hu;exact bq hu
 have HW:=hid hw0
 have H2:Hid (Below (w.heap.size+1) W0 W0):=hid (Below.refl _ _)
 have hp:=hP.since (hw0 _ H2.out)
 have hq:=hv.since (hw0 _ H2.out)
 obtain⟨z0,z1,z2,z3,z4,z5,z6,z7⟩:W0.cell? ⟨w.heap.size,0,none⟩=some (.int .i64 9)∧W0.cell? ⟨w.heap.size,1,none⟩=some (.int .i64 A)∧W0.cell? ⟨w.heap.size,2,none⟩=some (.int .i64 B)∧W0.cell? ⟨w.heap.size,3,none⟩=some (.int .i64 C)∧W0.cell? ⟨w.heap.size,4,none⟩=some (.int .i64 N)∧W0.cell? ⟨w.heap.size,5,none⟩=some (.string S)∧W0.cell? ⟨w.heap.size,6,none⟩=some (.slice la ln lc)∧W0.cell? ⟨w.heap.size,7,none⟩=some (.bool T):=
  by have hu:=H2.out;rw[hW0]at hu ⊢;exact⟨ah hu 0 _ rfl,ah hu 1 _ rfl,ah hu 2 _ rfl,ah hu 3 _ rfl,ah hu 4 _ rfl,ah hu 5 _ rfl,ah hu 6 _ rfl,ah hu 7 _ rfl⟩
 have z8:=hp.c0
 have z9:=hp.c1
 have z10:=hp.c2
 have hlc1:=hP.c.len
 by_cases h0:N<0
 ·have HR:Hid ((aC P 9 N S l).2=false):=hid (by
   show(if 0≤N∧N<P.classes.length then(6+N,aG l (fieldsOf P N.toNat))else(-1,false)).2=_
   rw[if_neg (by omega)])
  clear hP hv hp hq hw0 hr hN
  go_enter Tryz.func70,Tryz.ntmps70
  go_wp2_with(go_at_call 102;(with_reducible refine(wU _).mono ?_);rintro e w' ⟨rfl,rfl⟩;rw[←hW0];clear hW0)
  go_quiet (fail)
  go_wp2_with fail
  refine bodyPost_ret (v:=.tuple #[.int .i64 (-1),.bool false]) (by simp[results,Tryz.results70,go_sem]) rfl ⟨-1,by rw[HR.out],fun h=>(by rw[HR.out]at h;cases h),HW.out _ (by first|exact H2.out.drewq _|exact(H2.out.drewq _).drewq _|exact((H2.out.drewq _).drewq _).drewq _|exact H2.out)⟩
 ·by_cases h1:N<(cn:Int)
  ·obtain⟨k,rfl⟩:=Int.eq_ofNat_of_zero_le (show 0≤N by omega)
   have hk:k<cn:=by omega
   obtain⟨cg,co,cs,hx,rfl,hcl,hcs,f,m,rfl,⟨a,fnn,fcc,rfl,hfa,_,hfb,_⟩,_⟩:=hp.c.elem hk
   have hc0:W0.cell? ⟨cg,co+k*2,none⟩=some (.slice a fnn fcc):=hcs 0 (by simp)
   have hfo:fieldsOf P k=(P.classes[k]).fields:=by unfold fieldsOf;rw[List.getElem?_eq_getElem hx]
   obtain⟨d,hd⟩:∃ d,(P.classes[k]).fields=d:=⟨_,rfl⟩
   rw[hd]at hfa hfo
   have hwr:IntKind.i64.wrap (6+(k:Int))=6+(k:Int):=wrap_small _ (by omega) (by omega)
   obtain⟨b,hb⟩:∃ b,aG l d=b:=⟨_,rfl⟩
   have CI:Hid (∀u,Below (w.heap.size+1) W0 u→Calls Tryz.prog 14 #[.slice va vn vc,.slice a fnn fcc] u (bG b u)):=hid (fun u hu=>by rw[←hb];exact bI va a vn fnn vc fcc l d u (hv.since (hw0 u hu)) (hfa.below hu (by have:=hfa;show W0.heap.size≤w.heap.size+1;rw[hW0];simp)) hvn (by omega))
   have HRR:Hid (aC P 9 (k:Int) S l=(6+(k:Int),b)):=hid (by
    show(if 0≤(k:Int)∧(k:Int)<P.classes.length then(6+(k:Int),aG l (fieldsOf P (k:Int).toNat))else(-1,false))=_
    rw[if_pos (by omega),show((k:Int)).toNat=k from rfl,hfo,hb])
   have HR:Hid ((aC P 9 (k:Int) S l).2=b):=hid (by rw[HRR.out])
   have HR1:Hid ((aC P 9 (k:Int) S l).1=6+(k:Int)):=hid (by rw[HRR.out])
   clear hP hv hp hq hw0 hr hN hcs hfa h0 hd hfo hb
   go_enter Tryz.func70,Tryz.ntmps70
   go_wp2_with(go_at_call 102;(with_reducible refine(wU _).mono ?_);rintro e w' ⟨rfl,rfl⟩;rw[←hW0];clear hW0)
   go_quiet (fail)
   go_wp2_with fail
   go_quiet (((go_at_call 14;first|exact kQ (CI.out _ (H2.out.drewq _))|exact Calls.quiet_of (CI.out _ (H2.out.drewq _)))))
   go_wp2_with fail
   refine bodyPost_ret (v:=.tuple #[.int .i64 (6+(k:Int)),.bool b]) (by simp[results,Tryz.results70,go_sem]) rfl ⟨6+(k:Int),by rw[HR.out],fun _=>HR1.out.symm,HW.out _ (by first|exact H2.out.drewq _|exact(H2.out.drewq _).drewq _|exact((H2.out.drewq _).drewq _).drewq _|exact H2.out)⟩
  ·have HR:Hid ((aC P 9 N S l).2=false):=hid (by
    show(if 0≤N∧N<P.classes.length then(6+N,aG l (fieldsOf P N.toNat))else(-1,false)).2=_
    rw[if_neg (by omega)])
   have h1':(cn:Int)≤N:=by omega
   have h0':0≤N:=by omega
   clear hP hv hp hq hw0 hr hN h1 h0
   go_enter Tryz.func70,Tryz.ntmps70
   go_wp2_with(go_at_call 102;(with_reducible refine(wU _).mono ?_);rintro e w' ⟨rfl,rfl⟩;rw[←hW0];clear hW0)
   go_quiet (fail)
   go_wp2_with fail
   refine bodyPost_ret (v:=.tuple #[.int .i64 (-1),.bool false]) (by simp[results,Tryz.results70,go_sem]) rfl ⟨-1,by rw[HR.out],fun h=>(by rw[HR.out]at h;cases h),HW.out _ (by first|exact H2.out.drewq _|exact(H2.out.drewq _).drewq _|exact((H2.out.drewq _).drewq _).drewq _|exact H2.out)⟩
set_option maxRecDepth 100000 in
set_option maxHeartbeats 20000000 in
theorem rres_10(g:Nat){sa:Option Addr}{sn sc:Nat}{ca:Option Addr}{cn cc:Nat}{fa:Option Addr}{fn fc:Nat}{P:aB}(A B C N:Int)(S:ByteArray)(la:Option Addr)(ln lc:Nat)(T:Bool)(va:Option Addr)(vn vc:Nat)(w:World)(x:Int)
 (hP:aX w g sa sn sc ca cn cc fa fn fc P)(hv:ai w va vn [x])(hvn:vn≤140737488355328)(hr:∀ z∈[x],InR z)(hN:InR N):
 Calls Tryz.prog 70 #[.pointer (some ⟨g,0,none⟩),.agg #[.int .i64 10,.int .i64 A,.int .i64 B,.int .i64 C,.int .i64 N,.string S,.slice la ln lc,.bool T],.slice va vn vc] w (aF (aC P 10 N S [x]) w):=by
 obtain⟨W0,hW0⟩:∃ W0,W0=w.alloc (.cells #[.int .i64 10,.int .i64 A,.int .i64 B,.int .i64 C,.int .i64 N,.string S,.slice la ln lc,.bool T] 64):=⟨_,rfl⟩
 have hw0:∀ u,Below (w.heap.size+1) W0 u→Below w.heap.size w u:=fun u hu=>by rw[hW0]at hu;exact bq hu
 have HW:=hid hw0
 have H2:Hid (Below (w.heap.size+1) W0 W0):=hid (Below.refl _ _)
 have hp:=hP.since (hw0 _ H2.out)
 have hq:=hv.since (hw0 _ H2.out)
 obtain⟨z0,z1,z2,z3,z4,z5,z6,z7⟩:W0.cell? ⟨w.heap.size,0,none⟩=some (.int .i64 10)∧W0.cell? ⟨w.heap.size,1,none⟩=some (.int .i64 A)∧W0.cell? ⟨w.heap.size,2,none⟩=some (.int .i64 B)∧W0.cell? ⟨w.heap.size,3,none⟩=some (.int .i64 C)∧W0.cell? ⟨w.heap.size,4,none⟩=some (.int .i64 N)∧W0.cell? ⟨w.heap.size,5,none⟩=some (.string S)∧W0.cell? ⟨w.heap.size,6,none⟩=some (.slice la ln lc)∧W0.cell? ⟨w.heap.size,7,none⟩=some (.bool T):=
  by have hu:=H2.out;rw[hW0]at hu ⊢;exact⟨ah hu 0 _ rfl,ah hu 1 _ rfl,ah hu 2 _ rfl,ah hu 3 _ rfl,ah hu 4 _ rfl,ah hu 5 _ rfl,ah hu 6 _ rfl,ah hu 7 _ rfl⟩
 have z8:=hp.c0
 have z9:=hp.c1
 have z10:=hp.c2
 obtain⟨lg,lo,rfl,_,hlc⟩:=hq.2 (by have:=hv.1;simp at this;omega)
 have hl0:W0.cell? ⟨lg,lo,none⟩=some (.int .i64 x):=hlc 0 (by simp)
 have hvn0:vn=1:=hv.1.symm
 subst hvn0
 have hlc1:=hP.c.len
 obtain⟨hx1,hx2⟩:InR x:=hr x (by simp)
 have hrr:aC P 10 N S [x]=bC P x N:=rfl
 by_cases h6:x<6
 ·have HR:Hid ((aC P 10 N S [x]).2=false):=hid (by
   have e:bC P x N=(-1,false):=by unfold bC;rw[if_neg (by omega)]
   rw[hrr,e])
  clear hP hv hp hq hw0 hr hN hlc hrr
  go_enter Tryz.func70,Tryz.ntmps70
  go_wp2_with(go_at_call 102;(with_reducible refine(mY _).mono ?_);rintro e w' ⟨rfl,rfl⟩;rw[←hW0];clear hW0)
  go_quiet (fail)
  go_wp2_with fail
  refine bodyPost_ret (v:=.tuple #[.int .i64 (-1),.bool false]) (by simp[results,Tryz.results70,go_sem]) rfl ⟨-1,by rw[HR.out],fun h=>(by rw[HR.out]at h;cases h),HW.out _ (by first|exact H2.out.drewq _|exact(H2.out.drewq _).drewq _|exact((H2.out.drewq _).drewq _).drewq _|exact H2.out)⟩
 ·by_cases hc:x-6<(cn:Int)
  ·obtain⟨k,hk⟩:=Int.eq_ofNat_of_zero_le (show 0≤x-6 by omega)
   have hkn:k<cn:=by omega
   obtain⟨cg,co,cs,hx,rfl,hcl,hcs,f,m,rfl,⟨a,fnn,fcc,rfl,hfa,_,hfb,_⟩,_⟩:=hp.c.elem hkn
   have hc0:W0.cell? ⟨cg,co+k*2,none⟩=some (.slice a fnn fcc):=hcs 0 (by simp)
   have hfo:fieldsOf P k=(P.classes[k]).fields:=by unfold fieldsOf;rw[List.getElem?_eq_getElem hx]
   obtain⟨d,hd⟩:∃ d,(P.classes[k]).fields=d:=⟨_,rfl⟩
   rw[hd]at hfa hfo
   have hfl:=hfa.1
   have hc3:6≤x:=by omega
   have hwr:IntKind.i64.wrap (x-6)=(k:Int):=by rw[hk];exact wrap_small _ (by omega) (by omega)
   have hkc:(k:Int)<(cn:Int):=by omega
   by_cases hn0:N<0
   ·have HR:Hid ((aC P 10 N S [x]).2=false):=hid (by
     have e:bC P x N=(-1,false):=by unfold bC;rw[if_pos (by omega),hk,show((k:Int)).toNat=k from rfl,hfo,if_neg (by omega)]
     rw[hrr,e])
    clear hP hv hp hq hw0 hr hN hlc hrr hcs hfa hd hfo hk h6 hc
    go_enter Tryz.func70,Tryz.ntmps70
    go_wp2_with(go_at_call 102;(with_reducible refine(mY _).mono ?_);rintro e w' ⟨rfl,rfl⟩;rw[←hW0];clear hW0)
    go_quiet (fail)
    go_wp2_with fail
    go_quiet (fail)
    go_wp2_with fail
    refine bodyPost_ret (v:=.tuple #[.int .i64 (-1),.bool false]) (by simp[results,Tryz.results70,go_sem]) rfl ⟨-1,by rw[HR.out],fun h=>(by rw[HR.out]at h;cases h),HW.out _ (by first|exact H2.out.drewq _|exact(H2.out.drewq _).drewq _|exact((H2.out.drewq _).drewq _).drewq _|exact H2.out)⟩
   ·by_cases hn1:N<(fnn:Int)
    ·obtain⟨i,rfl⟩:=Int.eq_ofNat_of_zero_le (show 0≤N by omega)
     have hi:i<fnn:=by omega
     obtain⟨fg,fo,rfl,_,hfc⟩:=hfa.2 (by omega)
     have hci:W0.cell? ⟨fg,fo+i,none⟩=some (.int .i64 (nth d i)):=by have h3:=hfc i (by omega);rw[bN (by omega)];exact h3
     have e:bC P x (i:Int)=(nth d i,true):=by unfold bC;rw[if_pos (by omega),hk,show((k:Int)).toNat=k from rfl,hfo,if_pos (by omega)];rfl
     have HR:Hid ((aC P 10 (i:Int) S [x]).2=true):=hid (by rw[hrr,e])
     have HR1:Hid ((aC P 10 (i:Int) S [x]).1=nth d i):=hid (by rw[hrr,e])
     clear hP hv hp hq hw0 hr hN hlc hrr hcs hfa hd hfo hk h6 hc hfc e
     go_enter Tryz.func70,Tryz.ntmps70
     go_wp2_with(go_at_call 102;(with_reducible refine(mY _).mono ?_);rintro e w' ⟨rfl,rfl⟩;rw[←hW0];clear hW0)
     go_quiet (fail)
     go_wp2_with fail
     go_quiet (fail)
     go_wp2_with fail
     refine bodyPost_ret (v:=.tuple #[.int .i64 (nth d i),.bool true]) (by simp[results,Tryz.results70,go_sem]) rfl ⟨nth d i,by rw[HR.out],fun _=>HR1.out.symm,HW.out _ (by first|exact H2.out.drewq _|exact(H2.out.drewq _).drewq _|exact((H2.out.drewq _).drewq _).drewq _|exact H2.out)⟩
    ·have HR:Hid ((aC P 10 N S [x]).2=false):=hid (by
      have e:bC P x N=(-1,false):=by unfold bC;rw[if_pos (by omega),hk,show((k:Int)).toNat=k from rfl,hfo,if_neg (by omega)]
      rw[hrr,e])
     clear hP hv hp hq hw0 hr hN hlc hrr hcs hfa hd hfo hk h6 hc
     have hn2:(fnn:Int)≤N:=by omega
     have hn3:0≤N:=by omega
     clear hn0 hn1
     go_enter Tryz.func70,Tryz.ntmps70
     go_wp2_with(go_at_call 102;(with_reducible refine(mY _).mono ?_);rintro e w' ⟨rfl,rfl⟩;rw[←hW0];clear hW0)
     go_quiet (fail)
     go_wp2_with fail
     go_quiet (fail)
     go_wp2_with fail
     refine bodyPost_ret (v:=.tuple #[.int .i64 (-1),.bool false]) (by simp[results,Tryz.results70,go_sem]) rfl ⟨-1,by rw[HR.out],fun h=>(by rw[HR.out]at h;cases h),HW.out _ (by first|exact H2.out.drewq _|exact(H2.out.drewq _).drewq _|exact((H2.out.drewq _).drewq _).drewq _|exact H2.out)⟩
  ·have HR:Hid ((aC P 10 N S [x]).2=false):=hid (by
    have e:bC P x N=(-1,false):=by unfold bC;rw[if_neg (by omega)]
    rw[hrr,e])
   clear hP hv hp hq hw0 hr hN hlc hrr
   have hwr:IntKind.i64.wrap (x-6)=x-6:=wrap_small _ (by omega) (by omega)
   have hc2:(cn:Int)≤x-6:=by omega
   have hc3:6≤x:=by omega
   clear hc h6
   go_enter Tryz.func70,Tryz.ntmps70
   go_wp2_with(go_at_call 102;(with_reducible refine(mY _).mono ?_);rintro e w' ⟨rfl,rfl⟩;rw[←hW0];clear hW0)
   go_quiet (fail)
   go_wp2_with fail
   refine bodyPost_ret (v:=.tuple #[.int .i64 (-1),.bool false]) (by simp[results,Tryz.results70,go_sem]) rfl ⟨-1,by rw[HR.out],fun h=>(by rw[HR.out]at h;cases h),HW.out _ (by first|exact H2.out.drewq _|exact(H2.out.drewq _).drewq _|exact((H2.out.drewq _).drewq _).drewq _|exact H2.out)⟩
set_option maxRecDepth 100000 in
set_option maxHeartbeats 20000000 in
theorem rres_11(g:Nat){sa:Option Addr}{sn sc:Nat}{ca:Option Addr}{cn cc:Nat}{fa:Option Addr}{fn fc:Nat}{P:aB}(A B C N:Int)(S:ByteArray)(la:Option Addr)(ln lc:Nat)(T:Bool)(va:Option Addr)(vn vc:Nat)(w:World)(x y:Int)
 (hP:aX w g sa sn sc ca cn cc fa fn fc P)(hv:ai w va vn [x,y])(hvn:vn≤140737488355328)(hr:∀ z∈[x,y],InR z)(hN:InR N):
 Calls Tryz.prog 70 #[.pointer (some ⟨g,0,none⟩),.agg #[.int .i64 11,.int .i64 A,.int .i64 B,.int .i64 C,.int .i64 N,.string S,.slice la ln lc,.bool T],.slice va vn vc] w (aF (aC P 11 N S [x,y]) w):=by
 obtain⟨W0,hW0⟩:∃ W0,W0=w.alloc (.cells #[.int .i64 11,.int .i64 A,.int .i64 B,.int .i64 C,.int .i64 N,.string S,.slice la ln lc,.bool T] 64):=⟨_,rfl⟩
 have hw0:∀ u,Below (w.heap.size+1) W0 u→Below w.heap.size w u:=fun u hu=>by rw[hW0]at hu;exact bq hu
 have HW:=hid hw0
 have H2:Hid (Below (w.heap.size+1) W0 W0):=hid (Below.refl _ _)
 have hp:=hP.since (hw0 _ H2.out)
 have hq:=hv.since (hw0 _ H2.out)
 obtain⟨z0,z1,z2,z3,z4,z5,z6,z7⟩:W0.cell? ⟨w.heap.size,0,none⟩=some (.int .i64 11)∧W0.cell? ⟨w.heap.size,1,none⟩=some (.int .i64 A)∧W0.cell? ⟨w.heap.size,2,none⟩=some (.int .i64 B)∧W0.cell? ⟨w.heap.size,3,none⟩=some (.int .i64 C)∧W0.cell? ⟨w.heap.size,4,none⟩=some (.int .i64 N)∧W0.cell? ⟨w.heap.size,5,none⟩=some (.string S)∧W0.cell? ⟨w.heap.size,6,none⟩=some (.slice la ln lc)∧W0.cell? ⟨w.heap.size,7,none⟩=some (.bool T):=
  by have hu:=H2.out;rw[hW0]at hu ⊢;exact⟨ah hu 0 _ rfl,ah hu 1 _ rfl,ah hu 2 _ rfl,ah hu 3 _ rfl,ah hu 4 _ rfl,ah hu 5 _ rfl,ah hu 6 _ rfl,ah hu 7 _ rfl⟩
 have z8:=hp.c0
 have z9:=hp.c1
 have z10:=hp.c2
 obtain⟨lg,lo,rfl,_,hlc⟩:=hq.2 (by have:=hv.1;simp at this;omega)
 have hl0:W0.cell? ⟨lg,lo,none⟩=some (.int .i64 x):=hlc 0 (by simp)
 have hl1:W0.cell? ⟨lg,lo+1,none⟩=some (.int .i64 y):=hlc 1 (by simp)
 have hvn0:vn=2:=hv.1.symm
 subst hvn0
 have hlc1:=hP.c.len
 obtain⟨hx1,hx2⟩:InR x:=hr x (by simp)
 have hrr:aC P 11 N S [x,y]=(-1,(bC P x N).2&&(y==(bC P x N).1)):=rfl
 by_cases h6:x<6
 ·have HR:Hid ((aC P 11 N S [x,y]).2=false):=hid (by
   have e:bC P x N=(-1,false):=by unfold bC;rw[if_neg (by omega)]
   rw[hrr,e];rfl)
  clear hP hv hp hq hw0 hr hN hlc hrr
  go_enter Tryz.func70,Tryz.ntmps70
  go_wp2_with(go_at_call 102;(with_reducible refine(mX _).mono ?_);rintro e w' ⟨rfl,rfl⟩;rw[←hW0];clear hW0)
  go_quiet (fail)
  go_wp2_with fail
  refine bodyPost_ret (v:=.tuple #[.int .i64 (-1),.bool false]) (by simp[results,Tryz.results70,go_sem]) rfl ⟨-1,by rw[HR.out],fun h=>(by rw[HR.out]at h;cases h),HW.out _ (by first|exact H2.out.drewq _|exact(H2.out.drewq _).drewq _|exact((H2.out.drewq _).drewq _).drewq _|exact H2.out)⟩
 ·by_cases hc:x-6<(cn:Int)
  ·obtain⟨k,hk⟩:=Int.eq_ofNat_of_zero_le (show 0≤x-6 by omega)
   have hkn:k<cn:=by omega
   obtain⟨cg,co,cs,hx,rfl,hcl,hcs,f,m,rfl,⟨a,fnn,fcc,rfl,hfa,_,hfb,_⟩,_⟩:=hp.c.elem hkn
   have hc0:W0.cell? ⟨cg,co+k*2,none⟩=some (.slice a fnn fcc):=hcs 0 (by simp)
   have hfo:fieldsOf P k=(P.classes[k]).fields:=by unfold fieldsOf;rw[List.getElem?_eq_getElem hx]
   obtain⟨d,hd⟩:∃ d,(P.classes[k]).fields=d:=⟨_,rfl⟩
   rw[hd]at hfa hfo
   have hfl:=hfa.1
   have hc3:6≤x:=by omega
   have hwr:IntKind.i64.wrap (x-6)=(k:Int):=by rw[hk];exact wrap_small _ (by omega) (by omega)
   have hkc:(k:Int)<(cn:Int):=by omega
   by_cases hn0:N<0
   ·have HR:Hid ((aC P 11 N S [x,y]).2=false):=hid (by
     have e:bC P x N=(-1,false):=by unfold bC;rw[if_pos (by omega),hk,show((k:Int)).toNat=k from rfl,hfo,if_neg (by omega)]
     rw[hrr,e];rfl)
    clear hP hv hp hq hw0 hr hN hlc hrr hcs hfa hd hfo hk h6 hc
    go_enter Tryz.func70,Tryz.ntmps70
    go_wp2_with(go_at_call 102;(with_reducible refine(mX _).mono ?_);rintro e w' ⟨rfl,rfl⟩;rw[←hW0];clear hW0)
    go_quiet (fail)
    go_wp2_with fail
    go_quiet (fail)
    go_wp2_with fail
    refine bodyPost_ret (v:=.tuple #[.int .i64 (-1),.bool false]) (by simp[results,Tryz.results70,go_sem]) rfl ⟨-1,by rw[HR.out],fun h=>(by rw[HR.out]at h;cases h),HW.out _ (by first|exact H2.out.drewq _|exact(H2.out.drewq _).drewq _|exact((H2.out.drewq _).drewq _).drewq _|exact H2.out)⟩
   ·by_cases hn1:N<(fnn:Int)
    ·obtain⟨i,rfl⟩:=Int.eq_ofNat_of_zero_le (show 0≤N by omega)
     have hi:i<fnn:=by omega
     obtain⟨fg,fo,rfl,_,hfc⟩:=hfa.2 (by omega)
     have hci:W0.cell? ⟨fg,fo+i,none⟩=some (.int .i64 (nth d i)):=by have h3:=hfc i (by omega);rw[bN (by omega)];exact h3
     have e:bC P x (i:Int)=(nth d i,true):=by unfold bC;rw[if_pos (by omega),hk,show((k:Int)).toNat=k from rfl,hfo,if_pos (by omega)];rfl
     have HR:Hid ((aC P 11 (i:Int) S [x,y]).2=(y==nth d i)):=hid (by rw[hrr,e];rfl)
     have HR1:Hid ((aC P 11 (i:Int) S [x,y]).1= -1):=hid (by rw[hrr])
     clear hP hv hp hq hw0 hr hN hlc hrr hcs hfa hd hfo hk h6 hc hfc e
     go_enter Tryz.func70,Tryz.ntmps70
     go_wp2_with(go_at_call 102;(with_reducible refine(mX _).mono ?_);rintro e w' ⟨rfl,rfl⟩;rw[←hW0];clear hW0)
     go_quiet (fail)
     go_wp2_with fail
     go_quiet (fail)
     go_wp2_with fail
     go_quiet (fail)
     go_wp2_with fail
     refine bodyPost_ret (v:=.tuple #[.int .i64 (-1),.bool (y==nth d i)]) (by simp[results,Tryz.results70,go_sem]) rfl ⟨-1,by rw[HR.out],fun _=>HR1.out.symm,HW.out _ (by first|exact H2.out.drewq _|exact(H2.out.drewq _).drewq _|exact((H2.out.drewq _).drewq _).drewq _|exact H2.out)⟩
    ·have HR:Hid ((aC P 11 N S [x,y]).2=false):=hid (by
      have e:bC P x N=(-1,false):=by unfold bC;rw[if_pos (by omega),hk,show((k:Int)).toNat=k from rfl,hfo,if_neg (by omega)]
      rw[hrr,e];rfl)
     clear hP hv hp hq hw0 hr hN hlc hrr hcs hfa hd hfo hk h6 hc
     have hn2:(fnn:Int)≤N:=by omega
     have hn3:0≤N:=by omega
     clear hn0 hn1
     go_enter Tryz.func70,Tryz.ntmps70
     go_wp2_with(go_at_call 102;(with_reducible refine(mX _).mono ?_);rintro e w' ⟨rfl,rfl⟩;rw[←hW0];clear hW0)
     go_quiet (fail)
     go_wp2_with fail
     go_quiet (fail)
     go_wp2_with fail
     refine bodyPost_ret (v:=.tuple #[.int .i64 (-1),.bool false]) (by simp[results,Tryz.results70,go_sem]) rfl ⟨-1,by rw[HR.out],fun h=>(by rw[HR.out]at h;cases h),HW.out _ (by first|exact H2.out.drewq _|exact(H2.out.drewq _).drewq _|exact((H2.out.drewq _).drewq _).drewq _|exact H2.out)⟩
  ·have HR:Hid ((aC P 11 N S [x,y]).2=false):=hid (by
    have e:bC P x N=(-1,false):=by unfold bC;rw[if_neg (by omega)]
    rw[hrr,e];rfl)
   clear hP hv hp hq hw0 hr hN hlc hrr
   have hwr:IntKind.i64.wrap (x-6)=x-6:=wrap_small _ (by omega) (by omega)
   have hc2:(cn:Int)≤x-6:=by omega
   have hc3:6≤x:=by omega
   clear hc h6
   go_enter Tryz.func70,Tryz.ntmps70
   go_wp2_with(go_at_call 102;(with_reducible refine(mX _).mono ?_);rintro e w' ⟨rfl,rfl⟩;rw[←hW0];clear hW0)
   go_quiet (fail)
   go_wp2_with fail
   refine bodyPost_ret (v:=.tuple #[.int .i64 (-1),.bool false]) (by simp[results,Tryz.results70,go_sem]) rfl ⟨-1,by rw[HR.out],fun h=>(by rw[HR.out]at h;cases h),HW.out _ (by first|exact H2.out.drewq _|exact(H2.out.drewq _).drewq _|exact((H2.out.drewq _).drewq _).drewq _|exact H2.out)⟩
set_option maxRecDepth 100000 in
set_option maxHeartbeats 20000000 in
theorem rres_23(g:Nat){sa:Option Addr}{sn sc:Nat}{ca:Option Addr}{cn cc:Nat}{fa:Option Addr}{fn fc:Nat}{P:aB}(A B C N:Int)(S:ByteArray)(la:Option Addr)(ln lc:Nat)(T:Bool)(va:Option Addr)(vn vc:Nat)(w:World)(l:List Int)
 (hP:aX w g sa sn sc ca cn cc fa fn fc P)(hv:ai w va vn l)(hvn:vn≤140737488355328)(hr:∀ z∈l,InR z)(hN:InR N):
 Calls Tryz.prog 70 #[.pointer (some ⟨g,0,none⟩),.agg #[.int .i64 23,.int .i64 A,.int .i64 B,.int .i64 C,.int .i64 N,.string S,.slice la ln lc,.bool T],.slice va vn vc] w (aF (aC P 23 N S l) w):=by
 obtain⟨W0,hW0⟩:∃ W0,W0=w.alloc (.cells #[.int .i64 23,.int .i64 A,.int .i64 B,.int .i64 C,.int .i64 N,.string S,.slice la ln lc,.bool T] 64):=⟨_,rfl⟩
 have hw0:∀ u,Below (w.heap.size+1) W0 u→Below w.heap.size w u:=fun u hu=>by rw[hW0]at hu;exact bq hu
 have HW:=hid hw0
 have H2:Hid (Below (w.heap.size+1) W0 W0):=hid (Below.refl _ _)
 have hp:=hP.since (hw0 _ H2.out)
 have hq:=hv.since (hw0 _ H2.out)
 obtain⟨z0,z1,z2,z3,z4,z5,z6,z7⟩:W0.cell? ⟨w.heap.size,0,none⟩=some (.int .i64 23)∧W0.cell? ⟨w.heap.size,1,none⟩=some (.int .i64 A)∧W0.cell? ⟨w.heap.size,2,none⟩=some (.int .i64 B)∧W0.cell? ⟨w.heap.size,3,none⟩=some (.int .i64 C)∧W0.cell? ⟨w.heap.size,4,none⟩=some (.int .i64 N)∧W0.cell? ⟨w.heap.size,5,none⟩=some (.string S)∧W0.cell? ⟨w.heap.size,6,none⟩=some (.slice la ln lc)∧W0.cell? ⟨w.heap.size,7,none⟩=some (.bool T):=
  by have hu:=H2.out;rw[hW0]at hu ⊢;exact⟨ah hu 0 _ rfl,ah hu 1 _ rfl,ah hu 2 _ rfl,ah hu 3 _ rfl,ah hu 4 _ rfl,ah hu 5 _ rfl,ah hu 6 _ rfl,ah hu 7 _ rfl⟩
 have z8:=hp.c0
 have z9:=hp.c1
 have z10:=hp.c2
 have hlc1:=hP.f.len
 have hrr:aC P 23 N S l=(if 0≤N∧N<P.funcs.length∧(funcOf P N.toNat).blocks.length≠0 then((funcOf P N.toNat).ret,aG l (jX (funcOf P N.toNat)))else(-1,false)):=rfl
 by_cases h0:N<0
 ·have HR:Hid ((aC P 23 N S l).2=false):=hid (by rw[hrr,if_neg (by omega)])
  clear hP hv hp hq hw0 hr hN hrr
  go_enter Tryz.func70,Tryz.ntmps70
  go_wp2_with(go_at_call 102;(with_reducible refine(pq _).mono ?_);rintro e w' ⟨rfl,rfl⟩;rw[←hW0];clear hW0)
  go_quiet (fail)
  go_wp2_with fail
  refine bodyPost_ret (v:=.tuple #[.int .i64 (-1),.bool false]) (by simp[results,Tryz.results70,go_sem]) rfl ⟨-1,by rw[HR.out],fun h=>(by rw[HR.out]at h;cases h),HW.out _ (by first|exact H2.out.drewq _|exact(H2.out.drewq _).drewq _|exact((H2.out.drewq _).drewq _).drewq _|exact H2.out)⟩
 ·by_cases h1:N<(fn:Int)
  ·obtain⟨k,rfl⟩:=Int.eq_ofNat_of_zero_le (show 0≤N by omega)
   have hk:k<fn:=by omega
   obtain⟨fg,fo,cs,hx,rfl,hcl,hcs,bv,rfl,_,hbl⟩:=hp.f.elem hk
   have hb2:=hbl
   obtain⟨ba,bn,bc,rfl,_⟩:=hb2
   have hc0:W0.cell? ⟨fg,fo+k*2,none⟩=some (.int .i64 (P.funcs[k]).ret):=hcs 0 (by simp)
   have hc1:W0.cell? ⟨fg,fo+k*2+1,none⟩=some (.slice ba bn bc):=hcs 1 (by simp)
   have hfo:funcOf P k=P.funcs[k]:=by unfold funcOf;rw[List.getElem?_eq_getElem hx]
   obtain⟨G,hG⟩:∃ G,P.funcs[k]=G:=⟨_,rfl⟩
   rw[hG]at hbl hfo hc0
   have hbln:=hbl.len
   have hkc:(k:Int)<(fn:Int):=by omega
   rw[show((k:Int)).toNat=k from rfl,hfo]at hrr
   by_cases hb0:bn=0
   ·subst hb0
    have HR:Hid ((aC P 23 (k:Int) S l).2=false):=hid (by rw[hrr,if_neg (fun hh=>hh.2.2 hbln.1)])
    clear hP hv hp hq hw0 hr hN hrr hcs hbl hG hfo hbln
    go_enter Tryz.func70,Tryz.ntmps70
    go_wp2_with(go_at_call 102;(with_reducible refine(pq _).mono ?_);rintro e w' ⟨rfl,rfl⟩;rw[←hW0];clear hW0)
    go_quiet (fail)
    go_wp2_with fail
    refine bodyPost_ret (v:=.tuple #[.int .i64 (-1),.bool false]) (by simp[results,Tryz.results70,go_sem]) rfl ⟨-1,by rw[HR.out],fun h=>(by rw[HR.out]at h;cases h),HW.out _ (by first|exact H2.out.drewq _|exact(H2.out.drewq _).drewq _|exact((H2.out.drewq _).drewq _).drewq _|exact H2.out)⟩
   ·obtain⟨bg,bo,cs2,hx2,rfl,hcl2,hcs2,p,ov,es,rfl,⟨pa,pn,pc,rfl,hpat,_,hpb,_⟩,_⟩:=hbl.elem (i:=0) (by omega)
    have hc2:W0.cell? ⟨bg,bo,none⟩=some (.slice pa pn pc):=by have:=hcs2 0 (by simp);rw[Nat.zero_mul]at this;exact this
    have hps:jX G=G.blocks[0].params:=by
     unfold jX
     clear hcs2 hpat
     revert hx2
     cases G.blocks with
     |nil=>intro hx2;exact absurd hx2 (by simp)
     |cons b r=>intros;rfl
    obtain⟨d,hd⟩:∃ d,G.blocks[0].params=d:=⟨_,rfl⟩
    rw[hd]at hpat hps
    obtain⟨b,hb⟩:∃ b,aG l d=b:=⟨_,rfl⟩
    have CI:Hid (∀u,Below (w.heap.size+1) W0 u→Calls Tryz.prog 14 #[.slice va vn vc,.slice pa pn pc] u (bG b u)):=hid (fun u hu=>by rw[←hb];exact bI va pa vn pn vc pc l d u (hv.since (hw0 u hu)) (hpat.below hu (by show W0.heap.size≤w.heap.size+1;rw[hW0];simp)) hvn (by omega))
    have HR:Hid ((aC P 23 (k:Int) S l).2=b):=hid (by rw[hrr,if_pos ⟨by omega,by omega,by omega⟩,hps,hb])
    have HR1:Hid ((aC P 23 (k:Int) S l).1=G.ret):=hid (by rw[hrr,if_pos ⟨by omega,by omega,by omega⟩])
    have hbn:((bn:Int)==0)=false:=by simpa using hb0
    have hbp:(0:Int)<(bn:Int):=by omega
    have hbq:0<bn:=by omega
    clear hP hv hp hq hw0 hr hN hrr hcs hbl hG hfo hbln hcs2 hpat hps hd hb
    go_enter Tryz.func70,Tryz.ntmps70
    go_wp2_with(go_at_call 102;(with_reducible refine(pq _).mono ?_);rintro e w' ⟨rfl,rfl⟩;rw[←hW0];clear hW0)
    go_quiet (fail)
    go_wp2_with fail
    go_quiet (((go_at_call 14;first|exact kQ (CI.out _ (H2.out.drewq _))|exact Calls.quiet_of (CI.out _ (H2.out.drewq _)))))
    go_wp2_with fail
    refine bodyPost_ret (v:=.tuple #[.int .i64 G.ret,.bool b]) (by simp[results,Tryz.results70,go_sem]) rfl ⟨G.ret,by rw[HR.out],fun _=>HR1.out.symm,HW.out _ (by first|exact H2.out.drewq _|exact(H2.out.drewq _).drewq _|exact((H2.out.drewq _).drewq _).drewq _|exact H2.out)⟩
  ·have HR:Hid ((aC P 23 N S l).2=false):=hid (by rw[hrr,if_neg (by omega)])
   have h1':(fn:Int)≤N:=by omega
   have h0':0≤N:=by omega
   have hd1:decide ((fn:Int)≤N)=true:=decide_eq_true h1'
   have hd0:decide (N<0)=false:=decide_eq_false (by omega)
   clear hP hv hp hq hw0 hr hN h1 h0 hrr
   go_enter Tryz.func70,Tryz.ntmps70
   go_wp2_with(go_at_call 102;(with_reducible refine(pq _).mono ?_);rintro e w' ⟨rfl,rfl⟩;rw[←hW0];clear hW0)
   go_quiet (fail)
   go_wp2_with fail
   refine bodyPost_ret (v:=.tuple #[.int .i64 (-1),.bool false]) (by simp[results,Tryz.results70,go_sem]) rfl ⟨-1,by rw[HR.out],fun h=>(by rw[HR.out]at h;cases h),HW.out _ (by first|exact H2.out.drewq _|exact(H2.out.drewq _).drewq _|exact((H2.out.drewq _).drewq _).drewq _|exact H2.out)⟩
set_option maxRecDepth 100000 in
set_option maxHeartbeats 20000000 in
theorem rres_24(g:Nat){sa:Option Addr}{sn sc:Nat}{ca:Option Addr}{cn cc:Nat}{fa:Option Addr}{fn fc:Nat}{P:aB}(A B C N:Int)(S:ByteArray)(la:Option Addr)(ln lc:Nat)(T:Bool)(va:Option Addr)(vn vc:Nat)(w:World)(x:Int)(l:List Int)(hcap:vn≤vc)
 (hP:aX w g sa sn sc ca cn cc fa fn fc P)(hv:ai w va vn (x::l))(hvn:vn≤140737488355328)(hr:∀ z∈(x::l),InR z)(hN:InR N):
 Calls Tryz.prog 70 #[.pointer (some ⟨g,0,none⟩),.agg #[.int .i64 24,.int .i64 A,.int .i64 B,.int .i64 C,.int .i64 N,.string S,.slice la ln lc,.bool T],.slice va vn vc] w (aF (aC P 24 N S (x::l)) w):=by
 obtain⟨W0,hW0⟩:∃ W0,W0=w.alloc (.cells #[.int .i64 24,.int .i64 A,.int .i64 B,.int .i64 C,.int .i64 N,.string S,.slice la ln lc,.bool T] 64):=⟨_,rfl⟩
 have hw0:∀ u,Below (w.heap.size+1) W0 u→Below w.heap.size w u:=fun u hu=>by rw[hW0]at hu;exact bq hu
 have HW:=hid hw0
 have H2:Hid (Below (w.heap.size+1) W0 W0):=hid (Below.refl _ _)
 have hp:=hP.since (hw0 _ H2.out)
 have hq:=hv.since (hw0 _ H2.out)
 obtain⟨z0,z1,z2,z3,z4,z5,z6,z7⟩:W0.cell? ⟨w.heap.size,0,none⟩=some (.int .i64 24)∧W0.cell? ⟨w.heap.size,1,none⟩=some (.int .i64 A)∧W0.cell? ⟨w.heap.size,2,none⟩=some (.int .i64 B)∧W0.cell? ⟨w.heap.size,3,none⟩=some (.int .i64 C)∧W0.cell? ⟨w.heap.size,4,none⟩=some (.int .i64 N)∧W0.cell? ⟨w.heap.size,5,none⟩=some (.string S)∧W0.cell? ⟨w.heap.size,6,none⟩=some (.slice la ln lc)∧W0.cell? ⟨w.heap.size,7,none⟩=some (.bool T):=
  by have hu:=H2.out;rw[hW0]at hu ⊢;exact⟨ah hu 0 _ rfl,ah hu 1 _ rfl,ah hu 2 _ rfl,ah hu 3 _ rfl,ah hu 4 _ rfl,ah hu 5 _ rfl,ah hu 6 _ rfl,ah hu 7 _ rfl⟩
 have z8:=hp.c0
 have z9:=hp.c1
 have z10:=hp.c2
 obtain⟨lg,lo,rfl,_,hlc⟩:=hq.2 (by have:=hv.1;simp at this;omega)
 have hl0:W0.cell? ⟨lg,lo,none⟩=some (.int .i64 x):=hlc 0 (by simp)
 have hlc1:=hP.s.len
 have hvl:=hv.1
 simp only[List.length_cons]at hvl
 have hv0:0<vn:=by omega
 have hv1:(0:Int)<(vn:Int):=by omega
 have hrr:aC P 24 N S (x::l)=(if 0≤N∧N<P.sigs.length then((iw P N.toNat).ret,x==5&&aG l (iw P N.toNat).params)else(-1,false)):=rfl
 by_cases h0:N<0
 ·have HR:Hid ((aC P 24 N S (x::l)).2=false):=hid (by rw[hrr,if_neg (by omega)])
  clear hP hv hp hq hw0 hr hN hlc hrr
  go_enter Tryz.func70,Tryz.ntmps70
  go_wp2_with(go_at_call 102;(with_reducible refine(o9 _).mono ?_);rintro e w' ⟨rfl,rfl⟩;rw[←hW0];clear hW0)
  go_quiet (fail)
  go_wp2_with fail
  refine bodyPost_ret (v:=.tuple #[.int .i64 (-1),.bool false]) (by simp[results,Tryz.results70,go_sem]) rfl ⟨-1,by rw[HR.out],fun h=>(by rw[HR.out]at h;cases h),HW.out _ (by first|exact H2.out.drewq _|exact(H2.out.drewq _).drewq _|exact((H2.out.drewq _).drewq _).drewq _|exact H2.out)⟩
 ·by_cases h1:N<(sn:Int)
  ·obtain⟨k,rfl⟩:=Int.eq_ofNat_of_zero_le (show 0≤N by omega)
   have hk:k<sn:=by omega
   obtain⟨sg,so,cs,hx,rfl,hcl,hcs,p,rfl,⟨pa,pn,pc,rfl,hpa,_,hpb,_⟩,_⟩:=hp.s.elem hk
   have hc0:W0.cell? ⟨sg,so+k*2,none⟩=some (.slice pa pn pc):=hcs 0 (by simp)
   have hc1:W0.cell? ⟨sg,so+k*2+1,none⟩=some (.int .i64 (P.sigs[k]).ret):=hcs 1 (by simp)
   have hfo:iw P k=P.sigs[k]:=by unfold iw;rw[List.getElem?_eq_getElem hx]
   obtain⟨G,hG⟩:∃ G,P.sigs[k]=G:=⟨_,rfl⟩
   rw[hG]at hpa hfo hc1
   have hkc:(k:Int)<(sn:Int):=by omega
   rw[show((k:Int)).toNat=k from rfl,hfo,if_pos (by omega)]at hrr
   cases e5:(x==5)with
   |false=>
    have e5':(x !=5)=true:=by unfold bne;rw[e5];rfl
    have HR:Hid ((aC P 24 (k:Int) S (x::l)).2=false):=hid (by rw[hrr,e5];rfl)
    clear hP hv hp hq hw0 hr hN hlc hrr hcs hpa hG hfo
    go_enter Tryz.func70,Tryz.ntmps70
    go_wp2_with(go_at_call 102;(with_reducible refine(o9 _).mono ?_);rintro e w' ⟨rfl,rfl⟩;rw[←hW0];clear hW0)
    go_quiet (fail)
    go_wp2_with fail
    refine bodyPost_ret (v:=.tuple #[.int .i64 (-1),.bool false]) (by simp[results,Tryz.results70,go_sem]) rfl ⟨-1,by rw[HR.out],fun h=>(by rw[HR.out]at h;cases h),HW.out _ (by first|exact H2.out.drewq _|exact(H2.out.drewq _).drewq _|exact((H2.out.drewq _).drewq _).drewq _|exact H2.out)⟩
   |true=>
    have e5':(x !=5)=false:=by unfold bne;rw[e5];rfl
    obtain⟨b,hb⟩:∃ b,aG l G.params=b:=⟨_,rfl⟩
    have hvp:1≤vn:=by omega
    have hdr:=ai.drop hv hcap 1 hvp
    obtain⟨s1,hs1⟩:∃ s1,Bv (some ⟨lg,lo,none⟩) vc 1=s1:=⟨_,rfl⟩
    have hsl:∀ u,(Instr.slice 40 (.slice (some ⟨lg,lo,none⟩) vn vc) (some (.int .i64 1)) none none).run Tryz.prog u=.ok (.slice s1 (vn-1) (vc-1)) u:=fun u=>by
     have:=FN Tryz.underlying40 FL (some ⟨lg,lo,none⟩) vn vc 1 hvp u
     rw[hs1]at this
     exact this
    rw[hs1]at hdr
    have CI:Hid (∀u,Below (w.heap.size+1) W0 u→Calls Tryz.prog 14 #[.slice s1 (vn-1) (vc-1),.slice pa pn pc] u (bG b u)):=hid (fun u hu=>by rw[←hb];exact bI s1 pa (vn-1) pn (vc-1) pc l G.params u (hdr.since (hw0 u hu)) (hpa.below hu (by show W0.heap.size≤w.heap.size+1;rw[hW0];simp)) (by omega) (by omega))
    have HR:Hid ((aC P 24 (k:Int) S (x::l)).2=b):=hid (by rw[hrr,e5,hb];rfl)
    have HR1:Hid ((aC P 24 (k:Int) S (x::l)).1=G.ret):=hid (by rw[hrr])
    clear hP hv hp hq hw0 hr hN hlc hrr hcs hpa hG hfo hdr hs1 hb
    go_enter Tryz.func70,Tryz.ntmps70
    go_wp2_with(go_at_call 102;(with_reducible refine(o9 _).mono ?_);rintro e w' ⟨rfl,rfl⟩;rw[←hW0];clear hW0)
    go_quiet (fail)
    go_wp2_with fail
    go_quiet (((go_at_call 14;first|exact kQ (CI.out _ (H2.out.drewq _))|exact Calls.quiet_of (CI.out _ (H2.out.drewq _)))))
    go_wp2_with fail
    refine bodyPost_ret (v:=.tuple #[.int .i64 G.ret,.bool b]) (by simp[results,Tryz.results70,go_sem]) rfl ⟨G.ret,by rw[HR.out],fun _=>HR1.out.symm,HW.out _ (by first|exact H2.out.drewq _|exact(H2.out.drewq _).drewq _|exact((H2.out.drewq _).drewq _).drewq _|exact H2.out)⟩
  ·have HR:Hid ((aC P 24 N S (x::l)).2=false):=hid (by rw[hrr,if_neg (by omega)])
   have h1':(sn:Int)≤N:=by omega
   have h0':0≤N:=by omega
   clear hP hv hp hq hw0 hr hN h1 h0 hrr hlc
   go_enter Tryz.func70,Tryz.ntmps70
   go_wp2_with(go_at_call 102;(with_reducible refine(o9 _).mono ?_);rintro e w' ⟨rfl,rfl⟩;rw[←hW0];clear hW0)
   go_quiet (fail)
   go_wp2_with fail
   refine bodyPost_ret (v:=.tuple #[.int .i64 (-1),.bool false]) (by simp[results,Tryz.results70,go_sem]) rfl ⟨-1,by rw[HR.out],fun h=>(by rw[HR.out]at h;cases h),HW.out _ (by first|exact H2.out.drewq _|exact(H2.out.drewq _).drewq _|exact((H2.out.drewq _).drewq _).drewq _|exact H2.out)⟩
theorem xw(K:Int)(h:K<0∨25<K)(w:World):Calls Tryz.prog 102 #[.int .i64 K] w fun e w'=>e=.returned (.tuple #[.slice none 0 0,.int .i64 (-1),.bool false])∧w'=w:=by
 have k0:(K==0)=false:=by simp;omega
 have k1:(K==1)=false:=by simp;omega
 have k2:(K==2)=false:=by simp;omega
 have k3:(K==3)=false:=by simp;omega
 have k4:(K==4)=false:=by simp;omega
 have k5:(K==5)=false:=by simp;omega
 have k6:(K==6)=false:=by simp;omega
 have k7:(K==7)=false:=by simp;omega
 have k8:(K==8)=false:=by simp;omega
 have k9:(K==9)=false:=by simp;omega
 have k10:(K==10)=false:=by simp;omega
 have k11:(K==11)=false:=by simp;omega
 have k12:(K==12)=false:=by simp;omega
 have k13:(K==13)=false:=by simp;omega
 have k14:(K==14)=false:=by simp;omega
 have k15:(K==15)=false:=by simp;omega
 have k16:(K==16)=false:=by simp;omega
 have k17:(K==17)=false:=by simp;omega
 have k18:(K==18)=false:=by simp;omega
 have k19:(K==19)=false:=by simp;omega
 have k20:(K==20)=false:=by simp;omega
 have k21:(K==21)=false:=by simp;omega
 have k22:(K==22)=false:=by simp;omega
 have k23:(K==23)=false:=by simp;omega
 have k24:(K==24)=false:=by simp;omega
 have k25:(K==25)=false:=by simp;omega
 clear h
 go_enter Tryz.func102,Tryz.ntmps102
 go_wp2
 exact bodyPost_ret (v:=.tuple #[.slice none 0 0,.int .i64 (-1),.bool false]) (by simp[results,Tryz.results102,go_sem]) rfl ⟨rfl,rfl⟩
theorem Aw{P:aB}{K N:Int}{S:ByteArray}{l:List Int}(h:K<0∨25<K):aC P K N S l=(-1,false):=by
 unfold aC
 repeat rw[if_neg (by omega)]
theorem Dh(pv:Value)(P:aB)(K:Int)(h:K<0∨25<K)(A B C N:Int)(S:ByteArray)(la:Option Addr)(ln lc:Nat)(T:Bool)(va:Option Addr)(vn vc:Nat)(l:List Int)(w:World):
 Calls Tryz.prog 70 #[pv,.agg #[.int .i64 K,.int .i64 A,.int .i64 B,.int .i64 C,.int .i64 N,.string S,.slice la ln lc,.bool T],.slice va vn vc] w (aF (aC P K N S l) w):=by
 rw[Aw h]
 have HW:=hid (xw K h)
 have k0:(K==0)=false:=by simp;omega
 have k1:(K==1)=false:=by simp;omega
 have k2:(K==2)=false:=by simp;omega
 have k3:(K==3)=false:=by simp;omega
 have k4:(K==4)=false:=by simp;omega
 have k5:(K==5)=false:=by simp;omega
 have k6:(K==6)=false:=by simp;omega
 have k7:(K==7)=false:=by simp;omega
 have k8:(K==8)=false:=by simp;omega
 have k9:(K==9)=false:=by simp;omega
 have k10:(K==10)=false:=by simp;omega
 have k11:(K==11)=false:=by simp;omega
 have k12:(K==12)=false:=by simp;omega
 have k13:(K==13)=false:=by simp;omega
 have k14:(K==14)=false:=by simp;omega
 have k15:(K==15)=false:=by simp;omega
 have k16:(K==16)=false:=by simp;omega
 have k17:(K==17)=false:=by simp;omega
 have k18:(K==18)=false:=by simp;omega
 have k19:(K==19)=false:=by simp;omega
 have k20:(K==20)=false:=by simp;omega
 have k21:(K==21)=false:=by simp;omega
 have k22:(K==22)=false:=by simp;omega
 have k23:(K==23)=false:=by simp;omega
 have k24:(K==24)=false:=by simp;omega
 have k25:(K==25)=false:=by simp;omega
 clear h
 go_enter Tryz.func70,Tryz.ntmps70
 go_wp2_with(go_at_call 102;(with_reducible refine(HW.out _).mono ?_);rintro e w' ⟨rfl,rfl⟩)
 exact bodyPost_ret (v:=.tuple #[.int .i64 (-1),.bool false]) (by simp[results,Tryz.results70,go_sem]) rfl ⟨-1,rfl,(fun h=>by cases h),bD _ _ _⟩
set_option maxHeartbeats 20000000 in
theorem rres_3(pv:Value)(P:aB)(A B C N:Int)(S:ByteArray)(la:Option Addr)(ln lc:Nat)(T:Bool)(va:Option Addr)(vn vc:Nat)(l:List Int)(w:World)(hv:ai w va vn l)(hvn:vn≤140737488355328):
 Calls Tryz.prog 70 #[pv,.agg #[.int .i64 3,.int .i64 A,.int .i64 B,.int .i64 C,.int .i64 N,.string S,.slice la ln lc,.bool T],.slice va vn vc] w (aF (aC P 3 N S l) w):=by
 have hr:aC P 3 N S l=(tlV N,decide (0≤N∧N≤13)&&aG l [0,0]):=rfl
 obtain⟨W0,hW0⟩:∃ W0,W0=w.alloc (.cells #[.int .i64 3,.int .i64 A,.int .i64 B,.int .i64 C,.int .i64 N,.string S,.slice la ln lc,.bool T] 64):=⟨_,rfl⟩
 have HT:=hid (rt_any N)
 obtain⟨t,ht⟩:∃ t,tlV N=t:=⟨_,rfl⟩
 obtain⟨z0,z4⟩:W0.cell? ⟨w.heap.size,0,none⟩=some (.int .i64 3)∧W0.cell? ⟨w.heap.size,4,none⟩=some (.int .i64 N):=by
  have hu:Below (w.heap.size+1) W0 W0:=Below.refl _ _
  rw[hW0]at hu⊢
  exact⟨ah hu 0 _ rfl,ah hu 4 _ rfl⟩
 have HW:Hid (∀u,Below (w.heap.size+1) W0 u→Below w.heap.size w u):=hid (fun u hu=>by rw[hW0]at hu;exact bq hu)
 have H2:Hid (Below (w.heap.size+1) W0 W0):=hid (Below.refl _ _)
 have HR1:Hid ((aC P 3 N S l).1=t):=hid (by rw[hr,ht])
 rw[ht]at HT
 by_cases h0:N<0
 ·have HR:Hid ((aC P 3 N S l).2=false):=hid (by rw[hr,decide_eq_false (by omega)];rfl)
  have hd:decide (0≤N)=false:=decide_eq_false (by omega)
  clear hv hr ht
  go_enter Tryz.func70,Tryz.ntmps70
  go_wp2_with(go_at_call 102;(with_reducible refine(wV _).mono ?_);rintro e w' ⟨rfl,rfl⟩;rw[←hW0];clear hW0)
  go_quiet ((go_at_call 103;exact rE (HT.out _)))
  go_wp2_with fail
  exact bodyPost_ret (v:=.tuple #[.int .i64 t,.bool false]) (by simp[results,Tryz.results70,go_sem]) rfl ⟨t,by rw[HR.out],fun _=>HR1.out.symm,HW.out _ (H2.out.drewq _)⟩
 by_cases h1:13<N
 ·have HR:Hid ((aC P 3 N S l).2=false):=hid (by rw[hr,decide_eq_false (by omega)];rfl)
  have h0':0≤N:=by omega
  have hd:decide (N≤13)=false:=decide_eq_false (by omega)
  clear hv hr ht h0
  go_enter Tryz.func70,Tryz.ntmps70
  go_wp2_with(go_at_call 102;(with_reducible refine(wV _).mono ?_);rintro e w' ⟨rfl,rfl⟩;rw[←hW0];clear hW0)
  go_quiet ((go_at_call 103;exact rE (HT.out _)))
  go_wp2_with fail
  exact bodyPost_ret (v:=.tuple #[.int .i64 t,.bool false]) (by simp[results,Tryz.results70,go_sem]) rfl ⟨t,by rw[HR.out],fun _=>HR1.out.symm,HW.out _ (H2.out.drewq _)⟩
 obtain⟨b,hb⟩:∃ b,aG l [0,0]=b:=⟨_,rfl⟩
 have HR:Hid ((aC P 3 N S l).2=b):=hid (by rw[hr,hb,decide_eq_true (by omega)];rfl)
 have h0':0≤N:=by omega
 have h1':N≤13:=by omega
 have hW1:W0.heap.size=w.heap.size+1:=by rw[hW0];simp
 have HB2:Hid (Below (w.heap.size+1) W0 (W0.alloc (.cells #[.int .i64 0,.int .i64 0] 3))):=hid ((Below.refl _ _).alloc (by omega) _)
 have CI:Hid (∀q,Calls Tryz.prog 14 #[.slice va vn vc,.slice (some ⟨W0.heap.size,0,none⟩) 2 2] ((W0.alloc (.cells #[.int .i64 0,.int .i64 0] 3)).drewN q) (bG b ((W0.alloc (.cells #[.int .i64 0,.int .i64 0] 3)).drewN q))):=hid (fun q=>by
  rw[←hb]
  exact bI va _ vn 2 vc 2 l [0,0] _ (hv.since (HW.out _ (HB2.out.drewq q))) ((ay 2 [0,0] _ rfl rfl rfl).drewN q) hvn (by decide))
 clear hv hr ht h0 h1 hb hW1
 go_enter Tryz.func70,Tryz.ntmps70
 go_wp2_with(go_at_call 102;(with_reducible refine(wV _).mono ?_);rintro e w' ⟨rfl,rfl⟩;rw[←hW0];clear hW0)
 go_region_with (first|(go_at_call 103;(refine(HT.out _).mono ?_);rintro e w' ⟨rfl,rfl⟩)|(go_at_call 14;(refine(CI.out 1).mono ?_);rintro e w' ⟨rfl,n,rfl⟩))
 all_goals
  go_wp2_with fail
  exact bodyPost_ret (v:=.tuple #[.int .i64 t,.bool b]) (by simp[results,Tryz.results70,go_sem]) rfl ⟨t,by rw[HR.out],fun _=>HR1.out.symm,HW.out _ (by first|exact HB2.out.drewq _|exact(HB2.out.drewq _).drewq _)⟩
end Go.Proofs.YthjdeoppajlcoaaGreatDoor

namespace Go.Proofs.YthjdeoppajlcoaaGreatDoor
set_option linter.unusedSimpArgs false
set_option linter.unusedVariables false
open Go.RowKit
attribute [local go_sem] Oper.semAt_some
open Go.Lib (hid)
def ddn(n q:Nat):List Nat:=(List.range q).map fun j=>n-1-j
theorem zI(n q:Nat):ddn n (q+1)=ddn n q++ [n-1-q]:=by unfold ddn;rw[List.range_succ,List.map_append];rfl
theorem EG(n q:Nat):(ddn n q).length=q:=by simp[ddn]
structure jR(b:Nat)(a:Option Addr)(n:Nat)(L:List Int)(W W':World):Prop where
 walks:KeepsWalks W W'
 box:W'.cell? ⟨b,0,none⟩=W.cell? ⟨b,0,none⟩
 nums:ai W a n L→ai W' a n L
theorem jR.refl(b:Nat)(a:Option Addr)(n:Nat)(L:List Int)(W:World):jR b a n L W W:=⟨KeepsWalks.refl W,rfl,id⟩
theorem jR.trans{b:Nat}{a:Option Addr}{n:Nat}{L:List Int}{A B C:World}(h:jR b a n L A B)(k:jR b a n L B C):jR b a n L A C:=⟨h.walks.trans k.walks,k.box.trans h.box,fun x=>k.nums (h.nums x)⟩
theorem yg{W:World}{l k:Nat}{o o':Obj}{x:Value}{j:Nat}(ho:W.heap[l]? =some o)(hc:o.isCells=false)(h:W.cell? ⟨k,j,none⟩=some x):k≠l:=fun e=>by
 subst e
 simp only[World.cell?,ho]at h
 cases o<;>simp_all[Obj.isCells]
theorem vF{b n0:Nat}{a:Option Addr}{n:Nat}{L:List Int}(h1:b<n0)(W:World)(l:Nat)(o o':Obj)(hl:n0≤l)(ho:W.heap[l]? =some o)(hc:o.isCells=false)(hw:o.isWalk=false):jR b a n L W (W.putObj l o'):=
 ⟨KeepsWalks.putObj _ ho hw,by simp only[World.cell?,World.putObj_heap_other (show b≠l by omega)],fun h=>⟨h.1,fun h0=>by
  obtain⟨g,off,e,hg,hcs⟩:=h.2 h0
  have hne:g≠l:=yg (o':=o') ho hc (hcs 0 (by have:=h.1;omega))
  refine⟨g,off,e,by simpa using hg,fun j hj=> ?_⟩
  rw[←hcs j hj]
  simp only[World.cell?,World.putObj_heap_other hne]⟩⟩
theorem vY(a:Option Addr)(n c:Nat)(w:World):
 Calls Tryz.prog 159 #[.slice a n c] w fun e w'=>e=.returned (.func (.func 167) #[] #[.pointer (some ⟨w.heap.size,0,none⟩)])∧w'=w.alloc (.cells #[.slice a n c] 40):=by
 go_enter Tryz.func159,Tryz.ntmps159
 go_wp2_with fail
 go_ret
 exact⟨rfl,rfl⟩
set_option maxRecDepth 100000 in
set_option maxHeartbeats 2000000 in
theorem GQ(a:Option Addr)(n c:Nat)(L:List Int)(b m:Nat)(w:World)(hb:w.cell? ⟨b,0,none⟩=some (.slice a n c))(hL:ai w a n L)(hn:n≤1099511627776):
 SeqStopsK Fence.wide m Tryz.prog 167 #[.pointer (some ⟨b,0,none⟩)] (fun i:Nat=>#[.int .i64 (i:Int),.int .i64 (nth L i)]) (jR b a n L) (fun xs=>xs=ddn n n) (fun pre=>∃ q,pre=ddn n q) n w:=by
 intro l J Jx W hW hJ hJx hY h0
 have hlt:b<w.heap.size:=World.block_lt_of_cell? (a:=⟨b,0,none⟩) _ hb
 have HB:Hid (∀u,jR b a n L W u→u.cell? ⟨b,0,none⟩=some (.slice a n c)∧ai u a n L):=hid fun u hu=>⟨hu.box.trans ((hW.cell (p:=⟨b,0,none⟩) hlt).trans hb),hu.nums (hL.since hW)⟩
 have c0:=(HB.out W (jR.refl b a n L W)).1
 have HL:=hid hL.1
 have HY:=hid hY
 have HJ0:Hid (J (ddn n 0) W∧jR b a n L W W):=hid ⟨h0,jR.refl b a n L W⟩
 have hwn:wrap64 ((n:Int)-1)=(n:Int)-1:=by unfold wrap64;omega
 clear hb hlt hW hJ hJx hY h0 hL
 refine callsIn_of_wp Tryz.func167 rfl trivial ?_ rfl
 simp only[Tryz.ntmps167,List.size_toArray,List.length_cons,List.length_nil,Nat.reduceAdd,Nat.reduceSub,Array.replicate_succ,Array.replicate_zero,List.push_toArray,List.append_toArray,List.nil_append,List.cons_append]
 gi_wp2
 clear c0
 gi_loopw [3] (fun v3 wr=>∃ q:Nat,q≤n∧v3=.int .i64 ((n:Int)-1-q)∧Hid (J (ddn n q) wr∧jR b a n L W wr)) (fun v3 _=>(intOf v3+1).toNat)
 case atStart=>exact⟨0,by omega,by simp,HJ0⟩
 case round=>
  obtain⟨q,hq,rfl,HI⟩:=hrel
  clear HJ0
  obtain⟨wo,hwo⟩:∃ u,u=wr:=⟨_,rfl⟩
  rw[←hwo]at HI⊢
  clear hwo
  by_cases hlt:q<n
  ·obtain⟨i,hi⟩:∃ i:Nat,i=n-1-q:=⟨_,rfl⟩
   have hiI:(n:Int)-1-q=(i:Int):=by omega
   have hin:(i:Int)<(n:Int):=by omega
   have hi0:(0:Int)≤(i:Int):=by omega
   have hbx:=(HB.out wo HI.out.2).1
   obtain⟨g,off,hae,hg,hcs⟩:=(HB.out wo HI.out.2).2.2 (by omega)
   subst hae
   have hil:i<L.length:=by rw[HL.out];omega
   have hcell:wo.cell? ⟨g,off+i,none⟩=some (.int .i64 (nth L i)):=by rw[bN hil];exact hcs i hil
   obtain⟨fn,tmps,assign,body,hy,hR⟩:=HY.out (ddn n q) i wo HI.out.1 (by rw[EG];exact hlt)
   have HDN:Hid (ddn n (q+1)=ddn n q++ [i]):=hid (by rw[zI,hi])
   have hwi:wrap64 ((i:Int)-1)=(i:Int)-1:=by unfold wrap64;omega
   have HII:=hid hiI
   clear hcs hg hi hil
   rw[hiI]
   clear hiI
   gi_wp2
   refine⟨(fun h=>(nomatch h)),hR.mono ?_⟩
   rintro e W3 (⟨rfl,hJ3,hk3⟩|⟨rfl,hJx3⟩)
   ·have HN3:Hid (J (ddn n (q+1)) W3∧jR b (some ⟨g,off,none⟩) n L W W3):=hid ⟨by rw[HDN.out];exact hJ3,HI.out.2.trans hk3⟩
    clear hJ3 hk3 hy hR
    gi_wp2
    go_roundw
    case rel=>exact⟨q+1,hlt,by have:=HII.out;congr 1<;>omega,HN3⟩
    case measure=>have:=HII.out;simp[intOf]<;>omega
   ·gi_wp2
    refine bodyPost_ret (results_none rfl _ _ _) rfl ?_
    exact⟨⟨_,rfl⟩,.inr ⟨_,⟨q+1,rfl⟩,by rw[HDN.out];exact hJx3⟩⟩
  ·obtain rfl:q=n:=by omega
   have hneg:(q:Int)-1-q= -1:=by omega
   rw[hneg]
   gi_wp2
   go_end0
   exact⟨⟨_,rfl⟩,.inl ⟨_,rfl,HI.out.1⟩⟩
end Go.Proofs.YthjdeoppajlcoaaGreatDoor

namespace Go.Proofs.YthjdeoppajlcoaaGreatDoor
set_option linter.unusedVariables false
open Go.RowKit
attribute [local go_sem] Oper.semAt_some
theorem Box.putObj{u:World}{g l:Nat}{P:Array Value}(h:Box u g P)(o:Obj)(hl:g≠l):Box (u.putObj l o) g P:=
 ⟨fun j=>by simp only[World.cell?,World.putObj_heap_other hl];exact h.1 j,fun j=>by simp only[World.frozen?,World.putObj_heap_other hl];exact h.2 j⟩
end Go.Proofs.YthjdeoppajlcoaaGreatDoor

namespace Go.Proofs.YthjdeoppajlcoaaGreatDoor
set_option linter.unusedVariables false
open Go.RowKit
attribute [local go_sem] Oper.semAt_some
open Go.Lib (hid)
def ng(K A B C:Int)(L:List Int)(m:Int):Bool:=(aA K A B C L).all fun v=>vE v m
structure o8(w W:World)(O:Array Value)(m:Int):Prop where
 inb:Box W w.heap.size O
 many:Box W (w.heap.size+1) #[.int .i64 m]
 res:Box W (w.heap.size+2) #[.bool false]
 bel:Below w.heap.size w W
 siz:w.heap.size+4≤W.heap.size
theorem o8.grown{w W W':World}{O:Array Value}{m:Int}{row:Option Nat}(h:o8 w W O m)(hg:W.grownBy W' row)(hr:∀ r,row=some r→w.heap.size+4≤r):o8 w W' O m:=
 have hb:Below (w.heap.size+4) W W':=Below.grown (Below.refl _ W) hg h.siz hr
 ⟨h.inb.below hb (by omega),h.many.below hb (by omega),h.res.below hb (by omega),h.bel.trans (hb.mono (by omega)),Nat.le_trans h.siz hb.size⟩
theorem o8.drew{w W:World}{O:Array Value}{m:Int}(h:o8 w W O m):o8 w W.drew O m:=⟨h.inb,h.many,h.res,h.bel.drew,h.siz⟩
theorem o8.put{w W:World}{O:Array Value}{m:Int}(h:o8 w W O m):o8 w (W.setCell ⟨w.heap.size+1+1,0,none⟩ (.bool false)) O m:=
 ⟨h.inb.other (by omega) _ _,h.many.other (by omega) _ _,h.res.set (g:=w.heap.size+2) 0 _ (by simp) (by simp),h.bel.setCell (by show w.heap.size≤w.heap.size+1+1;omega) _,by rw[dB];exact h.siz⟩
theorem Kept.drew(Bo b:Nat)(W:World):Kept Bo b W W.drew:=⟨(KeepsOthers.drew W).walks,rfl,rfl⟩
set_option maxRecDepth 100000 in
set_option maxHeartbeats 4000000 in
theorem GU(K A B C N:Int)(S:ByteArray)(la:Option Addr)(ln lc:Nat)(T:Bool)(L:List Int)(m:Int)(w:World)(hft:FT w)(hat:ai w la ln L)(hn:ln≤17592186044000):
 Calls Tryz.prog 67 #[.agg #[.int .i64 K,.int .i64 A,.int .i64 B,.int .i64 C,.int .i64 N,.string S,.slice la ln lc,.bool T],.int .i64 m] w
  fun e w'=>e=.returned (.bool (ng K A B C L m))∧Below w.heap.size w w':=by
 obtain⟨g,off,hla⟩:∃ g off,0<ln→la=some ⟨g,off,none⟩:=by
  by_cases h:0<ln
  ·obtain⟨g,off,e,_⟩:=hat.2 h
   exact⟨g,off,fun _=>e⟩
  ·exact⟨0,0,fun h'=>absurd h' h⟩
 have HA:=hid hat
 have HFT:=hid hft
 have HLA:=hid hla
 have hmix:Tryz.prog.follows .mixedOrders=true:=by kernel_rfl
 clear hat hft hla
 refine(callsIn_wide (n:=9)).1 ?_
 refine callsIn_of_wp_marks Tryz.func67 rfl trivial ?_ rfl
 simp only[Tryz.ntmps67,List.size_toArray,List.length_cons,List.length_nil,Nat.reduceAdd,Nat.reduceSub,Array.replicate_succ,Array.replicate_zero,List.push_toArray,List.append_toArray,List.nil_append,List.cons_append]
 gi_wp2_with (refine⟨trivial, ?_⟩;gi_at_call 97;refine(callsIn_wide.2 (rF _ _)).mono ?_;rintro e w' ⟨rfl,rfl⟩)
 have HS0:Hid (o8 w ((((w.alloc (.cells #[.int .i64 K,.int .i64 A,.int .i64 B,.int .i64 C,.int .i64 N,.string S,.slice la ln lc,.bool T] 64)).alloc (.cells #[.int .i64 m] 3)).alloc (.cells #[.bool false] 4)).alloc (.cells #[.pointer (some ⟨w.heap.size,0,none⟩)] 150)) #[.int .i64 K,.int .i64 A,.int .i64 B,.int .i64 C,.int .i64 N,.string S,.slice la ln lc,.bool T] m):=
  hid ⟨(((Box.new w _ _ rfl).alloc (by simp) _).alloc (by simp<;>omega) _).alloc (by simp<;>omega) _,((Box.new _ _ _ (by simp)).alloc (by simp) _).alloc (by simp<;>omega) _,(Box.new _ _ _ (by simp)).alloc (by simp) _,((((Below.refl w.heap.size w).alloc (Nat.le_refl _) _).alloc (by simp) _).alloc (by simp<;>omega) _).alloc (by simp<;>omega) _,by simp⟩
 have hcB:((((w.alloc (.cells #[.int .i64 K,.int .i64 A,.int .i64 B,.int .i64 C,.int .i64 N,.string S,.slice la ln lc,.bool T] 64)).alloc (.cells #[.int .i64 m] 3)).alloc (.cells #[.bool false] 4)).alloc (.cells #[.pointer (some ⟨w.heap.size,0,none⟩)] 150)).cell? ⟨w.heap.size+1+1+1,0,none⟩=some (.pointer (some ⟨w.heap.size,0,none⟩)):=by
  rw[show w.heap.size+1+1+1=(((w.alloc (.cells #[.int .i64 K,.int .i64 A,.int .i64 B,.int .i64 C,.int .i64 N,.string S,.slice la ln lc,.bool T] 64)).alloc (.cells #[.int .i64 m] 3)).alloc (.cells #[.bool false] 4)).heap.size by simp]
  exact World.cell?_alloc_mark _ _ _ _ _
 obtain⟨W0,hW0⟩:∃ W0,((((w.alloc (.cells #[.int .i64 K,.int .i64 A,.int .i64 B,.int .i64 C,.int .i64 N,.string S,.slice la ln lc,.bool T] 64)).alloc (.cells #[.int .i64 m] 3)).alloc (.cells #[.bool false] 4)).alloc (.cells #[.pointer (some ⟨w.heap.size,0,none⟩)] 150))=W0:=⟨_,rfl⟩
 have hz0:W0.heap.size=w.heap.size+4:=by rw[←hW0];simp
 rw[hW0]at HS0 hcB⊢
 clear hW0
 have hs0:=HS0.out
 have hst:=oG K (w.heap.size+1+1+1) w.heap.size g off ln lc la HLA.out (by omega) 8 W0 (HFT.out.since hs0.bel) hcB (by rw[hs0.inb.1];rfl) (by rw[hs0.inb.1];rfl)
 clear hs0
 have HV:=hid (yR (b:=w.heap.size) (g:=g) (off:=off) (K:=K) (A:=A) (B:=B) (C:=C) HA.out.1)
 refine wpIn_rangeFunc_ownF rfl (by omega) (gf:=127) (lb:=#[.pointer (some ⟨w.heap.size+1+1+1,0,none⟩)]) rfl trivial (enters_of Tryz.func127 (by kernel_rfl) rfl) hst Kept.trans ?hKb (Below.refl _ _) (fun _=>rfl)
  (fun pre W=>o8 w W #[.int .i64 K,.int .i64 A,.int .i64 B,.int .i64 C,.int .i64 N,.string S,.slice la ln lc,.bool T] m∧∀ i∈pre,vE (wX w.heap.size g off ln K A B C L i) m=true)
  (fun c pre W=>c=.ret∧o8 w W #[.int .i64 K,.int .i64 A,.int .i64 B,.int .i64 C,.int .i64 N,.string S,.slice la ln lc,.bool T] m∧∃ i,vE (wX w.heap.size g off ln K A B C L i) m=false) ?hI ?hIx ⟨HS0.out,fun i h=>by cases h⟩
  (fun i=>{tmps:=#[.agg #[.int .i64 K,.int .i64 A,.int .i64 B,.int .i64 C,.int .i64 N,.string S,.slice la ln lc,.bool T],.int .i64 m,.pointer (some ⟨w.heap.size,0,none⟩),.pointer (some ⟨w.heap.size+1,0,none⟩),.pointer (some ⟨w.heap.size+1+1,0,none⟩),.pointer (some (fQ w.heap.size g off ln K i)),.func (.func 127) #[] #[.pointer (some ⟨w.heap.size+1+1+1,0,none⟩)],.pointer (some (fQ w.heap.size g off ln K i)),undef,undef,undef,undef,undef,undef],defers:=[]}) ?assign ?body ?done ?stop
 case hKb=>exact qp (n0:=W0.heap.size) (by omega) (by omega)
 case hI=>rintro pre W W' row ⟨hS,hp⟩ hg hr;exact⟨hS.grown hg (fun r e=>by rw[←hz0];exact(hr r e).1),hp⟩
 case hIx=>rintro c pre W W' row ⟨hc,hS,hp⟩ hg hr;exact⟨hc,hS.grown hg (fun r e=>by rw[←hz0];exact(hr r e).1),hp⟩
 case assign=>
  intro l x W K hK
  gi_wp2
  exact hK
 case body=>
  rintro l pre x W ⟨hS,hp⟩ hlen
  have HS:=hid hS
  have HP:=hid hp
  have hcx:W.cell? (fQ w.heap.size g off ln K x)=some (dN (wX w.heap.size g off ln K A B C L x)):=qh HA.out.1 HLA.out hS.inb.1 (HA.out.since hS.bel) _ (pair_mem x)
  have hcm:=hS.many.1
  have hcr:∀ j,W.cell? ⟨w.heap.size+1+1,j,none⟩=_:=hS.res.1
  have hfr:∀ j,W.frozen? ⟨w.heap.size+1+1,j,none⟩=false:=hS.res.2
  obtain⟨ad,had⟩:∃ ad,fQ w.heap.size g off ln K x=ad:=⟨_,rfl⟩
  obtain⟨z,hz⟩:∃ z,wX w.heap.size g off ln K A B C L x=z:=⟨_,rfl⟩
  rw[had,hz]at hcx
  rw[had]
  unfold dN at hcx
  have HZ:=hid hz
  clear hS hp hz had
  obtain⟨b,hb⟩:∃ b,vE z m=b:=⟨_,rfl⟩
  cases b with
  |true=>
   gi_wp2
   gi_region_with_o (refine⟨trivial, ?_⟩;gi_at_call 98;refine(CallsIn.inRound l (callsIn_wide.2 (eF z m _))).mono ?_;rintro e w' ⟨rfl,rfl⟩;rw[hb])
   all_goals gi_wp2
   all_goals exact⟨KeepsOthers.drew W,Kept.drew _ _ W,HS.out.drew,fun i hi=>by
    rcases List.mem_append.1 hi with h|h
    ·exact HP.out i h
    ·rw[List.mem_singleton.1 h,HZ.out,hb]⟩
  |false=>
   gi_wp2
   gi_region_with_o (refine⟨trivial, ?_⟩;gi_at_call 98;refine(CallsIn.inRound l (callsIn_wide.2 (eF z m _))).mono ?_;rintro e w' ⟨rfl,rfl⟩;rw[hb])
   all_goals gi_wp2
   all_goals exact⟨(KeepsOthers.drew W).trans (KeepsOthers.setCell _ _ _),rfl,HS.out.drew.put,x,by rw[HZ.out,hb]⟩
 case done=>
  rintro D ys W hD rfl ⟨hS,hp⟩ hK
  have HS:=hid hS
  have hcr:∀ j,W.cell? ⟨w.heap.size+1+1,j,none⟩=_:=hS.res.1
  have hfr:∀ j,W.frozen? ⟨w.heap.size+1+1,j,none⟩=false:=hS.res.2
  have HE:Hid (ng K A B C L m=true):=hid (by
   unfold ng
   rw[←HV.out,List.all_eq_true]
   intro v hv
   obtain⟨i,hi,rfl⟩:=List.mem_map.1 hv
   exact hp i hi)
  clear hS hp
  gi_wp2
  have hK2:=(KeepsOthers.setCell W ⟨w.heap.size+1+1,0,none⟩ (.bool true)).same D _ hK rfl
  refine⟨by simp,.inl ⟨_,_,rfl,run_takeDeferred hK2, ?_⟩⟩
  have hbx:Box ((W.setCell ⟨w.heap.size+1+1,0,none⟩ (.bool true)).putObj D (.deferred none)) (w.heap.size+2) #[.bool true]:=(HS.out.res.set 0 (.bool true) (by simp) (by simp)).putObj (.deferred none) (by omega)
  have HBW:=hid (((HS.out.bel).setCell (p:=⟨w.heap.size+1+1,0,none⟩) (by show w.heap.size≤w.heap.size+1+1;omega) (.bool true)).trans (belowK_b (w:=w) (Nat.le_refl _) _ D _ (.deferred none) (by omega) hK2 rfl rfl))
  clear hcr hfr hK2
  revert hbx HBW
  generalize World.putObj _ D (.deferred none)=W3
  intro hbx HBW
  have hc3:∀ j,W3.cell? ⟨w.heap.size+1+1,j,none⟩=_:=hbx.1
  exact⟨.bool true,(by simp[results,Tryz.results67,go_sem,hc3]),by rw[HE.out],HBW.out⟩
 case stop=>
  rintro D c pre W hD _ ⟨rfl,hS,i,hi⟩ hK
  have HS:=hid hS
  have HE:Hid (ng K A B C L m=false):=hid (by
   unfold ng
   rw[←HV.out,List.all_eq_false]
   exact⟨_,List.mem_map.2 ⟨i,by unfold eZ;rw[List.take_of_length_le (by simp)];exact List.mem_finRange i,rfl⟩,by rw[hi];simp⟩)
  clear hS hi
  gi_wp2
  refine⟨by simp,.inl ⟨_,_,rfl,run_takeDeferred hK, ?_⟩⟩
  have hbx:Box (W.putObj D (.deferred none)) (w.heap.size+2) #[.bool false]:=HS.out.res.putObj (.deferred none) (by omega)
  have HBW:=hid (HS.out.bel.trans (belowK_b (w:=w) (Nat.le_refl _) W D _ (.deferred none) (by omega) hK rfl rfl))
  revert hbx HBW
  generalize World.putObj _ D (.deferred none)=W3
  intro hbx HBW
  have hc3:∀ j,W3.cell? ⟨w.heap.size+1+1,j,none⟩=_:=hbx.1
  exact⟨.bool false,(by simp[results,Tryz.results67,go_sem,hc3]),by rw[HE.out],HBW.out⟩
end Go.Proofs.YthjdeoppajlcoaaGreatDoor

namespace Go.Proofs.YthjdeoppajlcoaaGreatDoor
set_option linter.unusedVariables false
open Go.RowKit (wrap64 intOf Below Hid)
open Go.Lib (hid)
def ul(P:aB)(K A B C N:Int)(S:ByteArray)(L ts:List Int):Int×Bool:=
 if ng K A B C L ts.length=true then(if(aC P K N S ((aA K A B C L).map (aQ ts))).2=true then((aC P K N S ((aA K A B C L).map (aQ ts))).1,true)else(-1,false))else(-1,false)
def yu(r:Int×Bool)(w:World)(e:Ending)(w':World):Prop:=e=.returned (.tuple #[.int .i64 r.1,.bool r.2])∧Below w.heap.size w w'
theorem GR{K A B C:Int}{L:List Int}{n:Nat}(h:ng K A B C L n=true):Among (aA K A B C L) n:=fun v hv=>by
 unfold ng at h
 exact of_decide_eq_true (List.all_eq_true.1 h v hv)
set_option maxRecDepth 100000 in
theorem qo(g:Nat){sa:Option Addr}{sn sc:Nat}{ca:Option Addr}{cn cc:Nat}{fa:Option Addr}{fn fc:Nat}{P:aB}(K A B C N:Int)(S:ByteArray)(la:Option Addr)(ln lc:Nat)(T:Bool)(L:List Int)(ta:Option Addr)(tn tc:Nat)(ts:List Int)(w:World)
 (hft:FT w)(hP:aX w g sa sn sc ca cn cc fa fn fc P)(hat:ai w la ln L)(hln:ln≤17592186044000)(ht:ai w ta tn ts)(htn:tn≤140737488355328)(hr:∀ z∈ts,InR z)(hN:InR N):
 Calls Tryz.prog 37 #[.pointer (some ⟨g,0,none⟩),.agg #[.int .i64 K,.int .i64 A,.int .i64 B,.int .i64 C,.int .i64 N,.string S,.slice la ln lc,.bool T],.slice ta tn tc] w (yu (ul P K A B C N S L ts) w):=by
 obtain⟨W0,hW0⟩:∃ W0,W0=w.alloc (.cells #[.int .i64 K,.int .i64 A,.int .i64 B,.int .i64 C,.int .i64 N,.string S,.slice la ln lc,.bool T] 64):=⟨_,rfl⟩
 have hw0:∀ u,Below (w.heap.size+1) W0 u→Below w.heap.size w u:=fun u hu=>by rw[hW0]at hu;exact bq hu
 have H2:Hid (Below (w.heap.size+1) W0 W0):=hid (Below.refl _ _)
 have HZ:Hid (w.heap.size+1≤W0.heap.size):=hid (by rw[hW0];simp)
 have hlt:=ht.1
 have HAL:=hid (GU K A B C N S la ln lc T L (tn:Int) W0 (hft.since (hw0 _ H2.out)) (hat.since (hw0 _ H2.out)) hln)
 have HC:Hid (∀u,Below (w.heap.size+1) W0 u→∀ j,u.cell? ⟨w.heap.size,j,none⟩=(#[.int .i64 K,.int .i64 A,.int .i64 B,.int .i64 C,.int .i64 N,.string S,.slice la ln lc,.bool T]:Array Value)[j]?):=hid (fun u hu=>by rw[hW0]at hu;exact iT hu)
 have HW:=hid hw0
 cases hu:ng K A B C L (tn:Int)with
 |false=>
  have HR:Hid (ul P K A B C N S L ts=(-1,false)):=hid (by unfold ul;rw[hlt,hu];rfl)
  rw[hu]at HAL
  clear hft hP hat ht hr hN hw0 hu hlt
  go_enter Tryz.func37,Tryz.ntmps37
  go_wp2_with fail
  rw[←hW0]
  clear hW0
  refine(HAL.out).mono ?_
  rintro e w1 ⟨rfl,hb1⟩
  have HB1:=hid (nV H2.out HZ.out hb1)
  clear hb1
  go_wp2_with fail
  refine bodyPost_ret (v:=.tuple #[.int .i64 (-1),.bool false]) (by simp[results,Tryz.results37,go_sem]) rfl ⟨by rw[HR.out],HW.out _ HB1.out⟩
 |true=>
  have HRW:=hid (fun u hu'=>row_any g K A B C N S la ln lc T L ta tn tc ts u (hP.since (hw0 u hu')) (hat.since (hw0 u hu')) hln (ht.since (hw0 u hu')) htn hr hN (GR hu))
  have hrs:ul P K A B C N S L ts=(if(aC P K N S ((aA K A B C L).map (aQ ts))).2=true then((aC P K N S ((aA K A B C L).map (aQ ts))).1,true)else(-1,false)):=by unfold ul;rw[hlt,if_pos hu]
  obtain⟨r1,r2,hrr⟩:∃ r1 r2,aC P K N S ((aA K A B C L).map (aQ ts))=(r1,r2):=⟨_,_,rfl⟩
  rw[hrr]at hrs HRW
  rw[hu]at HAL
  clear hft hP hat ht hr hN hw0 hu hlt hrr
  cases r2 with
  |false=>
   have HR:Hid (ul P K A B C N S L ts=(-1,false)):=hid hrs
   clear hrs
   go_enter Tryz.func37,Tryz.ntmps37
   go_wp2_with fail
   rw[←hW0]
   clear hW0
   refine(HAL.out).mono ?_
   rintro e w1 ⟨rfl,hb1⟩
   have HB1:=hid (nV H2.out HZ.out hb1)
   have hcc:=HC.out _ HB1.out
   clear hb1
   go_wp2_with fail
   refine(HRW.out _ HB1.out).mono ?_
   rintro e w2 ⟨t,rfl,_,hb2⟩
   have HB2:=hid (nV HB1.out HZ.out hb2)
   clear hb2
   go_wp2_with fail
   refine bodyPost_ret (v:=.tuple #[.int .i64 (-1),.bool false]) (by simp[results,Tryz.results37,go_sem]) rfl ⟨by rw[HR.out],HW.out _ HB2.out⟩
  |true=>
   have HR:Hid (ul P K A B C N S L ts=(r1,true)):=hid hrs
   clear hrs
   go_enter Tryz.func37,Tryz.ntmps37
   go_wp2_with fail
   rw[←hW0]
   clear hW0
   refine(HAL.out).mono ?_
   rintro e w1 ⟨rfl,hb1⟩
   have HB1:=hid (nV H2.out HZ.out hb1)
   have hcc:=HC.out _ HB1.out
   clear hb1
   go_wp2_with fail
   refine(HRW.out _ HB1.out).mono ?_
   rintro e w2 ⟨t,rfl,ht1,hb2⟩
   have HB2:=hid (nV HB1.out HZ.out hb2)
   have HT1:=hid (ht1 rfl)
   clear hb2 ht1
   go_wp2_with fail
   refine bodyPost_ret (v:=.tuple #[.int .i64 t,.bool true]) (by simp[results,Tryz.results37,go_sem]) rfl ⟨by rw[HR.out,HT1.out],HW.out _ HB2.out⟩
end Go.Proofs.YthjdeoppajlcoaaGreatDoor

namespace Go.Proofs.YthjdeoppajlcoaaGreatDoor
set_option linter.unusedVariables false
open Go.RowKit (wrap64 intOf Below)
theorem rkinds(K:Int):(K=0∨K=1∨K=2∨K=3∨K=4∨K=5∨K=6∨K=7∨K=8∨K=9∨K=10∨K=11∨K=12∨K=13∨K=14∨K=15∨K=16∨K=17∨K=18∨K=19∨K=20∨K=21∨K=22∨K=23∨K=24∨K=25)∨(K<0∨25<K):=by omega
def zN(K:Int)(l:List Int):Prop:=(K=0∨K=1∨K=2∨K=12∨K=17→l=[])∧(K=10∨K=22∨K=25→∃ x,l=[x])∧(K=11→∃ x y,l=[x,y])∧(K=24→∃ x m,l=x::m)
theorem Ej(K A B C:Int)(L ts:List Int):zN K ((aA K A B C L).map (aQ ts)):=by
 refine⟨?_, ?_, ?_, ?_⟩
 ·rintro (rfl|rfl|rfl|rfl|rfl)<;>rfl
 ·rintro (rfl|rfl|rfl)<;>exact⟨_,rfl⟩
 ·rintro rfl;exact⟨_,_,rfl⟩
 ·rintro rfl;exact⟨_,_,rfl⟩
theorem FO(g:Nat){sa:Option Addr}{sn sc:Nat}{ca:Option Addr}{cn cc:Nat}{fa:Option Addr}{fn fc:Nat}{P:aB}(K A B C N:Int)(S:ByteArray)(la:Option Addr)(ln lc:Nat)(T:Bool)(va:Option Addr)(vn vc:Nat)(l:List Int)(w:World)(hfit:zN K l)(hcap:vn≤vc)
 (hP:aX w g sa sn sc ca cn cc fa fn fc P)(hv:ai w va vn l)(hvn:vn≤140737488355328)(hr:∀ z∈l,InR z)(hN:InR N):
 Calls Tryz.prog 70 #[.pointer (some ⟨g,0,none⟩),.agg #[.int .i64 K,.int .i64 A,.int .i64 B,.int .i64 C,.int .i64 N,.string S,.slice la ln lc,.bool T],.slice va vn vc] w (aF (aC P K N S l) w):=by
 obtain⟨h0,h1,h2,h3⟩:=hfit
 rcases rkinds K with h|h
 ·rcases h with rfl|rfl|rfl|rfl|rfl|rfl|rfl|rfl|rfl|rfl|rfl|rfl|rfl|rfl|rfl|rfl|rfl|rfl|rfl|rfl|rfl|rfl|rfl|rfl|rfl|rfl
  ·obtain rfl:=h0 (by simp)
   have hz:vn=0:=hv.1.symm
   subst hz
   exact rres_0 _ P A B C N S la ln lc T va vc w hv
  ·obtain rfl:=h0 (by simp)
   have hz:vn=0:=hv.1.symm
   subst hz
   exact rres_1 _ P A B C N S la ln lc T va vc w hv
  ·obtain rfl:=h0 (by simp)
   have hz:vn=0:=hv.1.symm
   subst hz
   exact rres_2 _ P A B C N S la ln lc T va vc w hv
  ·exact rres_3 _ P A B C N S la ln lc T va vn vc l w hv hvn
  ·exact rres_4 _ P A B C N S la ln lc T va vn vc l w hv hvn
  ·exact rres_5 _ P A B C N S la ln lc T va vn vc l w hv hvn
  ·exact rres_6 _ P A B C N S la ln lc T va vn vc l w hv hvn
  ·exact rres_7 _ P A B C N S la ln lc T va vn vc l w hv hvn
  ·exact rres_8 _ P A B C N S la ln lc T va vn vc l w hv hvn
  ·exact rres_9 g A B C N S la ln lc T va vn vc w l hP hv hvn hr hN
  ·obtain⟨x,rfl⟩:=h1 (by simp)
   exact rres_10 g A B C N S la ln lc T va vn vc w x hP hv hvn hr hN
  ·obtain⟨x,y,rfl⟩:=h2 rfl
   exact rres_11 g A B C N S la ln lc T va vn vc w x y hP hv hvn hr hN
  ·obtain rfl:=h0 (by simp)
   have hz:vn=0:=hv.1.symm
   subst hz
   exact rres_12 _ P A B C N S la ln lc T va vc w hv
  ·exact rres_13 _ P A B C N S la ln lc T va vn vc l w hv hvn
  ·exact rres_14 _ P A B C N S la ln lc T va vn vc l w hv hvn
  ·exact rres_15 _ P A B C N S la ln lc T va vn vc l w hv hvn
  ·exact rres_16 _ P A B C N S la ln lc T va vn vc l w hv hvn
  ·obtain rfl:=h0 (by simp)
   have hz:vn=0:=hv.1.symm
   subst hz
   exact rres_17 _ P A B C N S la ln lc T va vc w hv
  ·exact rres_18 _ P A B C N S la ln lc T va vn vc l w hv hvn
  ·exact rres_19 _ P A B C N S la ln lc T va vn vc l w hv hvn
  ·exact rres_20 _ P A B C N S la ln lc T va vn vc l w hv hvn
  ·exact rres_21 _ P A B C N S la ln lc T va vn vc l w hv hvn
  ·obtain⟨x,rfl⟩:=h1 (by simp)
   exact rres_22 g A B C N S la ln lc T va vn vc w x hP hv hvn hr hN
  ·exact rres_23 g A B C N S la ln lc T va vn vc w l hP hv hvn hr hN
  ·obtain⟨x,m,rfl⟩:=h3 rfl
   exact rres_24 g A B C N S la ln lc T va vn vc w x m hcap hP hv hvn hr hN
  ·obtain⟨x,rfl⟩:=h1 (by simp)
   exact rres_25 g A B C N S la ln lc T va vn vc w x hP hv hvn hr hN
 ·exact Dh _ P K h A B C N S la ln lc T va vn vc l w
end Go.Proofs.YthjdeoppajlcoaaGreatDoor

namespace Go.Proofs.YthjdeoppajlcoaaGreatDoor
set_option linter.unusedVariables false
open Go.RowKit (wrap64 intOf Below Hid)
open Go.Lib (hid)
theorem FC(K A B C:Int)(L:List Int):(aA K A B C L).length≤L.length+3:=by
 unfold aA
 have h1:=dH (hasB K 65) A
 have h2:=dH (hasB K 66) B
 have h3:=dH (hasB K 67) C
 have h4:(dA (hasB K 76) L).length≤L.length:=by unfold dA;split<;>simp
 simp only[List.length_append]
 omega
theorem aj.cap{w:World}{B:Nat}{e:TypeId}{a:Option Addr}{n c:Nat}{Z:List Int}(h:aj w B e (.slice a n c) Z):n≤c:=by
 rcases h.2 with⟨he,_⟩|⟨g,cap,cur,he,_,_,hc,_⟩
 ·cases he;exact Nat.le_refl _
 ·cases he;exact hc
theorem typesIn{U ts:List Int}{tn:Nat}(hl:ts.length=tn)(hr:∀ z∈ts,InR z)(ha:Among U tn):∀ z∈U.map (aQ ts),InR z:=by
 intro z hz
 obtain⟨v,hv,rfl⟩:=List.mem_map.1 hz
 exact hr _ (lF hl (ha v hv))
theorem FD{K A B C:Int}{L:List Int}{n k:Nat}(hk:k<(aA K A B C L).length){z:Int}(hz:(aA K A B C L)[k]=z)(hb:z<0∨(n:Int)≤z):ng K A B C L (n:Int)=false:=by
 unfold ng
 rw[List.all_eq_false]
 refine⟨z,by rw[←hz];exact List.getElem_mem _, ?_⟩
 unfold vE
 simp only[decide_eq_true_eq]
 omega
set_option maxRecDepth 100000 in
set_option maxHeartbeats 8000000 in
theorem pX(g:Nat){sa:Option Addr}{sn sc:Nat}{ca:Option Addr}{cn cc:Nat}{fa:Option Addr}{fn fc:Nat}{P:aB}(K A B C N:Int)(S:ByteArray)(la:Option Addr)(ln lc:Nat)(T:Bool)(L:List Int)(ta:Option Addr)(tn tc:Nat)(ts:List Int)(w:World)
 (hP:aX w g sa sn sc ca cn cc fa fn fc P)(hat:ai w la ln L)(hnil:la=none→lc=0)(hln:ln≤17592186044000)(ht:ai w ta tn ts)(htn:tn≤140737488355328)(hr:∀ z∈ts,InR z)(hN:InR N):
 Calls Tryz.prog 41 #[.pointer (some ⟨g,0,none⟩),.agg #[.int .i64 K,.int .i64 A,.int .i64 B,.int .i64 C,.int .i64 N,.string S,.slice la ln lc,.bool T],.slice ta tn tc] w (yu (ul P K A B C N S L ts) w):=by
 obtain⟨W0,hW0⟩:∃ W0,W0=w.alloc (.cells #[.int .i64 K,.int .i64 A,.int .i64 B,.int .i64 C,.int .i64 N,.string S,.slice la ln lc,.bool T] 64):=⟨_,rfl⟩
 have hw0:∀ u,Below (w.heap.size+1) W0 u→Below w.heap.size w u:=fun u hu=>by rw[hW0]at hu;exact bq hu
 have H2:Hid (Below (w.heap.size+1) W0 W0):=hid (Below.refl _ _)
 have HZ:Hid (w.heap.size+1≤W0.heap.size):=hid (by rw[hW0];simp)
 have HU:=hid (FE K A B C N S la ln lc T L W0 (hat.since (hw0 _ H2.out)) hnil hln)
 have HC:Hid (∀u,Below (w.heap.size+1) W0 u→∀ j,u.cell? ⟨w.heap.size,j,none⟩=(#[.int .i64 K,.int .i64 A,.int .i64 B,.int .i64 C,.int .i64 N,.string S,.slice la ln lc,.bool T]:Array Value)[j]?):=hid (fun u hu=>by rw[hW0]at hu;exact iT hu)
 have HW:=hid hw0
 obtain⟨z0,z1,z2,z3,z4,z5,z6,z7⟩:W0.cell? ⟨w.heap.size,0,none⟩=some (.int .i64 K)∧W0.cell? ⟨w.heap.size,1,none⟩=some (.int .i64 A)∧W0.cell? ⟨w.heap.size,2,none⟩=some (.int .i64 B)∧W0.cell? ⟨w.heap.size,3,none⟩=some (.int .i64 C)∧W0.cell? ⟨w.heap.size,4,none⟩=some (.int .i64 N)∧W0.cell? ⟨w.heap.size,5,none⟩=some (.string S)∧W0.cell? ⟨w.heap.size,6,none⟩=some (.slice la ln lc)∧W0.cell? ⟨w.heap.size,7,none⟩=some (.bool T):=
  ⟨HC.out _ H2.out 0,HC.out _ H2.out 1,HC.out _ H2.out 2,HC.out _ H2.out 3,HC.out _ H2.out 4,HC.out _ H2.out 5,HC.out _ H2.out 6,HC.out _ H2.out 7⟩
 have HP:=hid hP
 have HT:=hid ht
 have HRR:=hid hr
 have HNN:=hid hN
 have HUL:Hid ((aA K A B C L).length≤17592186044003):=hid (by have:=FC K A B C L;have:=hat.1;omega)
 have HRS:Hid (ul P K A B C N S L ts=if ng K A B C L (tn:Int)=true then(if(aC P K N S ((aA K A B C L).map (aQ ts))).2=true then((aC P K N S ((aA K A B C L).map (aQ ts))).1,true)else(-1,false))else(-1,false)):=hid (by rw[←ht.1];rfl)
 have HUB:Hid (∀(k:Nat) (hk:k<(aA K A B C L).length) (z:Int),(aA K A B C L)[k]=z→(z<0∨(tn:Int)≤z)→ul P K A B C N S L ts=(-1,false)):=hid (fun k hk z hz hb=>by rw[HRS.out,FD hk hz hb];rfl)
 have HUA:Hid (Among (aA K A B C L) tn→ng K A B C L (tn:Int)=true):=hid (fun h=>by
  unfold ng
  rw[List.all_eq_true]
  intro v hv
  exact decide_eq_true (h v hv))
 have HFIT:=hid (Ej K A B C L ts)
 clear hP hat hnil ht hr hN hw0
 obtain⟨U,hU⟩:∃ U,aA K A B C L=U:=⟨_,rfl⟩
 rw[hU]at HU HUL HRS HUA HFIT
 go_enter Tryz.func41,Tryz.ntmps41
 go_wp2_with(go_at_call 63;rw[←hW0];clear hW0;(with_reducible refine(HU.out).mono ?_);rintro e wc ⟨va,vn,vc,rfl,hown,hb⟩)
 have hvl:U.length=vn:=hown.read.1
 have HUN:=hid hown.read
 have hvb:vn≤17592186044003:=by have:=HUL.out;omega
 have HBC:Hid (Below (w.heap.size+1) W0 wc):=hid (nV H2.out HZ.out hb)
 clear hown hb HU
 go_loopw[9,10] (fun lv iv wr=>∃ k:Nat,k≤vn∧iv=.int .i64 (k:Int)∧Hid (Among (U.take k) tn)∧Hid (aj wr wc.heap.size 3 lv ((U.take k).map (aQ ts)))∧Hid (Below wc.heap.size wc wr)) (fun _ iv _=>vn-(intOf iv).toNat)
 case atStart=>exact⟨0,Nat.zero_le _,rfl,hid (fun v hv=>by simp at hv),hid (aj.laid rfl (Nat.le_refl _)),hid ((Below.refl _ _).alloc (Nat.le_refl _) _)⟩
 case round=>
  obtain⟨k,hk,rfl,HA,HO,HB⟩:=hrel
  have HBW:Hid (Below (w.heap.size+1) W0 wr):=hid (nV HBC.out (by have h1:=HZ.out;omega) HB.out)
  by_cases hlt:k<vn
  ·have hkl:k<U.length:=by omega
   obtain⟨z,hz⟩:∃ z,U[k]=z:=⟨_,rfl⟩
   obtain⟨ug,uo,rfl,hug,huc⟩:=(HUN.out.since HB.out).2 (by omega)
   have hcu:wr.cell? ⟨ug,uo+k,none⟩=some (.int .i64 z):=by rw[huc k hkl,hz];rfl
   clear huc
   by_cases hneg:z<0
   ·have HE:Hid (ul P K A B C N S L ts=(-1,false)):=hid (HUB.out k (by rw[hU];exact hkl) z (by rw[←hz];simp only[hU]) (.inl hneg))
    clear hz
    go_wp2_with fail
    refine bodyPost_ret (v:=.tuple #[.int .i64 (-1),.bool false]) (by simp[results,Tryz.results41,go_sem]) rfl ⟨by rw[HE.out],HW.out _ HBW.out⟩
   by_cases hbig:(tn:Int)≤z
   ·have HE:Hid (ul P K A B C N S L ts=(-1,false)):=hid (HUB.out k (by rw[hU];exact hkl) z (by rw[←hz];simp only[hU]) (.inr hbig))
    have hd:decide (z<0)=false:=decide_eq_false hneg
    clear hz hneg
    go_wp2_with fail
    refine bodyPost_ret (v:=.tuple #[.int .i64 (-1),.bool false]) (by simp[results,Tryz.results41,go_sem]) rfl ⟨by rw[HE.out],HW.out _ HBW.out⟩
   have hd:decide (z<0)=false:=decide_eq_false hneg
   have hd2:decide ((tn:Int)≤z)=false:=decide_eq_false hbig
   obtain⟨j,rfl⟩:=Int.eq_ofNat_of_zero_le (show 0≤z by omega)
   have hjn:j<tn:=by omega
   have hjc:(j:Int)<(tn:Int):=by omega
   obtain⟨tg,to',rfl,_,htc⟩:=(HT.out.since (HW.out _ HBW.out)).2 (by omega)
   have hct:wr.cell? ⟨tg,to'+j,none⟩=some (.int .i64 (aQ ts (j:Int))):=by
    have h3:=htc j (by rw[HT.out.1];exact hjn)
    rw[h3]
    unfold aQ dN
    rw[bN (by rw[HT.out.1];exact hjn)]
    rfl
   have HS:Hid ((U.take k).map (aQ ts)++ [aQ ts (j:Int)]=(U.take (k+1)).map (aQ ts)):=hid (by rw[List.take_succ_eq_append_getElem hkl,hz];simp)
   have HA2:Hid (Among (U.take (k+1)) tn):=hid (by
    rw[List.take_succ_eq_append_getElem hkl,hz]
    intro v hv
    rcases List.mem_append.1 hv with h|h
    ·exact HA.out v h
    ·obtain rfl:=List.mem_singleton.1 h;omega)
   have HL:Hid ((((U.take k).map (aQ ts)).length+1)*8≤140737488355328):=hid (by rw[List.length_map,List.length_take];have:=HUL.out;omega)
   obtain⟨y,hy⟩:∃ y,aQ ts (j:Int)=y:=⟨_,rfl⟩
   rw[hy]at hct HS
   have hsz:=HB.out.size
   clear htc hz hy hneg hbig
   go_wp2_with(at_builtin;refine eO _ rfl _ _ 40 rfl 3 Tryz.underlying40 aT wc.heap.size _ _ rfl HO.out hsz _ 1 _ y rfl (by simp) rfl HL.out ?_;intro v2 w2 hown hb)
   rw[HS.out]at hown
   have HO2:=hid hown
   have HB2:=hid (HB.out.trans hb)
   clear hown hb
   go_wp2_with fail
   go_roundw
   case rel=>exact⟨k+1,by omega,by go_num,HA2,HO2,HB2⟩
   case measure=>simp[intOf];omega
  ·obtain rfl:k=vn:=by omega
   have HAA:Hid (Among U tn):=hid (by have:=HA.out;rwa [List.take_of_length_le (by omega)]at this)
   have hlo:=HO.out
   rw[List.take_of_length_le (by omega)]at hlo
   have HLO:=hid hlo
   clear hlo
   have HRZ:=hid (typesIn HT.out.1 HRR.out HAA.out)
   have HR1:Hid (ul P K A B C N S L ts=(if(aC P K N S (U.map (aQ ts))).2=true then((aC P K N S (U.map (aQ ts))).1,true)else(-1,false))):=hid (by rw[HRS.out,if_pos (HUA.out HAA.out)])
   obtain⟨xa,xn,xc,rfl,hxs⟩:=HLO.out.nums
   have HCAP:=hid HLO.out.cap
   have HXN:Hid (xn≤140737488355328):=hid (by have h1:=hxs.1;rw[List.length_map]at h1;have:=HUL.out;omega)
   have HQ:=hid (FO g K A B C N S la ln lc T xa xn xc (U.map (aQ ts)) wr HFIT.out HCAP.out (HP.out.since (HW.out _ HBW.out)) hxs HXN.out HRZ.out HNN.out)
   obtain⟨y0,y1,y2,y3,y4,y5,y6,y7⟩:wr.cell? ⟨w.heap.size,0,none⟩=some (.int .i64 K)∧wr.cell? ⟨w.heap.size,1,none⟩=some (.int .i64 A)∧wr.cell? ⟨w.heap.size,2,none⟩=some (.int .i64 B)∧wr.cell? ⟨w.heap.size,3,none⟩=some (.int .i64 C)∧wr.cell? ⟨w.heap.size,4,none⟩=some (.int .i64 N)∧wr.cell? ⟨w.heap.size,5,none⟩=some (.string S)∧wr.cell? ⟨w.heap.size,6,none⟩=some (.slice la ln lc)∧wr.cell? ⟨w.heap.size,7,none⟩=some (.bool T):=
    ⟨HC.out _ HBW.out 0,HC.out _ HBW.out 1,HC.out _ HBW.out 2,HC.out _ HBW.out 3,HC.out _ HBW.out 4,HC.out _ HBW.out 5,HC.out _ HBW.out 6,HC.out _ HBW.out 7⟩
   obtain⟨r1,r2,hrr⟩:∃ r1 r2,aC P K N S (U.map (aQ ts))=(r1,r2):=⟨_,_,rfl⟩
   rw[hrr]at HR1 HQ
   clear hxs hrr
   cases r2 with
   |false=>
    have HE:Hid (ul P K A B C N S L ts=(-1,false)):=hid HR1.out
    go_wp2_with(go_at_call 70;(with_reducible refine(HQ.out).mono ?_);rintro e w' ⟨t,rfl,hx,hb⟩)
    have HBR:Hid (Below (w.heap.size+1) W0 w'):=hid (nV HBW.out HZ.out hb)
    go_wp2_with fail
    refine bodyPost_ret (v:=.tuple #[.int .i64 (-1),.bool false]) (by simp[results,Tryz.results41,go_sem]) rfl ⟨by rw[HE.out],HW.out _ HBR.out⟩
   |true=>
    have HE:Hid (ul P K A B C N S L ts=(r1,true)):=hid HR1.out
    go_wp2_with(go_at_call 70;(with_reducible refine(HQ.out).mono ?_);rintro e w' ⟨t,rfl,hx,hb⟩)
    have HBR:Hid (Below (w.heap.size+1) W0 w'):=hid (nV HBW.out HZ.out hb)
    obtain rfl:t=r1:=by simpa using hx
    go_wp2_with fail
    refine bodyPost_ret (v:=.tuple #[.int .i64 t,.bool true]) (by simp[results,Tryz.results41,go_sem]) rfl ⟨by rw[HE.out],HW.out _ HBR.out⟩
end Go.Proofs.YthjdeoppajlcoaaGreatDoor
