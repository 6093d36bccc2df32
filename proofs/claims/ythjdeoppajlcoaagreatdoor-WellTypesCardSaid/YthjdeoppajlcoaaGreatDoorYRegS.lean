/- A region that draws its order and whose steps call and make memory: told step by step whatever came before -/
import Derived.Test.YthjdeoppajlcoaaGreatDoorYT0

namespace Go.Proofs.YthjdeoppajlcoaaGreatDoor
set_option linter.unusedVariables false
def Dw:Exit→Act→World→Prop:=fun _ _ _=>False
def gI(ops:Array Oper)(i:Nat):Option Tmp:=(ops[i]?).bind (·.dst)
def fe(ops:Array Oper)(i:Nat):List Nat:=((ops[i]?).map fun o=>(o.after.toList.filter fun e=>Region.binds .any e).map (·.on)).getD []
def aZ(dst:Nat→Option Tmp)(vals:Nat→Value)(l:List Nat)(a:Act):Act:=l.foldl (fun a i=>a.put (dst i) (vals i)) a
def fitX(ops:Array Oper)(z i:Nat):Operand→Bool
 | .tmp k=>(fe ops i).any (fun j=>gI ops j==some k)||(List.range z).all (fun j=>gI ops j !=some k)
 |_=>true
def Hw(ops:Array Oper)(z n i:Nat):Bool:=
 match ops[i]? with
 |some o=>o.guard.isNone&&(match o.dst with|some d=>decide (d<n)|none=>false)&&(fe ops i).all (fun j=>decide (j<i))&&o.op.operands.all (fitX ops z i)&&(match o.op with| .select .. =>false|_=>true)&&(List.range i).all (fun j=>gI ops j !=gI ops i)
 |none=>false
def vK(ops:Array Oper)(z n:Nat):Bool:=
 ops.size==z+1&&(List.range z).all (Hw ops z n)&&(fe ops z).all (fun j=>decide (j<z))&&(List.range z).all (fun i=>(fe ops z).contains i)&&((ops[z]?).map fun o=>o.guard.isNone).getD false
section
variable {P : Program} {ops : Array Oper} {Q : Exit → Act → World → Prop}
theorem mE(dst:Nat→Option Tmp)(vals:Nat→Value):∀ (l:List Nat) (a:Act),(aZ dst vals l a).tmps.size=a.tmps.size
 | [],_=>rfl
 |i::l,a=>by
  show(aZ dst vals l (a.put (dst i) (vals i))).tmps.size=_
  rw[mE dst vals l]
  cases dst i<;>simp[Act.put]
theorem nC(dst:Nat→Option Tmp)(vals:Nat→Value):∀ (l:List Nat) (a:Act),(aZ dst vals l a).defers=a.defers
 | [],_=>rfl
 |i::l,a=>by
  show(aZ dst vals l (a.put (dst i) (vals i))).defers=_
  rw[nC dst vals l]
  cases dst i<;>simp[Act.put]
theorem lJ(dst:Nat→Option Tmp)(vals:Nat→Value){k:Tmp}:∀ (l:List Nat) (a:Act),(∀j∈l,dst j≠some k)→(aZ dst vals l a).eval (.tmp k)=a.eval (.tmp k)
 | [],_,_=>rfl
 |i::l,a,h=>by
  show(aZ dst vals l (a.put (dst i) (vals i))).eval _=_
  rw[lJ dst vals l _ (fun j hj=>h j (List.mem_cons_of_mem _ hj))]
  exact Act.eval_put fun d hd e=>by cases e;exact h i (List.mem_cons_self ..) hd
theorem sN{a:Act}{d:Tmp}{v:Value}(h:d<a.tmps.size):(a.put (some d) v).eval (.tmp d)=v:=by simp[Act.eval,Act.put,h]
theorem qb(dst:Nat→Option Tmp)(vals:Nat→Value){k:Tmp}{j:Nat}(hk:dst j=some k):∀ (l:List Nat) (a:Act),j∈l→k<a.tmps.size→(∀i∈l,dst i=some k→i=j)→(aZ dst vals l a).eval (.tmp k)=vals j
 |i::l,a,hj,hs,hu=>by
  show(aZ dst vals l (a.put (dst i) (vals i))).eval _=_
  by_cases hl:j∈l
  ·exact qb dst vals hk l _ hl (by cases dst i<;>simpa [Act.put]using hs) (fun i hi=>hu i (List.mem_cons_of_mem _ hi))
  ·have e:i=j:=by rcases List.mem_cons.1 hj with h|h;exact h.symm;exact absurd h hl
   subst e
   rw[lJ dst vals l _ (fun q hq e=>hl (by rw[←hu q (List.mem_cons_of_mem _ hq) e];exact hq)),hk]
   exact sN hs
theorem xC(dst:Nat→Option Tmp)(vals:Nat→Value)(l:List Nat)(i:Nat)(v:Value)(a:Act)(hi:i∉l):aZ dst (fun j=>if j=i then v else vals j) (l++ [i]) a=(aZ dst vals l a).put (dst i) v:=by
 unfold aZ
 simp only[List.foldl_append,List.foldl_cons,List.foldl_nil,if_true]
 congr 1
 have key:∀ (l:List Nat) (a:Act),i∉l→l.foldl (fun a j=>a.put (dst j) (if j=i then v else vals j)) a=l.foldl (fun a j=>a.put (dst j) (vals j)) a:=by
  intro l
  induction l with
  |nil=>intro a _;rfl
  |cons j l ih=>
   intro a h
   rw[List.foldl_cons,List.foldl_cons,if_neg (fun e=>h (by rw[e];exact List.mem_cons_self ..)),ih _ (fun h'=>h (List.mem_cons_of_mem _ h'))]
 exact key l a hi
theorem xD(dst:Nat→Option Tmp)(vals:Nat→Value){l l':List Nat}(h:l.Perm l')(hd:∀ i∈l,∀j∈l,i≠j→dst i≠dst j∨dst i=none)(a:Act):aZ dst vals l a=aZ dst vals l' a:=by
 refine List.Perm.foldl_eq' h (fun x hx y hy a=> ?_) a
 by_cases e:x=y
 ·subst e;rfl
 ·refine Act.put_comm a (vals x) (vals y) fun d hx' hy'=> ?_
  rcases hd x hx y hy e with h1|h1
  ·exact h1 (hx'.trans hy'.symm)
  ·rw[h1]at hx';cases hx'
theorem Ai{o:Oper}{a a1:Act}{d:Tmp}(hd:o.dst=some d)(h1:d<a1.tmps.size){K:Act→World→Prop}{r:Result Next}
 (h:o.upon P a1 (fun a' w'=>a'.defers=a1.defers∧K (a.put o.dst (a'.eval (.tmp d))) w') Dw r):o.upon P a K Q r:=by
 have hv:∀ v,(a1.put o.dst v).eval (.tmp d)=v:=fun v=>by rw[hd];exact sN h1
 cases r with
 |ok n w'=>
  cases n with
  |value v=>have:=h.2;rw[hv]at this;exact this
  |skip=>have:=h.2;rw[hv]at this;exact this
  |defer x=>
   have:=h.1
   rw[hd]at this
   have h2:(x::a1.defers).length=a1.defers.length:=congrArg List.length this
   simp at h2
  |enter f args=>
   refine Calls.mono h fun e w'' he=> ?_
   cases e with
   |returned v=>have:=he.2;rw[hv]at this;exact this
   |panicked c=>exact he.elim
   |outgrown=>obtain⟨_,_,h⟩:=he;exact h.elim
  |row row args=>exact Rows.mono h fun v w'' he=>by have:=he.2;rw[hv]at this;exact this
  |_=>exact h.elim
 |halt x w'=>cases x<;>exact h.elim
theorem j5{z n i:Nat}(h:vK ops z n=true)(hi:i<z):∃ o d,ops[i]? =some o∧o.guard=none∧o.dst=some d∧gI ops i=some d∧d<n∧(∀j∈fe ops i,j<i)∧(∀x∈o.op.operands,fitX ops z i x=true)∧(∀cs b,o.op≠.select cs b)∧∀ j,j<i→gI ops j≠some d:=by
 unfold vK at h
 simp only[Bool.and_eq_true,List.all_eq_true,List.mem_range]at h
 have h1:=h.1.1.1.2 i hi
 unfold Hw at h1
 cases ho:ops[i]? with
 |none=>simp[ho]at h1
 |some o=>
  simp only[ho,Bool.and_eq_true]at h1
  obtain⟨⟨⟨⟨⟨g,d'⟩,dp⟩,ops'⟩,sel⟩,ds⟩:=h1
  cases hd:o.dst with
  |none=>simp[hd]at d'
  |some d=>
   have hdo:gI ops i=some d:=by simp[gI,ho,hd]
   refine⟨o,d,rfl,by simpa using g,hd,hdo,by simpa [hd]using d',by simpa using dp,fun x hx=> ?_,fun cs b e=>by simp[e]at sel,fun j hj=> ?_⟩
   ·rw[Array.all_eq_true_iff_forall_mem]at ops'
    exact ops' x hx
   ·have:=List.all_eq_true.1 ds j (List.mem_range.2 hj)
    rw[hdo]at this
    simpa using this
def upV(vals:Nat→Value)(i:Nat)(v:Value):Nat→Value:=fun j=>if j=i then v else vals j
theorem yS(vals:Nat→Value)(i:Nat)(v:Value):upV vals i v i=v:=if_pos rfl
theorem kN{vals:Nat→Value}{i j:Nat}{v:Value}(h:j≠i):upV vals i v j=vals j:=if_neg h
def StepOK(P:Program)(ops:Array Oper)(a0:Act)(w0:World)(G:World→World→Prop)(R:Nat→(Nat→Value)→World→Prop)(D:Nat→Value→World→Nat→Prop)(i:Nat):Prop:=
 ∀(o:Oper),ops[i]? =some o→∀ (vals:Nat→Value) (w:World),G w0 w→(∀j∈fe ops i,R j vals w)→
  ∀K:Act→World→Prop,Shut (∀v w',G w w'→R i (upV vals i v) w'→(∀k,D i v w' k→w.heap.size≤k)→K ((aZ (gI ops) vals (fe ops i) a0).put o.dst v) w')→Oper.wp P o (aZ (gI ops) vals (fe ops i) a0) w K Dw
theorem pz{i j:Nat}{o:Oper}(ho:ops[i]? =some o):j∈fe ops i↔∃ e∈o.after,Region.binds .any e=true∧e.on=j:=by
 unfold fe
 simp only[ho,Option.map_some,Option.getD_some,List.mem_map,List.mem_filter,Array.mem_toList_iff]
 constructor
 ·rintro ⟨e,⟨h1,h2⟩,h3⟩;exact⟨e,h1,h2,h3⟩
 ·rintro ⟨e,h1,h2,h3⟩;exact⟨e,⟨h1,h2⟩,h3⟩
theorem ve:∀ (z:Nat) (l:List Nat),l.Nodup→(∀i∈l,i<z)→l.length≤z
 |0,l,_,h=>by
  cases l with
  |nil=>simp
  |cons x l=>have:=h x (List.mem_cons_self ..);omega
 |z+1,l,hl,h=>by
  have h1:=ve z (l.filter (fun i=> !(i==z))) (hl.filter _) (fun i hi=>by
   have:=List.mem_filter.1 hi
   have h2:=h i this.1
   have h3:i≠z:=by simpa using this.2
   omega)
  have h4:=List.length_eq_countP_add_countP (fun i=>i==z) (l:=l)
  have h5:l.countP (fun i=>i==z)≤1:=List.nodup_iff_count.1 hl z
  have h6:l.countP (fun i=>decide ¬(i==z)=true)=(l.filter (fun i=> !(i==z))).length:=by
   rw[List.countP_eq_length_filter]
   congr 1
   apply List.filter_congr
   intro i _
   cases h:(i==z)<;>simp
  omega
theorem A7{z:Nat}{l:List Nat}(hl:l.Nodup)(h:∀ i,i∈l↔i<z):l.Perm (List.range z):=by
 rw[List.perm_iff_count]
 intro a
 have h1:=List.nodup_iff_count.1 hl a
 have h2:=List.nodup_iff_count.1 (List.nodup_range (n:=z)) a
 by_cases ha:a<z
 ·have h3:=List.count_pos_iff.2 ((h a).2 ha)
  have h4:=List.count_pos_iff.2 (List.mem_range.2 ha)
  omega
 ·rw[List.count_eq_zero_of_not_mem (fun h'=>ha ((h a).1 h')),List.count_eq_zero_of_not_mem (fun h'=>ha (List.mem_range.1 h'))]
theorem wN{z n:Nat}{a0:Act}{w0:World}{G:World→World→Prop}{R:Nat→(Nat→Value)→World→Prop}{D:Nat→Value→World→Nat→Prop}(hf:vK ops z n=true)(hn:n=a0.tmps.size)
 (hG0:G w0 w0)(hGt:∀ a b c,G a b→G b c→G a c)(hRm:∀ i vals w w',R i vals w→G w w'→R i vals w')(hRc:∀ i vals vals' w,i<z→vals i=vals' i→(∀j∈fe ops i,vals j=vals' j)→R i vals w→R i vals' w)
 (hDlt:∀ i vals w k,R i vals w→D i (vals i) w k→k<w.heap.size)(hDk:∀ i vals w w' k,R i vals w→G w w'→D i (vals i) w' k→D i (vals i) w k)
 (hstep:∀ i,i<z→StepOK P ops a0 w0 G R D i)
 (hlast:∀ (vals:Nat→Value) (w:World),G w0 w→(∀i,i<z→R i vals w)→(∀i j,i<z→j<z→i≠j→∀ k,D i (vals i) w k→¬ D j (vals j) w k)→∀ o,ops[z]? =some o→∀ K:Act→World→Prop,Shut (∀a w,Q .normal a w→K a w)→Oper.wp P o (aZ (gI ops) vals (List.range z) a0) w K Q):
 wpAny P .any ops Q ops.size (Array.replicate ops.size false) a0 w0:=by
 have hsz:ops.size=z+1:=by unfold vK at hf;simp only[Bool.and_eq_true,beq_iff_eq]at hf;exact hf.1.1.1.1
 have hzd:∀ i,i<z→i∈fe ops z:=by
  unfold vK at hf
  simp only[Bool.and_eq_true,List.all_eq_true,List.mem_range,List.contains_iff_mem]at hf
  exact hf.1.2
 have hzl:∀ j∈fe ops z,j<z:=by
  unfold vK at hf
  simp only[Bool.and_eq_true,List.all_eq_true,decide_eq_true_eq]at hf
  exact hf.1.1.2
 obtain⟨oz,hoz⟩:∃ o,ops[z]? =some o:=⟨_,Array.getElem?_eq_getElem (by omega)⟩
 have hgz:oz.guard=none:=by
  unfold vK at hf
  simp only[Bool.and_eq_true,hoz,Option.map_some,Option.getD_some,Option.isNone_iff_eq_none]at hf
  exact hf.2
 have dd:∀ i,i<z→∀ j,j<z→i≠j→gI ops i≠gI ops j:=fun i hi j hj hne e=>by
  obtain⟨o1,d1,_,_,_,h1,_,_,_,_,h2⟩:=j5 hf hi
  obtain⟨o2,d2,_,_,_,h3,_,_,_,_,h4⟩:=j5 hf hj
  rcases Nat.lt_or_gt_of_ne hne with h|h
  ·exact h4 i h (by rw[e,h3])
  ·exact h2 j h (by rw[←e,h1])
 have wanted:∀ {o:Oper} {a:Act},o.guard=none→Region.wanted o (yielded ops a.tmps)=true:=fun h=>by simp[Region.wanted,h]
 have main:∀ (fuel:Nat) (listed:Array Bool) (l:List Nat) (vals:Nat→Value) (w:World),l.Nodup→listed.size=z+1→(∀i,i∈l↔i<z∧listed.getD i false=true)→listed.getD z false=false→(∀i∈l,R i vals w)→(∀i∈l,∀j∈l,i≠j→∀ k,D i (vals i) w k→¬ D j (vals j) w k)→G w0 w→(∀i∈l,∀j∈fe ops i,j∈l)→fuel+l.length=z+1→
  wpAny P .any ops Q fuel listed (aZ (gI ops) vals l a0) w:=by
  intro fuel
  induction fuel with
  |zero=>
   intro listed l vals w hl _ hm _ _ _ _ _ hfu
   have:=ve z l hl (fun i hi=>((hm i).1 hi).1)
   simp at hfu
   omega
  |succ fuel ih=>
   intro listed l vals w hl hls hm hz0 hR hD hG hclo hfu
   have hgd:∀ i,i≤z→listed.getD i true=listed.getD i false:=fun i hi=>by
    simp[Array.getElem?_eq_getElem (show i<listed.size by omega)]
   refine⟨fun h0=> ?_,fun i hi=> ?_⟩
   ·
    exfalso
    have ex:∃ i,i≤z∧listed.getD i false=false∧∀ j,j<i→listed.getD j false=true:=by
     have:∀ k,k≤z→(∃i,i≤z∧listed.getD i false=false∧∀ j,j<i→listed.getD j false=true)∨∀ j,j<k→listed.getD j false=true:=by
      intro k
      induction k with
      |zero=>intro _;exact .inr fun j hj=>absurd hj (by omega)
      |succ k ihk=>
       intro hk
       rcases ihk (by omega)with h|h
       ·exact .inl h
       ·cases hc:listed.getD k false with
        |false=>exact .inl ⟨k,by omega,hc,h⟩
        |true=>
        refine .inr fun j hj=> ?_
        by_cases e:j=k
        ·rw[e];exact hc
        ·exact h j (by omega)
     rcases this z (Nat.le_refl _)with h|h
     ·exact h
     ·exact⟨z,Nat.le_refl _,hz0,h⟩
    obtain⟨i,hi,h1,h2⟩:=ex
    have hr:i∈Region.ready .any ops listed:=by
     rw[mem_ready]
     refine⟨by rw[hgd i hi];exact h1, ?_⟩
     by_cases e:i=z
     ·subst e
      exact⟨oz,hoz,fun e he hb=>h2 _ (hzl _ ((pz hoz).2 ⟨e,he,hb,rfl⟩))⟩
     ·obtain⟨o,d,ho,_,_,_,_,hdp,_⟩:=j5 hf (show i<z by omega)
      exact⟨o,ho,fun e he hb=>h2 _ (hdp _ ((pz ho).2 ⟨e,he,hb,rfl⟩))⟩
    rw[h0]at hr
    cases hr
   ·rw[mem_ready]at hi
    obtain⟨hi1,o,ho,hdep⟩:=hi
    have hiz:i≤z:=by have:=(Array.getElem?_eq_some_iff.1 ho).1;omega
    rw[hgd i hiz]at hi1
    by_cases e:i=z
    ·
     subst e
     have hall:∀ j,j<i→listed.getD j false=true:=fun j hj=>by
      obtain⟨e,he,hb,h⟩:=(pz ho).1 (hzd j hj)
      rw[←h];exact hdep e he hb
     have hp:l.Perm (List.range i):=A7 hl fun j=>⟨fun h=>((hm j).1 h).1,fun h=>(hm j).2 ⟨h,hall j h⟩⟩
     rw[xD (gI ops) vals hp (fun x hx y hy hne=>.inl (dd x ((hm x).1 hx).1 y ((hm y).1 hy).1 hne))]
     refine wpOp_step ho fun K' hK=> ?_
     have hgi:o.guard=none:=by rw[hoz]at ho;cases ho;exact hgz
     rw[if_pos (wanted hgi)]
     refine hlast vals w hG (fun j hj=>hR j ((hm j).2 ⟨hj,hall j hj⟩)) (fun x y hx hy=>hD x ((hm x).2 ⟨hx,hall x hx⟩) y ((hm y).2 ⟨hy,hall y hy⟩)) o ho K' (fun a w hq=>hK a w ?_)
     have hr0:Region.ready .any ops (listed.setIfInBounds i true)=[]:=by
      rw[List.eq_nil_iff_forall_not_mem]
      intro j hj
      rw[mem_ready]at hj
      obtain⟨h1,o',ho',_⟩:=hj
      have hji:j≤i:=by have:=(Array.getElem?_eq_some_iff.1 ho').1;omega
      by_cases e:j=i
      ·subst e
       simp[show j<listed.size by omega]at h1
      ·rw[getD_set_ne true (fun h=>e h.symm),hgd j hji,hall j (by omega)]at h1
       cases h1
     have hf0:fuel=0:=by have:=hp.length_eq;simp at this;omega
     subst hf0
     exact⟨hr0,hq⟩
    ·have hlt:i<z:=by omega
     obtain⟨o',d,ho',hg,hd,hdo,hdn,hdp,hfx,hsel,huq⟩:=j5 hf hlt
     rw[ho]at ho'
     cases ho'
     have hdl:∀ j∈fe ops i,j∈l:=fun j hj=>by
      obtain⟨e,he,hb,h⟩:=(pz ho).1 hj
      refine(hm j).2 ⟨by have:=hdp j hj;omega, ?_⟩
      rw[←h];exact hdep e he hb
     refine wpOp_step ho fun K' hK=> ?_
     rw[if_pos (wanted hg)]
     have hex:execOp (aZ (gI ops) vals l a0).eval o=execOp (aZ (gI ops) vals (fe ops i) a0).eval o:=execOp_congr o hsel fun x hx=>by
      have hfit:=hfx x hx
      cases x with
      |tmp k=>
       simp only[fitX,Bool.or_eq_true,List.any_eq_true,List.all_eq_true,List.mem_range,beq_iff_eq,bne_iff_ne]at hfit
       rcases hfit with⟨j,hj,hjk⟩|hout
       ·have hjz:j<z:=by have:=hdp j hj;omega
        obtain⟨_,dj,_,_,_,hdj,hdjn,_⟩:=j5 hf hjz
        have hkn:k<a0.tmps.size:=by rw[hjk]at hdj;cases hdj;exact Nat.lt_of_lt_of_eq hdjn hn
        have hu:∀ q,q<z→gI ops q=some k→q=j:=fun q hq e=>Classical.byContradiction fun hne=>dd q hq j hjz hne (e.trans hjk.symm)
        rw[qb (gI ops) vals hjk l a0 (hdl j hj) hkn (fun q hq=>hu q ((hm q).1 hq).1),qb (gI ops) vals hjk (fe ops i) a0 hj hkn (fun q hq=>hu q (by have:=hdp q hq;omega))]
       ·rw[lJ (gI ops) vals l a0 (fun q hq=>hout q ((hm q).1 hq).1),lJ (gI ops) vals (fe ops i) a0 (fun q hq=>hout q (by have:=hdp q hq;omega))]
      |_=>rfl
     unfold Oper.wp
     rw[hex]
     refine Ai hd (by rw[mE,←hn];exact hdn) (hstep i hlt o ho vals w hG (fun j hj=>hR j (hdl j hj)) _ (fun v w' hGw hRv hDv=>⟨?_, ?_⟩))
     ·rw[hd];simp[Act.put,nC]
     ·have hil:i∉l:=fun h=>by have:=((hm i).1 h).2;rw[hi1]at this;cases this
      have he:(((aZ (gI ops) vals (fe ops i) a0).put o.dst v).eval (.tmp d))=v:=by rw[hd];exact sN (by rw[mE,←hn];exact hdn)
      rw[he,hd,←hdo,←xC (gI ops) vals l i v a0 hil]
      change K' (aZ (gI ops) (upV vals i v) (l++ [i]) a0) w'
      have hkp:∀ j∈l,R j (upV vals i v) w:=fun j hj=>by
       have hji:j≠i:=fun e2=>hil (e2▸hj)
       have hjz:=((hm j).1 hj).1
       obtain⟨_,_,hoj,_,_,_,_,_⟩:=j5 hf hjz
       refine hRc j vals _ w hjz (kN hji).symm (fun q hq=>(kN (fun e2=> ?_)).symm) (hR j hj)
       subst e2
       exact hil (hclo j hj q hq)
      refine hK _ _ (ih (listed.setIfInBounds i true) (l++ [i]) (upV vals i v) w' ?_ (by simpa using hls) (fun j=> ?_) ?_ (fun j hj=> ?_) (fun x hx y hy hne k hk1 hk2=> ?_) (hGt _ _ _ hG hGw) (fun x hx q hq=> ?_) (by simp;omega))
      ·rw[List.nodup_append]
       exact⟨hl,by simp,fun x hx y hy e=>hil (by simp at hy;rw[←hy,←e];exact hx)⟩
      ·rw[List.mem_append,List.mem_singleton,hm j]
       by_cases e2:j=i
       ·subst e2
        have:(listed.setIfInBounds j true).getD j false=true:=by simp[show j<listed.size by omega]
        simp[this,hlt]
       ·rw[getD_set_ne false (fun h=>e2 h.symm)]
        simp[e2]
      ·rw[getD_set_ne false (by omega)];exact hz0
      ·rcases List.mem_append.1 hj with h|h
       ·exact hRm _ _ _ _ (hkp j h) hGw
       ·simp at h;subst h;exact hRv
      ·rcases List.mem_append.1 hx with h|h
       ·have hxi:x≠i:=fun e2=>hil (e2▸h)
        rw[kN hxi]at hk1
        have h1:=hDk x vals w w' k (hR x h) hGw hk1
        have h2:=hDlt x vals w k (hR x h) h1
        rcases List.mem_append.1 hy with h'|h'
        ·have hyi:y≠i:=fun e2=>hil (e2▸h')
         rw[kN hyi]at hk2
         exact hD x h y h' hne k h1 (hDk y vals w w' k (hR y h') hGw hk2)
        ·simp at h';subst h';rw[yS]at hk2
         have:=hDv k hk2;omega
       ·simp at h;subst h;rw[yS]at hk1
        have h1:=hDv k hk1
        rcases List.mem_append.1 hy with h'|h'
        ·have hyi:y≠x:=fun e2=>hil (e2▸h')
         rw[kN hyi]at hk2
         have h2:=hDlt y vals w k (hR y h') (hDk y vals w w' k (hR y h') hGw hk2)
         omega
        ·simp at h';exact hne h'.symm
      ·rcases List.mem_append.1 hx with h|h
       ·exact List.mem_append_left _ (hclo x h q hq)
       ·simp at h;subst h;exact List.mem_append_left _ (hdl q hq)
 have:=main ops.size (Array.replicate ops.size false) [] (fun _=>undef) w0 (by simp) (by simp[hsz]) (fun i=>by simp[Array.getElem?_replicate];intro h;split<;>simp) (by simp[Array.getElem?_replicate];split<;>simp) (fun i hi=>(nomatch hi)) (fun i hi=>(nomatch hi)) hG0 (fun i hi=>(nomatch hi)) (by simp[hsz])
 exact this
def nO(DS:List (Option Tmp))(i:Nat):Option Tmp:=DS.getD i none
def oh(DL:List (List Nat))(i:Nat):List Nat:=DL.getD i []
def StepL(P:Program)(ops:Array Oper)(DL:List (List Nat))(DS:List (Option Tmp))(a0:Act)(w0:World)(G:World→World→Prop)(R:Nat→(Nat→Value)→World→Prop)(D:Nat→Value→World→Nat→Prop)(i:Nat):Prop:=
 ∀(o:Oper),ops[i]? =some o→∀ (vals:Nat→Value) (w:World),G w0 w→(∀j∈oh DL i,R j vals w)→
  ∀K:Act→World→Prop,Shut (∀v w',G w w'→R i (upV vals i v) w'→(∀k,D i v w' k→w.heap.size≤k)→K ((aZ (nO DS) vals (oh DL i) a0).put o.dst v) w')→Oper.wp P o (aZ (nO DS) vals (oh DL i) a0) w K Dw
theorem kR{dst dst':Nat→Option Tmp}{vals:Nat→Value}:∀ {l:List Nat} (a:Act),(∀j∈l,dst j=dst' j)→aZ dst vals l a=aZ dst' vals l a
 | [],_,_=>rfl
 |i::l,a,h=>by
  show aZ dst vals l (a.put (dst i) (vals i))=aZ dst' vals l (a.put (dst' i) (vals i))
  rw[h i (List.mem_cons_self ..),kR _ (fun j hj=>h j (List.mem_cons_of_mem _ hj))]
theorem Fs{o:Oper}{a:Act}{w:World}{K:Act→World→Prop}(h:Oper.wp P o a w K Dw):Oper.wp P o a w K Q:=by
 unfold Oper.wp at*
 generalize (execOp a.eval o).run P w=r at*
 cases r with
 |ok n w'=>
  cases n with
  |enter f args=>
   refine Calls.mono h fun e w'' he=> ?_
   cases e with
   |returned v=>exact he
   |panicked c=>exact he.elim
   |outgrown=>obtain⟨_,_,h⟩:=he;exact h.elim
  |row row args=>exact Rows.mono h fun v w'' he=>he
  |_=>exact h
 |halt x w'=>cases x<;>exact h.elim
theorem zV{DL:List (List Nat)}{DS:List (Option Tmp)}{RL:List Nat}{z n:Nat}{a0:Act}{w0:World}{G:World→World→Prop}{R:Nat→(Nat→Value)→World→Prop}{D:Nat→Value→World→Nat→Prop}(hf:vK ops z n=true)(hL:(List.range z).all (fun i=>fe ops i==oh DL i&&gI ops i==nO DS i)=true)(hr:List.range z=RL)(hn:n=a0.tmps.size)
 (hG0:G w0 w0)(hGt:∀ a b c,G a b→G b c→G a c)(hRm:∀ i vals w w',R i vals w→G w w'→R i vals w')(hRc:∀ i vals vals' w,i<z→vals i=vals' i→(∀j∈oh DL i,vals j=vals' j)→R i vals w→R i vals' w)
 (hDlt:∀ i vals w k,R i vals w→D i (vals i) w k→k<w.heap.size)(hDk:∀ i vals w w' k,R i vals w→G w w'→D i (vals i) w' k→D i (vals i) w k)
 (hstep:∀ i,i<z→StepL P ops DL DS a0 w0 G R D i)
 (hlast:∀ (vals:Nat→Value) (w:World),G w0 w→(∀i,i<z→R i vals w)→(∀i j,i<z→j<z→i≠j→∀ k,D i (vals i) w k→¬ D j (vals j) w k)→∀ o,ops[z]? =some o→∀ N:Act→World→Prop,Shut (N=fun a w=>Q .normal a w)→∀ K:Act→World→Prop,Shut (∀a w,N a w→K a w)→Oper.wp P o (aZ (nO DS) vals RL a0) w K Dw):
 wpAny P .any ops Q ops.size (Array.replicate ops.size false) a0 w0:=by
 have hl:∀ i,i<z→fe ops i=oh DL i∧gI ops i=nO DS i:=fun i hi=>by
  have:=List.all_eq_true.1 hL i (List.mem_range.2 hi)
  simpa using this
 refine wN hf hn hG0 hGt hRm (fun i vals vals' w hi h1 h2=>hRc i vals vals' w hi h1 (by rw[←(hl i hi).1];exact h2)) hDlt hDk (fun i hi o ho vals w hG hd K hK=> ?_) (fun vals w hG hR hD o ho K hK=> ?_)
 ·obtain⟨_,_,_,_,_,_,_,hdp,_⟩:=j5 hf hi
  have e:aZ (gI ops) vals (fe ops i) a0=aZ (nO DS) vals (oh DL i) a0:=by
   rw[kR (dst':=nO DS) a0 (fun j hj=>(hl j (by have:=hdp j hj;omega)).2),(hl i hi).1]
  rw[e]at hK⊢
  exact hstep i hi o ho vals w hG (by rw[←(hl i hi).1];exact hd) K hK
 ·rw[kR (dst':=nO DS) a0 (fun j hj=>(hl j (List.mem_range.1 hj)).2),hr]
  exact Fs (hlast vals w hG hR hD o ho _ rfl K hK)
end
end Go.Proofs.YthjdeoppajlcoaaGreatDoor
