/- Layer 7: the document's Ahead; a block of a function that came in, with the lists of its end. -/
import Derived.Test.YtikoklagffbgiaaGreatDoorSCfgI
import Derived.Test.YtikoklagffbgiaaGreatDoorSCfgJ
import Derived.Test.YtikoklagffbgiaaGreatDoorSKindPlainW
import Derived.Deep.LoopGhost
import Derived.Laws.CopyOwn
import Derived.Deep.RegionWith
namespace Go.Proofs.YtikoklagffbgiaaGreatDoor
set_option linter.unusedSimpArgs false
set_option linter.unusedVariables false
set_option maxRecDepth 100000
open Go.RowKit (wrap64 intOf Below Hid)
open Go.Lib (hid)
def ListAt(W:World)(a:Option Addr)(n c:Nat)(Z:List Int):Prop:=NumsAt W a n Z∧(a=none→c=0)∧n*8≤140737488351232
theorem ListAt.since{W W':World}{a:Option Addr}{n c:Nat}{Z:List Int}(h:ListAt W a n c Z)(hb:Below W.heap.size W W'):ListAt W' a n c Z:=⟨h.1.since hb,h.2⟩
theorem own_addr{W:World}{B:Nat}{e:TypeId}{va:Option Addr}{vn vc:Nat}{Z:List Int}(h:OwnsI W B e (.slice va vn vc) Z)(h0:0<Z.length):∃ g,va=some ⟨g,0,none⟩∧B≤g∧g<W.heap.size:=by
 rcases h.2 with⟨e,h'⟩|⟨g,cap,cur,e,hB,hh,_⟩
 ·omega
 ·cases e;exact⟨g,rfl,hB,(Array.getElem?_eq_some_iff.1 hh).1⟩
theorem own_cell{W:World}{B:Nat}{e:TypeId}{g vn vc:Nat}{Z:List Int}(h:OwnsI W B e (.slice (some ⟨g,0,none⟩) vn vc) Z){j:Nat}(hj:j<Z.length):W.cell? ⟨g,j,none⟩=some (.int .i64 (nth Z j)):=by
 have:=World.ownsRow.cells h rfl j (numV Z[j]) (by rw[List.getElem?_map,List.getElem?_eq_getElem hj];rfl)
 rw[addr_plain,Nat.zero_add]at this
 rw[nth_is hj]
 exact this
theorem own_free{W:World}{B:Nat}{e:TypeId}{g vn vc:Nat}{Z:List Int}(h:OwnsI W B e (.slice (some ⟨g,0,none⟩) vn vc) Z)(j:Nat):W.frozen? ⟨g,j,none⟩=false:=by
 have hn:=h.read.1
 subst hn
 exact World.ownsRow.frozenAt h j
theorem own_store{W:World}{B:Nat}{e:TypeId}{g vn vc:Nat}{Z:List Int}(h:OwnsI W B e (.slice (some ⟨g,0,none⟩) vn vc) Z)(j:Nat)(z:Int):OwnsI (W.setCell ⟨g,j,none⟩ (.int .i64 z)) B e (.slice (some ⟨g,0,none⟩) vn vc) (Z.set j z):=by
 have hn:=h.read.1
 subst hn
 have:=(World.ownsRow.stored h j (.int .i64 z)).1
 show World.ownsRow _ B e 1 _ (Z.set j z).length ((Z.set j z).map numV)
 rw[List.length_set,List.map_set]
 exact this
structure RdSt(w:World)(r:Int)(a:Option Addr)(n c:Nat)(va:Option Addr)(vn vc:Nat)(DL:List Int)(W:World):Prop where
 law:LawSt w r a n c none 0 [] W
 own:OwnsI W (w.heap.size+1) 3 (.slice va vn vc) DL
 len:DL.length=n
theorem RdSt.since{w:World}{r:Int}{a:Option Addr}{n c:Nat}{va:Option Addr}{vn vc:Nat}{DL:List Int}{W W':World}(h:RdSt w r a n c va vn vc DL W)(hb:Below W.heap.size W W'):RdSt w r a n c va vn vc DL W':=
 ⟨h.law.since hb,h.own.below hb,h.len⟩
theorem law_above{w:World}{r:Int}{a:Option Addr}{n c:Nat}{W W':World}(h:LawSt w r a n c none 0 [] W)(hb:Below (w.heap.size+1) W W'):LawSt w r a n c none 0 [] W':=
 ⟨h.bel.trans (hb.mono (by omega)),Nat.lt_of_lt_of_le h.siz hb.size,(hb.cell (p:=⟨w.heap.size,0,none⟩) (Nat.lt_succ_self _)).trans h.c0,(hb.cell (p:=⟨w.heap.size,1,none⟩) (Nat.lt_succ_self _)).trans h.c1,NumsAt.nil _ _⟩
theorem RdSt.store{w:World}{r:Int}{a:Option Addr}{n c:Nat}{g vn vc:Nat}{DL:List Int}{W:World}(h:RdSt w r a n c (some ⟨g,0,none⟩) vn vc DL W)(hg:w.heap.size+1≤g)(j:Nat)(z:Int):RdSt w r a n c (some ⟨g,0,none⟩) vn vc (DL.set j z) (W.setCell ⟨g,j,none⟩ (.int .i64 z)):=
 ⟨law_above h.law ((Below.refl _ W).setCell (p:=⟨g,j,none⟩) hg _),own_store h.own j z,by simp[h.len]⟩
def filled(n k:Nat)(v:Int):List Value:=List.replicate k (numV v)++List.replicate (n-k) (numV 0)
theorem filled_len{n k:Nat}(v:Int)(h:k≤n):(filled n k v).length=n:=by simp[filled];omega
theorem filled_more{n k m:Nat}(v:Int)(h:k+m≤n):splice (filled n k v) k (List.replicate m (numV v))=filled n (k+m) v:=by
 unfold splice filled
 rw[List.take_left' (by simp),List.length_replicate,List.drop_append]
 simp only[List.length_replicate,List.drop_replicate]
 rw[show k-(k+m)=0 by omega,List.replicate_zero,List.nil_append,show k+m-k=m by omega,show n-k-m=n-(k+m) by omega,←List.append_assoc,List.replicate_append_replicate]
theorem filled_at{n k j:Nat}{v:Int}(hj:j<k)(hk:k≤n):(filled n k v)[j]? =some (.int .i64 v):=by
 unfold filled
 rw[List.getElem?_append_left (by simpa using hj),List.getElem?_replicate,if_pos hj];rfl
theorem filled_made(n:Nat)(v:Int):(madeCells #[Value.int .i64 0] n)=(filled n 0 v).toArray:=by
 apply Array.ext
 ·simp[madeCells,filled]
 ·intro i h1 h2
  simp[madeCells,filled,Nat.mod_one,numV]
theorem filled_full(n:Nat)(v:Int):filled n n v=(List.replicate n v).map numV:=by simp[filled]
theorem make_intsR(q:Int)(Q:Nat)(hq:q=Q)(hQ:Q≤1099511627776)(u:World):(Instr.makeSlice 40 (.int .i64 q) (.int .i64 q)).run Tryz.prog u=.ok (.slice (some ⟨u.heap.size,0,none⟩) Q Q) (u.alloc (.cells (madeCells #[.int .i64 0] Q) 3)):=by
 obtain⟨i0,hi,hz0,hz1,hz2⟩:=info_parts info_int
 subst hq
 have h:=run_make (P:=Tryz.prog) u 40 3 i0 (.int .i64 0) Tryz.underlying40 hi hz0 .i64 .i64 (Q:Int) (Q:Int) (by omega) (by omega) (by rw[hz2];omega) (by omega)
 simpa [hz1,Value.cells]using h
set_option maxRecDepth 100000 in
set_option maxHeartbeats 2000000 in
theorem repeat_any(g cx:Nat)(v:Int)(n:Nat)(w:World)(hx:w.cell? ⟨g,0,none⟩=some (.int .i64 v))(hn:n≤1099511627776):
 Calls Tryz.prog 136 #[.slice (some ⟨g,0,none⟩) 1 cx,.int .i64 (n:Int)] w fun e w'=>e=.returned (.slice (some ⟨w.heap.size,0,none⟩) n n)∧OwnsI w' w.heap.size 3 (.slice (some ⟨w.heap.size,0,none⟩) n n) (List.replicate n v)∧Below w.heap.size w w':=by
 have hmk:=make_intsR n n rfl hn
 have hsz:(Tryz.prog.info? 3).map (·.size)=some 1:=by kernel_rfl
 have hgl:g<w.heap.size:=World.block_lt_of_cell? (a:=⟨g,0,none⟩) _ hx
 have HGL:=hid hgl
 have HX:=hid hx
 have CB:=hid (Tryz.bits_Mul 1 n (by decide) (by omega))
 have e1:((1*n/18446744073709551616:Nat):Int)=0:=by rw[Nat.one_mul,Nat.div_eq_of_lt (by omega)];rfl
 have e2:((1*n%18446744073709551616:Nat):Int)=(n:Int):=by rw[Nat.one_mul,Nat.mod_eq_of_lt (by omega)]
 have e3:¬ ((n:Int)<0):=by omega
 have e4:IntKind.u64.wrap (n:Int)=(n:Int):=by simp[IntKind.wrap,IntKind.bits,IntKind.signed];omega
 have e5:IntKind.i64.wrap (n:Int)=(n:Int):=by simp[IntKind.wrap,IntKind.bits,IntKind.signed];omega
 have e6:¬ ((9223372036854775807:Int)<(n:Int)):=by omega
 rw[e1,e2]at CB
 clear hx hgl
 go_enter Tryz.func136,Tryz.ntmps136
 obtain⟨k0,hk0⟩:∃ k0,k0=min 1 n:=⟨_,rfl⟩
 have hG:(w.alloc (.cells (madeCells #[.int .i64 0] n) 3)).heap[w.heap.size]? =some (.cells (filled n 0 v).toArray 3 (0,0)):=by rw[filled_made n v];exact World.alloc_heap_new w _
 have HG:=hid hG
 have HK0:Hid (k0≤n∧(0<n→1≤k0)∧(List.replicate k0 (numV v)).length=Nat.min 1 n):=hid ⟨by omega,by omega,by rw[List.length_replicate];exact hk0⟩
 clear hG hk0
 go_upto_region 7 with(go_at_call 155;refine(CB.out _).mono ?_;rintro e w1 ⟨rfl,hw1⟩;rw[hw1];clear hw1 w1)
 refine wp_region_lit ?_
 refine wpList_plain rfl fun K hK=> ?_
 go_simp
 refine hK _ _ ?_
 refine wpList_plain rfl fun K hK=> ?_
 go_simp
 refine hK _ _ ?_
 refine wpList_copy_splice rfl (.tmp 31) (.tmp 32) 40 40 rfl 3 Tryz.underlying40 hsz (some ⟨w.heap.size,0,none⟩) (some ⟨g,0,none⟩) n n 1 cx rfl rfl w.heap.size 0 (filled n 0 v) 3 HG.out (List.replicate k0 (numV v)) HK0.out.2.2 (fun h=>⟨rfl,_,rfl,fun j u hu=> ?_⟩) ?_ ?_ w.heap.size w ?_ (Nat.le_refl _) ?_
 ·rw[List.getElem?_replicate]at hu
  split at hu
  ·have hj:j=0:=by
    have:=HK0.out.2.2
    rw[List.length_replicate]at this
    have h1:Nat.min 1 n≤1:=Nat.min_le_left _ _
    omega
   subst hj
   simp only[Option.some.injEq]at hu
   subst hu
   rw[addr_plain]
   exact(((Below.refl w.heap.size w).alloc (Nat.le_refl _) _).cell (p:=⟨g,0,none⟩) HGL.out).trans HX.out
  ·cases hu
 ·rw[filled_len v (Nat.zero_le _),List.length_replicate];have:=HK0.out.1;omega
 ·intro u hu;rw[List.mem_replicate]at hu;rw[hu.2];rfl
 ·exact(Below.refl w.heap.size w).alloc (Nat.le_refl _) _
 intro w2 hg2 hb2
 have HG2:Hid (w2.heap[w.heap.size]? =some (.cells (filled n k0 v).toArray 3 (0,0))):=hid (by have h:=hg2.out;rw[filled_more v (by have:=HK0.out.1;omega),Nat.zero_add]at h;exact h)
 have HB2:=hid hb2
 clear hg2 hb2 hmk
 rw[List.length_replicate]
 go_wp2_with fail
 go_loopw[8] (fun v8 wr=>∃ k:Nat,k≤n∧(0<n→1≤k)∧v8=.int .i64 (k:Int)∧Hid (wr.heap[w.heap.size]? =some (.cells (filled n k v).toArray 3 (0,0))∧Below w.heap.size w wr)) (fun v8 _=>n-(intOf v8).toNat)
 case atStart=>exact⟨k0,HK0.out.1,HK0.out.2.1,rfl,hid ⟨HG2.out,HB2.out⟩⟩
 case round=>
  obtain⟨k,hk,hk1,rfl,HI⟩:=hrel
  clear HG HG2 HB2 CB HK0
  obtain⟨wo,hwo⟩:∃ u,u=wr:=⟨_,rfl⟩
  rw[←hwo]at HI⊢
  clear hwo
  by_cases hlt:k<n
  ·obtain⟨m,hm⟩:∃ m,m=min k (n-k):=⟨_,rfl⟩
   have HM:Hid (k+m≤n∧1≤m∧(List.replicate m (numV v)).length=Nat.min k (n-k)):=hid ⟨by omega,by omega,by rw[List.length_replicate];exact hm⟩
   have hne:¬ n=k:=by omega
   have hki:(k:Int)<(n:Int):=by omega
   have hkn:(k:Int)≤(n:Int):=by omega
   have hk0':(0:Int)≤(k:Int):=by omega
   clear hm
   have HPOS:Hid (0<(List.replicate m (numV v)).length→(some (⟨w.heap.size,k,none⟩:Addr)=some ⟨w.heap.size,k,none⟩)∧∃ ad,some (⟨w.heap.size,0,none⟩:Addr)=some ad∧∀ j u,(List.replicate m (numV v))[j]? =some u→wo.drew.cell? (ad.add j)=some u):=hid fun h=>⟨rfl,_,rfl,fun j u hu=>by
    rw[List.getElem?_replicate]at hu
    split at hu
    ·simp only[Option.some.injEq]at hu
     subst hu
     rw[addr_plain,Nat.zero_add]
     have h2:=HM.out.2.2
     rw[List.length_replicate]at h2
     have h3:Nat.min k (n-k)≤k:=Nat.min_le_left _ _
     have h1:=filled_at (v:=v) (show j<k by omega) (Nat.le_of_lt hlt)
     have h4:=HI.out.1
     simp only[World.cell?,World.drew,h4,Option.isSome_none,Bool.false_eq_true,if_false]
     simpa [numV]using h1
    ·cases hu⟩
   go_upto_region 9 with fail
   go_region_law (refine step_copy_splice rfl (.tmp 41) (.tmp 44) 40 40 rfl 3 Tryz.underlying40 hsz (some ⟨w.heap.size,k,none⟩) (some ⟨w.heap.size,0,none⟩) (n-k) (n-k) k n (by simp[Act.eval,Act.put]) (by simp[Act.eval,Act.put]) w.heap.size k (filled n k v) 3 HI.out.1 (List.replicate m (numV v)) HM.out.2.2 HPOS.out (by rw[filled_len v (Nat.le_of_lt hlt),List.length_replicate];exact HM.out.1) (by intro u hu;rw[List.mem_replicate]at hu;rw[hu.2];rfl) w.heap.size w HI.out.2.drew (Nat.le_refl _) ?_;intro w4 hg4 hb4;have HG4:Hid (w4.heap[w.heap.size]? =some (.cells (filled n (k+m) v).toArray 3 (0,0))):=hid (by have h:=hg4.out;rw[filled_more v HM.out.1]at h;exact h);have HB4:=hid hb4;clear hg4 hb4;rw[List.length_replicate])
   have hwkm:IntKind.i64.wrap ((k:Int)+(m:Int))=((k+m:Nat):Int):=by have:=HM.out.1;simp[IntKind.wrap,IntKind.bits,IntKind.signed];omega
   have HM1:=HM.out.1
   have HM2:=HM.out.2.1
   go_wp2_with fail
   go_roundw
   case rel=>exact⟨k+m,HM1,fun _=>by omega,(by first|omega|rfl|(simp;done)|go_num),hid ⟨HG4.out,HB4.out⟩⟩
   case measure=>simp only[intOf,hwkm];omega
  ·obtain rfl:k=n:=by omega
   go_wp2_with fail
   go_ret
   refine⟨rfl,⟨by simp,.inr ⟨w.heap.size,k,_,by simp,Nat.le_refl _,HI.out.1,by simp,by unfold maxLen;omega,by simp[filled],by rw[filled_full];simp⟩⟩,HI.out.2⟩
theorem first_cells{w u:World}{C0:Array Value}{t0:TypeId}(hb:Below (w.heap.size+1) (w.alloc (.cells C0 t0)) u)(j:Nat)(v:Value)(h:C0[j]? =some v):u.cell? ⟨w.heap.size,j,none⟩=some v:=by
 rw[cell_first hb j,h]
set_option maxHeartbeats 4000000 in
theorem decl_9(g:Nat){sa:Option Addr}{sn sc:Nat}{ca:Option Addr}{cn cc:Nat}{fa:Option Addr}{fn fc:Nat}{P:ProgD}(A B C N:Int)(S:ByteArray)(la:Option Addr)(ln lc:Nat)(T:Bool)(L:List Int)(ta:Option Addr)(tn tc:Nat)(ts:List Int)(w:World)
 (hP:ProgAt w g sa sn sc ca cn cc fa fn fc P)(hat:NumsAt w la ln L)(hln:ln≤17592186044000)(ht:NumsAt w ta tn ts)(htn:tn≤140737488355328)(hr:∀ z∈ts,InR z)(hN:InR N)(ham:Among (usesL 9 A B C L) tn):
 Calls Tryz.prog 101 #[.pointer (some ⟨g,0,none⟩),.agg #[.int .i64 9,.int .i64 A,.int .i64 B,.int .i64 C,.int .i64 N,.string S,.slice la ln lc,.bool T],.slice ta tn tc] w (RowPost (rowS P 9 N S ((usesL 9 A B C L).map (tyAt ts))) w):=by
 have hu:usesL 9 A B C L=L:=by simp[usesL,hasB,fieldsL,oneL,pickL]
 rw[hu]at ham⊢
 obtain⟨W0,hW0⟩:∃ W0,W0=w.alloc (.cells #[.int .i64 9,.int .i64 A,.int .i64 B,.int .i64 C,.int .i64 N,.string S,.slice la ln lc,.bool T] 64):=⟨_,rfl⟩
 have hw0:∀ u,Below (w.heap.size+1) W0 u→Below w.heap.size w u:=fun u hu=>by rw[hW0]at hu;exact first_below hu
 have HW:=hid hw0
 have HP:Hid (∀u,Below (w.heap.size+1) W0 u→ProgAt u g sa sn sc ca cn cc fa fn fc P):=hid (fun u hu=>hP.since (hw0 u hu))
 have HT:Hid (∀u,Below (w.heap.size+1) W0 u→NumsAt u ta tn ts):=hid (fun u hu=>ht.since (hw0 u hu))
 have HL:Hid (∀u,Below (w.heap.size+1) W0 u→NumsAt u la ln L):=hid (fun u hu=>hat.since (hw0 u hu))
 have HC:Hid (∀u,Below (w.heap.size+1) W0 u→u.cell? ⟨w.heap.size,0,none⟩=some (.int .i64 9)∧u.cell? ⟨w.heap.size,1,none⟩=some (.int .i64 A)∧u.cell? ⟨w.heap.size,2,none⟩=some (.int .i64 B)∧u.cell? ⟨w.heap.size,3,none⟩=some (.int .i64 C)∧u.cell? ⟨w.heap.size,4,none⟩=some (.int .i64 N)∧u.cell? ⟨w.heap.size,5,none⟩=some (.string S)∧u.cell? ⟨w.heap.size,6,none⟩=some (.slice la ln lc)∧u.cell? ⟨w.heap.size,7,none⟩=some (.bool T)∧u.cell? ⟨g,0,none⟩=some (.slice sa sn sc)∧u.cell? ⟨g,1,none⟩=some (.slice ca cn cc)∧u.cell? ⟨g,2,none⟩=some (.slice fa fn fc)):=
  hid (fun u hu=>by have hp:=HP.out u hu;rw[hW0]at hu;exact⟨first_cells hu 0 _ rfl,first_cells hu 1 _ rfl,first_cells hu 2 _ rfl,first_cells hu 3 _ rfl,first_cells hu 4 _ rfl,first_cells hu 5 _ rfl,first_cells hu 6 _ rfl,first_cells hu 7 _ rfl,hp.c0,hp.c1,hp.c2⟩)
 have HZ:Hid (w.heap.size+1≤W0.heap.size):=hid (by rw[hW0];simp)
 have H0:Hid (Below (w.heap.size+1) W0 W0.drew):=hid (Below.refl _ _).drew
 have H1:Hid (Below (w.heap.size+1) W0 W0.drew.drew):=hid (Below.refl _ _).drew.drew
 have H2:Hid (Below (w.heap.size+1) W0 W0):=hid (Below.refl _ _)
 have hlc:=hP.c.len
 by_cases h:0≤N∧N<(cn:Int)
 ·obtain⟨k,rfl⟩:=Int.eq_ofNat_of_zero_le h.1
  have hk:k<cn:=by omega
  obtain⟨cg,co,cs,hx,rfl,hcl,hcs,f,m,rfl,⟨a,fnn,fcc,rfl,hfa,_,hfb,_⟩,_⟩:=hP.c.elem hk
  have hc0:w.cell? ⟨cg,co+k*2,none⟩=some (.slice a fnn fcc):=hcs 0 (by simp)
  have HCK:Hid (∀u,Below (w.heap.size+1) W0 u→u.cell? ⟨cg,co+k*2,none⟩=some (.slice a fnn fcc)):=hid (fun u hu=>((hw0 u hu).cell (p:=⟨cg,co+k*2,none⟩) (World.block_lt_of_cell? _ _ hc0)).trans hc0)
  have hfo:fieldsOf P k=(P.classes[k]).fields:=by unfold fieldsOf;rw[List.getElem?_eq_getElem hx]
  obtain⟨l,hl⟩:∃ l,(P.classes[k]).fields=l:=⟨_,rfl⟩
  rw[hl]at hfa hfo
  have HF:Hid (∀u,Below (w.heap.size+1) W0 u→NumsAt u a fnn l):=hid (fun u hu=>hfa.since (hw0 u hu))
  have HM:=hid (fun u hu=>match_any ta tn tc ts la ln lc L a fnn fcc l u (HT.out u hu) (HL.out u hu) (HF.out u hu) ham (by omega) (by omega) htn)
  have HI:=hid (show kinB (k:Int) (cn:Int)=true from decide_eq_true h)
  have hwr:IntKind.i64.wrap (6+(k:Int))=6+(k:Int):=wrap_small _ (by omega) (by omega)
  have HRR:Hid (rowS P 9 (k:Int) S (L.map (tyAt ts))=(6+(k:Int),matchB ts L l)):=hid (by
   show(if 0≤(k:Int)∧(k:Int)<P.classes.length then(6+(k:Int),sameB (L.map (tyAt ts)) (fieldsOf P (k:Int).toNat))else(-1,false))=_
   rw[if_pos (by omega),show((k:Int)).toNat=k from rfl,hfo]
   rfl)
  have HR:Hid ((rowS P 9 (k:Int) S (L.map (tyAt ts))).2=matchB ts L l):=hid (by rw[HRR.out])
  have HR1:Hid ((rowS P 9 (k:Int) S (L.map (tyAt ts))).1=6+(k:Int)):=hid (by rw[HRR.out])
  clear hcs hfa hP hat ht ham h hc0 hw0 hl hr hfo
  go_enter Tryz.func101,Tryz.ntmps101
  go_wp2_with fail
  rw[←hW0]
  clear hW0
  go_region_held3 (fun u=>u.cell? ⟨w.heap.size,0,none⟩=some (.int .i64 9)∧u.cell? ⟨w.heap.size,1,none⟩=some (.int .i64 A)∧u.cell? ⟨w.heap.size,2,none⟩=some (.int .i64 B)∧u.cell? ⟨w.heap.size,3,none⟩=some (.int .i64 C)∧u.cell? ⟨w.heap.size,4,none⟩=some (.int .i64 (k:Int))∧u.cell? ⟨w.heap.size,5,none⟩=some (.string S)∧u.cell? ⟨w.heap.size,6,none⟩=some (.slice la ln lc)∧u.cell? ⟨w.heap.size,7,none⟩=some (.bool T)∧u.cell? ⟨g,0,none⟩=some (.slice sa sn sc)∧u.cell? ⟨g,1,none⟩=some (.slice (some ⟨cg,co,none⟩) cn cc)∧u.cell? ⟨g,2,none⟩=some (.slice fa fn fc))
   (exact HC.out _ (Hid.out (by assumption)))
   (first|(go_at_call 98;(with_reducible refine(among_any _ _ _).mono ?_);rintro e w' ⟨rfl,rfl⟩;rw[HI.out]))
  go_wp2_with fail
  go_region_held3 (fun u=>u.cell? ⟨w.heap.size,0,none⟩=some (.int .i64 9)∧u.cell? ⟨w.heap.size,1,none⟩=some (.int .i64 A)∧u.cell? ⟨w.heap.size,2,none⟩=some (.int .i64 B)∧u.cell? ⟨w.heap.size,3,none⟩=some (.int .i64 C)∧u.cell? ⟨w.heap.size,4,none⟩=some (.int .i64 (k:Int))∧u.cell? ⟨w.heap.size,5,none⟩=some (.string S)∧u.cell? ⟨w.heap.size,6,none⟩=some (.slice la ln lc)∧u.cell? ⟨w.heap.size,7,none⟩=some (.bool T)∧u.cell? ⟨g,0,none⟩=some (.slice sa sn sc)∧u.cell? ⟨g,1,none⟩=some (.slice (some ⟨cg,co,none⟩) cn cc)∧u.cell? ⟨g,2,none⟩=some (.slice fa fn fc)∧u.cell? ⟨cg,co+k*2,none⟩=some (.slice a fnn fcc))
   (exact(by have hx1:=HC.out _ (Hid.out (by assumption));have hy0:=HCK.out _ (Hid.out (by assumption));exact⟨hx1.1,hx1.2.1,hx1.2.2.1,hx1.2.2.2.1,hx1.2.2.2.2.1,hx1.2.2.2.2.2.1,hx1.2.2.2.2.2.2.1,hx1.2.2.2.2.2.2.2.1,hx1.2.2.2.2.2.2.2.2.1,hx1.2.2.2.2.2.2.2.2.2.1,hx1.2.2.2.2.2.2.2.2.2.2,hy0⟩))
   (first|(go_at_call 132;(with_reducible refine(HM.out _ (Hid.out (by assumption))).mono ?_);rintro e w' ⟨rfl,hb⟩;have HB:=hid (keepN (Hid.out (by assumption:Hid (Below (w.heap.size+1) W0 _))) HZ.out hb);clear hb))
  all_goals go_wp2_with fail
  all_goals refine bodyPost_ret (v:=.tuple #[.int .i64 (6+(k:Int)),.bool (matchB ts L l)]) (by simp[results,Tryz.results101,go_sem]) rfl ⟨6+(k:Int),by rw[HR.out],fun _=>HR1.out.symm,HW.out _ (by first|exact Hid.out (by assumption)|exact H0.out.drewq _|exact H2.out.drewq _)⟩
 ·have HI:=hid (show kinB N (cn:Int)=false from decide_eq_false h)
  have HR:Hid ((rowS P 9 N S (L.map (tyAt ts))).2=false):=hid (by
   unfold rowS
   rw[if_neg (show ¬(9:Int)=0 by decide),if_neg (show ¬(9:Int)=1 by decide),if_neg (show ¬(9:Int)=2 by decide),if_neg (show ¬(9:Int)=3 by decide),if_neg (show ¬(9:Int)=4 by decide),if_neg (show ¬(9:Int)=5 by decide),if_neg (show ¬(9:Int)=6 by decide),if_neg (show ¬(9:Int)=7 by decide),if_neg (show ¬(9:Int)=8 by decide),if_pos rfl,if_neg (by omega)]
   skip)
  clear hP hat ht ham h hw0 hr
  go_enter Tryz.func101,Tryz.ntmps101
  go_wp2_with fail
  rw[←hW0]
  clear hW0
  go_region_held3 (fun u=>u.cell? ⟨w.heap.size,0,none⟩=some (.int .i64 9)∧u.cell? ⟨w.heap.size,1,none⟩=some (.int .i64 A)∧u.cell? ⟨w.heap.size,2,none⟩=some (.int .i64 B)∧u.cell? ⟨w.heap.size,3,none⟩=some (.int .i64 C)∧u.cell? ⟨w.heap.size,4,none⟩=some (.int .i64 N)∧u.cell? ⟨w.heap.size,5,none⟩=some (.string S)∧u.cell? ⟨w.heap.size,6,none⟩=some (.slice la ln lc)∧u.cell? ⟨w.heap.size,7,none⟩=some (.bool T)∧u.cell? ⟨g,0,none⟩=some (.slice sa sn sc)∧u.cell? ⟨g,1,none⟩=some (.slice ca cn cc)∧u.cell? ⟨g,2,none⟩=some (.slice fa fn fc))
   (exact HC.out _ (Hid.out (by assumption)))
   (first|(go_at_call 98;(with_reducible refine(among_any _ _ _).mono ?_);rintro e w' ⟨rfl,rfl⟩;rw[HI.out]))
  go_wp2_with fail
  refine bodyPost_ret (v:=.tuple #[.int .i64 (-1),.bool false]) (by simp[results,Tryz.results101,go_sem]) rfl ⟨-1,by rw[HR.out],fun h=>(by rw[HR.out]at h;cases h),HW.out _ (by first|exact Hid.out (by assumption)|exact H0.out.drewq _|exact H2.out.drewq _)⟩
set_option maxHeartbeats 4000000 in
theorem decl_10(g:Nat){sa:Option Addr}{sn sc:Nat}{ca:Option Addr}{cn cc:Nat}{fa:Option Addr}{fn fc:Nat}{P:ProgD}(A B C N:Int)(S:ByteArray)(la:Option Addr)(ln lc:Nat)(T:Bool)(L:List Int)(ta:Option Addr)(tn tc:Nat)(ts:List Int)(w:World)
 (hP:ProgAt w g sa sn sc ca cn cc fa fn fc P)(hat:NumsAt w la ln L)(hln:ln≤17592186044000)(ht:NumsAt w ta tn ts)(htn:tn≤140737488355328)(hr:∀ z∈ts,InR z)(hN:InR N)(ham:Among (usesL 10 A B C L) tn):
 Calls Tryz.prog 101 #[.pointer (some ⟨g,0,none⟩),.agg #[.int .i64 10,.int .i64 A,.int .i64 B,.int .i64 C,.int .i64 N,.string S,.slice la ln lc,.bool T],.slice ta tn tc] w (RowPost (rowS P 10 N S ((usesL 10 A B C L).map (tyAt ts))) w):=by
 have hu:usesL 10 A B C L=[A]:=by simp[usesL,hasB,fieldsL,oneL,pickL]
 rw[hu]at ham⊢
 obtain⟨W0,hW0⟩:∃ W0,W0=w.alloc (.cells #[.int .i64 10,.int .i64 A,.int .i64 B,.int .i64 C,.int .i64 N,.string S,.slice la ln lc,.bool T] 64):=⟨_,rfl⟩
 have hw0:∀ u,Below (w.heap.size+1) W0 u→Below w.heap.size w u:=fun u hu=>by rw[hW0]at hu;exact first_below hu
 have HW:=hid hw0
 have HP:Hid (∀u,Below (w.heap.size+1) W0 u→ProgAt u g sa sn sc ca cn cc fa fn fc P):=hid (fun u hu=>hP.since (hw0 u hu))
 have HT:Hid (∀u,Below (w.heap.size+1) W0 u→NumsAt u ta tn ts):=hid (fun u hu=>ht.since (hw0 u hu))
 have HL:Hid (∀u,Below (w.heap.size+1) W0 u→NumsAt u la ln L):=hid (fun u hu=>hat.since (hw0 u hu))
 have HC:Hid (∀u,Below (w.heap.size+1) W0 u→u.cell? ⟨w.heap.size,0,none⟩=some (.int .i64 10)∧u.cell? ⟨w.heap.size,1,none⟩=some (.int .i64 A)∧u.cell? ⟨w.heap.size,2,none⟩=some (.int .i64 B)∧u.cell? ⟨w.heap.size,3,none⟩=some (.int .i64 C)∧u.cell? ⟨w.heap.size,4,none⟩=some (.int .i64 N)∧u.cell? ⟨w.heap.size,5,none⟩=some (.string S)∧u.cell? ⟨w.heap.size,6,none⟩=some (.slice la ln lc)∧u.cell? ⟨w.heap.size,7,none⟩=some (.bool T)∧u.cell? ⟨g,0,none⟩=some (.slice sa sn sc)∧u.cell? ⟨g,1,none⟩=some (.slice ca cn cc)∧u.cell? ⟨g,2,none⟩=some (.slice fa fn fc)):=
  hid (fun u hu=>by have hp:=HP.out u hu;rw[hW0]at hu;exact⟨first_cells hu 0 _ rfl,first_cells hu 1 _ rfl,first_cells hu 2 _ rfl,first_cells hu 3 _ rfl,first_cells hu 4 _ rfl,first_cells hu 5 _ rfl,first_cells hu 6 _ rfl,first_cells hu 7 _ rfl,hp.c0,hp.c1,hp.c2⟩)
 have HZ:Hid (w.heap.size+1≤W0.heap.size):=hid (by rw[hW0];simp)
 have H0:Hid (Below (w.heap.size+1) W0 W0.drew):=hid (Below.refl _ _).drew
 have H1:Hid (Below (w.heap.size+1) W0 W0.drew.drew):=hid (Below.refl _ _).drew.drew
 have H2:Hid (Below (w.heap.size+1) W0 W0):=hid (Below.refl _ _)
 obtain⟨yA,hA⟩:∃ t,tyAt ts A=t:=⟨_,rfl⟩
 have RA:InR yA:=by rw[←hA];exact hr _ (tyAt_mem ht.1 (ham A (by simp)))
 obtain⟨gA,oA,jA,eA,fA,lA,cA⟩:=ht.type (ham A (by simp))
 rw[hA]at cA
 have HTA:Hid (∀u,Below (w.heap.size+1) W0 u→u.cell? ⟨gA,oA+jA,none⟩=some (.int .i64 yA)):=hid (fun u hu=>((hw0 u hu).cell (p:=⟨gA,oA+jA,none⟩) (World.block_lt_of_cell? _ _ cA)).trans cA)
 rw[List.map_cons,List.map_nil,hA]
 obtain⟨f1,f2,hf⟩:∃ f1 f2,fieldS P yA N=(f1,f2):=⟨_,_,rfl⟩
 have HFD:Hid (∀u,Below (w.heap.size+1) W0 u→Calls Tryz.prog 133 #[.pointer (some ⟨g,0,none⟩),.int .i64 yA,.int .i64 N] u fun e w'=>e=.returned (.tuple #[.int .i64 f1,.bool f2])∧u=w'):=hid (fun u hu=>by have:=field_any g yA N u (HP.out u hu) RA hN;rw[hf]at this;exact this)
 have HR:Hid ((rowS P 10 N S [yA]).2=f2):=hid (by show(fieldS P yA N).2=f2;rw[hf])
 have HR1:Hid ((rowS P 10 N S [yA]).1=f1):=hid (by show(fieldS P yA N).1=f1;rw[hf])
 subst eA fA
 clear hP hat ht ham hw0 hr hA cA hf
 go_enter Tryz.func101,Tryz.ntmps101
 go_wp2_with fail
 rw[←hW0]
 clear hW0
 go_region_held3 (fun u=>u.cell? ⟨w.heap.size,0,none⟩=some (.int .i64 10)∧u.cell? ⟨w.heap.size,1,none⟩=some (.int .i64 (jA:Int))∧u.cell? ⟨w.heap.size,2,none⟩=some (.int .i64 B)∧u.cell? ⟨w.heap.size,3,none⟩=some (.int .i64 C)∧u.cell? ⟨w.heap.size,4,none⟩=some (.int .i64 N)∧u.cell? ⟨w.heap.size,5,none⟩=some (.string S)∧u.cell? ⟨w.heap.size,6,none⟩=some (.slice la ln lc)∧u.cell? ⟨w.heap.size,7,none⟩=some (.bool T)∧u.cell? ⟨g,0,none⟩=some (.slice sa sn sc)∧u.cell? ⟨g,1,none⟩=some (.slice ca cn cc)∧u.cell? ⟨g,2,none⟩=some (.slice fa fn fc)∧u.cell? ⟨gA,oA+jA,none⟩=some (.int .i64 yA))
  (exact(by have hx1:=HC.out _ (Hid.out (by assumption));have hy0:=HTA.out _ (Hid.out (by assumption));exact⟨hx1.1,hx1.2.1,hx1.2.2.1,hx1.2.2.2.1,hx1.2.2.2.2.1,hx1.2.2.2.2.2.1,hx1.2.2.2.2.2.2.1,hx1.2.2.2.2.2.2.2.1,hx1.2.2.2.2.2.2.2.2.1,hx1.2.2.2.2.2.2.2.2.2.1,hx1.2.2.2.2.2.2.2.2.2.2,hy0⟩))
  (first|(go_at_call 133;(with_reducible refine(HFD.out _ (Hid.out (by assumption))).mono ?_);rintro e w' ⟨rfl,rfl⟩))
 all_goals go_wp2_with fail
 all_goals refine bodyPost_ret (v:=.tuple #[.int .i64 f1,.bool f2]) (by simp[results,Tryz.results101,go_sem]) rfl ⟨f1,by rw[HR.out],fun _=>HR1.out.symm,HW.out _ (by first|exact Hid.out (by assumption)|exact H0.out.drewq _|exact H2.out.drewq _)⟩
set_option maxHeartbeats 4000000 in
theorem decl_11(g:Nat){sa:Option Addr}{sn sc:Nat}{ca:Option Addr}{cn cc:Nat}{fa:Option Addr}{fn fc:Nat}{P:ProgD}(A B C N:Int)(S:ByteArray)(la:Option Addr)(ln lc:Nat)(T:Bool)(L:List Int)(ta:Option Addr)(tn tc:Nat)(ts:List Int)(w:World)
 (hP:ProgAt w g sa sn sc ca cn cc fa fn fc P)(hat:NumsAt w la ln L)(hln:ln≤17592186044000)(ht:NumsAt w ta tn ts)(htn:tn≤140737488355328)(hr:∀ z∈ts,InR z)(hN:InR N)(ham:Among (usesL 11 A B C L) tn):
 Calls Tryz.prog 101 #[.pointer (some ⟨g,0,none⟩),.agg #[.int .i64 11,.int .i64 A,.int .i64 B,.int .i64 C,.int .i64 N,.string S,.slice la ln lc,.bool T],.slice ta tn tc] w (RowPost (rowS P 11 N S ((usesL 11 A B C L).map (tyAt ts))) w):=by
 have hu:usesL 11 A B C L=[A,B]:=by simp[usesL,hasB,fieldsL,oneL,pickL]
 rw[hu]at ham⊢
 obtain⟨W0,hW0⟩:∃ W0,W0=w.alloc (.cells #[.int .i64 11,.int .i64 A,.int .i64 B,.int .i64 C,.int .i64 N,.string S,.slice la ln lc,.bool T] 64):=⟨_,rfl⟩
 have hw0:∀ u,Below (w.heap.size+1) W0 u→Below w.heap.size w u:=fun u hu=>by rw[hW0]at hu;exact first_below hu
 have HW:=hid hw0
 have HP:Hid (∀u,Below (w.heap.size+1) W0 u→ProgAt u g sa sn sc ca cn cc fa fn fc P):=hid (fun u hu=>hP.since (hw0 u hu))
 have HT:Hid (∀u,Below (w.heap.size+1) W0 u→NumsAt u ta tn ts):=hid (fun u hu=>ht.since (hw0 u hu))
 have HL:Hid (∀u,Below (w.heap.size+1) W0 u→NumsAt u la ln L):=hid (fun u hu=>hat.since (hw0 u hu))
 have HC:Hid (∀u,Below (w.heap.size+1) W0 u→u.cell? ⟨w.heap.size,0,none⟩=some (.int .i64 11)∧u.cell? ⟨w.heap.size,1,none⟩=some (.int .i64 A)∧u.cell? ⟨w.heap.size,2,none⟩=some (.int .i64 B)∧u.cell? ⟨w.heap.size,3,none⟩=some (.int .i64 C)∧u.cell? ⟨w.heap.size,4,none⟩=some (.int .i64 N)∧u.cell? ⟨w.heap.size,5,none⟩=some (.string S)∧u.cell? ⟨w.heap.size,6,none⟩=some (.slice la ln lc)∧u.cell? ⟨w.heap.size,7,none⟩=some (.bool T)∧u.cell? ⟨g,0,none⟩=some (.slice sa sn sc)∧u.cell? ⟨g,1,none⟩=some (.slice ca cn cc)∧u.cell? ⟨g,2,none⟩=some (.slice fa fn fc)):=
  hid (fun u hu=>by have hp:=HP.out u hu;rw[hW0]at hu;exact⟨first_cells hu 0 _ rfl,first_cells hu 1 _ rfl,first_cells hu 2 _ rfl,first_cells hu 3 _ rfl,first_cells hu 4 _ rfl,first_cells hu 5 _ rfl,first_cells hu 6 _ rfl,first_cells hu 7 _ rfl,hp.c0,hp.c1,hp.c2⟩)
 have HZ:Hid (w.heap.size+1≤W0.heap.size):=hid (by rw[hW0];simp)
 have H0:Hid (Below (w.heap.size+1) W0 W0.drew):=hid (Below.refl _ _).drew
 have H1:Hid (Below (w.heap.size+1) W0 W0.drew.drew):=hid (Below.refl _ _).drew.drew
 have H2:Hid (Below (w.heap.size+1) W0 W0):=hid (Below.refl _ _)
 obtain⟨yA,hA⟩:∃ t,tyAt ts A=t:=⟨_,rfl⟩
 have RA:InR yA:=by rw[←hA];exact hr _ (tyAt_mem ht.1 (ham A (by simp)))
 obtain⟨gA,oA,jA,eA,fA,lA,cA⟩:=ht.type (ham A (by simp))
 rw[hA]at cA
 have HTA:Hid (∀u,Below (w.heap.size+1) W0 u→u.cell? ⟨gA,oA+jA,none⟩=some (.int .i64 yA)):=hid (fun u hu=>((hw0 u hu).cell (p:=⟨gA,oA+jA,none⟩) (World.block_lt_of_cell? _ _ cA)).trans cA)
 obtain⟨yB,hB⟩:∃ t,tyAt ts B=t:=⟨_,rfl⟩
 have RB:InR yB:=by rw[←hB];exact hr _ (tyAt_mem ht.1 (ham B (by simp)))
 obtain⟨gB,oB,jB,eB,fB,lB,cB⟩:=ht.type (ham B (by simp))
 rw[hB]at cB
 have HTB:Hid (∀u,Below (w.heap.size+1) W0 u→u.cell? ⟨gB,oB+jB,none⟩=some (.int .i64 yB)):=hid (fun u hu=>((hw0 u hu).cell (p:=⟨gB,oB+jB,none⟩) (World.block_lt_of_cell? _ _ cB)).trans cB)
 rw[List.map_cons,List.map_cons,List.map_nil,hA,hB]
 obtain⟨f1,f2,hf⟩:∃ f1 f2,fieldS P yA N=(f1,f2):=⟨_,_,rfl⟩
 have HFD:Hid (∀u,Below (w.heap.size+1) W0 u→Calls Tryz.prog 133 #[.pointer (some ⟨g,0,none⟩),.int .i64 yA,.int .i64 N] u fun e w'=>e=.returned (.tuple #[.int .i64 f1,.bool f2])∧u=w'):=hid (fun u hu=>by have:=field_any g yA N u (HP.out u hu) RA hN;rw[hf]at this;exact this)
 have hrr:(rowS P 11 N S [yA,yB]).2=(f2&&(yB==f1)):=by show((fieldS P yA N).2&&(yB==(fieldS P yA N).1))=_;rw[hf]
 have HR1:Hid ((rowS P 11 N S [yA,yB]).1= -1):=hid rfl
 subst eA
 cases eB
 subst fA fB
 have hx2:=HTA.out W0 H2.out
 have hx3:=HTB.out W0 H2.out
 obtain⟨z0,z1,z2,z3,z4,z5,z6,z7,z8,z9,z10⟩:=HC.out W0 H2.out
 clear hP hat ht ham hw0 hr hA hB cA cB hf
 cases f2 with
 |false=>
  have HR:Hid ((rowS P 11 N S [yA,yB]).2=false):=hid (by rw[hrr];rfl)
  clear hrr
  go_enter Tryz.func101,Tryz.ntmps101
  go_wp2_with fail
  rw[←hW0]
  clear hW0
  go_region_held3 (fun u=>u.cell? ⟨w.heap.size,0,none⟩=some (.int .i64 11)∧u.cell? ⟨w.heap.size,1,none⟩=some (.int .i64 (jA:Int))∧u.cell? ⟨w.heap.size,2,none⟩=some (.int .i64 (jB:Int))∧u.cell? ⟨w.heap.size,3,none⟩=some (.int .i64 C)∧u.cell? ⟨w.heap.size,4,none⟩=some (.int .i64 N)∧u.cell? ⟨w.heap.size,5,none⟩=some (.string S)∧u.cell? ⟨w.heap.size,6,none⟩=some (.slice la ln lc)∧u.cell? ⟨w.heap.size,7,none⟩=some (.bool T)∧u.cell? ⟨g,0,none⟩=some (.slice sa sn sc)∧u.cell? ⟨g,1,none⟩=some (.slice ca cn cc)∧u.cell? ⟨g,2,none⟩=some (.slice fa fn fc)∧u.cell? ⟨gA,oA+jA,none⟩=some (.int .i64 yA)∧u.cell? ⟨gA,oA+jB,none⟩=some (.int .i64 yB))
   (exact(by have hx1:=HC.out _ (Hid.out (by assumption));have hy0:=HTA.out _ (Hid.out (by assumption));have hy1:=HTB.out _ (Hid.out (by assumption));exact⟨hx1.1,hx1.2.1,hx1.2.2.1,hx1.2.2.2.1,hx1.2.2.2.2.1,hx1.2.2.2.2.2.1,hx1.2.2.2.2.2.2.1,hx1.2.2.2.2.2.2.2.1,hx1.2.2.2.2.2.2.2.2.1,hx1.2.2.2.2.2.2.2.2.2.1,hx1.2.2.2.2.2.2.2.2.2.2,hy0,hy1⟩))
   (first|(go_at_call 133;(with_reducible refine(HFD.out _ (Hid.out (by assumption))).mono ?_);rintro e w' ⟨rfl,rfl⟩))
  all_goals go_wp2_with fail
  all_goals go_quiet (fail)
  all_goals go_wp2_with fail
  all_goals refine bodyPost_ret (v:=.tuple #[.int .i64 (-1),.bool false]) (by simp[results,Tryz.results101,go_sem]) rfl ⟨-1,by rw[HR.out],fun _=>HR1.out.symm,HW.out _ (by first|exact Hid.out (by assumption)|exact H0.out.drewq _|exact H2.out.drewq _)⟩
 |true=>
  have HR:Hid ((rowS P 11 N S [yA,yB]).2=(yB==f1)):=hid (by rw[hrr];rfl)
  clear hrr
  go_enter Tryz.func101,Tryz.ntmps101
  go_wp2_with fail
  rw[←hW0]
  clear hW0
  go_region_held3 (fun u=>u.cell? ⟨w.heap.size,0,none⟩=some (.int .i64 11)∧u.cell? ⟨w.heap.size,1,none⟩=some (.int .i64 (jA:Int))∧u.cell? ⟨w.heap.size,2,none⟩=some (.int .i64 (jB:Int))∧u.cell? ⟨w.heap.size,3,none⟩=some (.int .i64 C)∧u.cell? ⟨w.heap.size,4,none⟩=some (.int .i64 N)∧u.cell? ⟨w.heap.size,5,none⟩=some (.string S)∧u.cell? ⟨w.heap.size,6,none⟩=some (.slice la ln lc)∧u.cell? ⟨w.heap.size,7,none⟩=some (.bool T)∧u.cell? ⟨g,0,none⟩=some (.slice sa sn sc)∧u.cell? ⟨g,1,none⟩=some (.slice ca cn cc)∧u.cell? ⟨g,2,none⟩=some (.slice fa fn fc)∧u.cell? ⟨gA,oA+jA,none⟩=some (.int .i64 yA)∧u.cell? ⟨gA,oA+jB,none⟩=some (.int .i64 yB))
   (exact(by have hx1:=HC.out _ (Hid.out (by assumption));have hy0:=HTA.out _ (Hid.out (by assumption));have hy1:=HTB.out _ (Hid.out (by assumption));exact⟨hx1.1,hx1.2.1,hx1.2.2.1,hx1.2.2.2.1,hx1.2.2.2.2.1,hx1.2.2.2.2.2.1,hx1.2.2.2.2.2.2.1,hx1.2.2.2.2.2.2.2.1,hx1.2.2.2.2.2.2.2.2.1,hx1.2.2.2.2.2.2.2.2.2.1,hx1.2.2.2.2.2.2.2.2.2.2,hy0,hy1⟩))
   (first|(go_at_call 133;(with_reducible refine(HFD.out _ (Hid.out (by assumption))).mono ?_);rintro e w' ⟨rfl,rfl⟩))
  all_goals go_wp2_with fail
  all_goals go_quiet (fail)
  all_goals go_wp2_with fail
  all_goals refine bodyPost_ret (v:=.tuple #[.int .i64 (-1),.bool (yB==f1)]) (by simp[results,Tryz.results101,go_sem]) rfl ⟨-1,by rw[HR.out],fun _=>HR1.out.symm,HW.out _ (by first|exact Hid.out (by assumption)|exact H0.out.drewq _|exact H2.out.drewq _)⟩
set_option maxHeartbeats 4000000 in
theorem decl_22(g:Nat){sa:Option Addr}{sn sc:Nat}{ca:Option Addr}{cn cc:Nat}{fa:Option Addr}{fn fc:Nat}{P:ProgD}(A B C N:Int)(S:ByteArray)(la:Option Addr)(ln lc:Nat)(T:Bool)(L:List Int)(ta:Option Addr)(tn tc:Nat)(ts:List Int)(w:World)
 (hP:ProgAt w g sa sn sc ca cn cc fa fn fc P)(hat:NumsAt w la ln L)(hln:ln≤17592186044000)(ht:NumsAt w ta tn ts)(htn:tn≤140737488355328)(hr:∀ z∈ts,InR z)(hN:InR N)(ham:Among (usesL 22 A B C L) tn):
 Calls Tryz.prog 101 #[.pointer (some ⟨g,0,none⟩),.agg #[.int .i64 22,.int .i64 A,.int .i64 B,.int .i64 C,.int .i64 N,.string S,.slice la ln lc,.bool T],.slice ta tn tc] w (RowPost (rowS P 22 N S ((usesL 22 A B C L).map (tyAt ts))) w):=by
 have hu:usesL 22 A B C L=[A]:=by simp[usesL,hasB,fieldsL,oneL,pickL]
 rw[hu]at ham⊢
 obtain⟨W0,hW0⟩:∃ W0,W0=w.alloc (.cells #[.int .i64 22,.int .i64 A,.int .i64 B,.int .i64 C,.int .i64 N,.string S,.slice la ln lc,.bool T] 64):=⟨_,rfl⟩
 have hw0:∀ u,Below (w.heap.size+1) W0 u→Below w.heap.size w u:=fun u hu=>by rw[hW0]at hu;exact first_below hu
 have HW:=hid hw0
 have HP:Hid (∀u,Below (w.heap.size+1) W0 u→ProgAt u g sa sn sc ca cn cc fa fn fc P):=hid (fun u hu=>hP.since (hw0 u hu))
 have HT:Hid (∀u,Below (w.heap.size+1) W0 u→NumsAt u ta tn ts):=hid (fun u hu=>ht.since (hw0 u hu))
 have HL:Hid (∀u,Below (w.heap.size+1) W0 u→NumsAt u la ln L):=hid (fun u hu=>hat.since (hw0 u hu))
 have HC:Hid (∀u,Below (w.heap.size+1) W0 u→u.cell? ⟨w.heap.size,0,none⟩=some (.int .i64 22)∧u.cell? ⟨w.heap.size,1,none⟩=some (.int .i64 A)∧u.cell? ⟨w.heap.size,2,none⟩=some (.int .i64 B)∧u.cell? ⟨w.heap.size,3,none⟩=some (.int .i64 C)∧u.cell? ⟨w.heap.size,4,none⟩=some (.int .i64 N)∧u.cell? ⟨w.heap.size,5,none⟩=some (.string S)∧u.cell? ⟨w.heap.size,6,none⟩=some (.slice la ln lc)∧u.cell? ⟨w.heap.size,7,none⟩=some (.bool T)∧u.cell? ⟨g,0,none⟩=some (.slice sa sn sc)∧u.cell? ⟨g,1,none⟩=some (.slice ca cn cc)∧u.cell? ⟨g,2,none⟩=some (.slice fa fn fc)):=
  hid (fun u hu=>by have hp:=HP.out u hu;rw[hW0]at hu;exact⟨first_cells hu 0 _ rfl,first_cells hu 1 _ rfl,first_cells hu 2 _ rfl,first_cells hu 3 _ rfl,first_cells hu 4 _ rfl,first_cells hu 5 _ rfl,first_cells hu 6 _ rfl,first_cells hu 7 _ rfl,hp.c0,hp.c1,hp.c2⟩)
 have HZ:Hid (w.heap.size+1≤W0.heap.size):=hid (by rw[hW0];simp)
 have H0:Hid (Below (w.heap.size+1) W0 W0.drew):=hid (Below.refl _ _).drew
 have H1:Hid (Below (w.heap.size+1) W0 W0.drew.drew):=hid (Below.refl _ _).drew.drew
 have H2:Hid (Below (w.heap.size+1) W0 W0):=hid (Below.refl _ _)
 obtain⟨yA,hA⟩:∃ t,tyAt ts A=t:=⟨_,rfl⟩
 have RA:InR yA:=by rw[←hA];exact hr _ (tyAt_mem ht.1 (ham A (by simp)))
 obtain⟨gA,oA,jA,eA,fA,lA,cA⟩:=ht.type (ham A (by simp))
 rw[hA]at cA
 have HTA:Hid (∀u,Below (w.heap.size+1) W0 u→u.cell? ⟨gA,oA+jA,none⟩=some (.int .i64 yA)):=hid (fun u hu=>((hw0 u hu).cell (p:=⟨gA,oA+jA,none⟩) (World.block_lt_of_cell? _ _ cA)).trans cA)
 rw[List.map_cons,List.map_nil,hA]
 have hlc:=hP.c.len
 have HPT:Hid (∀u,Below (w.heap.size+1) W0 u→Calls Tryz.prog 134 #[.pointer (some ⟨g,0,none⟩),.int .i64 yA] u fun e w'=>e=.returned (.bool (ptrB cn yA))∧u=w'):=hid (fun u hu=>pointer_any g ca cn cc yA u (HP.out u hu).c1 RA (by omega))
 have HR:Hid ((rowS P 22 N S [yA]).2=ptrB cn yA):=hid (by show ptrB P.classes.length yA=_;rw[hlc.1])
 have HR1:Hid ((rowS P 22 N S [yA]).1=5):=hid rfl
 subst eA fA
 have hx1:=HC.out W0 H2.out
 have hx2:=HTA.out W0 H2.out
 have HPT0:=hid (HPT.out W0 H2.out)
 have HBW:=hid (HW.out W0 H2.out)
 rw[hW0]at hx1 hx2 HPT0 HBW
 obtain⟨z0,z1,z2,z3,z4,z5,z6,z7,z8,z9,z10⟩:=hx1
 clear hP hat ht ham hw0 hr hA cA HPT HW HC HTA HP HT HL H0 H1 H2 HZ hW0
 go_enter Tryz.func101,Tryz.ntmps101
 go_wp2_with(go_at_call 134;(with_reducible refine(HPT0.out).mono ?_);rintro e w' ⟨rfl,rfl⟩)
 refine bodyPost_ret (v:=.tuple #[.int .i64 5,.bool (ptrB cn yA)]) (by simp[results,Tryz.results101,go_sem]) rfl ⟨5,by rw[HR.out],fun _=>HR1.out.symm,HBW.out⟩
set_option maxHeartbeats 4000000 in
theorem decl_23(g:Nat){sa:Option Addr}{sn sc:Nat}{ca:Option Addr}{cn cc:Nat}{fa:Option Addr}{fn fc:Nat}{P:ProgD}(A B C N:Int)(S:ByteArray)(la:Option Addr)(ln lc:Nat)(T:Bool)(L:List Int)(ta:Option Addr)(tn tc:Nat)(ts:List Int)(w:World)
 (hP:ProgAt w g sa sn sc ca cn cc fa fn fc P)(hat:NumsAt w la ln L)(hln:ln≤17592186044000)(ht:NumsAt w ta tn ts)(htn:tn≤140737488355328)(hr:∀ z∈ts,InR z)(hN:InR N)(ham:Among (usesL 23 A B C L) tn):
 Calls Tryz.prog 101 #[.pointer (some ⟨g,0,none⟩),.agg #[.int .i64 23,.int .i64 A,.int .i64 B,.int .i64 C,.int .i64 N,.string S,.slice la ln lc,.bool T],.slice ta tn tc] w (RowPost (rowS P 23 N S ((usesL 23 A B C L).map (tyAt ts))) w):=by
 have hu:usesL 23 A B C L=L:=by simp[usesL,hasB,fieldsL,oneL,pickL]
 rw[hu]at ham⊢
 obtain⟨W0,hW0⟩:∃ W0,W0=w.alloc (.cells #[.int .i64 23,.int .i64 A,.int .i64 B,.int .i64 C,.int .i64 N,.string S,.slice la ln lc,.bool T] 64):=⟨_,rfl⟩
 have hw0:∀ u,Below (w.heap.size+1) W0 u→Below w.heap.size w u:=fun u hu=>by rw[hW0]at hu;exact first_below hu
 have HW:=hid hw0
 have HP:Hid (∀u,Below (w.heap.size+1) W0 u→ProgAt u g sa sn sc ca cn cc fa fn fc P):=hid (fun u hu=>hP.since (hw0 u hu))
 have HT:Hid (∀u,Below (w.heap.size+1) W0 u→NumsAt u ta tn ts):=hid (fun u hu=>ht.since (hw0 u hu))
 have HL:Hid (∀u,Below (w.heap.size+1) W0 u→NumsAt u la ln L):=hid (fun u hu=>hat.since (hw0 u hu))
 have HC:Hid (∀u,Below (w.heap.size+1) W0 u→u.cell? ⟨w.heap.size,0,none⟩=some (.int .i64 23)∧u.cell? ⟨w.heap.size,1,none⟩=some (.int .i64 A)∧u.cell? ⟨w.heap.size,2,none⟩=some (.int .i64 B)∧u.cell? ⟨w.heap.size,3,none⟩=some (.int .i64 C)∧u.cell? ⟨w.heap.size,4,none⟩=some (.int .i64 N)∧u.cell? ⟨w.heap.size,5,none⟩=some (.string S)∧u.cell? ⟨w.heap.size,6,none⟩=some (.slice la ln lc)∧u.cell? ⟨w.heap.size,7,none⟩=some (.bool T)∧u.cell? ⟨g,0,none⟩=some (.slice sa sn sc)∧u.cell? ⟨g,1,none⟩=some (.slice ca cn cc)∧u.cell? ⟨g,2,none⟩=some (.slice fa fn fc)):=
  hid (fun u hu=>by have hp:=HP.out u hu;rw[hW0]at hu;exact⟨first_cells hu 0 _ rfl,first_cells hu 1 _ rfl,first_cells hu 2 _ rfl,first_cells hu 3 _ rfl,first_cells hu 4 _ rfl,first_cells hu 5 _ rfl,first_cells hu 6 _ rfl,first_cells hu 7 _ rfl,hp.c0,hp.c1,hp.c2⟩)
 have HZ:Hid (w.heap.size+1≤W0.heap.size):=hid (by rw[hW0];simp)
 have H0:Hid (Below (w.heap.size+1) W0 W0.drew):=hid (Below.refl _ _).drew
 have H1:Hid (Below (w.heap.size+1) W0 W0.drew.drew):=hid (Below.refl _ _).drew.drew
 have H2:Hid (Below (w.heap.size+1) W0 W0):=hid (Below.refl _ _)
 have hlc:=hP.f.len
 by_cases h:0≤N∧N<(fn:Int)
 ·obtain⟨k,rfl⟩:=Int.eq_ofNat_of_zero_le h.1
  have hk:k<fn:=by omega
  obtain⟨fg,fo,cs,hx,rfl,hcl,hcs,b,rfl,_,hbl⟩:=hP.f.elem hk
  have hb2:=hbl
  obtain⟨ba,bn,bc,rfl,_⟩:=hb2
  have hc0:w.cell? ⟨fg,fo+k*2,none⟩=some (.int .i64 (P.funcs[k]).ret):=hcs 0 (by simp)
  have hc1:w.cell? ⟨fg,fo+k*2+1,none⟩=some (.slice ba bn bc):=hcs 1 (by simp)
  have hfo:funcOf P k=P.funcs[k]:=by unfold funcOf;rw[List.getElem?_eq_getElem hx]
  obtain⟨G,hG⟩:∃ G,P.funcs[k]=G:=⟨_,rfl⟩
  rw[hG]at hbl hfo hc0
  have HCK:Hid (∀u,Below (w.heap.size+1) W0 u→u.cell? ⟨fg,fo+k*2,none⟩=some (.int .i64 G.ret)):=hid (fun u hu=>((hw0 u hu).cell (p:=⟨fg,fo+k*2,none⟩) (World.block_lt_of_cell? _ _ hc0)).trans hc0)
  have HCL:Hid (∀u,Below (w.heap.size+1) W0 u→u.cell? ⟨fg,fo+k*2+1,none⟩=some (.slice ba bn bc)):=hid (fun u hu=>((hw0 u hu).cell (p:=⟨fg,fo+k*2+1,none⟩) (World.block_lt_of_cell? _ _ hc1)).trans hc1)
  have HBL:Hid (∀u,Below (w.heap.size+1) W0 u→RowV BlockQ 8 u (.slice ba bn bc) G.blocks):=hid (fun u hu=>hbl.since BlockQ.lasts (hw0 u hu))
  obtain⟨c1,c2,hcc⟩:∃ c1 c2,callS G ts L=(c1,c2):=⟨_,_,rfl⟩
  have HM:Hid (∀u,Below (w.heap.size+1) W0 u→Calls Tryz.prog 135 #[.agg #[.int .i64 G.ret,.slice ba bn bc],.agg #[.int .i64 23,.int .i64 A,.int .i64 B,.int .i64 C,.int .i64 (k:Int),.string S,.slice la ln lc,.bool T],.slice ta tn tc] u fun e w'=>e=.returned (.tuple #[.int .i64 c1,.bool c2])∧Below u.heap.size u w'):=hid (fun u hu=>by have:=call_any ba bn bc G 23 A B C (k:Int) S la ln lc T L ta tn tc ts u (HBL.out u hu) (HL.out u hu) hln (HT.out u hu) htn ham;rw[hcc]at this;exact this)
  have HI:=hid (show kinB (k:Int) (fn:Int)=true from decide_eq_true h)
  have HRR:Hid (rowS P 23 (k:Int) S (L.map (tyAt ts))=(c1,c2)):=hid (by
   rw[←hcc]
   show(if 0≤(k:Int)∧(k:Int)<P.funcs.length∧(funcOf P (k:Int).toNat).blocks.length≠0 then((funcOf P (k:Int).toNat).ret,sameB (L.map (tyAt ts)) (paramsOf (funcOf P (k:Int).toNat)))else(-1,false))=_
   rw[show((k:Int)).toNat=k from rfl,hfo]
   unfold callS
   by_cases hb0:G.blocks.length=0
   ·rw[if_neg (fun hh=>hh.2.2 hb0),if_pos hb0]
   ·rw[if_pos ⟨by omega,by omega,hb0⟩,if_neg hb0]
    rfl)
  have HR:Hid ((rowS P 23 (k:Int) S (L.map (tyAt ts))).2=c2):=hid (by rw[HRR.out])
  have HR1:Hid ((rowS P 23 (k:Int) S (L.map (tyAt ts))).1=c1):=hid (by rw[HRR.out])
  clear hcs hbl hP hat ht ham h hc0 hc1 hw0 hG hr hfo hcc
  go_enter Tryz.func101,Tryz.ntmps101
  go_wp2_with fail
  rw[←hW0]
  clear hW0
  go_region_held3 (fun u=>u.cell? ⟨w.heap.size,0,none⟩=some (.int .i64 23)∧u.cell? ⟨w.heap.size,1,none⟩=some (.int .i64 A)∧u.cell? ⟨w.heap.size,2,none⟩=some (.int .i64 B)∧u.cell? ⟨w.heap.size,3,none⟩=some (.int .i64 C)∧u.cell? ⟨w.heap.size,4,none⟩=some (.int .i64 (k:Int))∧u.cell? ⟨w.heap.size,5,none⟩=some (.string S)∧u.cell? ⟨w.heap.size,6,none⟩=some (.slice la ln lc)∧u.cell? ⟨w.heap.size,7,none⟩=some (.bool T)∧u.cell? ⟨g,0,none⟩=some (.slice sa sn sc)∧u.cell? ⟨g,1,none⟩=some (.slice ca cn cc)∧u.cell? ⟨g,2,none⟩=some (.slice (some ⟨fg,fo,none⟩) fn fc))
   (exact HC.out _ (Hid.out (by assumption)))
   (first|(go_at_call 98;(with_reducible refine(among_any _ _ _).mono ?_);rintro e w' ⟨rfl,rfl⟩;rw[HI.out]))
  go_wp2_with fail
  go_region_held3 (fun u=>u.cell? ⟨w.heap.size,0,none⟩=some (.int .i64 23)∧u.cell? ⟨w.heap.size,1,none⟩=some (.int .i64 A)∧u.cell? ⟨w.heap.size,2,none⟩=some (.int .i64 B)∧u.cell? ⟨w.heap.size,3,none⟩=some (.int .i64 C)∧u.cell? ⟨w.heap.size,4,none⟩=some (.int .i64 (k:Int))∧u.cell? ⟨w.heap.size,5,none⟩=some (.string S)∧u.cell? ⟨w.heap.size,6,none⟩=some (.slice la ln lc)∧u.cell? ⟨w.heap.size,7,none⟩=some (.bool T)∧u.cell? ⟨g,0,none⟩=some (.slice sa sn sc)∧u.cell? ⟨g,1,none⟩=some (.slice ca cn cc)∧u.cell? ⟨g,2,none⟩=some (.slice (some ⟨fg,fo,none⟩) fn fc)∧u.cell? ⟨fg,fo+k*2,none⟩=some (.int .i64 G.ret)∧u.cell? ⟨fg,fo+k*2+1,none⟩=some (.slice ba bn bc))
   (exact(by have hx1:=HC.out _ (Hid.out (by assumption));have hy0:=HCK.out _ (Hid.out (by assumption));have hy1:=HCL.out _ (Hid.out (by assumption));exact⟨hx1.1,hx1.2.1,hx1.2.2.1,hx1.2.2.2.1,hx1.2.2.2.2.1,hx1.2.2.2.2.2.1,hx1.2.2.2.2.2.2.1,hx1.2.2.2.2.2.2.2.1,hx1.2.2.2.2.2.2.2.2.1,hx1.2.2.2.2.2.2.2.2.2.1,hx1.2.2.2.2.2.2.2.2.2.2,hy0,hy1⟩))
   (first|(go_at_call 135;(with_reducible refine(HM.out _ (Hid.out (by assumption))).mono ?_);rintro e w' ⟨rfl,hb⟩;have HB:=hid (keepN (Hid.out (by assumption:Hid (Below (w.heap.size+1) W0 _))) HZ.out hb);clear hb))
  all_goals go_wp2_with fail
  all_goals refine bodyPost_ret (v:=.tuple #[.int .i64 c1,.bool c2]) (by simp[results,Tryz.results101,go_sem]) rfl ⟨c1,by rw[HR.out],fun _=>HR1.out.symm,HW.out _ (by first|exact Hid.out (by assumption)|exact H0.out.drewq _|exact H2.out.drewq _)⟩
 ·have HI:=hid (show kinB N (fn:Int)=false from decide_eq_false h)
  have HR:Hid ((rowS P 23 N S (L.map (tyAt ts))).2=false):=hid (by
   unfold rowS
   rw[if_neg (show ¬(23:Int)=0 by decide),if_neg (show ¬(23:Int)=1 by decide),if_neg (show ¬(23:Int)=2 by decide),if_neg (show ¬(23:Int)=3 by decide),if_neg (show ¬(23:Int)=4 by decide),if_neg (show ¬(23:Int)=5 by decide),if_neg (show ¬(23:Int)=6 by decide),if_neg (show ¬(23:Int)=7 by decide),if_neg (show ¬(23:Int)=8 by decide),if_neg (show ¬(23:Int)=9 by decide),if_neg (show ¬(23:Int)=10 by decide),if_neg (show ¬(23:Int)=11 by decide),if_neg (show ¬(23:Int)=12 by decide),if_neg (show ¬(23:Int)=13 by decide),if_neg (show ¬(23:Int)=14 by decide),if_neg (show ¬(23:Int)=15 by decide),if_neg (show ¬(23:Int)=16 by decide),if_neg (show ¬(23:Int)=17 by decide),if_neg (show ¬(23:Int)=18 by decide),if_neg (show ¬(23:Int)=19 by decide),if_neg (show ¬(23:Int)=20 by decide),if_neg (show ¬(23:Int)=21 by decide),if_neg (show ¬(23:Int)=22 by decide),if_pos rfl,if_neg (by omega)]
   skip)
  clear hP hat ht ham h hw0 hr
  go_enter Tryz.func101,Tryz.ntmps101
  go_wp2_with fail
  rw[←hW0]
  clear hW0
  go_region_held3 (fun u=>u.cell? ⟨w.heap.size,0,none⟩=some (.int .i64 23)∧u.cell? ⟨w.heap.size,1,none⟩=some (.int .i64 A)∧u.cell? ⟨w.heap.size,2,none⟩=some (.int .i64 B)∧u.cell? ⟨w.heap.size,3,none⟩=some (.int .i64 C)∧u.cell? ⟨w.heap.size,4,none⟩=some (.int .i64 N)∧u.cell? ⟨w.heap.size,5,none⟩=some (.string S)∧u.cell? ⟨w.heap.size,6,none⟩=some (.slice la ln lc)∧u.cell? ⟨w.heap.size,7,none⟩=some (.bool T)∧u.cell? ⟨g,0,none⟩=some (.slice sa sn sc)∧u.cell? ⟨g,1,none⟩=some (.slice ca cn cc)∧u.cell? ⟨g,2,none⟩=some (.slice fa fn fc))
   (exact HC.out _ (Hid.out (by assumption)))
   (first|(go_at_call 98;(with_reducible refine(among_any _ _ _).mono ?_);rintro e w' ⟨rfl,rfl⟩;rw[HI.out]))
  go_wp2_with fail
  refine bodyPost_ret (v:=.tuple #[.int .i64 (-1),.bool false]) (by simp[results,Tryz.results101,go_sem]) rfl ⟨-1,by rw[HR.out],fun h=>(by rw[HR.out]at h;cases h),HW.out _ (by first|exact Hid.out (by assumption)|exact H0.out.drewq _|exact H2.out.drewq _)⟩
set_option maxRecDepth 100000 in
set_option maxHeartbeats 4000000 in
theorem decl_24(g:Nat){sa:Option Addr}{sn sc:Nat}{ca:Option Addr}{cn cc:Nat}{fa:Option Addr}{fn fc:Nat}{P:ProgD}(A B C N:Int)(S:ByteArray)(la:Option Addr)(ln lc:Nat)(T:Bool)(L:List Int)(ta:Option Addr)(tn tc:Nat)(ts:List Int)(w:World)
 (hP:ProgAt w g sa sn sc ca cn cc fa fn fc P)(hat:NumsAt w la ln L)(hln:ln≤17592186044000)(ht:NumsAt w ta tn ts)(htn:tn≤140737488355328)(hr:∀ z∈ts,InR z)(hN:InR N)(ham:Among (usesL 24 A B C L) tn):
 Calls Tryz.prog 101 #[.pointer (some ⟨g,0,none⟩),.agg #[.int .i64 24,.int .i64 A,.int .i64 B,.int .i64 C,.int .i64 N,.string S,.slice la ln lc,.bool T],.slice ta tn tc] w (RowPost (rowS P 24 N S ((usesL 24 A B C L).map (tyAt ts))) w):=by
 have hu:usesL 24 A B C L=A::L:=by simp[usesL,hasB,fieldsL,oneL,pickL]
 rw[hu]at ham⊢
 obtain⟨W0,hW0⟩:∃ W0,W0=w.alloc (.cells #[.int .i64 24,.int .i64 A,.int .i64 B,.int .i64 C,.int .i64 N,.string S,.slice la ln lc,.bool T] 64):=⟨_,rfl⟩
 have hw0:∀ u,Below (w.heap.size+1) W0 u→Below w.heap.size w u:=fun u hu=>by rw[hW0]at hu;exact first_below hu
 have HW:=hid hw0
 have HP:Hid (∀u,Below (w.heap.size+1) W0 u→ProgAt u g sa sn sc ca cn cc fa fn fc P):=hid (fun u hu=>hP.since (hw0 u hu))
 have HT:Hid (∀u,Below (w.heap.size+1) W0 u→NumsAt u ta tn ts):=hid (fun u hu=>ht.since (hw0 u hu))
 have HL:Hid (∀u,Below (w.heap.size+1) W0 u→NumsAt u la ln L):=hid (fun u hu=>hat.since (hw0 u hu))
 have HC:Hid (∀u,Below (w.heap.size+1) W0 u→u.cell? ⟨w.heap.size,0,none⟩=some (.int .i64 24)∧u.cell? ⟨w.heap.size,1,none⟩=some (.int .i64 A)∧u.cell? ⟨w.heap.size,2,none⟩=some (.int .i64 B)∧u.cell? ⟨w.heap.size,3,none⟩=some (.int .i64 C)∧u.cell? ⟨w.heap.size,4,none⟩=some (.int .i64 N)∧u.cell? ⟨w.heap.size,5,none⟩=some (.string S)∧u.cell? ⟨w.heap.size,6,none⟩=some (.slice la ln lc)∧u.cell? ⟨w.heap.size,7,none⟩=some (.bool T)∧u.cell? ⟨g,0,none⟩=some (.slice sa sn sc)∧u.cell? ⟨g,1,none⟩=some (.slice ca cn cc)∧u.cell? ⟨g,2,none⟩=some (.slice fa fn fc)):=
  hid (fun u hu=>by have hp:=HP.out u hu;rw[hW0]at hu;exact⟨first_cells hu 0 _ rfl,first_cells hu 1 _ rfl,first_cells hu 2 _ rfl,first_cells hu 3 _ rfl,first_cells hu 4 _ rfl,first_cells hu 5 _ rfl,first_cells hu 6 _ rfl,first_cells hu 7 _ rfl,hp.c0,hp.c1,hp.c2⟩)
 have HZ:Hid (w.heap.size+1≤W0.heap.size):=hid (by rw[hW0];simp)
 have H0:Hid (Below (w.heap.size+1) W0 W0.drew):=hid (Below.refl _ _).drew
 have H1:Hid (Below (w.heap.size+1) W0 W0.drew.drew):=hid (Below.refl _ _).drew.drew
 have H2:Hid (Below (w.heap.size+1) W0 W0):=hid (Below.refl _ _)
 obtain⟨yA,hA⟩:∃ t,tyAt ts A=t:=⟨_,rfl⟩
 have RA:InR yA:=by rw[←hA];exact hr _ (tyAt_mem ht.1 (ham A (by simp)))
 obtain⟨gA,oA,jA,eA,fA,lA,cA⟩:=ht.type (ham A (by simp))
 rw[hA]at cA
 have HTA:Hid (∀u,Below (w.heap.size+1) W0 u→u.cell? ⟨gA,oA+jA,none⟩=some (.int .i64 yA)):=hid (fun u hu=>((hw0 u hu).cell (p:=⟨gA,oA+jA,none⟩) (World.block_lt_of_cell? _ _ cA)).trans cA)
 rw[List.map_cons,hA]
 have hlc:=hP.s.len
 have haL:Among L tn:=fun v hv=>ham v (List.mem_cons_of_mem _ hv)
 by_cases h:0≤N∧N<(sn:Int)
 ·obtain⟨k,rfl⟩:=Int.eq_ofNat_of_zero_le h.1
  have hk:k<sn:=by omega
  obtain⟨sg,so,cs,hx,rfl,hcl,hcs,p,rfl,⟨pa,pn,pc,rfl,hpa,_,hpb,_⟩,_⟩:=hP.s.elem hk
  have hc0:w.cell? ⟨sg,so+k*2,none⟩=some (.slice pa pn pc):=hcs 0 (by simp)
  have hc1:w.cell? ⟨sg,so+k*2+1,none⟩=some (.int .i64 (P.sigs[k]).ret):=hcs 1 (by simp)
  have hfo:sigOf P k=P.sigs[k]:=by unfold sigOf;rw[List.getElem?_eq_getElem hx]
  obtain⟨G,hG⟩:∃ G,P.sigs[k]=G:=⟨_,rfl⟩
  rw[hG]at hpa hfo hc1
  have HCK:Hid (∀u,Below (w.heap.size+1) W0 u→u.cell? ⟨sg,so+k*2,none⟩=some (.slice pa pn pc)):=hid (fun u hu=>((hw0 u hu).cell (p:=⟨sg,so+k*2,none⟩) (World.block_lt_of_cell? _ _ hc0)).trans hc0)
  have HCL:Hid (∀u,Below (w.heap.size+1) W0 u→u.cell? ⟨sg,so+k*2+1,none⟩=some (.int .i64 G.ret)):=hid (fun u hu=>((hw0 u hu).cell (p:=⟨sg,so+k*2+1,none⟩) (World.block_lt_of_cell? _ _ hc1)).trans hc1)
  have HF:Hid (∀u,Below (w.heap.size+1) W0 u→NumsAt u pa pn G.params):=hid (fun u hu=>hpa.since (hw0 u hu))
  have HM:=hid (fun u hu=>match_any ta tn tc ts la ln lc L pa pn pc G.params u (HT.out u hu) (HL.out u hu) (HF.out u hu) haL (by omega) (by omega) htn)
  have HI:=hid (show kinB (k:Int) (sn:Int)=true from decide_eq_true h)
  have HRR:Hid (rowS P 24 (k:Int) S (yA::L.map (tyAt ts))=(G.ret,(yA==5)&&matchB ts L G.params)):=hid (by
   show(if 0≤(k:Int)∧(k:Int)<P.sigs.length then((sigOf P (k:Int).toNat).ret,nth (yA::L.map (tyAt ts)) 0==5&&sameB ((yA::L.map (tyAt ts)).drop 1) (sigOf P (k:Int).toNat).params)else(-1,false))=_
   rw[if_pos (by omega),show((k:Int)).toNat=k from rfl,hfo]
   rfl)
  have hrr:(rowS P 24 (k:Int) S (yA::L.map (tyAt ts))).2=((yA==5)&&matchB ts L G.params):=by rw[HRR.out]
  have HR1:Hid ((rowS P 24 (k:Int) S (yA::L.map (tyAt ts))).1=G.ret):=hid (by rw[HRR.out])
  subst fA
  have HEA:=hid eA
  subst eA
  clear hcs hpa hP hat ht ham h hc0 hc1 hw0 hG hr hfo haL hA cA HRR
  have hx1:=HC.out W0 H2.out
  have hx2:=HTA.out W0 H2.out
  have hx3:=HCK.out W0 H2.out
  have hx4:=HCL.out W0 H2.out
  obtain⟨z0,z1,z2,z3,z4,z5,z6,z7,z8,z9,z10⟩:=hx1
  have HZS:=hid (fun(C0:Array Value) t0=>H2.out.alloc HZ.out (.cells C0 t0))
  have hv1:=HC.out _ (HZS.out #[.slice none 0 0,.int .i64 0] 60)
  have hv2:=HTA.out _ (HZS.out #[.slice none 0 0,.int .i64 0] 60)
  have hv3:=HCK.out _ (HZS.out #[.slice none 0 0,.int .i64 0] 60)
  have hv4:=HCL.out _ (HZS.out #[.slice none 0 0,.int .i64 0] 60)
  obtain⟨u0,u1,u2,u3,u4,u5,u6,u7,u8,u9,u10⟩:=hv1
  have hs1:=HC.out _ (HZS.out #[.slice pa pn pc,.int .i64 G.ret] 60)
  have hs2:=HTA.out _ (HZS.out #[.slice pa pn pc,.int .i64 G.ret] 60)
  obtain⟨v0,v1,v2,v3,v4,v5,v6,v7,v8,v9,v10⟩:=hs1
  have H3:=hid (HZS.out #[.slice pa pn pc,.int .i64 G.ret] 60).drew.drew.drew
  have H4:=hid (HZS.out #[.slice pa pn pc,.int .i64 G.ret] 60).drew.drew
  cases h5:(yA==5)with
  |false=>
   have HR:Hid ((rowS P 24 (k:Int) S (yA::L.map (tyAt ts))).2=false):=hid (by rw[hrr,h5];rfl)
   clear hrr
   go_enter Tryz.func101,Tryz.ntmps101
   go_wp2_with fail
   rw[←hW0]
   clear hW0
   go_region_held3 (fun u=>u.cell? ⟨w.heap.size,0,none⟩=some (.int .i64 24)∧u.cell? ⟨w.heap.size,1,none⟩=some (.int .i64 (jA:Int))∧u.cell? ⟨w.heap.size,2,none⟩=some (.int .i64 B)∧u.cell? ⟨w.heap.size,3,none⟩=some (.int .i64 C)∧u.cell? ⟨w.heap.size,4,none⟩=some (.int .i64 (k:Int))∧u.cell? ⟨w.heap.size,5,none⟩=some (.string S)∧u.cell? ⟨w.heap.size,6,none⟩=some (.slice la ln lc)∧u.cell? ⟨w.heap.size,7,none⟩=some (.bool T)∧u.cell? ⟨g,0,none⟩=some (.slice (some ⟨sg,so,none⟩) sn sc)∧u.cell? ⟨g,1,none⟩=some (.slice ca cn cc)∧u.cell? ⟨g,2,none⟩=some (.slice fa fn fc))
    (exact HC.out _ (Hid.out (by assumption)))
    (first|(go_at_call 98;(with_reducible refine(among_any _ _ _).mono ?_);rintro e w' ⟨rfl,rfl⟩;rw[HI.out]))
   go_wp2_with fail
   go_region
   go_wp2_with fail
   go_quiet (fail)
   go_wp2_with fail
   refine bodyPost_ret (v:=.tuple #[.int .i64 G.ret,.bool false]) (by simp[results,Tryz.results101,go_sem]) rfl ⟨G.ret,by rw[HR.out],fun _=>HR1.out.symm,HW.out _ (by first|exact Hid.out (by assumption)|exact H0.out.drewq _|exact H2.out.drewq _|exact H4.out.drewq _)⟩
  |true=>
   have HR:Hid ((rowS P 24 (k:Int) S (yA::L.map (tyAt ts))).2=matchB ts L G.params):=hid (by rw[hrr,h5];rfl)
   clear hrr
   go_enter Tryz.func101,Tryz.ntmps101
   go_wp2_with fail
   rw[←hW0]
   clear hW0
   go_region_held3 (fun u=>u.cell? ⟨w.heap.size,0,none⟩=some (.int .i64 24)∧u.cell? ⟨w.heap.size,1,none⟩=some (.int .i64 (jA:Int))∧u.cell? ⟨w.heap.size,2,none⟩=some (.int .i64 B)∧u.cell? ⟨w.heap.size,3,none⟩=some (.int .i64 C)∧u.cell? ⟨w.heap.size,4,none⟩=some (.int .i64 (k:Int))∧u.cell? ⟨w.heap.size,5,none⟩=some (.string S)∧u.cell? ⟨w.heap.size,6,none⟩=some (.slice la ln lc)∧u.cell? ⟨w.heap.size,7,none⟩=some (.bool T)∧u.cell? ⟨g,0,none⟩=some (.slice (some ⟨sg,so,none⟩) sn sc)∧u.cell? ⟨g,1,none⟩=some (.slice ca cn cc)∧u.cell? ⟨g,2,none⟩=some (.slice fa fn fc))
    (exact HC.out _ (Hid.out (by assumption)))
    (first|(go_at_call 98;(with_reducible refine(among_any _ _ _).mono ?_);rintro e w' ⟨rfl,rfl⟩;rw[HI.out]))
   go_wp2_with fail
   go_region
   go_wp2_with fail
   go_region_with (go_at_call 132;(refine(HM.out _ H3.out).mono ?_);rintro e w' ⟨rfl,hb⟩;have hq1:w'.cell? ⟨W0.heap.size,1,none⟩=some (.int .i64 G.ret):=(hb.cell (p:=⟨W0.heap.size,1,none⟩) (by show W0.heap.size<(W0.alloc _).heap.size;simp)).trans (World.cell?_alloc_mark _ _ _ _ _);have HB:=hid (keepN H3.out HZ.out hb);clear hb)
   all_goals go_wp2_with fail
   all_goals refine bodyPost_ret (v:=.tuple #[.int .i64 G.ret,.bool (matchB ts L G.params)]) (by simp[results,Tryz.results101,go_sem]) rfl ⟨G.ret,by rw[HR.out],fun _=>HR1.out.symm,HW.out _ (by first|exact Hid.out (by assumption)|exact H0.out.drewq _|exact H2.out.drewq _)⟩
 ·have HI:=hid (show kinB N (sn:Int)=false from decide_eq_false h)
  have HR:Hid ((rowS P 24 N S (yA::L.map (tyAt ts))).2=false):=hid (by
   unfold rowS
   rw[if_neg (show ¬(24:Int)=0 by decide),if_neg (show ¬(24:Int)=1 by decide),if_neg (show ¬(24:Int)=2 by decide),if_neg (show ¬(24:Int)=3 by decide),if_neg (show ¬(24:Int)=4 by decide),if_neg (show ¬(24:Int)=5 by decide),if_neg (show ¬(24:Int)=6 by decide),if_neg (show ¬(24:Int)=7 by decide),if_neg (show ¬(24:Int)=8 by decide),if_neg (show ¬(24:Int)=9 by decide),if_neg (show ¬(24:Int)=10 by decide),if_neg (show ¬(24:Int)=11 by decide),if_neg (show ¬(24:Int)=12 by decide),if_neg (show ¬(24:Int)=13 by decide),if_neg (show ¬(24:Int)=14 by decide),if_neg (show ¬(24:Int)=15 by decide),if_neg (show ¬(24:Int)=16 by decide),if_neg (show ¬(24:Int)=17 by decide),if_neg (show ¬(24:Int)=18 by decide),if_neg (show ¬(24:Int)=19 by decide),if_neg (show ¬(24:Int)=20 by decide),if_neg (show ¬(24:Int)=21 by decide),if_neg (show ¬(24:Int)=22 by decide),if_neg (show ¬(24:Int)=23 by decide),if_pos rfl,if_neg (by omega)]
   skip)
  clear hP hat ht ham h hw0 hr fA eA cA hA haL
  go_enter Tryz.func101,Tryz.ntmps101
  go_wp2_with fail
  rw[←hW0]
  clear hW0
  go_region_held3 (fun u=>u.cell? ⟨w.heap.size,0,none⟩=some (.int .i64 24)∧u.cell? ⟨w.heap.size,1,none⟩=some (.int .i64 A)∧u.cell? ⟨w.heap.size,2,none⟩=some (.int .i64 B)∧u.cell? ⟨w.heap.size,3,none⟩=some (.int .i64 C)∧u.cell? ⟨w.heap.size,4,none⟩=some (.int .i64 N)∧u.cell? ⟨w.heap.size,5,none⟩=some (.string S)∧u.cell? ⟨w.heap.size,6,none⟩=some (.slice la ln lc)∧u.cell? ⟨w.heap.size,7,none⟩=some (.bool T)∧u.cell? ⟨g,0,none⟩=some (.slice sa sn sc)∧u.cell? ⟨g,1,none⟩=some (.slice ca cn cc)∧u.cell? ⟨g,2,none⟩=some (.slice fa fn fc))
   (exact HC.out _ (Hid.out (by assumption)))
   (first|(go_at_call 98;(with_reducible refine(among_any _ _ _).mono ?_);rintro e w' ⟨rfl,rfl⟩;rw[HI.out]))
  go_wp2_with fail
  refine bodyPost_ret (v:=.tuple #[.int .i64 (-1),.bool false]) (by simp[results,Tryz.results101,go_sem]) rfl ⟨-1,by rw[HR.out],fun h=>(by rw[HR.out]at h;cases h),HW.out _ (by first|exact Hid.out (by assumption)|exact H0.out.drewq _|exact H2.out.drewq _)⟩
theorem rowS_none{P:ProgD}{K N:Int}{S:ByteArray}{l:List Int}(h:K<0∨25<K):rowS P K N S l=(-1,false):=by
 unfold rowS
 repeat rw[if_neg (by omega)]
theorem decl_none(g:Nat){sa:Option Addr}{sn sc:Nat}{ca:Option Addr}{cn cc:Nat}{fa:Option Addr}{fn fc:Nat}{P:ProgD}(K:Int)(h:K<0∨25<K)(A B C N:Int)(S:ByteArray)(la:Option Addr)(ln lc:Nat)(T:Bool)(L:List Int)(ta:Option Addr)(tn tc:Nat)(ts:List Int)(w:World)
 (hP:ProgAt w g sa sn sc ca cn cc fa fn fc P)(hat:NumsAt w la ln L)(hln:ln≤17592186044000)(ht:NumsAt w ta tn ts)(htn:tn≤140737488355328)(hr:∀ z∈ts,InR z)(hN:InR N)(ham:Among (usesL K A B C L) tn):
 Calls Tryz.prog 101 #[.pointer (some ⟨g,0,none⟩),.agg #[.int .i64 K,.int .i64 A,.int .i64 B,.int .i64 C,.int .i64 N,.string S,.slice la ln lc,.bool T],.slice ta tn tc] w (RowPost (rowS P K N S ((usesL K A B C L).map (tyAt ts))) w):=by
 rw[rowS_none h]
 clear hP hat ht ham hr hN
 rcases h with h|h
 all_goals
  go_enter Tryz.func101,Tryz.ntmps101
  go_wp2
  exact bodyPost_ret (v:=.tuple #[.int .i64 (-1),.bool false]) (by simp[results,Tryz.results101,go_sem]) rfl ⟨-1,rfl,(fun h=>by cases h),below1 _ _ _⟩
theorem row_9(g:Nat){sa:Option Addr}{sn sc:Nat}{ca:Option Addr}{cn cc:Nat}{fa:Option Addr}{fn fc:Nat}{P:ProgD}(A B C N:Int)(S:ByteArray)(la:Option Addr)(ln lc:Nat)(T:Bool)(L:List Int)(ta:Option Addr)(tn tc:Nat)(ts:List Int)(w:World)
 (hP:ProgAt w g sa sn sc ca cn cc fa fn fc P)(hat:NumsAt w la ln L)(hln:ln≤17592186044000)(ht:NumsAt w ta tn ts)(htn:tn≤140737488355328)(hr:∀ z∈ts,InR z)(hN:InR N)(ham:Among (usesL 9 A B C L) tn):
 Calls Tryz.prog 68 #[.pointer (some ⟨g,0,none⟩),.agg #[.int .i64 9,.int .i64 A,.int .i64 B,.int .i64 C,.int .i64 N,.string S,.slice la ln lc,.bool T],.slice ta tn tc] w (RowPost (rowS P 9 N S ((usesL 9 A B C L).map (tyAt ts))) w):=by
 have HD:=hid (decl_9 g A B C N S la ln lc T L ta tn tc ts (w.alloc (.cells #[.int .i64 9,.int .i64 A,.int .i64 B,.int .i64 C,.int .i64 N,.string S,.slice la ln lc,.bool T] 64)) (hP.since (below1 _ _ _)) (hat.since (below1 _ _ _)) hln (ht.since (below1 _ _ _)) htn hr hN ham)
 clear hP hat ht ham hr hN
 go_enter Tryz.func68,Tryz.ntmps68
 go_wp2_with(go_at_call 101;(with_reducible refine(HD.out).mono ?_);rintro e w' ⟨t,rfl,hx,hb⟩)
 exact bodyPost_ret (v:=.tuple #[.int .i64 t,.bool _]) (by simp[results,Tryz.results68,go_sem]) rfl ⟨t,rfl,hx,(below1 _ _ _).trans (hb.mono (by simp))⟩
theorem row_10(g:Nat){sa:Option Addr}{sn sc:Nat}{ca:Option Addr}{cn cc:Nat}{fa:Option Addr}{fn fc:Nat}{P:ProgD}(A B C N:Int)(S:ByteArray)(la:Option Addr)(ln lc:Nat)(T:Bool)(L:List Int)(ta:Option Addr)(tn tc:Nat)(ts:List Int)(w:World)
 (hP:ProgAt w g sa sn sc ca cn cc fa fn fc P)(hat:NumsAt w la ln L)(hln:ln≤17592186044000)(ht:NumsAt w ta tn ts)(htn:tn≤140737488355328)(hr:∀ z∈ts,InR z)(hN:InR N)(ham:Among (usesL 10 A B C L) tn):
 Calls Tryz.prog 68 #[.pointer (some ⟨g,0,none⟩),.agg #[.int .i64 10,.int .i64 A,.int .i64 B,.int .i64 C,.int .i64 N,.string S,.slice la ln lc,.bool T],.slice ta tn tc] w (RowPost (rowS P 10 N S ((usesL 10 A B C L).map (tyAt ts))) w):=by
 have HD:=hid (decl_10 g A B C N S la ln lc T L ta tn tc ts (w.alloc (.cells #[.int .i64 10,.int .i64 A,.int .i64 B,.int .i64 C,.int .i64 N,.string S,.slice la ln lc,.bool T] 64)) (hP.since (below1 _ _ _)) (hat.since (below1 _ _ _)) hln (ht.since (below1 _ _ _)) htn hr hN ham)
 clear hP hat ht ham hr hN
 go_enter Tryz.func68,Tryz.ntmps68
 go_wp2_with(go_at_call 101;(with_reducible refine(HD.out).mono ?_);rintro e w' ⟨t,rfl,hx,hb⟩)
 exact bodyPost_ret (v:=.tuple #[.int .i64 t,.bool _]) (by simp[results,Tryz.results68,go_sem]) rfl ⟨t,rfl,hx,(below1 _ _ _).trans (hb.mono (by simp))⟩
theorem row_11(g:Nat){sa:Option Addr}{sn sc:Nat}{ca:Option Addr}{cn cc:Nat}{fa:Option Addr}{fn fc:Nat}{P:ProgD}(A B C N:Int)(S:ByteArray)(la:Option Addr)(ln lc:Nat)(T:Bool)(L:List Int)(ta:Option Addr)(tn tc:Nat)(ts:List Int)(w:World)
 (hP:ProgAt w g sa sn sc ca cn cc fa fn fc P)(hat:NumsAt w la ln L)(hln:ln≤17592186044000)(ht:NumsAt w ta tn ts)(htn:tn≤140737488355328)(hr:∀ z∈ts,InR z)(hN:InR N)(ham:Among (usesL 11 A B C L) tn):
 Calls Tryz.prog 68 #[.pointer (some ⟨g,0,none⟩),.agg #[.int .i64 11,.int .i64 A,.int .i64 B,.int .i64 C,.int .i64 N,.string S,.slice la ln lc,.bool T],.slice ta tn tc] w (RowPost (rowS P 11 N S ((usesL 11 A B C L).map (tyAt ts))) w):=by
 have HD:=hid (decl_11 g A B C N S la ln lc T L ta tn tc ts (w.alloc (.cells #[.int .i64 11,.int .i64 A,.int .i64 B,.int .i64 C,.int .i64 N,.string S,.slice la ln lc,.bool T] 64)) (hP.since (below1 _ _ _)) (hat.since (below1 _ _ _)) hln (ht.since (below1 _ _ _)) htn hr hN ham)
 clear hP hat ht ham hr hN
 go_enter Tryz.func68,Tryz.ntmps68
 go_wp2_with(go_at_call 101;(with_reducible refine(HD.out).mono ?_);rintro e w' ⟨t,rfl,hx,hb⟩)
 exact bodyPost_ret (v:=.tuple #[.int .i64 t,.bool _]) (by simp[results,Tryz.results68,go_sem]) rfl ⟨t,rfl,hx,(below1 _ _ _).trans (hb.mono (by simp))⟩
theorem row_22(g:Nat){sa:Option Addr}{sn sc:Nat}{ca:Option Addr}{cn cc:Nat}{fa:Option Addr}{fn fc:Nat}{P:ProgD}(A B C N:Int)(S:ByteArray)(la:Option Addr)(ln lc:Nat)(T:Bool)(L:List Int)(ta:Option Addr)(tn tc:Nat)(ts:List Int)(w:World)
 (hP:ProgAt w g sa sn sc ca cn cc fa fn fc P)(hat:NumsAt w la ln L)(hln:ln≤17592186044000)(ht:NumsAt w ta tn ts)(htn:tn≤140737488355328)(hr:∀ z∈ts,InR z)(hN:InR N)(ham:Among (usesL 22 A B C L) tn):
 Calls Tryz.prog 68 #[.pointer (some ⟨g,0,none⟩),.agg #[.int .i64 22,.int .i64 A,.int .i64 B,.int .i64 C,.int .i64 N,.string S,.slice la ln lc,.bool T],.slice ta tn tc] w (RowPost (rowS P 22 N S ((usesL 22 A B C L).map (tyAt ts))) w):=by
 have HD:=hid (decl_22 g A B C N S la ln lc T L ta tn tc ts (w.alloc (.cells #[.int .i64 22,.int .i64 A,.int .i64 B,.int .i64 C,.int .i64 N,.string S,.slice la ln lc,.bool T] 64)) (hP.since (below1 _ _ _)) (hat.since (below1 _ _ _)) hln (ht.since (below1 _ _ _)) htn hr hN ham)
 clear hP hat ht ham hr hN
 go_enter Tryz.func68,Tryz.ntmps68
 go_wp2_with(go_at_call 101;(with_reducible refine(HD.out).mono ?_);rintro e w' ⟨t,rfl,hx,hb⟩)
 exact bodyPost_ret (v:=.tuple #[.int .i64 t,.bool _]) (by simp[results,Tryz.results68,go_sem]) rfl ⟨t,rfl,hx,(below1 _ _ _).trans (hb.mono (by simp))⟩
theorem row_23(g:Nat){sa:Option Addr}{sn sc:Nat}{ca:Option Addr}{cn cc:Nat}{fa:Option Addr}{fn fc:Nat}{P:ProgD}(A B C N:Int)(S:ByteArray)(la:Option Addr)(ln lc:Nat)(T:Bool)(L:List Int)(ta:Option Addr)(tn tc:Nat)(ts:List Int)(w:World)
 (hP:ProgAt w g sa sn sc ca cn cc fa fn fc P)(hat:NumsAt w la ln L)(hln:ln≤17592186044000)(ht:NumsAt w ta tn ts)(htn:tn≤140737488355328)(hr:∀ z∈ts,InR z)(hN:InR N)(ham:Among (usesL 23 A B C L) tn):
 Calls Tryz.prog 68 #[.pointer (some ⟨g,0,none⟩),.agg #[.int .i64 23,.int .i64 A,.int .i64 B,.int .i64 C,.int .i64 N,.string S,.slice la ln lc,.bool T],.slice ta tn tc] w (RowPost (rowS P 23 N S ((usesL 23 A B C L).map (tyAt ts))) w):=by
 have HD:=hid (decl_23 g A B C N S la ln lc T L ta tn tc ts (w.alloc (.cells #[.int .i64 23,.int .i64 A,.int .i64 B,.int .i64 C,.int .i64 N,.string S,.slice la ln lc,.bool T] 64)) (hP.since (below1 _ _ _)) (hat.since (below1 _ _ _)) hln (ht.since (below1 _ _ _)) htn hr hN ham)
 clear hP hat ht ham hr hN
 go_enter Tryz.func68,Tryz.ntmps68
 go_wp2_with(go_at_call 101;(with_reducible refine(HD.out).mono ?_);rintro e w' ⟨t,rfl,hx,hb⟩)
 exact bodyPost_ret (v:=.tuple #[.int .i64 t,.bool _]) (by simp[results,Tryz.results68,go_sem]) rfl ⟨t,rfl,hx,(below1 _ _ _).trans (hb.mono (by simp))⟩
theorem row_24(g:Nat){sa:Option Addr}{sn sc:Nat}{ca:Option Addr}{cn cc:Nat}{fa:Option Addr}{fn fc:Nat}{P:ProgD}(A B C N:Int)(S:ByteArray)(la:Option Addr)(ln lc:Nat)(T:Bool)(L:List Int)(ta:Option Addr)(tn tc:Nat)(ts:List Int)(w:World)
 (hP:ProgAt w g sa sn sc ca cn cc fa fn fc P)(hat:NumsAt w la ln L)(hln:ln≤17592186044000)(ht:NumsAt w ta tn ts)(htn:tn≤140737488355328)(hr:∀ z∈ts,InR z)(hN:InR N)(ham:Among (usesL 24 A B C L) tn):
 Calls Tryz.prog 68 #[.pointer (some ⟨g,0,none⟩),.agg #[.int .i64 24,.int .i64 A,.int .i64 B,.int .i64 C,.int .i64 N,.string S,.slice la ln lc,.bool T],.slice ta tn tc] w (RowPost (rowS P 24 N S ((usesL 24 A B C L).map (tyAt ts))) w):=by
 have HD:=hid (decl_24 g A B C N S la ln lc T L ta tn tc ts (w.alloc (.cells #[.int .i64 24,.int .i64 A,.int .i64 B,.int .i64 C,.int .i64 N,.string S,.slice la ln lc,.bool T] 64)) (hP.since (below1 _ _ _)) (hat.since (below1 _ _ _)) hln (ht.since (below1 _ _ _)) htn hr hN ham)
 clear hP hat ht ham hr hN
 go_enter Tryz.func68,Tryz.ntmps68
 go_wp2_with(go_at_call 101;(with_reducible refine(HD.out).mono ?_);rintro e w' ⟨t,rfl,hx,hb⟩)
 exact bodyPost_ret (v:=.tuple #[.int .i64 t,.bool _]) (by simp[results,Tryz.results68,go_sem]) rfl ⟨t,rfl,hx,(below1 _ _ _).trans (hb.mono (by simp))⟩
theorem row_none(g:Nat){sa:Option Addr}{sn sc:Nat}{ca:Option Addr}{cn cc:Nat}{fa:Option Addr}{fn fc:Nat}{P:ProgD}(K:Int)(h:K<0∨25<K)(A B C N:Int)(S:ByteArray)(la:Option Addr)(ln lc:Nat)(T:Bool)(L:List Int)(ta:Option Addr)(tn tc:Nat)(ts:List Int)(w:World)
 (hP:ProgAt w g sa sn sc ca cn cc fa fn fc P)(hat:NumsAt w la ln L)(hln:ln≤17592186044000)(ht:NumsAt w ta tn ts)(htn:tn≤140737488355328)(hr:∀ z∈ts,InR z)(hN:InR N)(ham:Among (usesL K A B C L) tn):
 Calls Tryz.prog 68 #[.pointer (some ⟨g,0,none⟩),.agg #[.int .i64 K,.int .i64 A,.int .i64 B,.int .i64 C,.int .i64 N,.string S,.slice la ln lc,.bool T],.slice ta tn tc] w (RowPost (rowS P K N S ((usesL K A B C L).map (tyAt ts))) w):=by
 have HD:=hid (decl_none g K h A B C N S la ln lc T L ta tn tc ts (w.alloc (.cells #[.int .i64 K,.int .i64 A,.int .i64 B,.int .i64 C,.int .i64 N,.string S,.slice la ln lc,.bool T] 64)) (hP.since (below1 _ _ _)) (hat.since (below1 _ _ _)) hln (ht.since (below1 _ _ _)) htn hr hN ham)
 clear hP hat ht ham hr hN
 rcases h with h|h
 all_goals
  go_enter Tryz.func68,Tryz.ntmps68
  go_wp2_with(go_at_call 101;(with_reducible refine(HD.out).mono ?_);rintro e w' ⟨t,rfl,hx,hb⟩)
  exact bodyPost_ret (v:=.tuple #[.int .i64 t,.bool _]) (by simp[results,Tryz.results68,go_sem]) rfl ⟨t,rfl,hx,(below1 _ _ _).trans (hb.mono (by simp))⟩
theorem row_any(g:Nat){sa:Option Addr}{sn sc:Nat}{ca:Option Addr}{cn cc:Nat}{fa:Option Addr}{fn fc:Nat}{P:ProgD}(K:Int)(A B C N:Int)(S:ByteArray)(la:Option Addr)(ln lc:Nat)(T:Bool)(L:List Int)(ta:Option Addr)(tn tc:Nat)(ts:List Int)(w:World)
 (hP:ProgAt w g sa sn sc ca cn cc fa fn fc P)(hat:NumsAt w la ln L)(hln:ln≤17592186044000)(ht:NumsAt w ta tn ts)(htn:tn≤140737488355328)(hr:∀ z∈ts,InR z)(hN:InR N)(ham:Among (usesL K A B C L) tn):
 Calls Tryz.prog 68 #[.pointer (some ⟨g,0,none⟩),.agg #[.int .i64 K,.int .i64 A,.int .i64 B,.int .i64 C,.int .i64 N,.string S,.slice la ln lc,.bool T],.slice ta tn tc] w (RowPost (rowS P K N S ((usesL K A B C L).map (tyAt ts))) w):=by
 rcases kinds K with h|h
 ·rcases h with rfl|rfl|rfl|rfl|rfl|rfl|rfl|rfl|rfl|rfl|rfl|rfl|rfl|rfl|rfl|rfl|rfl|rfl|rfl|rfl|rfl|rfl|rfl|rfl|rfl|rfl
  ·exact row_0 _ P A B C N S la ln lc T L ta tn tc ts w ht htn ham
  ·exact row_1 _ P A B C N S la ln lc T L ta tn tc ts w ht htn ham
  ·exact row_2 _ P A B C N S la ln lc T L ta tn tc ts w ht htn ham
  ·exact row_3 _ P A B C N S la ln lc T L ta tn tc ts w ht htn ham
  ·exact row_4 _ P A B C N S la ln lc T L ta tn tc ts w ht htn ham
  ·exact row_5 _ P A B C N S la ln lc T L ta tn tc ts w ht htn ham
  ·exact row_6 _ P A B C N S la ln lc T L ta tn tc ts w ht htn ham
  ·exact row_7 _ P A B C N S la ln lc T L ta tn tc ts w ht htn ham
  ·exact row_8 _ P A B C N S la ln lc T L ta tn tc ts w ht htn ham
  ·exact row_9 g A B C N S la ln lc T L ta tn tc ts w hP hat hln ht htn hr hN ham
  ·exact row_10 g A B C N S la ln lc T L ta tn tc ts w hP hat hln ht htn hr hN ham
  ·exact row_11 g A B C N S la ln lc T L ta tn tc ts w hP hat hln ht htn hr hN ham
  ·exact row_12 _ P A B C N S la ln lc T L ta tn tc ts w ht htn ham
  ·exact row_13 _ P A B C N S la ln lc T L ta tn tc ts w ht htn ham
  ·exact row_14 _ P A B C N S la ln lc T L ta tn tc ts w ht htn ham
  ·exact row_15 _ P A B C N S la ln lc T L ta tn tc ts w ht htn ham
  ·exact row_16 _ P A B C N S la ln lc T L ta tn tc ts w ht htn ham
  ·exact row_17 _ P A B C N S la ln lc T L ta tn tc ts w ht htn ham
  ·exact row_18 _ P A B C N S la ln lc T L ta tn tc ts w ht htn ham
  ·exact row_19 _ P A B C N S la ln lc T L ta tn tc ts w ht htn ham
  ·exact row_20 _ P A B C N S la ln lc T L ta tn tc ts w ht htn ham
  ·exact row_21 _ P A B C N S la ln lc T L ta tn tc ts w ht htn ham
  ·exact row_22 g A B C N S la ln lc T L ta tn tc ts w hP hat hln ht htn hr hN ham
  ·exact row_23 g A B C N S la ln lc T L ta tn tc ts w hP hat hln ht htn hr hN ham
  ·exact row_24 g A B C N S la ln lc T L ta tn tc ts w hP hat hln ht htn hr hN ham
  ·exact row_25 _ P A B C N S la ln lc T L ta tn tc ts w ht htn ham
 ·exact row_none g K h A B C N S la ln lc T L ta tn tc ts w hP hat hln ht htn hr hN ham
end Go.Proofs.YtikoklagffbgiaaGreatDoor

namespace Go.Proofs.YtikoklagffbgiaaGreatDoor
open Go.RowKit (wrap64 intOf Below)
set_option linter.unusedVariables false
set_option linter.unusedSimpArgs false
structure Rows5(W:World)(B n:Nat)(g:Nat→Nat)(Z:Nat→List Int):Prop where
 own:∀ i,i<5→OwnsI W B 3 (.slice (some ⟨g i,0,none⟩) n n) (Z i)
 apart:∀ i j,i<5→j<5→i≠j→g i≠g j
structure TreeAt(W:World)(B p n:Nat)(g:Nat→Nat)(Z:Nat→List Int)(ov fv:Value)(ord:List Int)(vs:List Value)(FR:List (List Int))(rd:Int):Prop where
 blk:W.heap[p]? =some (.cells #[ov,.slice (some ⟨g 0,0,none⟩) n n,fv,.slice (some ⟨g 1,0,none⟩) n n,.slice (some ⟨g 2,0,none⟩) n n,.slice (some ⟨g 3,0,none⟩) n n,.slice (some ⟨g 4,0,none⟩) n n,.int .i64 rd] 159 (0,0))
 ge:B≤p
 rows:Rows5 W B n g Z
 ord:OwnsI W B 3 ov ord
 ordne:∀ i,i<5→ov.ownBlock≠some (g i)
 fr:Rows2 W B 40 3 fv vs FR
 frne:∀ i,i<5→∀ j (h:j<vs.length),vs[j].ownBlock≠some (g i)
section
variable {W W' : World} {B p n : Nat} {g : Nat → Nat} {Z : Nat → List Int} {ov fv : Value} {ord : List Int} {vs : List Value} {FR : List (List Int)} {rd : Int}
theorem own_at{W':World}{B:Nat}{e:TypeId}{v:Value}{L:List Int}(h:OwnsI W B e v L)(hk:∀ i,v.ownBlock=some i→W'.heap[i]? =W.heap[i]?):OwnsI W' B e v L:=by
 refine⟨h.1, ?_⟩
 rcases h.2 with hn|⟨g,cap,cur,rfl,hB,hg,rest⟩
 ·exact .inl hn
 ·exact .inr ⟨g,cap,cur,rfl,hB,(hk g rfl).trans hg,rest⟩
theorem TreeAt.len(h:TreeAt W B p n g Z ov fv ord vs FR rd){i:Nat}(hi:i<5):(Z i).length=n:=(h.rows.own i hi).read.1
theorem TreeAt.plt(h:TreeAt W B p n g Z ov fv ord vs FR rd):p<W.heap.size:=(Array.getElem?_eq_some_iff.1 h.blk).1
theorem TreeAt.gblk(h:TreeAt W B p n g Z ov fv ord vs FR rd){i:Nat}(hi:i<5):∃ cur,W.heap[g i]? =some (.cells cur 3 (0,0))∧B≤g i:=ownsI_blk (h.rows.own i hi) rfl
theorem TreeAt.pne(h:TreeAt W B p n g Z ov fv ord vs FR rd){i:Nat}(hi:i<5):g i≠p:=fun e=>by
 obtain⟨cur,hc,_⟩:=h.gblk hi
 have:=h.blk
 rw[e,this]at hc
 simp at hc
theorem TreeAt.since(h:TreeAt W B p n g Z ov fv ord vs FR rd)(hb:Below W.heap.size W W'):TreeAt W' B p n g Z ov fv ord vs FR rd:=
 ⟨(hb.block p h.plt).trans h.blk,h.ge,⟨fun i hi=>(h.rows.own i hi).below hb,h.rows.apart⟩,h.ord.below hb,h.ordne,h.fr.since hb,h.frne⟩
theorem TreeAt.cell(h:TreeAt W B p n g Z ov fv ord vs FR rd){i j:Nat}(hi:i<5)(hj:j<n):W.cell? ⟨g i,j,none⟩=some (.int .i64 (nth (Z i) j)):=own_cell (h.rows.own i hi) (by rw[h.len hi];exact hj)
theorem TreeAt.free(h:TreeAt W B p n g Z ov fv ord vs FR rd){i:Nat}(hi:i<5)(j:Nat):W.frozen? ⟨g i,j,none⟩=false:=own_free (h.rows.own i hi) j
theorem TreeAt.put(h:TreeAt W B p n g Z ov fv ord vs FR rd){i:Nat}(hi:i<5)(j:Nat)(z:Int):TreeAt (W.setCell ⟨g i,j,none⟩ (.int .i64 z)) B p n g (fun k=>if k=i then(Z i).set j z else Z k) ov fv ord vs FR rd:=by
 have hk:∀ k,k≠g i→(W.setCell ⟨g i,j,none⟩ (.int .i64 z)).heap[k]? =W.heap[k]? :=fun k hk=>Below.heap_setCell _ _ _ _ hk
 obtain⟨cur,hc,_⟩:=h.gblk hi
 refine⟨(hk p (fun e=>h.pne hi e.symm)).trans h.blk,h.ge,⟨fun k hk5=> ?_,h.rows.apart⟩,own_at h.ord (fun k hkb=>hk k (fun e=>h.ordne i hi (by rw[hkb,e]))),h.ordne, ?_,h.frne⟩
 ·by_cases e:k=i
  ·subst e
   rw[if_pos rfl]
   exact own_store (h.rows.own k hi) j z
  ·rw[if_neg e]
   exact own_at (h.rows.own k hk5) (fun b hb=>hk b (fun e2=>by
    have hb':some (g k)=some b:=hb
    cases hb'
    exact h.rows.apart k i hk5 hi e e2))
 ·refine⟨?_,h.fr.len,fun k h1 h2=>own_at (h.fr.own k h1 h2) (fun b hb=>hk b (fun e=>h.frne i hi k h1 (by rw[hb,e]))),h.fr.apart⟩
  refine⟨h.fr.row.1, ?_⟩
  rcases h.fr.row.2 with hn|⟨q,cap,cur',e,hB,hq,rest⟩
  ·exact .inl hn
  ·refine .inr ⟨q,cap,cur',e,hB,(hk q (fun e2=> ?_)).trans hq,rest⟩
   rw[e2,hc]at hq
   simp at hq
theorem TreeAt.turn(h:TreeAt W B p n g Z ov fv ord vs FR rd)(rd':Int):TreeAt (W.setCell ⟨p,7,none⟩ (.int .i64 rd')) B p n g Z ov fv ord vs FR rd':=by
 have hk:∀ k,k≠p→(W.setCell ⟨p,7,none⟩ (.int .i64 rd')).heap[k]? =W.heap[k]? :=fun k hk=>Below.heap_setCell _ _ _ _ hk
 have hb:=h.blk
 refine⟨?_,h.ge,⟨fun k hk5=>own_at (h.rows.own k hk5) (fun b hb=>hk b (fun e2=>by
  have hb':some (g k)=some b:=hb
  cases hb'
  exact h.pne hk5 e2)),h.rows.apart⟩,own_at h.ord (fun k hkb=>hk k (fun e=> ?_)),h.ordne,h.fr.kept (X:=fun i=>i=p) (Off.setCell (X:=fun i=>i=p) (p:=⟨p,7,none⟩) (Off.refl (fun i=>i=p) W) (.inl rfl) _) (fun i hi=>.inr fun C t ht e=> ?_),h.frne⟩
 ·have:=heap_setCell_same W p 7 _ _ (.int .i64 rd') hb
  rw[this]
  rfl
 ·obtain⟨cur,hc,_⟩:=ownsI_blk h.ord hkb
  rw[e,hb]at hc
  simp at hc
 ·subst hi
  rw[hb]at e
  rcases ht with rfl|rfl<;>simp at e
end
structure Means(E:Nat→Nat→Prop)(M:Nat→Prop)(pl:Nat→Nat)(up:Nat→Int)(m n:Nat)(PL UP:List Int):Prop where
 tree:Tree E M pl up m
 rpo:Rpo E M pl
 lt:∀ v,M v→v<n
 place:∀ v,M v→nth PL v=(pl v:Int)
 above:∀ v,v<n→nth UP v=up v
structure MeetSt(W0:World)(E:Nat→Nat→Prop)(M:Nat→Prop)(pl:Nat→Nat)(up:Nat→Int)(m B p n:Nat)(g:Nat→Nat)(Z:Nat→List Int)(ov fv:Value)(ord:List Int)(vs:List Value)(FR:List (List Int))(rd:Int)(j0 f0 j f:Nat)(PS:List Int)(W:World):Prop where
 at_:TreeAt W B p n g (fun k=>if k=4 then PS else Z k) ov fv ord vs FR rd
 off:Off (fun i=>i=g 4) W0 W
 meet:Meet up j0 f0 j f
 mj:M j
 mf:M f
 lj:pl j<m
 lf:pl f<m
 pass:∀ v,v<n→nth PS v=rd→On up v j∨(On up v f∧v≠f)
 le:(∀v,v<n→nth (Z 4) v≤rd)→∀ v,v<n→nth PS v≤rd
theorem MeetSt.kept{W0:World}{E:Nat→Nat→Prop}{M:Nat→Prop}{pl:Nat→Nat}{up:Nat→Int}{m B p n:Nat}{g:Nat→Nat}{Z:Nat→List Int}{ov fv:Value}{ord:List Int}{vs:List Value}{FR:List (List Int)}{rd:Int}{j0 f0 j f:Nat}{PS:List Int}{W W':World}(h:MeetSt W0 E M pl up m B p n g Z ov fv ord vs FR rd j0 f0 j f PS W)(hb:Below W.heap.size W W'):MeetSt W0 E M pl up m B p n g Z ov fv ord vs FR rd j0 f0 j f PS W':=
 ⟨h.at_.since hb,h.off.trans (Off.since hb),h.meet,h.mj,h.mf,h.lj,h.lf,h.pass,h.le⟩
theorem MeetSt.goj{W0:World}{E:Nat→Nat→Prop}{M:Nat→Prop}{pl:Nat→Nat}{up:Nat→Int}{m B p n:Nat}{g:Nat→Nat}{Z:Nat→List Int}{ov fv:Value}{ord:List Int}{vs:List Value}{FR:List (List Int)}{rd:Int}{j0 f0 j f y:Nat}{PS:List Int}{W:World}(h:MeetSt W0 E M pl up m B p n g Z ov fv ord vs FR rd j0 f0 j f PS W)(hT:Tree E M pl up m)(hl:pl f<pl j)(hy:up j=(y:Int)):MeetSt W0 E M pl up m B p n g Z ov fv ord vs FR rd j0 f0 y f PS W∧pl y<pl j:=by
 have hlt:=hT.lt j y hy
 refine⟨⟨h.at_,h.off,h.meet.goj hT hl hy,hlt.1,h.mf,hlt.2.2,h.lf,fun v hv hp=> ?_,h.le⟩,hlt.2.1⟩
 rcases h.pass v hv hp with h1|h1
 ·exact .inl (h1.trans (.step hy (.refl _)))
 ·exact .inr h1
theorem MeetSt.gof{W0:World}{E:Nat→Nat→Prop}{M:Nat→Prop}{pl:Nat→Nat}{up:Nat→Int}{m B p n:Nat}{g:Nat→Nat}{Z:Nat→List Int}{ov fv:Value}{ord:List Int}{vs:List Value}{FR:List (List Int)}{rd:Int}{j0 f0 j f y:Nat}{PS:List Int}{W:World}(h:MeetSt W0 E M pl up m B p n g Z ov fv ord vs FR rd j0 f0 j f PS W)(hT:Tree E M pl up m)(hl:pl j<pl f)(hy:up f=(y:Int))(hf:f<n)(hW:g 4<W0.heap.size):MeetSt W0 E M pl up m B p n g Z ov fv ord vs FR rd j0 f0 j y (PS.set f rd) (W.setCell ⟨g 4,f,none⟩ (.int .i64 rd))∧pl y<pl f:=by
 have hlt:=hT.lt f y hy
 have hput:=h.at_.put (i:=4) (by omega) f rd
 have hlen:PS.length=n:=by have:=h.at_.len (i:=4) (by omega);simpa using this
 refine⟨⟨?_,h.off.setCell (.inl rfl) _,h.meet.gof hT hl hy,h.mj,hlt.1,h.lj,hlt.2.2,fun v hv hp=> ?_,fun hle v hv=> ?_⟩,hlt.2.1⟩
 ·have e:(fun k=>if k=4 then List.set ((fun k=>if k=4 then PS else Z k) 4) f rd else(fun k=>if k=4 then PS else Z k) k)=(fun k=>if k=4 then PS.set f rd else Z k):=funext fun k=>by
   by_cases hk:k=4
   ·simp[hk]
   ·simp[hk]
  rw[e]at hput
  exact hput
 ·rw[nth_set (by omega)]at hp
  by_cases e:v=f
  ·subst e
   exact .inr ⟨.step hy (.refl _),fun e=>by rw[←e]at hlt;omega⟩
  ·rw[if_neg e]at hp
   rcases h.pass v hv hp with h1|⟨h1,h2⟩
   ·exact .inl h1
   ·refine .inr ⟨h1.trans (.step hy (.refl _)),fun e2=> ?_⟩
    have h3:=on_le hT.lt h1
    rw[e2]at h3
    omega
 ·rw[nth_set (by omega)]
  split
  ·exact Int.le_refl _
  ·exact h.le hle v hv
set_option maxRecDepth 100000 in
set_option maxHeartbeats 4000000 in
theorem meet_any{E:Nat→Nat→Prop}{M:Nat→Prop}{pl:Nat→Nat}{up:Nat→Int}{m:Nat}{W:World}{B p n:Nat}{g:Nat→Nat}{Z:Nat→List Int}{ov fv:Value}{ord:List Int}{vs:List Value}{FR:List (List Int)}{rd:Int}
 (hA:TreeAt W B p n g Z ov fv ord vs FR rd)(hT:Means E M pl up m n (Z 0) (Z 1))(j0 f0:Nat)(hj:M j0)(hf:M f0)(hjm:pl j0<m)(hfm:pl f0<m)(hps:∀ v,v<n→nth (Z 4) v=rd→On up v j0)(hn:n≤1099511627776):
 Calls Tryz.prog 166 #[.pointer (some ⟨p,0,none⟩),.int .i64 (j0:Int),.int .i64 (f0:Int)] W fun e w'=>∃ (x:Nat) (PS:List Int),e=.returned (.int .i64 (x:Int))∧TreeAt w' B p n g (fun k=>if k=4 then PS else Z k) ov fv ord vs FR rd∧Off (fun i=>i=g 4) W w'∧(On up j0 x∧On up f0 x∧∀ z,On up j0 z→On up f0 z→On up x z)∧(∀v,v<n→nth PS v=rd→On up v x)∧((∀v,v<n→nth (Z 4) v≤rd)→∀ v,v<n→nth PS v≤rd):=by
 have HT:=Lib.hid hT
 have HS0:RowKit.Hid (MeetSt W E M pl up m B p n g Z ov fv ord vs FR rd j0 f0 j0 f0 (Z 4) W):=Lib.hid ⟨by
  have e:(fun k=>if k=4 then Z 4 else Z k)=Z:=funext fun k=>by split;rename_i h;rw[h];rfl
  rw[e];exact hA,Off.refl _ _,Meet.start _ _,hj,hf,hjm,hfm,fun v hv h=>.inl (hps v hv h),fun h=>h⟩
 have HG4:RowKit.Hid (g 4<W.heap.size):=Lib.hid (by obtain⟨cur,hc,_⟩:=hA.gblk (i:=4) (by omega);exact(Array.getElem?_eq_some_iff.1 hc).1)
 clear hA hT hj hf hjm hfm hps
 go_enter Tryz.func166,Tryz.ntmps166
 go_wp2_with fail
 go_loopw[1,2] (fun v1 v2 wr=>∃ (j f:Nat) (PS:List Int),v1=.int .i64 (j:Int)∧v2=.int .i64 (f:Int)∧RowKit.Hid (MeetSt W E M pl up m B p n g Z ov fv ord vs FR rd j0 f0 j f PS wr)) (fun v1 v2 _=>pl (intOf v1).toNat+pl (intOf v2).toNat)
 case atStart=>exact⟨j0,f0,Z 4,rfl,rfl,HS0⟩
 case round=>
  obtain⟨j,f,PS,rfl,rfl,HI⟩:=hrel
  clear HS0
  obtain⟨wo,hwo⟩:∃ u,u=wr:=⟨_,rfl⟩
  rw[←hwo]at HI⊢
  clear hwo
  have hjn:j<n:=HT.out.lt j HI.out.mj
  have hfn:f<n:=HT.out.lt f HI.out.mf
  by_cases hjf:j=f
  ·have hjb:((j:Int) !=(f:Int))=false:=by rw[hjf];simp
   have HJF:=Lib.hid hjf
   clear hjf
   go_wp2_with fail
   go_ret
   refine⟨j,PS,rfl,HI.out.at_,HI.out.off,HI.out.meet.found (by rw[HJF.out];exact .refl _),fun v hv h=> ?_,HI.out.le⟩
   rcases HI.out.pass v hv h with h1|⟨h1,h2⟩
   ·exact h1
   ·rw[HJF.out];exact h1
  ·have hjb:((j:Int) !=(f:Int))=true:=by rw[bne_iff_ne];omega
   have HJF:=Lib.hid hjf
   clear hjf
   have c1:wo.cell? ⟨p,1,none⟩=some (.slice (some ⟨g 0,0,none⟩) n n):=by simp[World.cell?,HI.out.at_.blk]
   have c3:wo.cell? ⟨p,3,none⟩=some (.slice (some ⟨g 1,0,none⟩) n n):=by simp[World.cell?,HI.out.at_.blk]
   have c6:wo.cell? ⟨p,6,none⟩=some (.slice (some ⟨g 4,0,none⟩) n n):=by simp[World.cell?,HI.out.at_.blk]
   have c7:wo.cell? ⟨p,7,none⟩=some (.int .i64 rd):=by simp[World.cell?,HI.out.at_.blk]
   have p1:wo.cell? ⟨g 0,j,none⟩=some (.int .i64 (pl j:Int)):=by
    have:=HI.out.at_.cell (i:=0) (by omega) hjn
    simpa [HT.out.place j HI.out.mj]using this
   have p2:wo.cell? ⟨g 0,f,none⟩=some (.int .i64 (pl f:Int)):=by
    have:=HI.out.at_.cell (i:=0) (by omega) hfn
    simpa [HT.out.place f HI.out.mf]using this
   have u1:wo.cell? ⟨g 1,j,none⟩=some (.int .i64 (up j)):=by
    have:=HI.out.at_.cell (i:=1) (by omega) hjn
    simpa [HT.out.above j hjn]using this
   have s1:wo.cell? ⟨g 4,f,none⟩=some (.int .i64 (nth PS f)):=by
    have:=HI.out.at_.cell (i:=4) (by omega) hfn
    simpa using this
   have sf:wo.frozen? ⟨g 4,f,none⟩=false:=HI.out.at_.free (by omega) f
   have hji:(j:Int)<(n:Int):=by omega
   have hj0:(0:Int)≤(j:Int):=by omega
   have hfi:(f:Int)<(n:Int):=by omega
   have hf0:(0:Int)≤(f:Int):=by omega
   have HNE:RowKit.Hid (pl j≠pl f):=Lib.hid fun e=>HJF.out (HT.out.rpo.inj j f HI.out.mj HI.out.mf e)
   by_cases hgt:pl f<pl j
   ·have hdec:decide ((pl f:Int)<(pl j:Int))=true:=decide_eq_true (by omega)
    obtain⟨y,hy⟩:∃ y:Nat,up j=(y:Int):=by
     refine Int.eq_ofNat_of_zero_le ((HT.out.tree.known j HI.out.mj (fun e=> ?_)).2 HI.out.lj)
     have:=(HT.out.rpo.pl0 j HI.out.mj).2 e
     omega
    have HY:=Lib.hid hy
    rw[hy]at u1
    have HGT:=Lib.hid hgt
    clear hy hgt
    go_wp2_with fail
    go_quiet (fail)
    go_wp2_with fail
    go_roundw
    case rel=>exact⟨y,f,PS,rfl,rfl,Lib.hid ((HI.out.goj HT.out.tree HGT.out HY.out).1.kept (below_drewN _ (Below.refl _ _)))⟩
    case measure=>have h2:=(HI.out.goj HT.out.tree HGT.out HY.out).2;simp only[intOf,Int.toNat_natCast];omega
   ·have hdec:decide ((pl f:Int)<(pl j:Int))=false:=decide_eq_false (by omega)
    have hnlt:¬ ((pl f:Int)<(pl j:Int)):=by omega
    have hlej:(pl j:Int)≤(pl f:Int):=by omega
    have HLT:RowKit.Hid (pl j<pl f):=Lib.hid (by have:=HNE.out;omega)
    clear hgt
    by_cases hpd:nth PS f=rd
    ·rw[hpd]at s1
     have hrb:(rd==rd)=true:=by simp
     have HPD:=Lib.hid hpd
     clear hpd
     go_wp2_with fail
     go_quiet (fail)
     go_wp2_with fail
     go_quiet (fail)
     go_wp2_with fail
     go_ret
     refine⟨j,PS,rfl,(HI.out.kept (below_drewN _ (below_drewN _ (Below.refl wo.heap.size wo)))).at_,(HI.out.kept (below_drewN _ (below_drewN _ (Below.refl wo.heap.size wo)))).off,HI.out.meet.found ?_,fun v hv h=> ?_,HI.out.le⟩
     ·rcases HI.out.pass f hfn HPD.out with h|⟨_,h⟩
      ·exact h
      ·exact absurd rfl h
     ·rcases HI.out.pass v hv h with h1|⟨h1,h2⟩
      ·exact h1
      ·rcases HI.out.pass f hfn HPD.out with h|⟨_,h⟩
       ·exact h1.trans h
       ·exact absurd rfl h
    ·have hrb:(nth PS f==rd)=false:=by simpa using hpd
     have hrn:¬ nth PS f=rd:=hpd
     obtain⟨y,hy⟩:∃ y:Nat,up f=(y:Int):=by
      refine Int.eq_ofNat_of_zero_le ((HT.out.tree.known f HI.out.mf (fun e=> ?_)).2 HI.out.lf)
      have:=(HT.out.rpo.pl0 f HI.out.mf).2 e
      have:=HLT.out
      omega
     have HY:=Lib.hid hy
     clear hy hpd
     go_wp2_with fail
     go_quiet (fail)
     go_wp2_with fail
     go_quiet (fail)
     go_wp2_with fail
     generalize hwv:World.drewN (World.drewN wo _) _=wv
     have HIV:RowKit.Hid (MeetSt W E M pl up m B p n g Z ov fv ord vs FR rd j0 f0 j f PS wv.drew):=Lib.hid (by rw[←hwv];exact HI.out.kept (below_drewN _ (below_drewN _ (Below.refl wo.heap.size wo))).drew)
     clear hwv c1 c3 c6 c7 p1 p2 u1 s1 sf
     have e6:wv.drew.cell? ⟨p,6,none⟩=some (.slice (some ⟨g 4,0,none⟩) n n):=by simp[World.cell?,HIV.out.at_.blk]
     have e7:wv.drew.cell? ⟨p,7,none⟩=some (.int .i64 rd):=by simp[World.cell?,HIV.out.at_.blk]
     have hs1:wv.drew.cell? ⟨g 4,f,none⟩=some (.int .i64 (nth PS f)):=by
      have:=HIV.out.at_.cell (i:=4) (by omega) hfn
      simpa using this
     have hsf:wv.drew.frozen? ⟨g 4,f,none⟩=false:=HIV.out.at_.free (by omega) f
     refine wp_region_Z (S:=(fun u:World=>u.cell? ⟨p,6,none⟩=some (.slice (some ⟨g 4,0,none⟩) n n)∧u.cell? ⟨p,7,none⟩=some (.int .i64 rd))) 10 (by kernel_rfl) ⟨e6,e7⟩ (fun hHeld=> ?_)
     refine wpAnyZ_take (i:=0) (oi:=⟨some 45,_,_,_,_,_⟩) (v:= ?_) rfl (by kernel_rfl) (by kernel_rfl) (by kernel_rfl) (by kernel_rfl) (fun _ _ _ h=>h) (Or.inl ⟨by rfl, ?_⟩) (by assumption) ?_
     rotate_left
     ·((intro w hSw;(try dsimp only at hSw);go_simp);try with_reducible rfl)
     (try simp only[Act.put,zA,zB,zC])
     refine wpAnyZ_take (i:=1) (oi:=⟨some 46,_,_,_,_,_⟩) (v:= ?_) rfl (by kernel_rfl) (by kernel_rfl) (by kernel_rfl) (by kernel_rfl) (fun _ _ _ h=>h) (Or.inl ⟨by rfl, ?_⟩) (by assumption) ?_
     rotate_left
     ·((intro w hSw;(try dsimp only at hSw);go_simp);try with_reducible rfl)
     (try simp only[Act.put,zA,zB,zC])
     refine wpAnyZ_take (i:=2) (oi:=⟨some 47,_,_,_,_,_⟩) (v:= ?_) rfl (by kernel_rfl) (by kernel_rfl) (by kernel_rfl) (by kernel_rfl) (fun _ _ _ h=>h) (Or.inl ⟨by rfl, ?_⟩) (by assumption) ?_
     rotate_left
     ·((intro w hSw;(try dsimp only at hSw);go_simp);try with_reducible rfl)
     (try simp only[Act.put,zA,zB,zC])
     refine wpAnyZ_take (i:=3) (oi:=⟨some 48,_,_,_,_,_⟩) (v:= ?_) rfl (by kernel_rfl) (by kernel_rfl) (by kernel_rfl) (by kernel_rfl) (fun _ _ _ h=>h) (Or.inl ⟨by rfl, ?_⟩) (by assumption) ?_
     rotate_left
     ·((intro w hSw;(try dsimp only at hSw);go_simp);try with_reducible rfl)
     (try simp only[Act.put,zA,zB,zC])
     refine wpAnyZ_take (i:=4) (oi:=⟨some 49,_,_,_,_,_⟩) (v:= ?_) rfl (by kernel_rfl) (by kernel_rfl) (by kernel_rfl) (by kernel_rfl) (fun _ _ _ h=>h) (Or.inl ⟨by rfl, ?_⟩) (by assumption) ?_
     rotate_left
     ·((intro w hSw;(try dsimp only at hSw);go_simp);try with_reducible rfl)
     (try simp only[Act.put,zA,zB,zC])
     refine wpAnyZ_take (i:=5) (oi:=⟨some 50,_,_,_,_,_⟩) (v:= ?_) rfl (by kernel_rfl) (by kernel_rfl) (by kernel_rfl) (by kernel_rfl) (fun _ _ _ h=>h) (Or.inl ⟨by rfl, ?_⟩) (by assumption) ?_
     rotate_left
     ·((intro w hSw;(try dsimp only at hSw);go_simp);try with_reducible rfl)
     (try simp only[Act.put,zA,zB,zC])
     refine wpAnyZ_take (i:=6) (oi:=⟨some 51,_,_,_,_,_⟩) (v:= ?_) rfl (by kernel_rfl) (by kernel_rfl) (by kernel_rfl) (by kernel_rfl) (fun _ _ _ h=>h) (Or.inl ⟨by rfl, ?_⟩) (by assumption) ?_
     rotate_left
     ·((intro w hSw;(try dsimp only at hSw);go_simp);try with_reducible rfl)
     (try simp only[Act.put,zA,zB,zC])
     refine wpAnyZ_take (i:=7) (oi:=⟨some 52,_,_,_,_,_⟩) (v:= ?_) rfl (by kernel_rfl) (by kernel_rfl) (by kernel_rfl) (by kernel_rfl) (fun _ _ _ h=>h) (Or.inl ⟨by rfl, ?_⟩) (by assumption) ?_
     rotate_left
     ·((intro w hSw;(try dsimp only at hSw);go_simp);try with_reducible rfl)
     (try simp only[Act.put,zA,zB,zC])
     refine wpAnyZ_take (i:=8) (oi:=⟨some 53,_,_,_,_,_⟩) (v:= ?_) rfl (by kernel_rfl) (by kernel_rfl) (by kernel_rfl) (by kernel_rfl) (fun _ _ _ h=>h) (Or.inl ⟨by rfl, ?_⟩) (by assumption) ?_
     rotate_left
     ·((intro w hSw;(try dsimp only at hSw);go_simp);try with_reducible rfl)
     (try simp only[Act.put,zA,zB,zC])
     refine wpAnyZ_take (i:=9) (oi:=⟨some 54,_,_,_,_,_⟩) (v:= ?_) rfl (by kernel_rfl) (by kernel_rfl) (by kernel_rfl) (by kernel_rfl) (fun _ _ _ h=>h) (Or.inl ⟨by rfl, ?_⟩) (by assumption) ?_
     rotate_left
     ·((intro w hSw;(try dsimp only at hSw);go_simp);try with_reducible rfl)
     (try simp only[Act.put,zA,zB,zC])
     refine wpAnyZ_last (by kernel_rfl) rfl (by kernel_rfl) (fun K hK=> ?_)
     rw[if_pos (by rfl)]
     go_simp
     refine hK.out _ _ ?_
     clear hK K
     (try simp only[Act.put,zA,zB,zC])
     have hg0:=HIV.out.gof HT.out.tree HLT.out HY.out hfn HG4.out
     obtain⟨wx,hwx⟩:∃ wx,(wv.setCell ⟨g 4,f,none⟩ (.int .i64 rd)).drew=wx:=⟨_,rfl⟩
     have hwx2:wv.drew.setCell ⟨g 4,f,none⟩ (.int .i64 rd)=wx:=hwx
     rw[hwx2]at hg0
     have HG:=Lib.hid hg0
     rw[hwx]
     clear hwx hwx2 hg0 e6 e7 hs1 hsf hHeld
     have d3:wx.cell? ⟨p,3,none⟩=some (.slice (some ⟨g 1,0,none⟩) n n):=by simp[World.cell?,HG.out.1.at_.blk]
     have d1:wx.cell? ⟨g 1,f,none⟩=some (.int .i64 (y:Int)):=by
      have:=HG.out.1.at_.cell (i:=1) (by omega) hfn
      simpa [HT.out.above f hfn,HY.out]using this
     go_wp2_with fail
     go_roundw
     case rel=>exact⟨j,y,_,rfl,rfl,Lib.hid HG.out.1⟩
     case measure=>have h2:=HG.out.2;simp only[intOf,Int.toNat_natCast];omega
end Go.Proofs.YtikoklagffbgiaaGreatDoor

namespace Go.Proofs.YtikoklagffbgiaaGreatDoor
open Go.RowKit (wrap64 intOf Below)
set_option linter.unusedVariables false
set_option linter.unusedSimpArgs false
theorem joint_one{up:Nat→Int}{PP PP':Nat→Prop}{q:Nat}(h0:∀ p,¬PP p)(h:∀ p,PP' p↔PP p∨p=q):Joint up PP' q:=
 ⟨fun p hp=>by
  rcases(h p).1 hp with h1|rfl
  ·exact absurd h1 (h0 p)
  ·exact .refl _,fun z hz=>hz q ((h q).2 (.inr rfl))⟩
theorem joint_more{up:Nat→Int}{PP PP':Nat→Prop}{q x y:Nat}(hJ:Joint up PP x)(h:∀ p,PP' p↔PP p∨p=q)(hf:On up x y∧On up q y∧∀ z,On up x z→On up q z→On up y z):Joint up PP' y:=
 ⟨fun p hp=>by
  rcases(h p).1 hp with h1|rfl
  ·exact(hJ.1 p h1).trans hf.1
  ·exact hf.2.1,fun z hz=>hf.2.2 z (hJ.2 z fun p hp=>hz p ((h p).2 (.inl hp))) (hz q ((h q).2 (.inr rfl)))⟩
theorem joint_same{up:Nat→Int}{PP PP':Nat→Prop}{x:Nat}(hJ:Joint up PP x)(h:∀ p,PP' p↔PP p):Joint up PP' x:=
 ⟨fun p hp=>hJ.1 p ((h p).1 hp),fun z hz=>hJ.2 z fun p hp=>hz p ((h p).2 hp)⟩
structure JointSt(W0:World)(M:Nat→Prop)(pl:Nat→Nat)(up:Nat→Int)(m B p n:Nat)(g:Nat→Nat)(Z:Nat→List Int)(ov fv:Value)(ord:List Int)(vs:List Value)(FR:List (List Int))(rd:Int)(Lb:List Int)(i:Nat)(jv:Int)(PS:List Int)(W:World):Prop where
 at_:TreeAt W B p n g (fun k=>if k=4 then PS else Z k) ov fv ord vs FR rd
 off:Off (fun i=>i=p∨i=g 4) W0 W
 le:∀ v,v<n→nth PS v≤rd
 st:((∀q:Nat,¬((q:Int)∈Lb.take i∧pl q<m))∧jv= -1∧∀ v,v<n→nth PS v≠rd)∨(∃x:Nat,jv=(x:Int)∧Joint up (fun q=>(q:Int)∈Lb.take i∧pl q<m) x∧M x∧pl x<m∧∀ v,v<n→nth PS v=rd→On up v x)
section
variable {W0 W W' : World} {M : Nat → Prop} {pl : Nat → Nat} {up : Nat → Int} {m B p n : Nat} {g : Nat → Nat} {Z : Nat → List Int} {ov fv : Value} {ord : List Int} {vs : List Value} {FR : List (List Int)} {rd : Int} {Lb : List Int} {i : Nat} {jv : Int} {PS : List Int}
theorem dtake_more{Lb:List Int}{i q:Nat}(hi:i<Lb.length)(hq:Lb[i]=(q:Int))(c:Nat→Prop)(x:Nat):((x:Int)∈Lb.take (i+1)∧c x)↔((x:Int)∈Lb.take i∧c x)∨(x=q∧c q):=by
 rw[List.take_succ_eq_append_getElem hi,List.mem_append,List.mem_singleton,hq]
 constructor
 ·rintro ⟨h|h,hc⟩
  ·exact .inl ⟨h,hc⟩
  ·have:x=q:=by omega
   subst this;exact .inr ⟨rfl,hc⟩
 ·rintro (⟨h,hc⟩|⟨rfl,hc⟩)
  ·exact⟨.inl h,hc⟩
  ·exact⟨.inr rfl,hc⟩
theorem JointSt.skip(h:JointSt W0 M pl up m B p n g Z ov fv ord vs FR rd Lb i jv PS W){q:Nat}(hi:i<Lb.length)(hq:Lb[i]=(q:Int))(hm:¬ pl q<m):JointSt W0 M pl up m B p n g Z ov fv ord vs FR rd Lb (i+1) jv PS W:=by
 have e:∀ x:Nat,((x:Int)∈Lb.take (i+1)∧pl x<m)↔((x:Int)∈Lb.take i∧pl x<m):=fun x=>by
  rw[dtake_more hi hq (fun x=>pl x<m) x]
  exact⟨fun h=>h.resolve_right (fun h'=>hm h'.2),.inl⟩
 refine⟨h.at_,h.off,h.le, ?_⟩
 rcases h.st with⟨h1,h2,h3⟩|⟨x,h1,h2,h3⟩
 ·exact .inl ⟨fun x hx=>h1 x ((e x).1 hx),h2,h3⟩
 ·exact .inr ⟨x,h1,joint_same h2 e,h3⟩
theorem JointSt.first(h:JointSt W0 M pl up m B p n g Z ov fv ord vs FR rd Lb i jv PS W){q:Nat}(hi:i<Lb.length)(hq:Lb[i]=(q:Int))(hm:pl q<m)(hM:M q)(hj:jv<0):JointSt W0 M pl up m B p n g Z ov fv ord vs FR rd Lb (i+1) (q:Int) PS W:=by
 refine⟨h.at_,h.off,h.le, ?_⟩
 rcases h.st with⟨h1,h2,h3⟩|⟨x,h1,_⟩
 ·refine .inr ⟨q,rfl,joint_one (PP:=fun q=>(q:Int)∈Lb.take i∧pl q<m) h1 fun x=> ?_,hM,hm,fun v hv hp=>absurd hp (h3 v hv)⟩
  rw[dtake_more hi hq (fun x=>pl x<m) x]
  exact⟨fun h=>h.imp id (·.1),fun h=>h.imp id (fun h=>⟨h,hm⟩)⟩
 ·omega
theorem JointSt.more(h:JointSt W0 M pl up m B p n g Z ov fv ord vs FR rd Lb i jv PS W){q x y:Nat}{PS2:List Int}(hi:i<Lb.length)(hq:Lb[i]=(q:Int))(hm:pl q<m)(hj:jv=(x:Int))(hlt:∀ v c:Nat,up v=(c:Int)→M c∧pl c<pl v∧pl c<m)
 (ha:TreeAt W' B p n g (fun k=>if k=4 then PS2 else(fun k=>if k=4 then PS else Z k) k) ov fv ord vs FR rd)(ho:Off (fun i=>i=g 4) W W')(hf:On up x y∧On up q y∧∀ z,On up x z→On up q z→On up y z)(hp:∀ v,v<n→nth PS2 v=rd→On up v y)(hle:∀ v,v<n→nth PS2 v≤rd):
 JointSt W0 M pl up m B p n g Z ov fv ord vs FR rd Lb (i+1) (y:Int) PS2 W':=by
 have e:(fun k=>if k=4 then PS2 else(fun k=>if k=4 then PS else Z k) k)=(fun k=>if k=4 then PS2 else Z k):=funext fun k=>by
  by_cases hk:k=4<;>simp[hk]
 rw[e]at ha
 rcases h.st with⟨_,h2,_⟩|⟨x',h1,h2,hMx,hxm,_⟩
 ·omega
 ·have hxx:x'=x:=by omega
  subst hxx
  refine⟨ha,h.off.trans (ho.mono fun i _ hi=>.inr hi),hle,.inr ⟨y,rfl,joint_more h2 (q:=q) (fun z=> ?_) hf,on_met hlt hMx hf.1, ?_,hp⟩⟩
  ·rw[dtake_more hi hq (fun x=>pl x<m) z]
   exact⟨fun h=>h.imp id (·.1),fun h=>h.imp id (fun h=>⟨h,hm⟩)⟩
  ·rcases on_pl hlt hf.1 with rfl|⟨_,_,h3⟩
   ·exact hxm
   ·exact h3
end
set_option maxRecDepth 100000 in
set_option maxHeartbeats 4000000 in
theorem joint_any{E:Nat→Nat→Prop}{M:Nat→Prop}{pl:Nat→Nat}{up:Nat→Int}{m:Nat}{W:World}{B p n gf:Nat}{g:Nat→Nat}{Z:Nat→List Int}{ov:Value}{ord:List Int}{vs:List Value}{FR:List (List Int)}{rd:Int}
 (hA:TreeAt W B p n g Z ov (.slice (some ⟨gf,0,none⟩) n n) ord vs FR rd)(hT:Means E M pl up m n (Z 0) (Z 1))(b:Nat)(Lb:List Int)(hvs:vs.length=n)(hb:b<n)(hMb:M b)(hb0:b≠0)(hbm:pl b≤m)(hm0:0<m)(hLb:∀ h:b<FR.length,FR[b]=Lb)(hin:∀ z∈Lb,∃q:Nat,z=(q:Int)∧M q∧E q b)(hall:∀ q,M q→E q b→(q:Int)∈Lb)(hle:∀ v,v<n→nth (Z 4) v≤rd)(hrd:0≤rd∧rd≤4611686018427387904)(hn:n≤1099511627776)(hLn:Lb.length≤n):
 Calls Tryz.prog 158 #[.pointer (some ⟨p,0,none⟩),.int .i64 (b:Int)] W fun e w'=>∃ (x:Nat) (PS:List Int),e=.returned (.int .i64 (x:Int))∧TreeAt w' B p n g (fun k=>if k=4 then PS else Z k) ov (.slice (some ⟨gf,0,none⟩) n n) ord vs FR (rd+1)∧Off (fun i=>i=p∨i=g 4) W w'∧Joint up (fun q=>M q∧E q b∧pl q<m) x∧∀ v,v<n→nth PS v≤rd+1:=by
 have HT:=Lib.hid hT
 have hfl:b<FR.length:=by rw[←hA.fr.len,hvs];exact hb
 have hvl:b<vs.length:=by rw[hvs];exact hb
 have hown:=hA.fr.own b hvl hfl
 rw[hLb hfl]at hown
 obtain⟨xa,xn,xc,hxv,hxn⟩:=hown.nums
 have hcf:W.cell? ⟨gf,b,none⟩=some (.slice xa xn xc):=by rw[←hxv];exact hA.fr.cell hvl
 have hxl:xn=Lb.length:=hxn.1.symm
 have HAP:RowKit.Hid (∀g0 off,xa=some ⟨g0,off,none⟩→¬ (g0=p∨g0=g 4)):=Lib.hid fun g0 off e=>by
  have hob:vs[b].ownBlock=some g0:=by rw[hxv,e];rfl
  rintro (h|h)
  ·obtain⟨cur,hc,_⟩:=ownsI_blk hown hob
   have h2:=hA.blk
   rw[h,h2]at hc
   simp at hc
  ·exact hA.frne 4 (by omega) b hvl (by rw[hob,h])
 have hgf:gf<W.heap.size:=World.block_lt_of_cell? (a:=⟨gf,b,none⟩) _ hcf
 have hgp:gf≠p:=fun e=>by
  obtain⟨cur,hc,_⟩:=ownsRow_blk hA.fr.row (i:=gf) rfl
  have h2:=hA.blk
  rw[e,h2]at hc
  simp at hc
 have c2:W.cell? ⟨p,2,none⟩=some (.slice (some ⟨gf,0,none⟩) n n):=by simp[World.cell?,hA.blk]
 have c7:W.cell? ⟨p,7,none⟩=some (.int .i64 rd):=by simp[World.cell?,hA.blk]
 have f7:W.frozen? ⟨p,7,none⟩=false:=by simp[World.frozen?,hA.blk]
 have hw7:wrap64 (rd+1)=rd+1:=by unfold wrap64;omega
 have HA:=Lib.hid hA
 have HXN:=Lib.hid hxn
 have HIN:=Lib.hid hin
 have HALL:=Lib.hid hall
 have HLE:=Lib.hid hle
 have HMB:=Lib.hid hMb
 have hbi:(b:Int)<(n:Int):=by omega
 have hbi0:(0:Int)≤(b:Int):=by omega
 clear hT hfl hvl hown hxv hxn hLb hin hall hle hA hMb
 go_enter Tryz.func158,Tryz.ntmps158
 go_wp2_with fail
 obtain⟨W1,hW1⟩:∃ W1,W.setCell ⟨p,7,none⟩ (.int .i64 (rd+1))=W1:=⟨_,rfl⟩
 have HS0:RowKit.Hid (JointSt W M pl up m B p n g Z ov (.slice (some ⟨gf,0,none⟩) n n) ord vs FR (rd+1) Lb 0 (-1) (Z 4) W1):=Lib.hid (by
  rw[←hW1]
  refine⟨?_,Off.setCell (X:=fun i=>i=p∨i=g 4) (p:=⟨p,7,none⟩) (Off.refl _ W) (.inl (.inl rfl)) _,fun v hv=>by have:=HLE.out v hv;omega,.inl ⟨by simp,rfl,fun v hv=>by have:=HLE.out v hv;omega⟩⟩
  have e:(fun k=>if k=4 then Z 4 else Z k)=Z:=funext fun k=>by split;rename_i h;rw[h];rfl
  rw[e]
  exact HA.out.turn (rd+1))
 rw[hW1]
 clear hW1 c2 c7 f7 hcf
 go_loopw[5,23] (fun v5 v23 wr=>∃ (i:Nat) (jv:Int) (PS:List Int),i≤xn∧v5=.int .i64 jv∧v23=.int .i64 (i:Int)∧RowKit.Hid (JointSt W M pl up m B p n g Z ov (.slice (some ⟨gf,0,none⟩) n n) ord vs FR (rd+1) Lb i jv PS wr)) (fun _ v23 _=>xn-(intOf v23).toNat)
 case atStart=>exact⟨0, -1,Z 4,Nat.zero_le _,rfl,rfl,HS0⟩
 case round=>
  obtain⟨i,jv,PS,hi,rfl,rfl,HI⟩:=hrel
  clear HS0
  obtain⟨wo,hwo⟩:∃ u,u=wr:=⟨_,rfl⟩
  rw[←hwo]at HI⊢
  clear hwo
  have hxn2:xn≤n:=by omega
  by_cases hlt:i<xn
  ·have HIL:RowKit.Hid (i<Lb.length):=Lib.hid (by omega)
   obtain⟨g0,off,rfl,hg0,hcs⟩:=HXN.out.2 (by omega)
   obtain⟨q,hq,hMq,hEq⟩:=HIN.out _ (List.getElem_mem HIL.out)
   have hcq:wo.cell? ⟨g0,off+i,none⟩=some (.int .i64 (q:Int)):=by
    have h1:=hcs i HIL.out
    rw[hq]at h1
    exact(HI.out.off.cell (p:=⟨g0,off+i,none⟩) hg0 (HAP.out g0 off rfl)).trans h1
   have hqn:q<n:=HT.out.lt q hMq
   have c3:wo.cell? ⟨p,3,none⟩=some (.slice (some ⟨g 1,0,none⟩) n n):=by simp[World.cell?,HI.out.at_.blk]
   have u1:wo.cell? ⟨g 1,q,none⟩=some (.int .i64 (up q)):=by
    have:=HI.out.at_.cell (i:=1) (by omega) hqn
    simpa [HT.out.above q hqn]using this
   have hqi:(q:Int)<(n:Int):=by omega
   have hqi0:(0:Int)≤(q:Int):=by omega
   have HQ:=Lib.hid hq
   have HMQ:=Lib.hid hMq
   clear hcs hg0 hq hMq hEq hqn
   have hw:wrap64 ((i:Int)+1)=(i:Int)+1:=by unfold wrap64;omega
   have HW:=Lib.hid hw
   clear hw
   by_cases hskip:q≠0∧up q<0
   ·have hq0:((q:Int) !=0)=true:=by rw[bne_iff_ne];have:=hskip.1;omega
    have hneg:=hskip.2
    have HSK:RowKit.Hid (¬pl q<m):=Lib.hid fun h=>by have:=(HT.out.tree.known q HMQ.out hskip.1).2 h;omega
    clear hskip
    go_wp2_with fail
    go_roundw
    case rel=>exact⟨i+1,jv,PS,hlt,rfl,by go_num,Lib.hid (HI.out.skip HIL.out HQ.out HSK.out)⟩
    case measure=>simp[intOf];omega
   ·have HQM:RowKit.Hid (pl q<m):=Lib.hid (by
     by_cases h0:q=0
     ·rw[(HT.out.rpo.pl0 q HMQ.out).2 h0];exact hm0
     ·exact(HT.out.tree.known q HMQ.out h0).1 (by omega))
    by_cases hjn:jv<0
    ·have HJN:=Lib.hid hjn
     by_cases h0:q=0
     ·subst h0
      clear hskip
      go_wp2_with fail
      go_roundw
      case rel=>exact⟨i+1,0,PS,hlt,rfl,by go_num,Lib.hid (HI.out.first HIL.out HQ.out HQM.out HMQ.out HJN.out)⟩
      case measure=>simp[intOf];omega
     ·have hq0:((q:Int) !=0)=true:=by rw[bne_iff_ne];omega
      have hnn:¬ up q<0:=fun h=>hskip ⟨h0,h⟩
      clear hskip
      go_wp2_with fail
      go_roundw
      case rel=>exact⟨i+1,_,PS,hlt,rfl,by go_num,Lib.hid (HI.out.first HIL.out HQ.out HQM.out HMQ.out HJN.out)⟩
      case measure=>simp[intOf];omega
    ·obtain⟨x,hx,hJx,hMx,hxm,hpx⟩:∃ x:Nat,jv=(x:Int)∧Joint up (fun q=>(q:Int)∈Lb.take i∧pl q<m) x∧M x∧pl x<m∧∀ v,v<n→nth PS v=rd+1→On up v x:=by
      rcases HI.out.st with⟨_,h2,_⟩|h
      ·omega
      ·exact h
     subst hx
     have CM:=Lib.hid (meet_any HI.out.at_ (E:=E) (M:=M) (pl:=pl) (up:=up) (m:=m) ⟨HT.out.tree,HT.out.rpo,HT.out.lt,HT.out.place,HT.out.above⟩ x q hMx HMQ.out hxm HQM.out hpx hn)
     clear hJx hMx hxm hpx
     by_cases h0:q=0
     ·subst h0
      clear hskip
      go_wp2_with(go_at_call 166;refine CM.out.mono ?_;rintro e w5 ⟨y,PS2,rfl,ha,ho,hf,hp,hl⟩;have HN:=Lib.hid (HI.out.more HIL.out HQ.out HQM.out rfl HT.out.tree.lt ha ho hf hp (hl HI.out.le));clear ha ho hf hp hl)
      go_roundw
      case rel=>exact⟨i+1,_,PS2,hlt,rfl,by go_num,HN⟩
      case measure=>simp[intOf];omega
     ·have hq0:((q:Int) !=0)=true:=by rw[bne_iff_ne];omega
      have hnn:¬ up q<0:=fun h=>hskip ⟨h0,h⟩
      clear hskip
      go_wp2_with(go_at_call 166;refine CM.out.mono ?_;rintro e w5 ⟨y,PS2,rfl,ha,ho,hf,hp,hl⟩;have HN:=Lib.hid (HI.out.more HIL.out HQ.out HQM.out rfl HT.out.tree.lt ha ho hf hp (hl HI.out.le));clear ha ho hf hp hl)
      go_roundw
      case rel=>exact⟨i+1,_,PS2,hlt,rfl,by go_num,HN⟩
      case measure=>simp[intOf];omega
  ·obtain rfl:i=xn:=by omega
   obtain⟨x,hx,hJx,_⟩:∃ x:Nat,jv=(x:Int)∧Joint up (fun q=>(q:Int)∈Lb.take i∧pl q<m) x∧True:=by
    rcases HI.out.st with⟨h1,_,_⟩|⟨x,h1,h2,_⟩
    ·obtain⟨u,hu,he,hl⟩:=HT.out.rpo.fwd b HMB.out hb0
     exact absurd ⟨by rw[List.take_of_length_le (by omega)];exact HALL.out u hu he,by omega⟩ (h1 u)
    ·exact⟨x,h1,h2,trivial⟩
   subst hx
   have HJ:RowKit.Hid (Joint up (fun q=>M q∧E q b∧pl q<m) x):=Lib.hid (joint_same hJx fun q=>by
    rw[List.take_of_length_le (by omega)]
    constructor
    ·rintro ⟨h1,h2,h3⟩;exact⟨HALL.out q h1 h2,h3⟩
    ·rintro ⟨h1,h2⟩
     obtain⟨q',e,h3,h4⟩:=HIN.out _ h1
     have:q'=q:=by omega
     subst this
     exact⟨h3,h4,h2⟩)
   clear hJx
   go_wp2_with fail
   go_ret
   exact⟨x,PS,rfl,HI.out.at_,HI.out.off,HJ.out,HI.out.le⟩
end Go.Proofs.YtikoklagffbgiaaGreatDoor

namespace Go.Proofs.YtikoklagffbgiaaGreatDoor
set_option linter.unusedSimpArgs false
set_option linter.unusedVariables false
open Go.RowKit (wrap64 intOf Below Hid)
open Go.Lib (hid)
def ZU(Z:Nat→List Int)(UP PS:List Int):Nat→List Int:=fun k=>if k=1 then UP else if k=4 then PS else Z k
theorem ZU_pass(Z:Nat→List Int)(UP PS PS2:List Int):(fun k=>if k=4 then PS2 else ZU Z UP PS k)=ZU Z UP PS2:=by
 funext k
 unfold ZU
 by_cases h4:k=4
 ·subst h4;simp
 ·simp[h4]
theorem ZU_up(Z:Nat→List Int)(UP UP2 PS:List Int):(fun k=>if k=1 then UP2 else ZU Z UP PS k)=ZU Z UP2 PS:=by
 funext k
 unfold ZU
 by_cases h1:k=1
 ·simp[h1]
 ·simp[h1]
theorem ZU_same(Z:Nat→List Int):ZU Z (Z 1) (Z 4)=Z:=by
 funext k
 unfold ZU
 by_cases h1:k=1
 ·subst h1;simp
 ·by_cases h4:k=4
  ·subst h4;simp
  ·simp[h1,h4]
structure Given(E:Nat→Nat→Prop)(M:Nat→Prop)(pl:Nat→Nat)(n K:Nat)(ord:List Int)(PL:List Int)(FR:List (List Int)):Prop where
 rpo:Rpo E M pl
 lt:∀ v,M v→v<n
 plK:∀ v,M v→pl v<K
 olen:ord.length=K
 K0:0<K
 Kn:K≤n
 ordAt:∀ i (h:i<ord.length),∃v:Nat,ord[i]=(v:Int)∧M v∧pl v=i
 place:∀ v,M v→nth PL v=(pl v:Int)
 from_:∀ b (h:b<FR.length),M b→(∀z∈FR[b],∃q:Nat,z=(q:Int)∧M q∧E q b)∧(∀q,M q→E q b→(q:Int)∈FR[b])∧FR[b].length≤n
structure SetSt(W0:World)(B p n:Nat)(g:Nat→Nat)(Z:Nat→List Int)(ov fv:Value)(ord:List Int)(vs:List Value)(FR:List (List Int))(UP PS:List Int)(r:Nat)(W:World):Prop where
 at_:TreeAt W B p n g (ZU Z UP PS) ov fv ord vs FR (r:Int)
 off:Off (fun i=>i=p∨i=g 1∨i=g 4) W0 W
 le:∀ v,v<n→nth PS v≤(r:Int)
structure Settled(E:Nat→Nat→Prop)(M:Nat→Prop)(pl:Nat→Nat)(n:Nat)(UP:List Int)(m:Nat):Prop where
 tree:Tree E M pl (upOf n UP) m
 all:∀ v,M v→pl v<m
 fix:∀ v c:Nat,M v→upOf n UP v=(c:Int)→∀ p,M p→E p v→On (upOf n UP) p c
def SettlePost(E:Nat→Nat→Prop)(M:Nat→Prop)(pl:Nat→Nat)(W:World)(B p n:Nat)(g:Nat→Nat)(Z:Nat→List Int)(ov fv:Value)(ord:List Int)(vs:List Value)(FR:List (List Int))(e:Ending)(w':World):Prop:=
 e=.returned (.tuple #[])∧∃ (UP PS:List Int) (r m:Nat),SetSt W B p n g Z ov fv ord vs FR UP PS r w'∧Settled E M pl n UP m∧r≤1000010000100000
set_option maxRecDepth 100000 in
set_option maxHeartbeats 4000000 in
theorem settle_any{E:Nat→Nat→Prop}{M:Nat→Prop}{pl:Nat→Nat}{W:World}{B p n K gf:Nat}{g:Nat→Nat}{Z:Nat→List Int}{ov:Value}{ord:List Int}{vs:List Value}{FR:List (List Int)}
 (hA:TreeAt W B p n g Z ov (.slice (some ⟨gf,0,none⟩) n n) ord vs FR 0)(hG:Given E M pl n K ord (Z 0) FR)(hvs:vs.length=n)(hZ1:Z 1=List.replicate n (-1))(hle:∀ v,v<n→nth (Z 4) v≤0)(hn:n≤100000):
 Calls Tryz.prog 141 #[.pointer (some ⟨p,0,none⟩)] W (SettlePost E M pl W B p n g Z ov (.slice (some ⟨gf,0,none⟩) n n) ord vs FR):=by
 have HG:=hid hG
 have hup0:upOf n (Z 1)=fun _=> -1:=funext fun v=>by
  unfold upOf
  split
  ·rename_i h;rw[hZ1,nth_is (by simpa using h)];simp
  ·rfl
 have hn0:0<n:=by have:=hG.K0;have:=hG.Kn;omega
 obtain⟨oa,on,oc,rfl,hon⟩:=hA.ord.nums
 have HON:=hid hon
 have HOL:Hid (on=K):=hid (hon.1.symm.trans hG.olen)
 have honn:on≤n:=by have:=HOL.out;have:=hG.Kn;omega
 have hbd:(n*(n+1)+1)*n≤1000010000100000:=by
  have h1:n*(n+1)≤100000*100001:=Nat.mul_le_mul hn (by omega)
  have h2:(n*(n+1)+1)*n≤(100000*100001+1)*100000:=Nat.mul_le_mul (by omega) hn
  omega
 have HBD:=hid hbd
 have HS0:Hid (SetSt W B p n g Z (.slice oa on oc) (.slice (some ⟨gf,0,none⟩) n n) ord vs FR (Z 1) (Z 4) 0 W∧(Z 1).length=n∧Tree E M pl (upOf n (Z 1)) 1∧Pass E M pl (upOf n (Z 1)) 0 1∧(1:Nat)≤K∧1≤1∧(true=false→Settled E M pl n (Z 1) 1)∧weigh n pl (Z 1)+1=(if true=true then weigh n pl (Z 1)+1 else 0)∧0+(weigh n pl (Z 1)+1)*n≤1000010000100000):=hid ⟨⟨by rw[ZU_same];exact hA,Off.refl _ _,fun v hv=>by have:=hle v hv;omega⟩,by rw[hZ1];simp,by rw[hup0];exact Tree.start hG.rpo,by rw[hup0];exact Pass.start,hG.K0,Nat.le_refl _,(fun h=>nomatch h),rfl,by
  have h1:=weigh_le n pl (Z 1)
  have h2:(weigh n pl (Z 1)+1)*n≤(n*(n+1)+1)*n:=Nat.mul_le_mul_right _ (by omega)
  omega⟩
 clear hA hle hZ1 hup0 hon hbd hG
 go_enter Tryz.func141,Tryz.ntmps141
 go_wp2_with fail
 go_loopg [2] (weigh n pl (Z 1)+1) (fun gk v2 wr=>∃ (UP PS:List Int) (r m:Nat) (ch:Bool),v2=.bool ch∧Hid (SetSt W B p n g Z (.slice oa on oc) (.slice (some ⟨gf,0,none⟩) n n) ord vs FR UP PS r wr∧UP.length=n∧Tree E M pl (upOf n UP) m∧Pass E M pl (upOf n UP) 0 m∧m≤K∧1≤m∧(ch=false→Settled E M pl n UP m)∧gk=(if ch=true then weigh n pl UP+1 else 0)∧r+gk*n≤1000010000100000))
 case atStart=>exact⟨Z 1,Z 4,0,1,true,rfl,HS0⟩
 case round=>
  obtain⟨UP,PS,r,m,ch,rfl,HI⟩:=hrel
  clear HS0
  obtain⟨wo,hwo⟩:∃ u,u=wr:=⟨_,rfl⟩
  rw[←hwo]at HI⊢
  clear hwo
  cases ch with
  |false=>
   go_wp2_with fail
   go_end0
   exact⟨rfl,UP,PS,r,m,HI.out.1,HI.out.2.2.2.2.2.2.1 (by simp),by have:=HI.out.2.2.2.2.2.2.2.2;omega⟩
  |true=>
   have hgk:gk=weigh n pl UP+1:=by have:=HI.out.2.2.2.2.2.2.2.1;simpa using this
   have hrb:r+gk*n≤1000010000100000:=HI.out.2.2.2.2.2.2.2.2
   have hrb2:r+(weigh n pl UP*n+n)≤1000010000100000:=by rw[hgk,Nat.succ_mul]at hrb;exact hrb
   have HRB:=hid hrb2
   have HGK:=hid hgk
   have HST:=hid HI.out.1
   have HPS:Hid (PassSt E M pl n K UP UP m 0 false):=hid (PassSt.begin HI.out.2.1 HI.out.2.2.1 HI.out.2.2.2.1 HI.out.2.2.2.2.1 HI.out.2.2.2.2.2.1)
   have c0:wo.cell? ⟨p,0,none⟩=some (.slice oa on oc):=by simp[World.cell?,HI.out.1.at_.blk]
   have HOW:Hid (NumsAt wo oa on ord):=hid HI.out.1.at_.ord.read
   have HON2:Hid (∀g0 off,oa=some ⟨g0,off,none⟩→¬ (g0=p∨g0=g 1∨g0=g 4)):=hid fun g0 off e=>by
    have hob:(Value.slice oa on oc).ownBlock=some g0:=by rw[e];rfl
    rintro (h|h|h)
    ·obtain⟨cur,hc,_⟩:=ownsI_blk HI.out.1.at_.ord hob
     have h2:=HI.out.1.at_.blk
     rw[h,h2]at hc
     simp at hc
    ·exact HI.out.1.at_.ordne 1 (by omega) (by rw[hob,h])
    ·exact HI.out.1.at_.ordne 4 (by omega) (by rw[hob,h])
   have HOF0:Hid (Off (fun i=>i=p∨i=g 1∨i=g 4) W wo):=hid HI.out.1.off
   clear HI hgk hrb hrb2
   go_wp2_with fail
   clear c0
   go_loopw[2,12] (fun v2 v12 wr=>∃ (i:Nat) (UQ PQ:List Int) (s mi:Nat) (ch:Bool),i≤on∧v2=.bool ch∧v12=.int .i64 (i:Int)∧Hid (SetSt wo B p n g Z (.slice oa on oc) (.slice (some ⟨gf,0,none⟩) n n) ord vs FR UQ PQ s wr∧PassSt E M pl n K UP UQ mi i ch∧s≤r+i)) (fun _ v12 _=>on-(intOf v12).toNat)
   case atStart=>exact⟨0,UP,PS,r,m,false,Nat.zero_le _,rfl,rfl,hid ⟨⟨HST.out.at_,Off.refl _ _,HST.out.le⟩,HPS.out,Nat.le_refl _⟩⟩
   case round=>
    obtain⟨i,UQ,PQ,s,mi,ch,hi,rfl,rfl,HJ⟩:=hrel
    clear HST HPS
    obtain⟨wq,hwq⟩:∃ u,u=wr:=⟨_,rfl⟩
    rw[←hwq]at HJ⊢
    clear hwq
    by_cases hlt:i<on
    ·have HIL:Hid (i<ord.length):=hid (by have:=HG.out.olen;have:=HOL.out;omega)
     obtain⟨b,hb,hMb,hpb⟩:=HG.out.ordAt i HIL.out
     obtain⟨g0,off,rfl,hg0,hcs⟩:=HOW.out.2 (by omega)
     have hcb:wq.cell? ⟨g0,off+i,none⟩=some (.int .i64 (b:Int)):=by
      have h1:=hcs i HIL.out
      rw[hb]at h1
      exact(HJ.out.1.off.cell (p:=⟨g0,off+i,none⟩) hg0 (HON2.out g0 off rfl)).trans h1
     have hbn:b<n:=HG.out.lt b hMb
     have HMB:=hid hMb
     have HPB:=hid hpb
     clear hcs hg0 hb hMb hpb
     by_cases hb0:b=0
     ·subst hb0
      have hi0:i=0:=by rw[←HPB.out];exact(HG.out.rpo.pl0 0 HMB.out).2 rfl
      have HI0:=hid hi0
      clear hi0
      go_wp2_with fail
      go_roundw
      case rel=>exact⟨i+1,UQ,PQ,s,mi,ch,hlt,rfl,by go_num,hid ⟨HJ.out.1,by have h:=HJ.out.2.1;rw[HI0.out]at h ⊢;exact h.zero HG.out.rpo,by have:=HJ.out.2.2;omega⟩⟩
      case measure=>simp[intOf];omega
     ·have hbb:((b:Int)==0)=false:=by rw[beq_eq_false_iff_ne];omega
      have HB0:=hid hb0
      have hsb:(s:Int)≤4611686018427387904:=by have:=HJ.out.2.2;have:=HRB.out;have:=HG.out.Kn;omega
      have CJ:=hid (joint_any HJ.out.1.at_ (E:=E) (M:=M) (pl:=pl) (up:=upOf n UQ) (m:=mi) ⟨HJ.out.2.1.tree,HG.out.rpo,HG.out.lt,HG.out.place,fun v hv=>(upOf_lt hv).symm⟩ b (FR[b]'(by rw[←HJ.out.1.at_.fr.len,hvs];exact hbn)) hvs hbn HMB.out hb0 (by rw[HPB.out];exact HJ.out.2.1.im) HJ.out.2.1.m1 (fun _=>rfl) (HG.out.from_ b _ HMB.out).1 (HG.out.from_ b _ HMB.out).2.1 (by intro v hv;exact HJ.out.1.le v hv) ⟨by omega,hsb⟩ (by omega) (HG.out.from_ b _ HMB.out).2.2)
      have hbi:(b:Int)<(n:Int):=by omega
      have hbi0:(0:Int)≤(b:Int):=by omega
      clear hb0
      have hwl:weigh n pl UQ≤weigh n pl UP:=by
       cases ch with
       |false=>rw[(HJ.out.2.1.same rfl).1];exact Nat.le_refl _
       |true=>exact Nat.le_of_lt (HJ.out.2.1.less rfl)
      have HWL:=hid hwl
      clear hwl
      go_upto_region 8 with(go_at_call 158;refine CJ.out.mono ?_;rintro e w5 ⟨x,PS2,rfl,ha,ho,hj,hl⟩;rw[ZU_pass]at ha;have e3:w5.cell? ⟨p,3,none⟩=some (.slice (some ⟨g 1,0,none⟩) n n):=(by simp[World.cell?,ha.blk]);have e1:w5.cell? ⟨g 1,b,none⟩=some (.int .i64 (nth UQ b)):=(by have h:=ha.cell (i:=1) (by omega) hbn;simpa [ZU]using h);have ef:w5.frozen? ⟨g 1,b,none⟩=false:=ha.free (by omega) b;have HA5:=hid ha;have HO5:=hid ho;have HJ5:=hid hj;have HL5:=hid hl;clear ha ho hj hl)
      by_cases hx:nth UQ b=(x:Int)
      ·have hxb:((x:Int) !=nth UQ b)=false:=by rw[hx];simp
       have HX:=hid hx
       clear hx
       go_wp2_with fail
       go_roundw
       case rel=>exact⟨i+1,UQ,PS2,s+1,mi,ch,hlt,rfl,by go_num,hid ⟨⟨HA5.out,HJ.out.1.off.trans (HO5.out.mono fun k _ hk=>by rcases hk with h|h;exact .inl h;exact .inr (.inr h)),HL5.out⟩,HJ.out.2.1.stay HG.out.rpo HMB.out HB0.out hbn HPB.out (by have:=HOL.out;omega) HJ5.out HX.out,by have:=HJ.out.2.2;omega⟩⟩
       case measure=>simp[intOf];omega
      ·have hxb:((x:Int) !=nth UQ b)=true:=by rw[bne_iff_ne];exact fun e=>hx e.symm
       have HX:=hid hx
       clear hx
       go_wp2_with fail
       go_roundw
       case rel=>
        refine⟨i+1,UQ.set b (x:Int),PS2,s+1,max mi (i+1),true,hlt,rfl,by go_num,hid ⟨⟨?_,(HJ.out.1.off.trans (HO5.out.mono fun k _ hk=>by rcases hk with h|h;exact .inl h;exact .inr (.inr h))).setCell (.inl (.inr (.inl rfl))) _,HL5.out⟩,HJ.out.2.1.move HG.out.rpo HG.out.Kn HG.out.plK HWL.out HMB.out HB0.out hbn HPB.out (by have:=HOL.out;omega) HJ5.out HX.out,by have:=HJ.out.2.2;omega⟩⟩
        have h:=HA5.out.put (i:=1) (by omega) b (x:Int)
        rw[ZU_up]at h
        exact h
       case measure=>simp[intOf];omega
    ·obtain rfl:i=on:=by omega
     have hplK:∀ v,M v→pl v<i:=fun v hv=>by have:=HG.out.plK v hv;have:=HOL.out;omega
     have HEND:Hid ((ch=false→Settled E M pl n UQ mi)∧Pass E M pl (upOf n UQ) 0 mi):=hid ⟨fun hc=>by
      have h:=HJ.out.2.1
      rw[hc,HOL.out]at h
      have h2:=h.fixed HG.out.plK
      exact⟨h.tree,h2.1,h2.2⟩,HJ.out.2.1.pass.again hplK⟩
     have HMS:Hid ((if ch=true then weigh n pl UQ+1 else 0)<gk∧s+(if ch=true then weigh n pl UQ+1 else 0)*n≤1000010000100000):=hid (by
      have h1:=HGK.out
      have h2:=HRB.out
      have h3:=HJ.out.2.2
      cases ch with
      |false=>simp;omega
      |true=>
       have h4:=HJ.out.2.1.less rfl
       have h5:(weigh n pl UQ+1)*n≤weigh n pl UP*n:=Nat.mul_le_mul_right _ (by omega)
       simp only[if_true]
       omega)
     go_wp2_with fail
     go_roundg (if ch=true then weigh n pl UQ+1 else 0)
     case rel=>exact⟨UQ,PQ,s,mi,ch,rfl,hid ⟨⟨HJ.out.1.at_,HOF0.out.trans HJ.out.1.off,HJ.out.1.le⟩,HJ.out.2.1.len,HJ.out.2.1.tree,HEND.out.2,HJ.out.2.1.mK,HJ.out.2.1.m1,HEND.out.1,rfl,HMS.out.2⟩⟩
     all_goals exact HMS.out.1
end Go.Proofs.YtikoklagffbgiaaGreatDoor

namespace Go.Proofs.YtikoklagffbgiaaGreatDoor
set_option linter.unusedSimpArgs false
set_option linter.unusedVariables false
open Go.RowKit
attribute [local go_sem] Oper.semAt_some
open Go.Lib (hid)
def ddn(n q:Nat):List Nat:=(List.range q).map fun j=>n-1-j
theorem ddn_more(n q:Nat):ddn n (q+1)=ddn n q++ [n-1-q]:=by unfold ddn;rw[List.range_succ,List.map_append];rfl
theorem ddn_len(n q:Nat):(ddn n q).length=q:=by simp[ddn]
structure KeptN(b:Nat)(a:Option Addr)(n:Nat)(L:List Int)(W W':World):Prop where
 walks:KeepsWalks W W'
 box:W'.cell? ⟨b,0,none⟩=W.cell? ⟨b,0,none⟩
 nums:NumsAt W a n L→NumsAt W' a n L
theorem KeptN.refl(b:Nat)(a:Option Addr)(n:Nat)(L:List Int)(W:World):KeptN b a n L W W:=⟨KeepsWalks.refl W,rfl,id⟩
theorem KeptN.trans{b:Nat}{a:Option Addr}{n:Nat}{L:List Int}{A B C:World}(h:KeptN b a n L A B)(k:KeptN b a n L B C):KeptN b a n L A C:=⟨h.walks.trans k.walks,k.box.trans h.box,fun x=>k.nums (h.nums x)⟩
theorem cells_other{W:World}{l k:Nat}{o o':Obj}{x:Value}{j:Nat}(ho:W.heap[l]? =some o)(hc:o.isCells=false)(h:W.cell? ⟨k,j,none⟩=some x):k≠l:=fun e=>by
 subst e
 simp only[World.cell?,ho]at h
 cases o<;>simp_all[Obj.isCells]
theorem keptN_putObj{b n0:Nat}{a:Option Addr}{n:Nat}{L:List Int}(h1:b<n0)(W:World)(l:Nat)(o o':Obj)(hl:n0≤l)(ho:W.heap[l]? =some o)(hc:o.isCells=false)(hw:o.isWalk=false):KeptN b a n L W (W.putObj l o'):=
 ⟨KeepsWalks.putObj _ ho hw,by simp only[World.cell?,World.putObj_heap_other (show b≠l by omega)],fun h=>⟨h.1,fun h0=>by
  obtain⟨g,off,e,hg,hcs⟩:=h.2 h0
  have hne:g≠l:=cells_other (o':=o') ho hc (hcs 0 (by have:=h.1;omega))
  refine⟨g,off,e,by simpa using hg,fun j hj=> ?_⟩
  rw[←hcs j hj]
  simp only[World.cell?,World.putObj_heap_other hne]⟩⟩
theorem backward_any(a:Option Addr)(n c:Nat)(w:World):
 Calls Tryz.prog 159 #[.slice a n c] w fun e w'=>e=.returned (.func (.func 167) #[] #[.pointer (some ⟨w.heap.size,0,none⟩)])∧w'=w.alloc (.cells #[.slice a n c] 40):=by
 go_enter Tryz.func159,Tryz.ntmps159
 go_wp2_with fail
 go_ret
 exact⟨rfl,rfl⟩
set_option maxRecDepth 100000 in
set_option maxHeartbeats 2000000 in
theorem bw_stops(a:Option Addr)(n c:Nat)(L:List Int)(b m:Nat)(w:World)(hb:w.cell? ⟨b,0,none⟩=some (.slice a n c))(hL:NumsAt w a n L)(hn:n≤1099511627776):
 SeqStopsK Fence.wide m Tryz.prog 167 #[.pointer (some ⟨b,0,none⟩)] (fun i:Nat=>#[.int .i64 (i:Int),.int .i64 (nth L i)]) (KeptN b a n L) (fun xs=>xs=ddn n n) (fun pre=>∃ q,pre=ddn n q) n w:=by
 intro l J Jx W hW hJ hJx hY h0
 have hlt:b<w.heap.size:=World.block_lt_of_cell? (a:=⟨b,0,none⟩) _ hb
 have HB:Hid (∀u,KeptN b a n L W u→u.cell? ⟨b,0,none⟩=some (.slice a n c)∧NumsAt u a n L):=hid fun u hu=>⟨hu.box.trans ((hW.cell (p:=⟨b,0,none⟩) hlt).trans hb),hu.nums (hL.since hW)⟩
 have c0:=(HB.out W (KeptN.refl b a n L W)).1
 have HL:=hid hL.1
 have HY:=hid hY
 have HJ0:Hid (J (ddn n 0) W∧KeptN b a n L W W):=hid ⟨h0,KeptN.refl b a n L W⟩
 have hwn:wrap64 ((n:Int)-1)=(n:Int)-1:=by unfold wrap64;omega
 clear hb hlt hW hJ hJx hY h0 hL
 refine callsIn_of_wp Tryz.func167 rfl trivial ?_ rfl
 simp only[Tryz.ntmps167,List.size_toArray,List.length_cons,List.length_nil,Nat.reduceAdd,Nat.reduceSub,Array.replicate_succ,Array.replicate_zero,List.push_toArray,List.append_toArray,List.nil_append,List.cons_append]
 gi_wp2
 clear c0
 gi_loopw [3] (fun v3 wr=>∃ q:Nat,q≤n∧v3=.int .i64 ((n:Int)-1-q)∧Hid (J (ddn n q) wr∧KeptN b a n L W wr)) (fun v3 _=>(intOf v3+1).toNat)
 case atStart=>exact⟨0,by omega,by simp,HJ0⟩
 case round=>
  obtain⟨q,hq,rfl,HI⟩:=hrel
  clear HJ0
  obtain⟨wo,hwo⟩:∃ u,u=wr:=⟨_,rfl⟩
  rw[←hwo]at HI⊢
  clear hwo
  by_cases hlt:q<n
  ·obtain⟨i,hi⟩:∃ i:Nat,i=n-1-q:=⟨_,rfl⟩
   have hiI:(n:Int)-1-q=(i:Int):=by omega
   have hin:(i:Int)<(n:Int):=by omega
   have hi0:(0:Int)≤(i:Int):=by omega
   have hbx:=(HB.out wo HI.out.2).1
   obtain⟨g,off,hae,hg,hcs⟩:=(HB.out wo HI.out.2).2.2 (by omega)
   subst hae
   have hil:i<L.length:=by rw[HL.out];omega
   have hcell:wo.cell? ⟨g,off+i,none⟩=some (.int .i64 (nth L i)):=by rw[nth_is hil];exact hcs i hil
   obtain⟨fn,tmps,assign,body,hy,hR⟩:=HY.out (ddn n q) i wo HI.out.1 (by rw[ddn_len];exact hlt)
   have HDN:Hid (ddn n (q+1)=ddn n q++ [i]):=hid (by rw[ddn_more,hi])
   have hwi:wrap64 ((i:Int)-1)=(i:Int)-1:=by unfold wrap64;omega
   have HII:=hid hiI
   clear hcs hg hi hil
   rw[hiI]
   clear hiI
   gi_wp2
   refine⟨(fun h=>(nomatch h)),hR.mono ?_⟩
   rintro e W3 (⟨rfl,hJ3,hk3⟩|⟨rfl,hJx3⟩)
   ·have HN3:Hid (J (ddn n (q+1)) W3∧KeptN b (some ⟨g,off,none⟩) n L W W3):=hid ⟨by rw[HDN.out];exact hJ3,HI.out.2.trans hk3⟩
    clear hJ3 hk3 hy hR
    gi_wp2
    go_roundw
    case rel=>exact⟨q+1,hlt,by have:=HII.out;congr 1<;>omega,HN3⟩
    case measure=>have:=HII.out;simp[intOf]<;>omega
   ·gi_wp2
    refine bodyPost_ret (results_none rfl _ _ _) rfl ?_
    exact⟨⟨_,rfl⟩,.inr ⟨_,⟨q+1,rfl⟩,by rw[HDN.out];exact hJx3⟩⟩
  ·obtain rfl:q=n:=by omega
   have hneg:(q:Int)-1-q= -1:=by omega
   rw[hneg]
   gi_wp2
   go_end0
   exact⟨⟨_,rfl⟩,.inl ⟨_,rfl,HI.out.1⟩⟩
theorem RnSt.start{w w1:World}{K A B C N':Int}{S':ByteArray}{T':Bool}{va:Option Addr}{vn vc:Nat}{ma:Option Addr}{m mc:Nat}{L':List Int}{t t' u0 u1 u2:TypeId}{O:Array Value}
 (hown:OwnsI w1 (w.heap.size+3) 3 (.slice va vn vc) L')(hb:Below (w.heap.size+3) (((w.alloc (.cells O u0)).alloc (.cells #[.slice ma m mc] u1)).alloc (.cells #[.int .i64 0,.int .i64 0,.int .i64 0,.int .i64 0,.int .i64 0,.string ⟨#[]⟩,.slice none 0 0,.bool false] u2)) w1):
 RnSt w ((w1.alloc (.cells #[.int .i64 K,.int .i64 A,.int .i64 B,.int .i64 C,.int .i64 N',.string S',.slice va vn vc,.bool T'] t)).alloc (.cells #[.pointer (some ⟨w1.heap.size,0,none⟩)] t')) w1.heap.size K A B C N' S' T' va vn vc ma m mc L':=by
 have hz:w.heap.size+3≤w1.heap.size:=by have:=hb.size;simp at this;omega
 have hB2:Below w1.heap.size w1 ((w1.alloc (.cells #[.int .i64 K,.int .i64 A,.int .i64 B,.int .i64 C,.int .i64 N',.string S',.slice va vn vc,.bool T'] t)).alloc (.cells #[.pointer (some ⟨w1.heap.size,0,none⟩)] t')):=((Below.refl w1.heap.size w1).alloc (Nat.le_refl _) _).alloc (by simp) _
 refine⟨(Box.new w1 _ t rfl).alloc (by simp) _, ?_, ?_,hown.below hB2, ?_,by simp,hz,fun k hk=>(hown.lt k hk).2⟩
 ·exact((Box.new _ _ u2 (by simp)).below hb (by omega)).below hB2 (by omega)
 ·exact(((Box.new _ _ u1 (by simp)).alloc (by simp) _).below hb (by omega)).below hB2 (by omega)
 ·exact(((((Below.refl w.heap.size w).alloc (Nat.le_refl _) _).alloc (by simp) _).alloc (by simp<;>omega) _).trans (hb.mono (by omega))).trans (hB2.mono (by omega))
theorem RnAt.of{w W:World}{b g:Nat}{K A B C N':Int}{S':ByteArray}{T':Bool}{va:Option Addr}{vn vc:Nat}{ma:Option Addr}{m mc:Nat}{L':List Int}(hs:RnSt w W b K A B C N' S' T' va vn vc ma m mc L')(hva:0<vn→va=some ⟨g,0,none⟩)
 (h65:hasB K 65=false→A=0)(h66:hasB K 66=false→B=0)(h67:hasB K 67=false→C=0):RnAt w W b g K N' S' T' va vn vc ma m mc (valF b g 0 vn K A B C L'):=by
 refine⟨⟨A,B,C,L',hs,h65,h66,h67⟩,fun i=>pairs_cells hs.own.read.1 hva hs.box.1 hs.own.read _ (pair_mem i),fun i=> ?_⟩
 rcases placeF_cases i with⟨e,_⟩|⟨e,_⟩|⟨e,_⟩|⟨j,hj,e,_⟩
 ·rw[e];exact hs.box.2 1
 ·rw[e];exact hs.box.2 2
 ·rw[e];exact hs.box.2 3
 ·rw[e]
  obtain rfl:=hva (by omega)
  rcases hs.own.2 with⟨he,_⟩|⟨g',cap,cur,he,_,hgb,_⟩
  ·cases he
  ·cases he
   simp only[World.frozen?,hgb]
   rfl
theorem OwnsI.belowAt{W W':World}{B B':Nat}{e:TypeId}{v:Value}{Z:List Int}(h:OwnsI W B e v Z)(hb:Below B' W W')(hk:∀ k,v.ownBlock=some k→k<B'):OwnsI W' B e v Z:=by
 refine⟨h.1, ?_⟩
 rcases h.2 with hn|⟨g,cap,cur,rfl,hB,hg,rest⟩
 ·exact .inl hn
 ·refine .inr ⟨g,cap,cur,rfl,hB, ?_,rest⟩
  rw[hb.block g (hk g rfl)]
  exact hg
theorem RnSt.below{w W W':World}{b:Nat}{K X1 X2 X3 N':Int}{S':ByteArray}{T':Bool}{va:Option Addr}{vn vc:Nat}{ma:Option Addr}{m mc:Nat}{Z:List Int}(h:RnSt w W b K X1 X2 X3 N' S' T' va vn vc ma m mc Z)(hb:Below (b+2) W W'):RnSt w W' b K X1 X2 X3 N' S' T' va vn vc ma m mc Z:=
 have hlo:=h.lo
 ⟨h.box.below hb (by omega),h.res.below hb (by omega),h.to_.below hb (by omega),h.own.belowAt hb (fun k hk=>by have:=h.hg k hk;omega),h.bel.trans (hb.mono (by omega)),Nat.le_trans h.siz hb.size,h.lo,h.hg⟩
theorem RnAt.grown{w W W':World}{b g:Nat}{K N':Int}{S':ByteArray}{T':Bool}{va:Option Addr}{vn vc:Nat}{ma:Option Addr}{m mc:Nat}{cur:Fin (placesL b g 0 vn K).length→Int}{row:Option Nat}(h:RnAt w W b g K N' S' T' va vn vc ma m mc cur)
 (hva:0<vn→va=some ⟨g,0,none⟩)(hg:W.grownBy W' row)(hr:∀ r,row=some r→b+2≤r∧∃ o:Obj,W.heap[r]? =some o∧o.isCells=false):RnAt w W' b g K N' S' T' va vn vc ma m mc cur:=by
 obtain⟨⟨X1,X2,X3,Z,hs,e⟩,hc,hf⟩:=h
 have hb:Below (b+2) W W':=Below.grown (Below.refl _ W) hg hs.siz (fun k e=>(hr k e).1)
 have hlt:∀ i,(placeF b g 0 vn K i).block<b+2:=fun i=>by
  rcases placeF_cases i with⟨e,_⟩|⟨e,_⟩|⟨e,_⟩|⟨j,hj,e,_⟩
  ·rw[e];show b<b+2;omega
  ·rw[e];show b<b+2;omega
  ·rw[e];show b<b+2;omega
  ·have:=hs.hg g (by rw[hva (by omega)];rfl)
   rw[e];show g<b+2;omega
 exact⟨⟨X1,X2,X3,Z,hs.below hb,e⟩,fun i=>(hb.cell (hlt i)).trans (hc i),fun i=>(hb.frozen (hlt i)).trans (hf i)⟩
theorem RnRel.same{M:List Int}{N:Nat}{val cur:Fin N→Int}{pre:List (Fin N)}{x:Fin N}(h:RnRel M val cur pre)(hz:toV M (cur x)=cur x):RnRel M val cur (pre++ [x]):=by
 have h1:=h.next (x:=x) (z:=cur x) hz.symm
 have h2:(fun i=>if i=x then cur x else cur i)=cur:=funext fun i=>by
  by_cases hi:i=x
  ·rw[if_pos hi,hi]
  ·rw[if_neg hi]
 rw[h2]at h1
 exact h1
theorem RnAt.ends{w W W0:World}{b g:Nat}{K A B C N':Int}{S':ByteArray}{T':Bool}{va:Option Addr}{vn vc:Nat}{ma:Option Addr}{m mc:Nat}{L M:List Int}{val cur:Fin (placesL b g 0 vn K).length→Int}(h:RnAt w W b g K N' S' T' va vn vc ma m mc cur)(hva:0<vn→va=some ⟨g,0,none⟩)
 (hall:∀ i,cur i=toV M (val i))(h0:∀ i,W0.cell? (placeF b g 0 vn K i)=some (numV (val i)))(hs0:RnSt w W0 b K (pickI (hasB K 65) A) (pickI (hasB K 66) B) (pickI (hasB K 67) C) N' S' T' va vn vc ma m mc (pickL (hasB K 76) L)):
 RnSt w W b K (rnI M (hasB K 65) A) (rnI M (hasB K 66) B) (rnI M (hasB K 67) C) N' S' T' va vn vc ma m mc (rnL M (hasB K 76) L):=by
 obtain⟨⟨X1,X2,X3,Z,hs,e1,e2,e3⟩,hc,_⟩:=h
 have key:∀ a x y,(∃i,placeF b g 0 vn K i=a)→W.cell? a=some (numV x)→W0.cell? a=some (numV y)→x=toV M y:=by
  rintro a x y ⟨i,rfl⟩ hx hy
  rw[hc i,hall i]at hx
  rw[h0 i]at hy
  simp only[numV,Option.some.injEq,Value.int.injEq,true_and]at hx hy
  rw[←hx,hy]
 have x1:X1=rnI M (hasB K 65) A:=by
  cases hB:hasB K 65 with
  |false=>exact e1 hB
  |true=>
   have:=key ⟨b,1,none⟩ X1 (pickI (hasB K 65) A) (places_of hB (by simp[placeL])) (by rw[hs.box.1];rfl) (by rw[hs0.box.1];rfl)
   rw[hB]at this
   exact this
 have x2:X2=rnI M (hasB K 66) B:=by
  cases hB:hasB K 66 with
  |false=>exact e2 hB
  |true=>
   have:=key ⟨b,2,none⟩ X2 (pickI (hasB K 66) B) (places_of hB (by simp[placeL])) (by rw[hs.box.1];rfl) (by rw[hs0.box.1];rfl)
   rw[hB]at this
   exact this
 have x3:X3=rnI M (hasB K 67) C:=by
  cases hB:hasB K 67 with
  |false=>exact e3 hB
  |true=>
   have:=key ⟨b,3,none⟩ X3 (pickI (hasB K 67) C) (places_of hB (by simp[placeL])) (by rw[hs.box.1];rfl) (by rw[hs0.box.1];rfl)
   rw[hB]at this
   exact this
 have zl:=hs.own.read.1
 have zl0:=hs0.own.read.1
 have x4:Z=rnL M (hasB K 76) L:=by
  cases hB:hasB K 76 with
  |false=>
   rw[hB]at zl0
   have h1:vn=0:=zl0.symm
   rw[h1]at zl
   exact List.eq_nil_of_length_eq_zero zl
  |true=>
   rw[hB]at hs0 zl0
   show Z=L.map (toV M)
   have zl1:L.length=vn:=zl0
   apply List.ext_getElem
   ·rw[List.length_map];omega
   ·intro j h1 h2
    rw[List.getElem_map]
    have hj:j<vn:=by omega
    obtain rfl:=hva (by omega)
    obtain⟨g1,o1,q1,_,c1⟩:=hs.own.read.2 (by omega)
    obtain⟨g2,o2,q2,_,c2⟩:=hs0.own.read.2 (by omega)
    cases q1
    cases q2
    exact key ⟨g,0+j,none⟩ _ _ (places_of hB (List.mem_map.2 ⟨j,List.mem_range.2 hj,rfl⟩)) (c1 j h1) (c2 j (by show j<L.length;omega))
 rw[←x1,←x2,←x3,←x4]
 exact hs
theorem Box.putObj{u:World}{g l:Nat}{P:Array Value}(h:Box u g P)(o:Obj)(hl:g≠l):Box (u.putObj l o) g P:=
 ⟨fun j=>by simp only[World.cell?,World.putObj_heap_other hl];exact h.1 j,fun j=>by simp only[World.frozen?,World.putObj_heap_other hl];exact h.2 j⟩
def usesB(K A B C:Int)(L:List Int)(m:Int):Bool:=(usesL K A B C L).all fun v=>kinB v m
structure AllSt(w W:World)(O:Array Value)(m:Int):Prop where
 inb:Box W w.heap.size O
 many:Box W (w.heap.size+1) #[.int .i64 m]
 res:Box W (w.heap.size+2) #[.bool false]
 bel:Below w.heap.size w W
 siz:w.heap.size+4≤W.heap.size
theorem AllSt.grown{w W W':World}{O:Array Value}{m:Int}{row:Option Nat}(h:AllSt w W O m)(hg:W.grownBy W' row)(hr:∀ r,row=some r→w.heap.size+4≤r):AllSt w W' O m:=
 have hb:Below (w.heap.size+4) W W':=Below.grown (Below.refl _ W) hg h.siz hr
 ⟨h.inb.below hb (by omega),h.many.below hb (by omega),h.res.below hb (by omega),h.bel.trans (hb.mono (by omega)),Nat.le_trans h.siz hb.size⟩
theorem AllSt.drew{w W:World}{O:Array Value}{m:Int}(h:AllSt w W O m):AllSt w W.drew O m:=⟨h.inb,h.many,h.res,h.bel.drew,h.siz⟩
theorem AllSt.put{w W:World}{O:Array Value}{m:Int}(h:AllSt w W O m):AllSt w (W.setCell ⟨w.heap.size+1+1,0,none⟩ (.bool false)) O m:=
 ⟨h.inb.other (by omega) _ _,h.many.other (by omega) _ _,h.res.set (g:=w.heap.size+2) 0 _ (by simp) (by simp),h.bel.setCell (by show w.heap.size≤w.heap.size+1+1;omega) _,by rw[setCell_size];exact h.siz⟩
theorem Kept.drew(Bo b:Nat)(W:World):Kept Bo b W W.drew:=⟨(KeepsOthers.drew W).walks,rfl,rfl⟩
set_option maxRecDepth 100000 in
set_option maxHeartbeats 4000000 in
theorem all_uses(K A B C N:Int)(S:ByteArray)(la:Option Addr)(ln lc:Nat)(T:Bool)(L:List Int)(m:Int)(w:World)(hft:FT w)(hat:NumsAt w la ln L)(hn:ln≤17592186044000):
 Calls Tryz.prog 67 #[.agg #[.int .i64 K,.int .i64 A,.int .i64 B,.int .i64 C,.int .i64 N,.string S,.slice la ln lc,.bool T],.int .i64 m] w
  fun e w'=>e=.returned (.bool (usesB K A B C L m))∧Below w.heap.size w w':=by
 obtain⟨g,off,hla⟩:∃ g off,0<ln→la=some ⟨g,off,none⟩:=by
  by_cases h:0<ln
  ·obtain⟨g,off,e,_⟩:=hat.2 h
   exact⟨g,off,fun _=>e⟩
  ·exact⟨0,0,fun h'=>absurd h' h⟩
 have HA:=hid hat
 have HFT:=hid hft
 have HLA:=hid hla
 have hmix:Tryz.prog.follows .mixedOrders=true:=by kernel_rfl
 clear hat hft hla
 refine(callsIn_wide (n:=9)).1 ?_
 refine callsIn_of_wp_marks Tryz.func67 rfl trivial ?_ rfl
 simp only[Tryz.ntmps67,List.size_toArray,List.length_cons,List.length_nil,Nat.reduceAdd,Nat.reduceSub,Array.replicate_succ,Array.replicate_zero,List.push_toArray,List.append_toArray,List.nil_append,List.cons_append]
 gi_wp2_with (refine⟨trivial, ?_⟩;gi_at_call 97;refine(callsIn_wide.2 (places_any _ _)).mono ?_;rintro e w' ⟨rfl,rfl⟩)
 have HS0:Hid (AllSt w ((((w.alloc (.cells #[.int .i64 K,.int .i64 A,.int .i64 B,.int .i64 C,.int .i64 N,.string S,.slice la ln lc,.bool T] 64)).alloc (.cells #[.int .i64 m] 3)).alloc (.cells #[.bool false] 4)).alloc (.cells #[.pointer (some ⟨w.heap.size,0,none⟩)] 150)) #[.int .i64 K,.int .i64 A,.int .i64 B,.int .i64 C,.int .i64 N,.string S,.slice la ln lc,.bool T] m):=
  hid ⟨(((Box.new w _ _ rfl).alloc (by simp) _).alloc (by simp<;>omega) _).alloc (by simp<;>omega) _,((Box.new _ _ _ (by simp)).alloc (by simp) _).alloc (by simp<;>omega) _,(Box.new _ _ _ (by simp)).alloc (by simp) _,((((Below.refl w.heap.size w).alloc (Nat.le_refl _) _).alloc (by simp) _).alloc (by simp<;>omega) _).alloc (by simp<;>omega) _,by simp⟩
 have hcB:((((w.alloc (.cells #[.int .i64 K,.int .i64 A,.int .i64 B,.int .i64 C,.int .i64 N,.string S,.slice la ln lc,.bool T] 64)).alloc (.cells #[.int .i64 m] 3)).alloc (.cells #[.bool false] 4)).alloc (.cells #[.pointer (some ⟨w.heap.size,0,none⟩)] 150)).cell? ⟨w.heap.size+1+1+1,0,none⟩=some (.pointer (some ⟨w.heap.size,0,none⟩)):=by
  rw[show w.heap.size+1+1+1=(((w.alloc (.cells #[.int .i64 K,.int .i64 A,.int .i64 B,.int .i64 C,.int .i64 N,.string S,.slice la ln lc,.bool T] 64)).alloc (.cells #[.int .i64 m] 3)).alloc (.cells #[.bool false] 4)).heap.size by simp]
  exact World.cell?_alloc_mark _ _ _ _ _
 obtain⟨W0,hW0⟩:∃ W0,((((w.alloc (.cells #[.int .i64 K,.int .i64 A,.int .i64 B,.int .i64 C,.int .i64 N,.string S,.slice la ln lc,.bool T] 64)).alloc (.cells #[.int .i64 m] 3)).alloc (.cells #[.bool false] 4)).alloc (.cells #[.pointer (some ⟨w.heap.size,0,none⟩)] 150))=W0:=⟨_,rfl⟩
 have hz0:W0.heap.size=w.heap.size+4:=by rw[←hW0];simp
 rw[hW0]at HS0 hcB⊢
 clear hW0
 have hs0:=HS0.out
 have hst:=places_stops K (w.heap.size+1+1+1) w.heap.size g off ln lc la HLA.out (by omega) 8 W0 (HFT.out.since hs0.bel) hcB (by rw[hs0.inb.1];rfl) (by rw[hs0.inb.1];rfl)
 clear hs0
 have HV:=hid (vals_all (b:=w.heap.size) (g:=g) (off:=off) (K:=K) (A:=A) (B:=B) (C:=C) HA.out.1)
 refine wpIn_rangeFunc_ownF rfl (by omega) (gf:=127) (lb:=#[.pointer (some ⟨w.heap.size+1+1+1,0,none⟩)]) rfl trivial (enters_of Tryz.func127 (by kernel_rfl) rfl) hst Kept.trans ?hKb (Below.refl _ _) (fun _=>rfl)
  (fun pre W=>AllSt w W #[.int .i64 K,.int .i64 A,.int .i64 B,.int .i64 C,.int .i64 N,.string S,.slice la ln lc,.bool T] m∧∀ i∈pre,kinB (valF w.heap.size g off ln K A B C L i) m=true)
  (fun c pre W=>c=.ret∧AllSt w W #[.int .i64 K,.int .i64 A,.int .i64 B,.int .i64 C,.int .i64 N,.string S,.slice la ln lc,.bool T] m∧∃ i,kinB (valF w.heap.size g off ln K A B C L i) m=false) ?hI ?hIx ⟨HS0.out,fun i h=>by cases h⟩
  (fun i=>{tmps:=#[.agg #[.int .i64 K,.int .i64 A,.int .i64 B,.int .i64 C,.int .i64 N,.string S,.slice la ln lc,.bool T],.int .i64 m,.pointer (some ⟨w.heap.size,0,none⟩),.pointer (some ⟨w.heap.size+1,0,none⟩),.pointer (some ⟨w.heap.size+1+1,0,none⟩),.pointer (some (placeF w.heap.size g off ln K i)),.func (.func 127) #[] #[.pointer (some ⟨w.heap.size+1+1+1,0,none⟩)],.pointer (some (placeF w.heap.size g off ln K i)),undef,undef,undef,undef,undef,undef],defers:=[]}) ?assign ?body ?done ?stop
 case hKb=>exact kept_putObj (n0:=W0.heap.size) (by omega) (by omega)
 case hI=>rintro pre W W' row ⟨hS,hp⟩ hg hr;exact⟨hS.grown hg (fun r e=>by rw[←hz0];exact(hr r e).1),hp⟩
 case hIx=>rintro c pre W W' row ⟨hc,hS,hp⟩ hg hr;exact⟨hc,hS.grown hg (fun r e=>by rw[←hz0];exact(hr r e).1),hp⟩
 case assign=>
  intro l x W K hK
  gi_wp2
  exact hK
 case body=>
  rintro l pre x W ⟨hS,hp⟩ hlen
  have HS:=hid hS
  have HP:=hid hp
  have hcx:W.cell? (placeF w.heap.size g off ln K x)=some (numV (valF w.heap.size g off ln K A B C L x)):=pairs_cells HA.out.1 HLA.out hS.inb.1 (HA.out.since hS.bel) _ (pair_mem x)
  have hcm:=hS.many.1
  have hcr:∀ j,W.cell? ⟨w.heap.size+1+1,j,none⟩=_:=hS.res.1
  have hfr:∀ j,W.frozen? ⟨w.heap.size+1+1,j,none⟩=false:=hS.res.2
  obtain⟨ad,had⟩:∃ ad,placeF w.heap.size g off ln K x=ad:=⟨_,rfl⟩
  obtain⟨z,hz⟩:∃ z,valF w.heap.size g off ln K A B C L x=z:=⟨_,rfl⟩
  rw[had,hz]at hcx
  rw[had]
  unfold numV at hcx
  have HZ:=hid hz
  clear hS hp hz had
  obtain⟨b,hb⟩:∃ b,kinB z m=b:=⟨_,rfl⟩
  cases b with
  |true=>
   gi_wp2
   gi_region_with_o (refine⟨trivial, ?_⟩;gi_at_call 98;refine(CallsIn.inRound l (callsIn_wide.2 (among_any z m _))).mono ?_;rintro e w' ⟨rfl,rfl⟩;rw[hb])
   all_goals gi_wp2
   all_goals exact⟨KeepsOthers.drew W,Kept.drew _ _ W,HS.out.drew,fun i hi=>by
    rcases List.mem_append.1 hi with h|h
    ·exact HP.out i h
    ·rw[List.mem_singleton.1 h,HZ.out,hb]⟩
  |false=>
   gi_wp2
   gi_region_with_o (refine⟨trivial, ?_⟩;gi_at_call 98;refine(CallsIn.inRound l (callsIn_wide.2 (among_any z m _))).mono ?_;rintro e w' ⟨rfl,rfl⟩;rw[hb])
   all_goals gi_wp2
   all_goals exact⟨(KeepsOthers.drew W).trans (KeepsOthers.setCell _ _ _),rfl,HS.out.drew.put,x,by rw[HZ.out,hb]⟩
 case done=>
  rintro D ys W hD rfl ⟨hS,hp⟩ hK
  have HS:=hid hS
  have hcr:∀ j,W.cell? ⟨w.heap.size+1+1,j,none⟩=_:=hS.res.1
  have hfr:∀ j,W.frozen? ⟨w.heap.size+1+1,j,none⟩=false:=hS.res.2
  have HE:Hid (usesB K A B C L m=true):=hid (by
   unfold usesB
   rw[←HV.out,List.all_eq_true]
   intro v hv
   obtain⟨i,hi,rfl⟩:=List.mem_map.1 hv
   exact hp i hi)
  clear hS hp
  gi_wp2
  have hK2:=(KeepsOthers.setCell W ⟨w.heap.size+1+1,0,none⟩ (.bool true)).same D _ hK rfl
  refine⟨by simp,.inl ⟨_,_,rfl,run_takeDeferred hK2, ?_⟩⟩
  have hbx:Box ((W.setCell ⟨w.heap.size+1+1,0,none⟩ (.bool true)).putObj D (.deferred none)) (w.heap.size+2) #[.bool true]:=(HS.out.res.set 0 (.bool true) (by simp) (by simp)).putObj (.deferred none) (by omega)
  have HBW:=hid (((HS.out.bel).setCell (p:=⟨w.heap.size+1+1,0,none⟩) (by show w.heap.size≤w.heap.size+1+1;omega) (.bool true)).trans (belowK_b (w:=w) (Nat.le_refl _) _ D _ (.deferred none) (by omega) hK2 rfl rfl))
  clear hcr hfr hK2
  revert hbx HBW
  generalize World.putObj _ D (.deferred none)=W3
  intro hbx HBW
  have hc3:∀ j,W3.cell? ⟨w.heap.size+1+1,j,none⟩=_:=hbx.1
  exact⟨.bool true,(by simp[results,Tryz.results67,go_sem,hc3]),by rw[HE.out],HBW.out⟩
 case stop=>
  rintro D c pre W hD _ ⟨rfl,hS,i,hi⟩ hK
  have HS:=hid hS
  have HE:Hid (usesB K A B C L m=false):=hid (by
   unfold usesB
   rw[←HV.out,List.all_eq_false]
   exact⟨_,List.mem_map.2 ⟨i,by unfold firsts;rw[List.take_of_length_le (by simp)];exact List.mem_finRange i,rfl⟩,by rw[hi];simp⟩)
  clear hS hi
  gi_wp2
  refine⟨by simp,.inl ⟨_,_,rfl,run_takeDeferred hK, ?_⟩⟩
  have hbx:Box (W.putObj D (.deferred none)) (w.heap.size+2) #[.bool false]:=HS.out.res.putObj (.deferred none) (by omega)
  have HBW:=hid (HS.out.bel.trans (belowK_b (w:=w) (Nat.le_refl _) W D _ (.deferred none) (by omega) hK rfl rfl))
  revert hbx HBW
  generalize World.putObj _ D (.deferred none)=W3
  intro hbx HBW
  have hc3:∀ j,W3.cell? ⟨w.heap.size+1+1,j,none⟩=_:=hbx.1
  exact⟨.bool false,(by simp[results,Tryz.results67,go_sem,hc3]),by rw[HE.out],HBW.out⟩
end Go.Proofs.YtikoklagffbgiaaGreatDoor

namespace Go.Proofs.YtikoklagffbgiaaGreatDoor
set_option linter.unusedVariables false
open Go.RowKit (wrap64 intOf Below Hid)
open Go.Lib (hid)
def resS(P:ProgD)(K A B C N:Int)(S:ByteArray)(L ts:List Int):Int×Bool:=
 if usesB K A B C L ts.length=true then(if(rowS P K N S ((usesL K A B C L).map (tyAt ts))).2=true then((rowS P K N S ((usesL K A B C L).map (tyAt ts))).1,true)else(-1,false))else(-1,false)
def ResPost(r:Int×Bool)(w:World)(e:Ending)(w':World):Prop:=e=.returned (.tuple #[.int .i64 r.1,.bool r.2])∧Below w.heap.size w w'
theorem among_of{K A B C:Int}{L:List Int}{n:Nat}(h:usesB K A B C L n=true):Among (usesL K A B C L) n:=fun v hv=>by
 unfold usesB at h
 exact of_decide_eq_true (List.all_eq_true.1 h v hv)
set_option maxRecDepth 100000 in
theorem kresult_any(g:Nat){sa:Option Addr}{sn sc:Nat}{ca:Option Addr}{cn cc:Nat}{fa:Option Addr}{fn fc:Nat}{P:ProgD}(K A B C N:Int)(S:ByteArray)(la:Option Addr)(ln lc:Nat)(T:Bool)(L:List Int)(ta:Option Addr)(tn tc:Nat)(ts:List Int)(w:World)
 (hft:FT w)(hP:ProgAt w g sa sn sc ca cn cc fa fn fc P)(hat:NumsAt w la ln L)(hln:ln≤17592186044000)(ht:NumsAt w ta tn ts)(htn:tn≤140737488355328)(hr:∀ z∈ts,InR z)(hN:InR N):
 Calls Tryz.prog 37 #[.pointer (some ⟨g,0,none⟩),.agg #[.int .i64 K,.int .i64 A,.int .i64 B,.int .i64 C,.int .i64 N,.string S,.slice la ln lc,.bool T],.slice ta tn tc] w (ResPost (resS P K A B C N S L ts) w):=by
 obtain⟨W0,hW0⟩:∃ W0,W0=w.alloc (.cells #[.int .i64 K,.int .i64 A,.int .i64 B,.int .i64 C,.int .i64 N,.string S,.slice la ln lc,.bool T] 64):=⟨_,rfl⟩
 have hw0:∀ u,Below (w.heap.size+1) W0 u→Below w.heap.size w u:=fun u hu=>by rw[hW0]at hu;exact first_below hu
 have H2:Hid (Below (w.heap.size+1) W0 W0):=hid (Below.refl _ _)
 have HZ:Hid (w.heap.size+1≤W0.heap.size):=hid (by rw[hW0];simp)
 have hlt:=ht.1
 have HAL:=hid (all_uses K A B C N S la ln lc T L (tn:Int) W0 (hft.since (hw0 _ H2.out)) (hat.since (hw0 _ H2.out)) hln)
 have HC:Hid (∀u,Below (w.heap.size+1) W0 u→∀ j,u.cell? ⟨w.heap.size,j,none⟩=(#[.int .i64 K,.int .i64 A,.int .i64 B,.int .i64 C,.int .i64 N,.string S,.slice la ln lc,.bool T]:Array Value)[j]?):=hid (fun u hu=>by rw[hW0]at hu;exact cell_first hu)
 have HW:=hid hw0
 cases hu:usesB K A B C L (tn:Int)with
 |false=>
  have HR:Hid (resS P K A B C N S L ts=(-1,false)):=hid (by unfold resS;rw[hlt,hu];rfl)
  rw[hu]at HAL
  clear hft hP hat ht hr hN hw0 hu hlt
  go_enter Tryz.func37,Tryz.ntmps37
  go_wp2_with fail
  rw[←hW0]
  clear hW0
  refine(HAL.out).mono ?_
  rintro e w1 ⟨rfl,hb1⟩
  have HB1:=hid (keepN H2.out HZ.out hb1)
  clear hb1
  go_wp2_with fail
  refine bodyPost_ret (v:=.tuple #[.int .i64 (-1),.bool false]) (by simp[results,Tryz.results37,go_sem]) rfl ⟨by rw[HR.out],HW.out _ HB1.out⟩
 |true=>
  have HRW:=hid (fun u hu'=>row_any g K A B C N S la ln lc T L ta tn tc ts u (hP.since (hw0 u hu')) (hat.since (hw0 u hu')) hln (ht.since (hw0 u hu')) htn hr hN (among_of hu))
  have hrs:resS P K A B C N S L ts=(if(rowS P K N S ((usesL K A B C L).map (tyAt ts))).2=true then((rowS P K N S ((usesL K A B C L).map (tyAt ts))).1,true)else(-1,false)):=by unfold resS;rw[hlt,if_pos hu]
  obtain⟨r1,r2,hrr⟩:∃ r1 r2,rowS P K N S ((usesL K A B C L).map (tyAt ts))=(r1,r2):=⟨_,_,rfl⟩
  rw[hrr]at hrs HRW
  rw[hu]at HAL
  clear hft hP hat ht hr hN hw0 hu hlt hrr
  cases r2 with
  |false=>
   have HR:Hid (resS P K A B C N S L ts=(-1,false)):=hid hrs
   clear hrs
   go_enter Tryz.func37,Tryz.ntmps37
   go_wp2_with fail
   rw[←hW0]
   clear hW0
   refine(HAL.out).mono ?_
   rintro e w1 ⟨rfl,hb1⟩
   have HB1:=hid (keepN H2.out HZ.out hb1)
   have hcc:=HC.out _ HB1.out
   clear hb1
   go_wp2_with fail
   refine(HRW.out _ HB1.out).mono ?_
   rintro e w2 ⟨t,rfl,_,hb2⟩
   have HB2:=hid (keepN HB1.out HZ.out hb2)
   clear hb2
   go_wp2_with fail
   refine bodyPost_ret (v:=.tuple #[.int .i64 (-1),.bool false]) (by simp[results,Tryz.results37,go_sem]) rfl ⟨by rw[HR.out],HW.out _ HB2.out⟩
  |true=>
   have HR:Hid (resS P K A B C N S L ts=(r1,true)):=hid hrs
   clear hrs
   go_enter Tryz.func37,Tryz.ntmps37
   go_wp2_with fail
   rw[←hW0]
   clear hW0
   refine(HAL.out).mono ?_
   rintro e w1 ⟨rfl,hb1⟩
   have HB1:=hid (keepN H2.out HZ.out hb1)
   have hcc:=HC.out _ HB1.out
   clear hb1
   go_wp2_with fail
   refine(HRW.out _ HB1.out).mono ?_
   rintro e w2 ⟨t,rfl,ht1,hb2⟩
   have HB2:=hid (keepN HB1.out HZ.out hb2)
   have HT1:=hid (ht1 rfl)
   clear hb2 ht1
   go_wp2_with fail
   refine bodyPost_ret (v:=.tuple #[.int .i64 t,.bool true]) (by simp[results,Tryz.results37,go_sem]) rfl ⟨by rw[HR.out,HT1.out],HW.out _ HB2.out⟩
end Go.Proofs.YtikoklagffbgiaaGreatDoor
