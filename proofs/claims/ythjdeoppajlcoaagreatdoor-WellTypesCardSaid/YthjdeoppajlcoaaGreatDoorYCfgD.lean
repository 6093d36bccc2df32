/- Layer 7: the blocks as a walk leaves them, one by one: the contract of the iterator. -/
import Derived.Test.YthjdeoppajlcoaaGreatDoorYCfgC

namespace Go.Proofs.YthjdeoppajlcoaaGreatDoor
set_option linter.unusedSimpArgs false
set_option linter.unusedVariables false
open Go.RowKit
attribute [local go_sem] Oper.semAt_some
open Go.Lib (hid)
def zR(W:World)(g off n:Nat)(f:ak):Prop:=n=f.blocks.length∧g<W.heap.size∧∀ k,k<n→∃ la ln lc ma mn mc,
 W.cell? ⟨g,off+k*8+2,none⟩=some (.int .i64 (aN f k).K)∧W.cell? ⟨g,off+k*8+3,none⟩=some (.int .i64 (aN f k).A)∧W.cell? ⟨g,off+k*8+4,none⟩=some (.int .i64 (aN f k).To)∧W.cell? ⟨g,off+k*8+5,none⟩=some (.int .i64 (aN f k).Else)∧
 W.cell? ⟨g,off+k*8+6,none⟩=some (.slice la ln lc)∧W.cell? ⟨g,off+k*8+7,none⟩=some (.slice ma mn mc)
theorem pR{f:ak}{k:Nat}(hk:k<f.blocks.length):aN f k=f.blocks[k].fin:=by
 unfold aN
 rw[List.getElem?_eq_getElem hk]
theorem gG.ends{W:World}{a:Option Addr}{n c:Nat}{f:ak}(h:gG aM 8 W (.slice a n c) f.blocks)(hn:0<n):∃ g off,a=some ⟨g,off,none⟩∧zR W g off n f:=by
 obtain⟨a',n',c',e,hl,_,_,hrow⟩:=h
 cases e
 obtain⟨g,off,rfl,hg,hcs⟩:=hrow hn
 refine⟨g,off,rfl,hl.symm,hg,fun k hk=> ?_⟩
 obtain⟨cs,h8,hc,p,o,es,rfl,_,_,l,m,rfl,_,_,_,_,hL,hM⟩:=hcs k (by omega)
 obtain⟨la,ln,lc,rfl,_⟩:=hL
 obtain⟨ma,mn,mc,rfl,_⟩:=hM
 rw[pR (by omega)]
 exact⟨la,ln,lc,ma,mn,mc,hc 2 (by simp),hc 3 (by simp),hc 4 (by simp),hc 5 (by simp),hc 6 (by simp),hc 7 (by simp)⟩
theorem zR.block{W W':World}{g off n:Nat}{f:ak}(h:zR W g off n f)(hb:W'.heap[g]? =W.heap[g]?)(hg:g<W'.heap.size):zR W' g off n f:=by
 obtain⟨h1,h2,h3⟩:=h
 refine⟨h1,hg,fun k hk=> ?_⟩
 obtain⟨la,ln,lc,ma,mn,mc,c2,c3,c4,c5,c6,c7⟩:=h3 k hk
 have e:∀ j,W'.cell? ⟨g,j,none⟩=W.cell? ⟨g,j,none⟩:=fun j=>World.cell?_of_block hb
 exact⟨la,ln,lc,ma,mn,mc,(e _).trans c2,(e _).trans c3,(e _).trans c4,(e _).trans c5,(e _).trans c6,(e _).trans c7⟩
abbrev encI(x:Int):Array Value:=#[.int .i64 x]
theorem Runs.total{N:Nat}{to_:Nat→List Int}{way met left F:List Int}(h:Runs N to_ way met left F):left.length+way.length≤F.length:=by
 induction h with
 |done met F=>simp
 |push _ _ ih=>simp only[List.length_cons]at ih ⊢;omega
 |pop _ _ ih=>simp only[List.length_append,List.length_cons,List.length_nil]at ih ⊢;omega
theorem rM(q:Int)(Q:Nat)(hq:q=Q)(hQ:Q≤1099511627776)(u:World):(Instr.makeSlice 111 (.int .i64 q) (.int .i64 q)).run Tryz.prog u=.ok (.slice (some ⟨u.heap.size,0,none⟩) Q Q) (u.alloc (.cells (madeCells #[.bool false] Q) 4)):=by
 have hinfo:(Tryz.prog.info? 4).map (fun i=>(i.zero,i.size,i.bytes))=some (some (.bool false),1,1):=by kernel_rfl
 obtain⟨i0,hi,hz0,hz1,hz2⟩:=info_parts hinfo
 subst hq
 have h:=run_make (P:=Tryz.prog) u 111 4 i0 (.bool false) Tryz.underlying111 hi hz0 .i64 .i64 (Q:Int) (Q:Int) (by omega) (by omega) (by rw[hz2];omega) (by omega)
 simpa [hz1,Value.cells]using h
theorem oQ.alloc{B:Nat}{t:TypeId}{W:World}(h:oQ B t W)(o:Obj):oQ B t (W.alloc o):=(dS.step (World.grownBy_alloc W o none) h (fun r e=>by cases e)).2
theorem jL{B:Nat}{t:TypeId}{W:World}(h:oQ B t W)(o:Obj){i:Nat}(hi:¬ dS B t W i):¬ dS B t (W.alloc o) i:=fun e=>hi (((dS.step (World.grownBy_alloc W o none) h (fun r e=>by cases e)).1 i).1 e)
theorem Bg{B:Nat}{t:TypeId}{W0:World}{X:Nat→Prop}{n:Nat}(o:Obj)(hL:oQ B t W0)(hn:0<n)(hn2:n≤1099511627776)(hX:∀ i,X i→i<W0.heap.size∧¬ dS B t W0 i):
 bA W0 X B t W0.heap.size (W0.heap.size+1+1) (W0.heap.size+1+1+1+1) (W0.heap.size+1) n (((((W0.alloc o).alloc (.cells ((madeCells #[.bool false] n).setIfInBounds 0 (.bool true)) 4)).alloc (.cells #[.slice (some ⟨W0.heap.size+1,0,none⟩) n n] 111)).alloc (.cells #[.int .i64 0] 3)).alloc (.cells #[.slice (some ⟨W0.heap.size+1+1+1,0,none⟩) 1 1] 40))
  (.slice (some ⟨W0.heap.size+1+1+1,0,none⟩) 1 1) [0] [0]:=by
 obtain⟨A1,h1⟩:∃ A,W0.alloc o=A:=⟨_,rfl⟩
 have l1:oQ B t A1:=by rw[←h1];exact hL.alloc _
 have f1:∀ i,¬dS B t W0 i→¬ dS B t A1 i:=fun i hi=>by rw[←h1];exact jL hL _ hi
 have z1:A1.heap.size=W0.heap.size+1:=by rw[←h1];simp
 have b1:∀ i,i<W0.heap.size→A1.heap[i]? =W0.heap[i]? :=fun i hi=>by rw[←h1];exact Below.heap_alloc _ _ _ hi
 rw[h1]
 clear h1
 have hr2:=World.ownsRow_lit (base:=W0.heap.size) (e:=4) (size:=1) A1 ((madeCells #[Value.bool false] n).setIfInBounds 0 (.bool true)) n (by omega) (by unfold maxLen;omega) (by simp[size_madeCells])
 obtain⟨A2,h2⟩:∃ A,A1.alloc (.cells ((madeCells #[.bool false] n).setIfInBounds 0 (.bool true)) 4)=A:=⟨_,rfl⟩
 have l2:oQ B t A2:=by rw[←h2];exact l1.alloc _
 have f2:∀ i,¬dS B t A1 i→¬ dS B t A2 i:=fun i hi=>by rw[←h2];exact jL l1 _ hi
 have z2:A2.heap.size=W0.heap.size+1+1:=by rw[←h2];simp[z1]
 have b2:∀ i,i<A1.heap.size→A2.heap[i]? =A1.heap[i]? :=fun i hi=>by rw[←h2];exact Below.heap_alloc _ _ _ hi
 rw[h2]at hr2⊢
 clear h2
 have hb3:=Boxed.new A2 111 (.slice (some ⟨W0.heap.size+1,0,none⟩) n n)
 obtain⟨A3,h3⟩:∃ A,A2.alloc (.cells #[.slice (some ⟨W0.heap.size+1,0,none⟩) n n] 111)=A:=⟨_,rfl⟩
 have l3:oQ B t A3:=by rw[←h3];exact l2.alloc _
 have f3:∀ i,¬dS B t A2 i→¬ dS B t A3 i:=fun i hi=>by rw[←h3];exact jL l2 _ hi
 have z3:A3.heap.size=W0.heap.size+1+1+1:=by rw[←h3];simp[z2]
 have b3:∀ i,i<A2.heap.size→A3.heap[i]? =A2.heap[i]? :=fun i hi=>by rw[←h3];exact Below.heap_alloc _ _ _ hi
 have hr3:=hr2.alloc (.cells #[.slice (some ⟨W0.heap.size+1,0,none⟩) n n] 111)
 rw[h3]at hb3 hr3⊢
 clear h3
 have hr4:=World.ownsRow_lit (base:=W0.heap.size) (e:=3) (size:=1) A3 #[Value.int .i64 0] 1 (by omega) (by decide) rfl
 obtain⟨A4,h4⟩:∃ A,A3.alloc (.cells #[.int .i64 0] 3)=A:=⟨_,rfl⟩
 have l4:oQ B t A4:=by rw[←h4];exact l3.alloc _
 have f4:∀ i,¬dS B t A3 i→¬ dS B t A4 i:=fun i hi=>by rw[←h4];exact jL l3 _ hi
 have z4:A4.heap.size=W0.heap.size+1+1+1+1:=by rw[←h4];simp[z3]
 have b4:∀ i,i<A3.heap.size→A4.heap[i]? =A3.heap[i]? :=fun i hi=>by rw[←h4];exact Below.heap_alloc _ _ _ hi
 have hr3':=hr3.alloc (.cells #[.int .i64 0] 3)
 have hb3':=hb3.alloc (.cells #[.int .i64 0] 3)
 rw[h4]at hr3' hb3' hr4⊢
 clear h4
 have hb5:=Boxed.new A4 40 (.slice (some ⟨W0.heap.size+1+1+1,0,none⟩) 1 1)
 rw[z4]at hb5
 rw[z2]at hb3'
 rw[z1]at hr3'
 rw[z3]at hr4
 have hfree:∀ i,¬dS B t W0 i→¬ dS B t (A4.alloc (.cells #[.slice (some ⟨W0.heap.size+1+1+1,0,none⟩) 1 1] 40)) i:=fun i hi=>jL l4 _ (f4 i (f3 i (f2 i (f1 i hi))))
 refine⟨l4.alloc _,hb3'.alloc _,hb5, ?_, ?_,by omega,by omega,hfree _ (dS.new hL (by omega)),hfree _ (dS.new hL (by omega)),hfree _ (dS.new hL (by omega)),fun i hi=> ?_,fun i hi=> ?_⟩
 ·have h:=hr3'.alloc (.cells #[.slice (some ⟨W0.heap.size+1+1+1,0,none⟩) 1 1] 40)
  rw[Array.toList_setIfInBounds,oK,kV hn]at h
  exact h
 ·exact hr4.alloc _
 ·cases hi
  exact hfree _ (dS.new hL (show W0.heap.size≤W0.heap.size+1+1+1 by omega))
 ·obtain⟨c1,c2⟩:=hX i hi
  refine⟨c1,hfree _ c2,(Below.heap_alloc _ _ _ (by omega)).trans ((b4 i (by omega)).trans ((b3 i (by omega)).trans ((b2 i (by omega)).trans (b1 i c1)))),by rw[World.size_alloc];omega⟩
structure EY(f:ak)(w0:World)(X:Nat→Prop)(B:Nat)(t:TypeId)(n0 bm bw q n:Nat)(J:List Int→World→Prop)(W:World)(vw:Value)(Ds:List Nat)(way met left:List Int):Prop where
 st:bA w0 X B t n0 bm bw q n W vw met way.reverse
 marks:Marks n0 W Ds
 cons:J left W
 runs:Runs n (toF f) way met left (aD f).reverse
 inv:Inv n met
 there:∀ x∈way,There n x
 ins:∀ x∈way,x∈met
theorem Gq{N:Nat}{met l p r:List Int}{z:Int}(hl:l=p++z::r)(hp:∀ x∈p,¬(There N x∧x∉met))(hz:There N z)(hm:z∉met):jD N met l=some z:=by
 unfold jD
 rw[hl,List.find?_append,List.find?_eq_none.2,Option.none_or,List.find?_cons_of_pos]
 ·simp[hz,hm]
 ·intro x hx
  have:=hp x hx
  simpa using this
theorem BB{N:Nat}{met l:List Int}(hp:∀ x∈l,¬(There N x∧x∉met)):jD N met l=none:=by
 unfold jD
 rw[List.find?_eq_none]
 intro x hx
 simpa using hp x hx
theorem bA.own{w0:World}{X:Nat→Prop}{B:Nat}{t:TypeId}{n0 bm bw q N:Nat}{W W':World}{vw:Value}{met way:List Int}(h:bA w0 X B t n0 bm bw q N W vw met way){row:Option Nat}(hg:W.grownBy W' row)(hr:∀ r,row=some r→n0≤r∧∃ o:Obj,W.heap[r]? =some o∧o.isCells=false):bA w0 X B t n0 bm bw q N W' vw met way:=by
 refine h.kept hg (fun r e=> ?_)
 obtain⟨hn,o,hl,ho⟩:=hr r e
 refine⟨h.lies.not hl ho,fun e=> ?_,fun e=> ?_,fun e=> ?_,fun e=> ?_,fun hx=> ?_⟩
 ·subst e;have h2:=h.boxM;unfold Boxed at h2;rw[hl]at h2;cases h2;cases ho
 ·subst e;have h2:=h.boxW;unfold Boxed at h2;rw[hl]at h2;cases h2;cases ho
 ·subst e;obtain⟨_,h2,_⟩:=gY h.rowM;rw[hl]at h2;cases h2;cases ho
 ·obtain⟨_,h2,_⟩:=eT h.rowW e;rw[hl]at h2;cases h2;cases ho
 ·have:=(h.came _ hx).1;omega
theorem bA.metAt{w0:World}{X:Nat→Prop}{B:Nat}{t:TypeId}{n0 bm bw q N:Nat}{W:World}{vw:Value}{met way:List Int}(h:bA w0 X B t n0 bm bw q N W vw met way){j:Nat}(hj:j<N):W.cell? ⟨q,j,none⟩=some (.bool (decide ((j:Int)∈met))):=by
 have:=World.ownsRow.cells h.rowM rfl j _ (lN (met:=met) hj)
 rwa [aU,Nat.zero_add]at this
set_option maxRecDepth 100000 in
set_option maxHeartbeats 2000000 in
theorem zx(
 r:Int) (a:Option Addr) (n c:Nat) (f:ak) (b B:Nat) (t:TypeId) (w:World) (hrow:gG aM 8 w (.slice a n c) f.blocks) (hn:n≤1099511627776)
 (hb:∀ j,w.cell? ⟨b,j,none⟩=(#[.int .i64 r,.slice a n c]:Array Value)[j]?) (hbx:∀ W,Below w.heap.size w W→oQ B t W→¬ dS B t W b∧∀ g off,a=some ⟨g,off,none⟩→0<n→¬ dS B t W g):
 SeqX Fence.wide 8 Tryz.prog 124 #[.pointer (some ⟨b,0,none⟩)] encI B t (fun xs=>xs=(aD f).reverse) (There n) n w:=by
 intro l J W0 hW hL hJ hY h0
 have hblt:b<w.heap.size:=World.block_lt_of_cell? (a:=⟨b,0,none⟩) _ (hb 0)
 obtain⟨hfb,hfg⟩:=hbx W0 hW hL
 clear hbx
 have hb0:W0.cell? ⟨b,0,none⟩=some (.int .i64 r):=(hW.cell (p:=⟨b,0,none⟩) hblt).trans (hb 0)
 have hb1:W0.cell? ⟨b,1,none⟩=some (.slice a n c):=(hW.cell (p:=⟨b,1,none⟩) hblt).trans (hb 1)
 have hlen:n=f.blocks.length:=by obtain⟨_,_,_,e,h,_⟩:=hrow;cases e;exact h.symm
 refine callsIn_of_wp_marks Tryz.func124 rfl trivial ?_ rfl
 simp only[Tryz.ntmps124,List.size_toArray,List.length_cons,List.length_nil,Nat.reduceAdd,Nat.reduceSub,Array.replicate_succ,Array.replicate_zero,List.push_toArray,List.append_toArray,List.nil_append,List.cons_append]
 have HJ:=hid hJ
 have HL:=hid hL
 have H0:=hid h0
 have HLEN:=hid hlen
 have HTH:Hid (∀u:World,Calls Tryz.prog 125 #[.agg #[.int .i64 r,.slice a n c],.int .i64 0] u fun e w'=>e=.returned (.bool (fP n 0))∧w'=u.alloc (.cells #[.int .i64 r,.slice a n c] 36)):=hid fun u=>pQ r a n c 0 u (by omega)
 by_cases hn0:n=0
 ·subst hn0
  have HF:Hid (fP 0 0=false):=hid (by rfl)
  rw[HF.out]at HTH
  clear hJ hL h0 hlen hrow hY
  refine iW ?_
  gi_wp2_with (refine⟨trivial, ?_⟩;gi_at_call 125;refine(callsIn_wide.2 (HTH.out _)).mono ?_;rintro e w' ⟨rfl,rfl⟩)
  refine vv ?_
  refine⟨_,results_none rfl _ _ _,⟨_,rfl⟩,[], ?_,HJ.out.alloc _ H0.out⟩
  rw[Dm HLEN.out.symm]
  rfl
 ·have HF:Hid (fP n 0=true):=hid (by unfold fP There;exact decide_eq_true ⟨by omega,by omega⟩)
  rw[HF.out]at HTH
  obtain⟨g,off,rfl,hends⟩:=hrow.ends (by omega)
  have hglt:g<W0.heap.size:=Nat.lt_of_lt_of_le hends.2.1 hW.size
  have HE:=hid (hends.block (hW.block g hends.2.1) hglt)
  have HG:=hid (hfg g off rfl (by omega))
  have HB:=hid hfb
  have HYY:=hid hY
  have hbl:b<W0.heap.size:=Nat.lt_of_lt_of_le hblt hW.size
  have HGL:=hid hglt
  have hmk:=rM n n rfl hn
  have hm0:(madeCells #[Value.bool false] n)[0]? =some (.bool false):=by simp[madeCells,Nat.pos_of_ne_zero hn0]
  have hpos:(0:Int)<n:=by omega
  have hposn:0<n:=by omega
  clear hJ hL h0 hlen hrow hY hends hfg hfb hW hblt hb hglt
  refine iW ?_
  gi_wp2_with (refine⟨trivial, ?_⟩;gi_at_call 125;refine(callsIn_wide.2 (HTH.out _)).mono ?_;rintro e w' ⟨rfl,rfl⟩)
  refine wpIn_label ?_
  gi_wp2
  clear HTH
  obtain⟨X,hX⟩:∃ X:Nat→Prop,X=fun i=>i=b∨i=g:=⟨_,rfl⟩
  obtain⟨W1,hW1⟩:∃ W1,(((((W0.alloc (.cells #[.int .i64 r,.slice (some ⟨g,off,none⟩) n c] 36)).alloc (.cells ((madeCells #[.bool false] n).setIfInBounds 0 (.bool true)) 4)).alloc (.cells #[.slice (some ⟨W0.heap.size+1,0,none⟩) n n] 111)).alloc (.cells #[.int .i64 0] 3)).alloc (.cells #[.slice (some ⟨W0.heap.size+1+1+1,0,none⟩) 1 1] 40))=W1:=⟨_,rfl⟩
  obtain⟨bm,hbm⟩:∃ bm,bm=W0.heap.size+1+1:=⟨_,rfl⟩
  obtain⟨bw,hbw⟩:∃ bw,bw=W0.heap.size+1+1+1+1:=⟨_,rfl⟩
  obtain⟨q,hq⟩:∃ q,q=W0.heap.size+1:=⟨_,rfl⟩
  have HST:Hid (EY f W0 X B t W0.heap.size bm bw q n J W1 (.slice (some ⟨W0.heap.size+1+1+1,0,none⟩) 1 1) [] [0] [0] []):=hid (by
   rw[hbm,hbw,hq,←hW1]
   exact⟨Bg _ HL.out hposn hn (fun i hi=>by rw[hX]at hi;rcases hi with rfl|rfl;exact⟨hbl,HB.out⟩;exact⟨HGL.out,HG.out⟩),⟨List.nodup_nil,fun D hD=>by cases hD⟩,cZ.alloc HJ.out _ (cZ.alloc HJ.out _ (cZ.alloc HJ.out _ (cZ.alloc HJ.out _ (cZ.alloc HJ.out _ H0.out)))),by have:=FM f (by rw[←HLEN.out];exact hposn);rw[←HLEN.out]at this;exact this,⟨by simp,fun x hx=>by simp at hx;subst hx;exact⟨Int.le_refl _,hpos⟩⟩,fun x hx=>by simp at hx;subst hx;exact⟨Int.le_refl _,hpos⟩,fun x hx=>hx⟩)
  rw[hW1,←hbw,←hbm,←hq]
  clear hW1 hmk hm0 hbm hbw hq HF HL H0
  refine wpIn_loop_ghost (σ:=List Int×List Int×List Int) (fun s A W=>∃ (u5 u6 u7 u8 u9 u10 u11 u12 u13 u14 u15 u16 u17 u18 u19 u20 u21 u22 u23 u24 u25 u26 u27 u28 u29 u30 u31 u32 u33 u34 u35 u36 u37 u38 u39 u40 u41 u42 u43 u44 u45 u46 u47 u48 u49 u50 u51 u52 u53 u54 u55 u56 u57 u58 u59 u60 u61 u62 u63 vw:Value) (Ds:List Nat),A={tmps:=#[.func (.yield l) #[] #[],.pointer (some ⟨b,0,none⟩),undef,.pointer (some ⟨bm,0,none⟩),.pointer (some ⟨bw,0,none⟩),u5,u6,u7,u8,u9,u10,u11,u12,u13,u14,u15,u16,u17,u18,u19,u20,u21,u22,u23,u24,u25,u26,u27,u28,u29,u30,u31,u32,u33,u34,u35,u36,u37,u38,u39,u40,u41,u42,u43,u44,u45,u46,u47,u48,u49,u50,u51,u52,u53,u54,u55,u56,u57,u58,u59,u60,u61,u62,u63],defers:=Ds.map Hq}∧EY f W0 X B t W0.heap.size bm bw q n J W vw Ds s.1 s.2.1 s.2.2) (fun s=>2*(n-s.2.1.length)+s.1.length) ([0],[0],[]) ⟨_,_,_,_,_,_,_,_,_,_,_,_,_,_,_,_,_,_,_,_,_,_,_,_,_,_,_,_,_,_,_,_,_,_,_,_,_,_,_,_,_,_,_,_,_,_,_,_,_,_,_,_,_,_,_,_,_,_,_,_,[],rfl,HST.out⟩ ?_
  clear HST
  rintro ⟨way,met,left⟩ A W K ⟨u5,u6,u7,u8,u9,u10,u11,u12,u13,u14,u15,u16,u17,u18,u19,u20,u21,u22,u23,u24,u25,u26,u27,u28,u29,u30,u31,u32,u33,u34,u35,u36,u37,u38,u39,u40,u41,u42,u43,u44,u45,u46,u47,u48,u49,u50,u51,u52,u53,u54,u55,u56,u57,u58,u59,u60,u61,u62,u63,vw,Ds,rfl,hS⟩ hK
  dsimp only at hS hK⊢
  have HS:=hid hS
  have HK:=hid hK
  have hcw:=hS.st.boxW.cell
  have hfw:=hS.st.boxW.frozen
  have hcm:=hS.st.boxM.cell
  obtain⟨va,vn,vc,rfl,hnu⟩:=hS.st.rowW.nums
  have hXb:X b:=by rw[hX];exact .inl rfl
  have hXg:X g:=by rw[hX];exact .inr rfl
  have hcb0:W.cell? ⟨b,0,none⟩=some (.int .i64 r):=(World.cell?_of_block (hS.st.came b hXb).2.2.1).trans hb0
  have hcb1:W.cell? ⟨b,1,none⟩=some (.slice (some ⟨g,off,none⟩) n c):=(World.cell?_of_block (hS.st.came b hXb).2.2.1).trans hb1
  have HEW:=hid (HE.out.block (hS.st.came g hXg).2.2.1 (hS.st.came g hXg).2.2.2)
  have hbltW:=(hS.st.came b hXb).2.2.2
  clear hS hK hXb hXg
  cases way with
  |nil=>
   have hv0:vn=0:=by have:=hnu.1;simpa using this.symm
   subst hv0
   clear hnu
   gi_wp2
   refine qj ?_
   have hf:left=(aD f).reverse:=by have h:=HS.out.runs;cases h;rfl
   exact oL (J:=fun(_:Unit) W=>J left W) (s:=()) (fun s=>HJ.out left) (fun W hs=>⟨_,results_none rfl _ _ _,⟨_,rfl⟩,_,hf,hs⟩) Ds W HS.out.st.lies HS.out.marks HS.out.cons
  |cons x way=>
   obtain⟨k,rfl⟩:∃ k:Nat,x=k:=Int.eq_ofNat_of_zero_le (HS.out.there x (by simp)).1
   have hkn:k<n:=by have:=(HS.out.there (k:Int) (by simp)).2;omega
   obtain⟨va1,hcap⟩:∃ g2:Nat,va=some ⟨g2,0,none⟩∧vn≤vc∧vc≤maxLen:=by
    rcases HS.out.st.rowW.2 with⟨e,h0⟩|⟨g2,cap,cur,e,_,_,h1,h2,_⟩
    ·simp at h0
    ·cases e;exact⟨g2,rfl,h1,h2⟩
   obtain⟨rfl,hcap,hmax⟩:=hcap
   obtain⟨m,hm⟩:∃ m,way.length=m:=⟨_,rfl⟩
   have hvn:vn=m+1:=by rw[←hm];have:=hnu.1;simpa using this.symm
   subst hvn
   have hcl:W.cell? ⟨va1,m,none⟩=some (.int .i64 (k:Int)):=by
    obtain⟨g2,off2,e,_,hc⟩:=hnu.2 (by omega)
    cases e
    have:=hc way.length (by simp)
    simpa [dN,hm]using this
   have hwr:wrap64 (m:Int)=m:=by unfold maxLen at hmax;unfold wrap64;omega
   obtain⟨la,ln,lc,ma,mn,mc,hd2,hd3,hd4,hd5,hd6,hd7⟩:=HEW.out.2.2 k hkn
   have HX:Hid (tos (aN f k)=toF f k):=hid rfl
   have HFST:Hid ((tgV (aN f k).K (aN f k).To (aN f k).Else la ln lc ma mn mc).map (·.1)=toF f k):=hid (wZ _ la ln lc ma mn mc)
   have HTL:=hid (xg (aN f k).K (aN f k).To (aN f k).Else la ln lc ma mn mc)
   clear hnu HX
   generalize (aN f k).K=EK at*
   generalize (aN f k).A=EA at*
   generalize (aN f k).To=ET at*
   generalize (aN f k).Else=EE at*
   gi_wp2_with (refine⟨trivial, ?_⟩;gi_at_call 126;refine(callsIn_wide.2 (mr EK EA ET EE la ln lc ma mn mc _)).mono ?_;rintro e w' ⟨rfl,rfl⟩)
   clear hd2 hd3 hd4 hd5 hd6 hd7 hcw hfw hcm hcb0 hcb1 hcl
   obtain⟨W2,hW2⟩:∃ W2,W.alloc (.cells #[.int .i64 EK,.int .i64 EA,.int .i64 ET,.int .i64 EE,.slice la ln lc,.slice ma mn mc] 49)=W2:=⟨_,rfl⟩
   have hcB:∀ j,W2.cell? ⟨W.heap.size,j,none⟩=(#[.int .i64 EK,.int .i64 EA,.int .i64 ET,.int .i64 EE,.slice la ln lc,.slice ma mn mc]:Array Value)[j]? :=by
    intro j;rw[←hW2];exact World.cell?_alloc_mark _ _ _ _ _
   have hz2:W2.heap.size=W.heap.size+1:=by rw[←hW2];simp
   have HS2:Hid (bA W0 X B t W0.heap.size bm bw q n W2 (.slice (some ⟨va1,0,none⟩) (m+1) vc) met ((k:Int)::way).reverse∧Marks W0.heap.size W2 Ds∧J left W2):=hid (by
    rw[←hW2]
    exact⟨HS.out.st.alloc _,HS.out.marks.kept (World.grownBy_alloc W _ none) (fun r e=>by cases e),cZ.alloc HJ.out _ HS.out.cons⟩)
   have hn02:W0.heap.size≤W2.heap.size:=by have:=HS.out.st.boxM.lt;have:=HS.out.st.geM;omega
   rw[hW2]
   clear hW2
   have hst:=yU EK EA ET EE la ln lc ma mn mc W.heap.size 7 W2 hcB
   clear hcB
   refine wpIn_rangeFunc_ownH rfl (by omega) (gf:=152) (lb:=#[.pointer (some ⟨W.heap.size,0,none⟩)]) rfl trivial (enters_of Tryz.func152 (by kernel_rfl) rfl) hst fC.trans ?hKb (Below.refl _ _) (fun _=>rfl)
    (fun pre U=>(bA W0 X B t W0.heap.size bm bw q n U (.slice (some ⟨va1,0,none⟩) (m+1) vc) met ((k:Int)::way).reverse∧Marks W0.heap.size U Ds∧J left U)∧(∀y∈pre,¬(There n y.1∧y.1∉met))∧pre.length≤2∧W2.heap.size≤U.heap.size)
    (fun c pre U=>∃ p y,pre=p++ [y]∧(∀y∈p,¬(There n y.1∧y.1∉met))∧There n y.1∧y.1∉met∧c=.exit 1∧∃ vw,bA W0 X B t W0.heap.size bm bw q n U vw (met++ [y.1]) (((k:Int)::way).reverse++ [y.1])∧Marks W0.heap.size U Ds∧J left U) ?hI ?hIx ⟨HS2.out,by simp,by simp,Nat.le_refl _⟩
    (fun y a' U=>∃ p u5 u7 u8 u9 u10 u11 u12 u13 u14 u15 u16 u17 u18 u19 u20 u21 u22 u23 u24 u25 u26 u27 u28 u29 u30 u31 u32 u33 u34 u35 u36 u37 u38 u39 u40 u41 u42 u43 u44 u45 u46 u47 u48 u49 u50 u51 u52 u53 u54 u55 u56 u57 u58 u59 u60 u61 u62 u63,yo W2.heap.size p y U∧a'={tmps:=#[.func (.yield l) #[] #[],.pointer (some ⟨b,0,none⟩),undef,.pointer (some ⟨bm,0,none⟩),.pointer (some ⟨bw,0,none⟩),u5,.pointer (some ⟨p,0,none⟩),u7,u8,u9,u10,u11,u12,u13,u14,u15,u16,u17,u18,u19,u20,u21,u22,u23,u24,u25,u26,u27,u28,u29,u30,u31,u32,u33,u34,u35,u36,u37,u38,u39,u40,u41,u42,u43,u44,u45,u46,u47,u48,u49,u50,u51,u52,u53,u54,u55,u56,u57,u58,u59,u60,u61,u62,u63],defers:=[]})
    ?hAx ?assign ?body ?ran ?stop
   case hKb=>exact kW (n0:=W2.heap.size) (by omega)
   case hI=>
    rintro pre U U' row ⟨⟨h1,h2,h3⟩,h4⟩ hg hr
    have hD:∀ D∈Ds,D<W2.heap.size:=fun D hD=>HS2.out.2.1.lt hD
    exact⟨⟨h1.own hg (fun r e=>⟨by have:=(hr r e).1;omega,(hr r e).2⟩),h2.kept hg (fun r e hm=>by have:=(hr r e).1;have:=hD r hm;omega),HJ.out left U U' row h3 hg (fun r e=>by obtain⟨a1,o,a2,a3⟩:=hr r e;exact⟨by omega,h1.lies.not a2 a3⟩)⟩,h4.1,h4.2.1,Nat.le_trans h4.2.2 hg.size⟩
   case hIx=>
    rintro c pre U U' row ⟨p,y,e1,e2,e3,e4,e5,vw,h1,h2,h3⟩ hg hr
    have hD:∀ D∈Ds,D<W2.heap.size:=fun D hD=>HS2.out.2.1.lt hD
    exact⟨p,y,e1,e2,e3,e4,e5,vw,h1.own hg (fun r e=>⟨by have:=(hr r e).1;omega,(hr r e).2⟩),h2.kept hg (fun r e hm=>by have:=(hr r e).1;have:=hD r hm;omega),HJ.out left U U' row h3 hg (fun r e=>by obtain⟨a1,o,a2,a3⟩:=hr r e;exact⟨by omega,h1.lies.not a2 a3⟩)⟩
   case hAx=>
    rintro y a' _ U U' row ⟨p,u5,u7,u8,u9,u10,u11,u12,u13,u14,u15,u16,u17,u18,u19,u20,u21,u22,u23,u24,u25,u26,u27,u28,u29,u30,u31,u32,u33,u34,u35,u36,u37,u38,u39,u40,u41,u42,u43,u44,u45,u46,u47,u48,u49,u50,u51,u52,u53,u54,u55,u56,u57,u58,u59,u60,u61,u62,u63,hp,rfl⟩ hg hr
    exact⟨p,u5,u7,u8,u9,u10,u11,u12,u13,u14,u15,u16,u17,u18,u19,u20,u21,u22,u23,u24,u25,u26,u27,u28,u29,u30,u31,u32,u33,u34,u35,u36,u37,u38,u39,u40,u41,u42,u43,u44,u45,u46,u47,u48,u49,u50,u51,u52,u53,u54,u55,u56,u57,u58,u59,u60,u61,u62,u63,hp.grown hg (fun r e=>(hr r e).2),rfl⟩
   case assign=>
    rintro l pre y U K' ⟨⟨h1,h2,h3⟩,h4⟩ hK'
    have HP:=hid h1
    have HP2:=hid h2
    have HP3:=hid h3
    have HP4:=hid h4
    have hlt:W2.heap.size≤U.heap.size:=h4.2.2
    clear h1 h2 h3 h4
    gi_wp2
    refine hK' _ _ (KeepsOthers.alloc _ _ |>.from _) (fC.alloc _ (by omega)) ⟨⟨HP.out.alloc _,HP2.out.kept (World.grownBy_alloc U _ none) (fun r e=>by cases e),cZ.alloc HJ.out _ HP3.out⟩,HP4.out.1,HP4.out.2.1,by rw[World.size_alloc];omega⟩ ⟨_,_,_,_,_,_,_,_,_,_,_,_,_,_,_,_,_,_,_,_,_,_,_,_,_,_,_,_,_,_,_,_,_,_,_,_,_,_,_,_,_,_,_,_,_,_,_,_,_,_,_,_,_,_,_,_,_,_,_,⟨hlt,heap_alloc_new U _⟩,rfl⟩
   case body=>
    rintro l pre ⟨tz,ta,tn,tc⟩ a' U hl0 _ ⟨⟨h1,h2,h3⟩,h4,h5,h6⟩ ⟨p,u5,u7,u8,u9,u10,u11,u12,u13,u14,u15,u16,u17,u18,u19,u20,u21,u22,u23,u24,u25,u26,u27,u28,u29,u30,u31,u32,u33,u34,u35,u36,u37,u38,u39,u40,u41,u42,u43,u44,u45,u46,u47,u48,u49,u50,u51,u52,u53,u54,u55,u56,u57,u58,u59,u60,u61,u62,u63,hp,rfl⟩ hlen
    have hlen2:pre.length<2:=by have:=HTL.out;omega
    have H1:=hid h1
    have H2:=hid h2
    have H3:=hid h3
    have H4:=hid h4
    have H6:=hid h6
    have HPB:=hid hp
    have HL2:=hid hlen2
    have hcw:=h1.boxW.cell
    have hfw:=h1.boxW.frozen
    have hcm:=h1.boxM.cell
    have hlw:=h1.boxW.lt
    have hlm:=h1.boxM.lt
    have hlp:p<U.heap.size:=(Array.getElem?_eq_some_iff.1 hp.2).1
    have hpc:U.cell? ⟨p,0,none⟩=some (.int .i64 tz):=by simp[World.cell?,hp.2]
    have hXb:X b:=by rw[hX];exact .inl rfl
    have hcb0:U.cell? ⟨b,0,none⟩=some (.int .i64 r):=(World.cell?_of_block (h1.came b hXb).2.2.1).trans hb0
    have hcb1:U.cell? ⟨b,1,none⟩=some (.slice (some ⟨g,off,none⟩) n c):=(World.cell?_of_block (h1.came b hXb).2.2.1).trans hb1
    have hlb:=(h1.came b hXb).2.2.2
    have HBE:Hid (W.heap.size<U.heap.size):=hid (by omega)
    have HN0:Hid (W0.heap.size≤U.heap.size):=hid (by omega)
    clear h2 h3 h4 h5 h6 hp hlen hlen2 hl0 hXb
    have HTH:Hid (∀u:World,Calls Tryz.prog 125 #[.agg #[.int .i64 r,.slice (some ⟨g,off,none⟩) n c],.int .i64 tz] u fun e w'=>e=.returned (.bool (fP n tz))∧w'=u.alloc (.cells #[.int .i64 r,.slice (some ⟨g,off,none⟩) n c] 36)):=hid fun u=>pQ r (some ⟨g,off,none⟩) n c tz u (by omega)
    by_cases hT:There n tz
    ·obtain⟨j,rfl⟩:∃ j:Nat,tz=j:=Int.eq_ofNat_of_zero_le hT.1
     have hj:j<n:=by have:=hT.2;omega
     have HTB:Hid (fP n (j:Int)=true):=hid (by unfold fP;exact decide_eq_true hT)
     rw[HTB.out]at HTH
     have hcq:=h1.metAt hj
     have hlq:q<U.heap.size:=by obtain⟨cur,hc,_⟩:=gY h1.rowM;exact(Array.getElem?_eq_some_iff.1 hc).1
     have hfq:U.frozen? ⟨q,j,none⟩=false:=World.ownsRow.frozenAt h1.rowM j
     have HT:=hid hT
     by_cases hM:(j:Int)∈met
     ·rw[decide_eq_true hM]at hcq
      have HM:=hid hM
      clear h1 hT hM
      gi_wp2_with (refine⟨trivial, ?_⟩;gi_at_call 125;refine(CallsIn.inRound l (callsIn_wide.2 (HTH.out _))).mono ?_;rintro e w' ⟨rfl,rfl⟩)
      refine⟨(KeepsOthers.alloc _ _).from _,fC.alloc _ HBE.out,⟨H1.out.alloc _,H2.out.kept (World.grownBy_alloc U _ none) (fun r e=>by cases e),cZ.alloc HJ.out _ H3.out⟩, ?_,by simp;have:=HL2.out;omega,by rw[World.size_alloc];have:=H6.out;omega⟩
      intro y hy
      rcases List.mem_append.1 hy with hy|hy
      ·exact H4.out y hy
      ·simp only[List.mem_singleton]at hy
       subst hy
       exact fun h=>h.2 HM.out
     ·rw[decide_eq_false hM]at hcq
      have HM:=hid hM
      have HMR:=hid (h1.meet hj)
      have HU:=hid (HMR.out.1.alloc (.cells #[.int .i64 r,.slice (some ⟨g,off,none⟩) n c] 36))
      have HMM:Hid (Marks W0.heap.size ((U.setCell ⟨q,j,none⟩ (.bool true)).alloc (.cells #[.int .i64 r,.slice (some ⟨g,off,none⟩) n c] 36)) Ds):=hid ((h1.meet_rest H2.out hj).kept (World.grownBy_alloc _ _ none) (fun r e=>by cases e))
      have HJM:Hid (J left ((U.setCell ⟨q,j,none⟩ (.bool true)).alloc (.cells #[.int .i64 r,.slice (some ⟨g,off,none⟩) n c] 36))):=hid (cZ.alloc HJ.out _ (HJ.out left _ _ (some q) H3.out HMR.out.2 (fun r e=>by cases e;obtain⟨_,_,hge⟩:=gY h1.rowM;exact⟨hge,h1.freeQ⟩)))
      have hcw2:(U.setCell ⟨q,j,none⟩ (.bool true)).cell? ⟨bw,0,none⟩=some (.slice (some ⟨va1,0,none⟩) (m+1) vc):=HMR.out.1.boxW.cell
      have hcp2:(U.setCell ⟨q,j,none⟩ (.bool true)).cell? ⟨p,0,none⟩=some (.int .i64 (j:Int)):=by
       have hpq:p≠q:=fun e=>by
        obtain⟨cur,hc,_⟩:=gY h1.rowM
        have h2:=HPB.out.2
        rw[e,hc]at h2
        simp at h2
       rw[World.cell?_of_block (a:=⟨p,0,none⟩) (HMR.out.2.block p hlp (fun e=>hpq (Option.some.inj e)))]
       exact hpc
      have HWL:Hid (((((k:Int)::way).reverse).length+1)*8≤140737488355328):=hid (by
       have h1:=HS.out.runs.total
       have h2:=dZ f
       have h3:=HLEN.out
       simp only[List.length_reverse,List.length_cons]at h1⊢
       omega)
      have HSZ:Hid (W0.heap.size≤((U.setCell ⟨q,j,none⟩ (.bool true)).alloc (.cells #[.int .i64 r,.slice (some ⟨g,off,none⟩) n c] 36)).heap.size):=hid (by
       have h1:=HMR.out.2.size
       rw[World.size_alloc]
       have:=HN0.out
       omega)
      have HKQ:Hid (KeepsOthers U ((U.setCell ⟨q,j,none⟩ (.bool true)).alloc (.cells #[.int .i64 r,.slice (some ⟨g,off,none⟩) n c] 36))):=hid ((KeepsOthers.setCell U _ _).trans (KeepsOthers.alloc _ _))
      clear h1 hT hM
      gi_wp2_with (first|(refine⟨trivial, ?_⟩;gi_at_call 125;refine(CallsIn.inRound l (callsIn_wide.2 (HTH.out _))).mono ?_;rintro e w' ⟨rfl,rfl⟩)|(gi_at_builtin;refine iI _ rfl _ _ 40 rfl 3 Tryz.underlying40 aT W0.heap.size (.slice (some ⟨va1,0,none⟩) (m+1) vc) _ rfl HU.out.rowW HSZ.out _ 1 _ (j:Int) rfl (by simp) rfl HWL.out ?_;intro xa xn xc w1 hown1 hgrow1 hwh1;obtain⟨hbx,hst3,hJ3⟩:=bA.push HU.out hgrow1 hown1 hwh1;have HPR:=hid (bA.push_rest HU.out HMM.out hgrow1 (.slice xa xn xc));have hc1:=hbx.cell;have hf1:=hbx.frozen;have HST3:=hid hst3;have HJ3:=hid hJ3;clear hbx hst3 hJ3 hown1 hgrow1 hwh1))
      refine⟨(HKQ.out.trans HPR.out.2).from _,pre,_,rfl,H4.out,HT.out,HM.out,rfl,_,HST3.out,HPR.out.1,HJ3.out _ J left HJ.out HJM.out⟩
    ·have HTB:Hid (fP n tz=false):=hid (by unfold fP;exact decide_eq_false hT)
     rw[HTB.out]at HTH
     have HT:=hid hT
     clear h1 hT
     gi_wp2_with (refine⟨trivial, ?_⟩;gi_at_call 125;refine(CallsIn.inRound l (callsIn_wide.2 (HTH.out _))).mono ?_;rintro e w' ⟨rfl,rfl⟩)
     refine⟨(KeepsOthers.alloc _ _).from _,fC.alloc _ HBE.out,⟨H1.out.alloc _,H2.out.kept (World.grownBy_alloc U _ none) (fun r e=>by cases e),cZ.alloc HJ.out _ H3.out⟩, ?_,by simp;have:=HL2.out;omega,by rw[World.size_alloc];have:=H6.out;omega⟩
     intro y hy
     rcases List.mem_append.1 hy with hy|hy
     ·exact H4.out y hy
     ·simp only[List.mem_singleton]at hy
      subst hy
      exact fun h=>HT.out h.1
   case ran=>
    rintro D ys U hD rfl ⟨⟨h1,h2,h3⟩,h4,h5,h6⟩ hKD
    have hnone:jD n met (toF f k)=none:=BB (fun x hx=>by
     rw[←HFST.out]at hx
     obtain⟨y,hy,rfl⟩:=List.mem_map.1 hx
     exact h4 y hy)
    have hruns:Runs n (toF f) way met (left++ [(k:Int)]) (aD f).reverse:=by
     have h:=HS.out.runs
     cases h with
     |push h' _=>simp only[Int.toNat_natCast]at h';rw[hnone]at h';cases h'
     |pop _ h'=>exact h'
    have hleft:left.length<n:=by
     have h1:=HS.out.runs.total
     have h2:=dZ f
     have h3:=HLEN.out
     simp only[List.length_reverse,List.length_cons]at h1
     omega
    have hmk2:Marks W0.heap.size U (D::Ds):=⟨List.nodup_cons.2 ⟨fun hm=>by have:=HS2.out.2.1.lt hm;omega,h2.1⟩,fun D' hD'=>by
     rcases List.mem_cons.1 hD' with rfl|hD'
     ·exact⟨hKD,by omega⟩
     ·exact h2.2 D' hD'⟩
    obtain⟨fn,tmps,assign,body,hy,hR⟩:=HYY.out left (k:Int) U h3 (HS.out.there (k:Int) (by simp)) hleft
    have H1:=hid h1
    have H2:=hid hmk2
    have HRU:=hid hruns
    clear h1 h2 h3 h4 h5 h6 hKD hmk2 hnone hruns hleft
    gi_wp2
    refine hR.mono ?_
    rintro e U3 ⟨rfl,hJ3,hk3,hl3⟩
    have h3:=H1.out.since hk3 hl3
    have HM3:=hid (H2.out.since hk3 H1.out.lies)
    have H3:=hid h3
    have HJ3:=hid hJ3
    have hcw:=h3.boxW.cell
    have hfw:=h3.boxW.frozen
    clear hy hR h3 hJ3 hk3 hl3
    have hwr2:wrap64 ((m:Int)+1-1)=m:=by rw[show(m:Int)+1-1=m by omega];exact hwr
    gi_wp2
    have hpop:aj U3 W0.heap.size 3 (.slice (some ⟨va1,0,none⟩) m vc) way.reverse:=by
     have h:=H3.out.rowW
     unfold aj at h⊢
     rw[List.reverse_cons,List.map_append,List.length_append,List.length_reverse,hm]at h
     rw[List.length_reverse,hm]
     exact ownsRow_pop (by simp[hm]) h
    refine HK.out (way,met,left++ [(k:Int)]) _ _ ⟨_,_,_,_,_,_,_,_,_,_,_,_,_,_,_,_,_,_,_,_,_,_,_,_,_,_,_,_,_,_,_,_,_,_,_,_,_,_,_,_,_,_,_,_,_,_,_,_,_,_,_,_,_,_,_,_,_,_,_,.slice (some ⟨va1,0,none⟩) m vc,D::Ds,rfl,⟨H3.out.turn hpop (fun i hi=>H3.out.freeV i hi),HM3.out.kept (grownBy_setCell' _ _ _) (fun r e=>by cases e;exact HM3.out.cells H3.out.boxW rfl),HJ.out.setCell _ HJ3.out H3.out.geW H3.out.freeW,HRU.out,HS.out.inv,fun x hx=>HS.out.there x (List.mem_cons_of_mem _ hx),fun x hx=>HS.out.ins x (List.mem_cons_of_mem _ hx)⟩⟩ (by simp only[List.length_cons];omega)
   case stop=>
    rintro D c pre U hD hSp ⟨p,y,hpre,hp,hTy,hMy,rfl,vw,h1,h2,h3⟩ hKD
    obtain⟨q2,hq2⟩:=hSp
    have hsome:jD n met (toF f k)=some y.1:=by
     refine Gq (l:=toF f k) (p:=p.map (·.1)) (r:=((tgV EK ET EE la ln lc ma mn mc).drop q2).map (·.1)) ?_ ?_ hTy hMy
     ·rw[←HFST.out]
      conv=>lhs;rw[←List.take_append_drop q2 (tgV EK ET EE la ln lc ma mn mc),←hq2,hpre]
      simp
     ·intro x hx
      obtain⟨z,hz,rfl⟩:=List.mem_map.1 hx
      exact hp z hz
    have hruns:Runs n (toF f) (y.1::(k:Int)::way) (met++ [y.1]) left (aD f).reverse:=by
     have h:=HS.out.runs
     cases h with
     |push h' hr=>simp only[Int.toNat_natCast]at h';rw[hsome]at h';cases h';exact hr
     |pop h' _=>simp only[Int.toNat_natCast]at h';rw[hsome]at h';cases h'
    have hmk2:Marks W0.heap.size U (D::Ds):=⟨List.nodup_cons.2 ⟨fun hm=>by have:=HS2.out.2.1.lt hm;omega,h2.1⟩,fun D' hD'=>by
     rcases List.mem_cons.1 hD' with rfl|hD'
     ·exact⟨hKD,by omega⟩
     ·exact h2.2 D' hD'⟩
    have hroom:=HS.out.inv.room hTy hMy
    have HWS:Hid (EY f W0 X B t W0.heap.size bm bw q n J U vw (D::Ds) (y.1::(k:Int)::way) (met++ [y.1]) left):=hid ⟨by rw[show(y.1::(k:Int)::way).reverse=((k:Int)::way).reverse++ [y.1] by simp];exact h1,hmk2,h3,hruns,HS.out.inv.more hTy hMy,fun x hx=>by
     rcases List.mem_cons.1 hx with rfl|hx
     ·exact hTy
     ·exact HS.out.there x hx,fun x hx=>by
     rcases List.mem_cons.1 hx with rfl|hx
     ·simp
     ·exact List.mem_append_left _ (HS.out.ins x hx)⟩
    clear h1 h2 h3 hmk2 hruns hsome hKD
    gi_wp2
    exact HK.out (y.1::(k:Int)::way,met++ [y.1],left) _ _ ⟨_,_,_,_,_,_,_,_,_,_,_,_,_,_,_,_,_,_,_,_,_,_,_,_,_,_,_,_,_,_,_,_,_,_,_,_,_,_,_,_,_,_,_,_,_,_,_,_,_,_,_,_,_,_,_,_,_,_,_,vw,D::Ds,rfl,HWS.out⟩ (by simp only[List.length_append,List.length_cons,List.length_nil];omega)
end Go.Proofs.YthjdeoppajlcoaaGreatDoor
