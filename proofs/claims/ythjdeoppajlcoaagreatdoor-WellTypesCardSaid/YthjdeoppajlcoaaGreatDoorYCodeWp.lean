/- Layer 5: the walk's methods, with a writer (gen/wkmeth.py). -/
import Derived.Test.YthjdeoppajlcoaaGreatDoorYCodeWo

namespace Go.Proofs.YthjdeoppajlcoaaGreatDoor
set_option linter.unusedSimpArgs false
set_option linter.unusedVariables false
set_option maxHeartbeats 4000000
set_option maxRecDepth 100000
open Go.RowKit (wrap64 intOf Below Hid)
attribute [local go_sem ↓] Go.wp_at_zero Go.wp_at_succ
open Go.Lib (hid)
theorem bJ.op4(o:OpD):bJ (nK o) 400:=(bJ.op o).mono (by omega)
theorem bJ.block3(o:dD):bJ (gF o) 300000:=(bJ.block o).mono (by omega)
theorem bJ.func3(o:ak):bJ (j6 o) 13000000:=(bJ.func o).mono (by omega)
theorem wl_ops(x B:Nat)(v:Value)(L:List UInt8)(xs:List OpD)(most:Nat)(S:Nat→Prop)(mi:Int)(hmi:mi=(most:Int))(a:Option Addr)(n c:Nat)(w:World)(h:cu w x B v L)(hm:most≤1000)(hl:L.length+(10+most*400)≤140737488355328)(hz:gW 64 8 OpO w S (.slice a n c) xs)(hS:∀ b,S b→b<B∧b≠x)(hft:FT w)(hfb:0<B∧0≠x):
 Calls Tryz.prog 160 #[.agg #[.iface 84 (.pointer (some ⟨x,0,none⟩))],.slice a n c,.int .i64 mi,.func (.func 161) #[.agg #[.iface 84 (.pointer (some ⟨x,0,none⟩))]] #[]] w
  (di x B v L (aH most nK xs) (.slice a n c) w):=by
 obtain⟨a',c',g,he,hlen,hnil,hpos,hk⟩:=hz.form OpO.holds
 cases he
 refine wl_op nK xs 400 x B v L most g mi hmi a c w h bJ.op4 hm hl hlen (fun hp=>(hpos hp).1) (fun k hkl u v' L' ho hn hw hr=> ?_)
 have hgS:=hS g (hpos (by omega)).2
 have hx:=h.safe hgS
 obtain⟨cs,_,h1,h2⟩:=hk k hkl
 exact wk_op x B g (k*8) v' L' S cs xs[k] u hw hr (h1.stays ho hx) (OpO.holds.off h2 ho (fun b hb=>h.safe (hS b hb))) hgS hS (hft.off ho (h.safe hfb)) hfb
theorem Fx(x B g off:Nat)(v:Value)(L:List UInt8)(S:Nat→Prop)(cs:List Value)(y:dD)(w:World)(h:cu w x B v L)(hl:L.length+300000≤140737488355328)(hw:dm w g off cs)(hq:fU w S cs y)(hg:g<B∧g≠x)(hS:∀ b,S b→b<B∧b≠x)(hft:FT w)(hfb:0<B∧0≠x):
 Calls Tryz.prog 147 #[.agg #[.iface 84 (.pointer (some ⟨x,0,none⟩))],.pointer (some ⟨g,off,none⟩)] w (di x B v L (gF y) (.tuple #[]) w):=by
 obtain⟨p,o,es,rfl,hp,hp2,hp3⟩:=hq
 obtain⟨e1,e2,e3,e4,e5,e6,hes⟩:∃ e1 e2 e3 e4 e5 e6,es=[e1,e2,e3,e4,e5,e6]:=by obtain⟨l,m,rfl,_⟩:=hp3;exact⟨_,_,_,_,_,_,rfl⟩
 subst hes
 obtain⟨a1,c1,g1,rfl,_,_,_,_⟩:=hp.form
 obtain⟨n1,hn1⟩:∃ n,n=y.params.length:=⟨_,rfl⟩
 rw[←hn1]at hp hw
 clear hn1
 have HP_params:=hid hp
 clear hp
 obtain⟨a2,c2,g2,rfl,_,_,_,_⟩:=hp2.form OpO.holds
 obtain⟨n2,hn2⟩:∃ n,n=y.ops.length:=⟨_,rfl⟩
 rw[←hn2]at hp2 hw
 clear hn2
 have HP_ops:=hid hp2
 clear hp2
 have HP_fin:=hid hp3
 clear hp3
 have HF:=hid hft
 have HFB:=hid (h.safe hfb)
 have HFB0:=hid hfb
 clear hft hfb
 have hmf:∀ (fn:Fn) (first cap:Array Value) (w:World),(Instr.makeFunc fn first cap).run Tryz.prog w=.ok (.func fn first cap) w:=fun _ _ _ _=>rfl
 have HN0:Hid (∀b,S b→¬ WX x v b):=hid fun b hb=>h.safe (hS b hb)
 have HN1:=hid (h.safe hg)
 have HG:=hid hg
 have HS:=hid hS
 have HW:=hid hw
 have hst0:=WSt.start h
 clear h hw hS hg
 have hd1:=hst0.drew
 have hw1:=hd1.win HW.out HN1.out
 have hb1:=hd1.cell
 have hc1:=hw1.cell (j:=0) (by simp)
 simp only[Nat.add_zero,List.getElem_cons_zero,List.getElem_cons_succ]at hc1
 have hf1:=hw1.free (off)
 have hlt1:=hw1.lt
 have HX1:=hid (hd1.wr.safe HG.out)
 have HD1:=hid hd1
 clear hd1 hw1
 go_enter Tryz.func147,Tryz.ntmps147
 go_upto_region 1 with fail
 go_cut [12] (fun tc wc=>Hid (∃l1 v1,dz 8 y.params=.ok l1∧WSt x B v w w.heap.size (L++l1) wc v1))
 case first=>
  go_region_law (first|(rw[if_pos (by rfl)];go_simp;go_at_call 144;(with_reducible refine(nQ x B v L y.params 8 S _ (by omega) a1 n1 c1 _ HD1.out.wr (by omega) (by first|omega|(simp only[List.length_append];omega)) (HP_params.out.off HD1.out.offs HN0.out) HS.out).mono ?_);rintro e u1 (⟨l1,v1,ho,rfl,hW,hO,hN⟩|⟨er,ho,rfl,hO⟩);rotate_left;(exact⟨rfl,HD1.out.fails hO (by simp only[gF,ho,Out.no_and,Out.ok_no,Out.ok_ok])⟩);have hst1:=HD1.out.step hW hO hN;have hwe:=hst1.win HW.out HN1.out;have hbe:=hst1.cell;have hce:=hwe.cell (j:=0) (by simp);simp only[Nat.add_zero,List.getElem_cons_zero,List.getElem_cons_succ]at hce;have hfe:=hwe.free (off)))
  all_goals
   rw[aP hce]
   go_wp2_with fail
   go_meet
   exact hid ⟨l1,v1,ho,hst1⟩
 case rest=>
  obtain⟨l1,v1,ho1,hst1⟩:=hcut.out
  have HO1:=hid ho1
  have hll1:=bJ.nums 8 y.params l1 ho1
  clear ho1 hcut
  have hd2:=hst1.drew
  have hw2:=hd2.win HW.out HN1.out
  have hb2:=hd2.cell
  have hc2:=hw2.cell (j:=1) (by simp)
  simp only[Nat.add_zero,List.getElem_cons_zero,List.getElem_cons_succ]at hc2
  have hf2:=hw2.free (off+1)
  have hlt2:=hw2.lt
  have HX2:=hid (hd2.wr.safe HG.out)
  have HD2:=hid hd2
  clear hd2 hw2
  go_upto_region 2 with fail
  go_cut [23] (fun tc wc=>Hid (∃l2 v2,aH 700 nK y.ops=.ok l2∧WSt x B v w w.heap.size (L++l1++l2) wc v2))
  case first=>
   go_region_law (first|(rw[if_pos (by rfl)];go_simp;go_at_call 160;(with_reducible refine(wl_ops x B v1 (L++l1) y.ops 700 S _ (by omega) a2 n2 c2 _ HD2.out.wr (by omega) (by first|omega|(simp only[List.length_append];omega)) (HP_ops.out.off OpO.holds HD2.out.offs HN0.out) HS.out (HF.out.off HD2.out.offs HFB.out) HFB0.out).mono ?_);rintro e u2 (⟨l2,v2,ho,rfl,hW,hO,hN⟩|⟨er,ho,rfl,hO⟩);rotate_left;(exact⟨rfl,HD2.out.fails hO (by simp only[gF,HO1.out,ho,Out.no_and,Out.ok_no,Out.ok_ok])⟩);have hst2:=HD2.out.step hW hO hN;have hwe:=hst2.win HW.out HN1.out;have hbe:=hst2.cell;have hce:=hwe.cell (j:=1) (by simp);simp only[Nat.add_zero,List.getElem_cons_zero,List.getElem_cons_succ]at hce;have hfe:=hwe.free (off+1)))
   all_goals
    rw[aP hce]
    go_wp2_with fail
    go_meet
    exact hid ⟨l2,v2,ho,hst2⟩
  case rest=>
   obtain⟨l2,v2,ho2,hst2⟩:=hcut.out
   have HO2:=hid ho2
   have hll2:=bJ.list y.ops (fun b _=>bJ.op b) l2 ho2
   clear ho2 hcut
   have hd3:=hst2.drew
   have hw3:=hd3.win HW.out HN1.out
   have hb3:=hd3.cell
   have hp3:=hw3.part 2 6 (by simp)
   simp only[Nat.add_zero,List.drop_zero,List.drop_succ_cons,List.take_succ_cons,List.take_zero]at hp3
   have HP3:=hid hp3
   have hlt3:=hw3.lt
   have HX3:=hid (hd3.wr.safe HG.out)
   have HD3:=hid hd3
   clear hd3 hw3 hp3
   go_wp2_with fail
   go_region_law (first|(rw[if_pos (by rfl)];go_simp;go_at_call 162;(with_reducible refine(wk_end x B g (off+2) v2 (L++l1++l2) S _ y.fin _ HD3.out.wr (by first|omega|(simp only[List.length_append];omega)) HP3.out (Hf.holds.off HP_fin.out HD3.out.offs HN0.out) HG.out HS.out).mono ?_);rintro e u3 (⟨l3,v3,ho,rfl,hW,hO,hN⟩|⟨er,ho,rfl,hO⟩);rotate_left;(exact⟨rfl,HD3.out.fails hO (by simp only[gF,HO1.out,HO2.out,ho,Out.no_and,Out.ok_no,Out.ok_ok])⟩);have hst3:=HD3.out.step hW hO hN))
   all_goals
    go_end0
    exact hst3.done (l:=l1++(l2++(l3))) (by simp only[List.append_assoc]) (by simp only[gF,HO1.out,HO2.out,ho,Out.ok_ok])
theorem Cs(x B:Nat)(v:Value)(L:List UInt8)(xs:List dD)(most:Nat)(S:Nat→Prop)(mi:Int)(hmi:mi=(most:Int))(a:Option Addr)(n c:Nat)(w:World)(h:cu w x B v L)(hm:most≤1000)(hl:L.length+(10+most*300000)≤140737488355328)(hz:gW 51 8 fU w S (.slice a n c) xs)(hS:∀ b,S b→b<B∧b≠x)(hft:FT w)(hfb:0<B∧0≠x):
 Calls Tryz.prog 146 #[.agg #[.iface 84 (.pointer (some ⟨x,0,none⟩))],.slice a n c,.int .i64 mi,.func (.func 147) #[.agg #[.iface 84 (.pointer (some ⟨x,0,none⟩))]] #[]] w
  (di x B v L (aH most gF xs) (.slice a n c) w):=by
 obtain⟨a',c',g,he,hlen,hnil,hpos,hk⟩:=hz.form fU.holds
 cases he
 refine Fu gF xs 300000 x B v L most g mi hmi a c w h bJ.block3 hm hl hlen (fun hp=>(hpos hp).1) (fun k hkl u v' L' ho hn hw hr=> ?_)
 have hgS:=hS g (hpos (by omega)).2
 have hx:=h.safe hgS
 obtain⟨cs,_,h1,h2⟩:=hk k hkl
 exact Fx x B g (k*8) v' L' S cs xs[k] u hw hr (h1.stays ho hx) (fU.holds.off h2 ho (fun b hb=>h.safe (hS b hb))) hgS hS (hft.off ho (h.safe hfb)) hfb
theorem wk_fun(x B g off:Nat)(v:Value)(L:List UInt8)(S:Nat→Prop)(cs:List Value)(y:ak)(w:World)(h:cu w x B v L)(hl:L.length+13000000≤140737488355328)(hw:dm w g off cs)(hq:jS w S cs y)(hg:g<B∧g≠x)(hS:∀ b,S b→b<B∧b≠x)(hft:FT w)(hfb:0<B∧0≠x):
 Calls Tryz.prog 112 #[.agg #[.iface 84 (.pointer (some ⟨x,0,none⟩))],.pointer (some ⟨g,off,none⟩)] w (di x B v L (j6 y) (.tuple #[]) w):=by
 obtain⟨p,rfl,⟨hr0,hr1⟩,hp⟩:=hq
 obtain⟨a1,c1,g1,rfl,_,_,_,_⟩:=hp.form fU.holds
 obtain⟨n1,hn1⟩:∃ n,n=y.blocks.length:=⟨_,rfl⟩
 rw[←hn1]at hp hw
 clear hn1
 have HP_blocks:=hid hp
 clear hp
 have HF:=hid hft
 have HFB:=hid (h.safe hfb)
 have HFB0:=hid hfb
 clear hft hfb
 have hmf:∀ (fn:Fn) (first cap:Array Value) (w:World),(Instr.makeFunc fn first cap).run Tryz.prog w=.ok (.func fn first cap) w:=fun _ _ _ _=>rfl
 have HN0:Hid (∀b,S b→¬ WX x v b):=hid fun b hb=>h.safe (hS b hb)
 have HN1:=hid (h.safe hg)
 have HG:=hid hg
 have HS:=hid hS
 have HW:=hid hw
 have hst0:=WSt.start h
 clear h hw hS hg
 have hd1:=hst0.drew
 have hw1:=hd1.win HW.out HN1.out
 have hb1:=hd1.cell
 have hp1:=hw1.part 0 1 (by simp)
 simp only[Nat.add_zero,List.drop_zero,List.drop_succ_cons,List.take_succ_cons,List.take_zero]at hp1
 have HP1:=hid hp1
 have hlt1:=hw1.lt
 have HX1:=hid (hd1.wr.safe HG.out)
 have HD1:=hid hd1
 clear hd1 hw1 hp1
 go_enter Tryz.func112,Tryz.ntmps112
 go_upto_region 1 with fail
 go_cut [8] (fun tc wc=>Hid (∃v1,WSt x B v w w.heap.size (L++dU y.ret) wc v1))
 case first=>
  go_region_law (first|(rw[if_pos (by rfl)];go_simp;go_at_call 145;(with_reducible refine(gX x B g off v L y.ret _ HD1.out.wr hr0 hr1 (by omega) HP1.out HX1.out).mono ?_);rintro e u1 ⟨v1,rfl,hW,hO,hN⟩;have hst1:=HD1.out.step hW hO hN))
  all_goals
   go_wp2_with fail
   go_meet
   exact hid ⟨v1,hst1⟩
 case rest=>
  obtain⟨v1,hst1⟩:=hcut.out
  obtain⟨l1,hl1⟩:∃ l,l=dU y.ret:=⟨_,rfl⟩
  have HO1:Hid (kI y.ret=.ok l1):=hid (by rw[hl1];rfl)
  have hll1:l1.length≤10:=by rw[hl1];exact dn _
  rw[←hl1]at hst1
  clear hl1 hcut
  have hd2:=hst1.drew
  have hw2:=hd2.win HW.out HN1.out
  have hb2:=hd2.cell
  have hc2:=hw2.cell (j:=1) (by simp)
  simp only[Nat.add_zero,List.getElem_cons_zero,List.getElem_cons_succ]at hc2
  have hf2:=hw2.free (off+1)
  have hlt2:=hw2.lt
  have HX2:=hid (hd2.wr.safe HG.out)
  have HD2:=hid hd2
  clear hd2 hw2
  go_wp2_with fail
  go_region_law (first|(rw[if_pos (by rfl)];go_simp;go_at_call 146;(with_reducible refine(Cs x B v1 (L++l1) y.blocks 40 S _ (by omega) a1 n1 c1 _ HD2.out.wr (by omega) (by first|omega|(simp only[List.length_append];omega)) (HP_blocks.out.off fU.holds HD2.out.offs HN0.out) HS.out (HF.out.off HD2.out.offs HFB.out) HFB0.out).mono ?_);rintro e u2 (⟨l2,v2,ho,rfl,hW,hO,hN⟩|⟨er,ho,rfl,hO⟩);rotate_left;(exact⟨rfl,HD2.out.fails hO (by simp only[j6,HO1.out,ho,Out.no_and,Out.ok_no,Out.ok_ok])⟩);have hst2:=HD2.out.step hW hO hN;have hwe:=hst2.win HW.out HN1.out;have hbe:=hst2.cell;have hce:=hwe.cell (j:=1) (by simp);simp only[Nat.add_zero,List.getElem_cons_zero,List.getElem_cons_succ]at hce;have hfe:=hwe.free (off+1)))
  all_goals
   rw[aP hce]
   go_end0
   exact hst2.done (l:=l1++(l2)) (by simp only[List.append_assoc]) (by simp only[j6,HO1.out,ho,Out.ok_ok])
theorem wl_funs(x B:Nat)(v:Value)(L:List UInt8)(xs:List ak)(most:Nat)(S:Nat→Prop)(mi:Int)(hmi:mi=(most:Int))(a:Option Addr)(n c:Nat)(w:World)(h:cu w x B v L)(hm:most≤1000)(hl:L.length+(10+most*13000000)≤140737488355328)(hz:gW 36 2 jS w S (.slice a n c) xs)(hS:∀ b,S b→b<B∧b≠x)(hft:FT w)(hfb:0<B∧0≠x):
 Calls Tryz.prog 111 #[.agg #[.iface 84 (.pointer (some ⟨x,0,none⟩))],.slice a n c,.int .i64 mi,.func (.func 112) #[.agg #[.iface 84 (.pointer (some ⟨x,0,none⟩))]] #[]] w
  (di x B v L (aH most j6 xs) (.slice a n c) w):=by
 obtain⟨a',c',g,he,hlen,hnil,hpos,hk⟩:=hz.form jS.holds
 cases he
 refine wl_fun j6 xs 13000000 x B v L most g mi hmi a c w h bJ.func3 hm hl hlen (fun hp=>(hpos hp).1) (fun k hkl u v' L' ho hn hw hr=> ?_)
 have hgS:=hS g (hpos (by omega)).2
 have hx:=h.safe hgS
 obtain⟨cs,_,h1,h2⟩:=hk k hkl
 exact wk_fun x B g (k*2) v' L' S cs xs[k] u hw hr (h1.stays ho hx) (jS.holds.off h2 ho (fun b hb=>h.safe (hS b hb))) hgS hS (hft.off ho (h.safe hfb)) hfb
theorem wk_prog(x B g off:Nat)(v:Value)(L:List UInt8)(S:Nat→Prop)(cs:List Value)(y:aB)(w:World)(h:cu w x B v L)(hl:L.length+220000000≤140737488355328)(hw:dm w g off cs)(hq:yw w S cs y)(hg:g<B∧g≠x)(hS:∀ b,S b→b<B∧b≠x)(hft:FT w)(hfb:0<B∧0≠x):
 Calls Tryz.prog 77 #[.agg #[.iface 84 (.pointer (some ⟨x,0,none⟩))],.pointer (some ⟨g,off,none⟩)] w (di x B v L (cK y) (.tuple #[]) w):=by
 obtain⟨p,o,q,rfl,hp,hp2,hp3⟩:=hq
 obtain⟨a1,c1,g1,rfl,_,_,_,_⟩:=hp.form qK.holds
 obtain⟨n1,hn1⟩:∃ n,n=y.sigs.length:=⟨_,rfl⟩
 rw[←hn1]at hp hw
 clear hn1
 have HP_sigs:=hid hp
 clear hp
 obtain⟨a2,c2,g2,rfl,_,_,_,_⟩:=hp2.form fD.holds
 obtain⟨n2,hn2⟩:∃ n,n=y.classes.length:=⟨_,rfl⟩
 rw[←hn2]at hp2 hw
 clear hn2
 have HP_classes:=hid hp2
 clear hp2
 obtain⟨a3,c3,g3,rfl,_,_,_,_⟩:=hp3.form jS.holds
 obtain⟨n3,hn3⟩:∃ n,n=y.funcs.length:=⟨_,rfl⟩
 rw[←hn3]at hp3 hw
 clear hn3
 have HP_funcs:=hid hp3
 clear hp3
 have HF:=hid hft
 have HFB:=hid (h.safe hfb)
 have HFB0:=hid hfb
 clear hft hfb
 have hmf:∀ (fn:Fn) (first cap:Array Value) (w:World),(Instr.makeFunc fn first cap).run Tryz.prog w=.ok (.func fn first cap) w:=fun _ _ _ _=>rfl
 have HN0:Hid (∀b,S b→¬ WX x v b):=hid fun b hb=>h.safe (hS b hb)
 have HN1:=hid (h.safe hg)
 have HG:=hid hg
 have HS:=hid hS
 have HW:=hid hw
 have hst0:=WSt.start h
 clear h hw hS hg
 have hd1:=hst0.drew
 have hw1:=hd1.win HW.out HN1.out
 have hb1:=hd1.cell
 have hc1:=hw1.cell (j:=0) (by simp)
 simp only[Nat.add_zero,List.getElem_cons_zero,List.getElem_cons_succ]at hc1
 have hf1:=hw1.free (off)
 have hlt1:=hw1.lt
 have HX1:=hid (hd1.wr.safe HG.out)
 have HD1:=hid hd1
 clear hd1 hw1
 go_enter Tryz.func77,Tryz.ntmps77
 go_upto_region 1 with fail
 go_cut [12] (fun tc wc=>Hid (∃l1 v1,aH 4 nJ y.sigs=.ok l1∧WSt x B v w w.heap.size (L++l1) wc v1))
 case first=>
  go_region_law (first|(rw[if_pos (by rfl)];go_simp;go_at_call 107;(with_reducible refine(wl_sigs x B v L y.sigs 4 S _ (by omega) a1 n1 c1 _ HD1.out.wr (by omega) (by first|omega|(simp only[List.length_append];omega)) (HP_sigs.out.off qK.holds HD1.out.offs HN0.out) HS.out).mono ?_);rintro e u1 (⟨l1,v1,ho,rfl,hW,hO,hN⟩|⟨er,ho,rfl,hO⟩);rotate_left;(exact⟨rfl,HD1.out.fails hO (by simp only[cK,ho,Out.no_and,Out.ok_no,Out.ok_ok])⟩);have hst1:=HD1.out.step hW hO hN;have hwe:=hst1.win HW.out HN1.out;have hbe:=hst1.cell;have hce:=hwe.cell (j:=0) (by simp);simp only[Nat.add_zero,List.getElem_cons_zero,List.getElem_cons_succ]at hce;have hfe:=hwe.free (off)))
  all_goals
   rw[aP hce]
   go_wp2_with fail
   go_meet
   exact hid ⟨l1,v1,ho,hst1⟩
 case rest=>
  obtain⟨l1,v1,ho1,hst1⟩:=hcut.out
  have HO1:=hid ho1
  have hll1:=bJ.list y.sigs (fun b _=>bJ.sig b) l1 ho1
  clear ho1 hcut
  have hd2:=hst1.drew
  have hw2:=hd2.win HW.out HN1.out
  have hb2:=hd2.cell
  have hc2:=hw2.cell (j:=1) (by simp)
  simp only[Nat.add_zero,List.getElem_cons_zero,List.getElem_cons_succ]at hc2
  have hf2:=hw2.free (off+1)
  have hlt2:=hw2.lt
  have HX2:=hid (hd2.wr.safe HG.out)
  have HD2:=hid hd2
  clear hd2 hw2
  go_upto_region 2 with fail
  go_cut [23] (fun tc wc=>Hid (∃l2 v2,aH 8 ic y.classes=.ok l2∧WSt x B v w w.heap.size (L++l1++l2) wc v2))
  case first=>
   go_region_law (first|(rw[if_pos (by rfl)];go_simp;go_at_call 109;(with_reducible refine(Aa x B v1 (L++l1) y.classes 8 S _ (by omega) a2 n2 c2 _ HD2.out.wr (by omega) (by first|omega|(simp only[List.length_append];omega)) (HP_classes.out.off fD.holds HD2.out.offs HN0.out) HS.out).mono ?_);rintro e u2 (⟨l2,v2,ho,rfl,hW,hO,hN⟩|⟨er,ho,rfl,hO⟩);rotate_left;(exact⟨rfl,HD2.out.fails hO (by simp only[cK,HO1.out,ho,Out.no_and,Out.ok_no,Out.ok_ok])⟩);have hst2:=HD2.out.step hW hO hN;have hwe:=hst2.win HW.out HN1.out;have hbe:=hst2.cell;have hce:=hwe.cell (j:=1) (by simp);simp only[Nat.add_zero,List.getElem_cons_zero,List.getElem_cons_succ]at hce;have hfe:=hwe.free (off+1)))
   all_goals
    rw[aP hce]
    go_wp2_with fail
    go_meet
    exact hid ⟨l2,v2,ho,hst2⟩
  case rest=>
   obtain⟨l2,v2,ho2,hst2⟩:=hcut.out
   have HO2:=hid ho2
   have hll2:=bJ.list y.classes (fun b _=>bJ.cls b) l2 ho2
   clear ho2 hcut
   have hd3:=hst2.drew
   have hw3:=hd3.win HW.out HN1.out
   have hb3:=hd3.cell
   have hc3:=hw3.cell (j:=2) (by simp)
   simp only[Nat.add_zero,List.getElem_cons_zero,List.getElem_cons_succ]at hc3
   have hf3:=hw3.free (off+2)
   have hlt3:=hw3.lt
   have HX3:=hid (hd3.wr.safe HG.out)
   have HD3:=hid hd3
   clear hd3 hw3
   go_wp2_with fail
   go_region_law (first|(rw[if_pos (by rfl)];go_simp;go_at_call 111;(with_reducible refine(wl_funs x B v2 (L++l1++l2) y.funcs 16 S _ (by omega) a3 n3 c3 _ HD3.out.wr (by omega) (by first|omega|(simp only[List.length_append];omega)) (HP_funcs.out.off jS.holds HD3.out.offs HN0.out) HS.out (HF.out.off HD3.out.offs HFB.out) HFB0.out).mono ?_);rintro e u3 (⟨l3,v3,ho,rfl,hW,hO,hN⟩|⟨er,ho,rfl,hO⟩);rotate_left;(exact⟨rfl,HD3.out.fails hO (by simp only[cK,HO1.out,HO2.out,ho,Out.no_and,Out.ok_no,Out.ok_ok])⟩);have hst3:=HD3.out.step hW hO hN;have hwe:=hst3.win HW.out HN1.out;have hbe:=hst3.cell;have hce:=hwe.cell (j:=2) (by simp);simp only[Nat.add_zero,List.getElem_cons_zero,List.getElem_cons_succ]at hce;have hfe:=hwe.free (off+2)))
   all_goals
    rw[aP hce]
    go_end0
    exact hst3.done (l:=l1++(l2++(l3))) (by simp only[List.append_assoc]) (by simp only[cK,HO1.out,HO2.out,ho,Out.ok_ok])
end Go.Proofs.YthjdeoppajlcoaaGreatDoor
