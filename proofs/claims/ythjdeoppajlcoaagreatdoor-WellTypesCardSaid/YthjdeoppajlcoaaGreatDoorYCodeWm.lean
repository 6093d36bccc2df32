/- Layer 5: the walk's methods, with a writer (gen/wkmeth.py). -/
import Derived.Test.YthjdeoppajlcoaaGreatDoorYT4

namespace Go.Proofs.YthjdeoppajlcoaaGreatDoor
set_option linter.unusedSimpArgs false
set_option linter.unusedVariables false
set_option maxHeartbeats 4000000
set_option maxRecDepth 100000
open Go.RowKit (wrap64 intOf Below Hid)
attribute [local go_sem ↓] Go.wp_at_zero Go.wp_at_succ
open Go.Lib (hid)
theorem wk_sig(x B g off:Nat)(v:Value)(L:List UInt8)(S:Nat→Prop)(cs:List Value)(y:wC)(w:World)(h:cu w x B v L)(hl:L.length+200≤140737488355328)(hw:dm w g off cs)(hq:qK w S cs y)(hg:g<B∧g≠x)(hS:∀ b,S b→b<B∧b≠x):
 Calls Tryz.prog 108 #[.agg #[.iface 84 (.pointer (some ⟨x,0,none⟩))],.pointer (some ⟨g,off,none⟩)] w (di x B v L (nJ y) (.tuple #[]) w):=by
 obtain⟨p,rfl,hp,hr0,hr1⟩:=hq
 obtain⟨a1,c1,g1,rfl,_,_,_,_⟩:=hp.form
 obtain⟨n1,hn1⟩:∃ n,n=y.params.length:=⟨_,rfl⟩
 rw[←hn1]at hp hw
 clear hn1
 have HP_params:=hid hp
 clear hp
 have hmf:∀ (fn:Fn) (first cap:Array Value) (w:World),(Instr.makeFunc fn first cap).run Tryz.prog w=.ok (.func fn first cap) w:=fun _ _ _ _=>rfl
 have HN0:Hid (∀b,S b→¬ WX x v b):=hid fun b hb=>h.safe (hS b hb)
 have HN1:=hid (h.safe hg)
 have HG:=hid hg
 have HS:=hid hS
 have HW:=hid hw
 have hst0:=WSt.start h
 clear h hw hS hg
 have hd1:=hst0.drew
 have hw1:=hd1.win HW.out HN1.out
 have hb1:=hd1.cell
 have hc1:=hw1.cell (j:=0) (by simp)
 simp only[Nat.add_zero,List.getElem_cons_zero,List.getElem_cons_succ]at hc1
 have hf1:=hw1.free (off)
 have hlt1:=hw1.lt
 have HX1:=hid (hd1.wr.safe HG.out)
 have HD1:=hid hd1
 clear hd1 hw1
 go_enter Tryz.func108,Tryz.ntmps108
 go_upto_region 1 with fail
 go_cut [12] (fun tc wc=>Hid (∃l1 v1,dz 8 y.params=.ok l1∧WSt x B v w w.heap.size (L++l1) wc v1))
 case first=>
  go_region_law (first|(rw[if_pos (by rfl)];go_simp;go_at_call 144;(with_reducible refine(nQ x B v L y.params 8 S _ (by omega) a1 n1 c1 _ HD1.out.wr (by omega) (by first|omega|(simp only[List.length_append];omega)) (HP_params.out.off HD1.out.offs HN0.out) HS.out).mono ?_);rintro e u1 (⟨l1,v1,ho,rfl,hW,hO,hN⟩|⟨er,ho,rfl,hO⟩);rotate_left;(exact⟨rfl,HD1.out.fails hO (by simp only[nJ,ho,Out.no_and,Out.ok_no,Out.ok_ok])⟩);have hst1:=HD1.out.step hW hO hN;have hwe:=hst1.win HW.out HN1.out;have hbe:=hst1.cell;have hce:=hwe.cell (j:=0) (by simp);simp only[Nat.add_zero,List.getElem_cons_zero,List.getElem_cons_succ]at hce;have hfe:=hwe.free (off)))
  all_goals
   rw[aP hce]
   go_wp2_with fail
   go_meet
   exact hid ⟨l1,v1,ho,hst1⟩
 case rest=>
  obtain⟨l1,v1,ho1,hst1⟩:=hcut.out
  have HO1:=hid ho1
  have hll1:=bJ.nums 8 y.params l1 ho1
  clear ho1 hcut
  have hd2:=hst1.drew
  have hw2:=hd2.win HW.out HN1.out
  have hb2:=hd2.cell
  have hp2:=hw2.part 1 1 (by simp)
  simp only[Nat.add_zero,List.drop_zero,List.drop_succ_cons,List.take_succ_cons,List.take_zero]at hp2
  have HP2:=hid hp2
  have hlt2:=hw2.lt
  have HX2:=hid (hd2.wr.safe HG.out)
  have HD2:=hid hd2
  clear hd2 hw2 hp2
  go_wp2_with fail
  go_region_law (first|(rw[if_pos (by rfl)];go_simp;go_at_call 145;(with_reducible refine(gX x B g (off+1) v1 (L++l1) y.ret _ HD2.out.wr hr0 hr1 (by first|omega|(simp only[List.length_append];omega)) HP2.out HX2.out).mono ?_);rintro e u2 ⟨v2,rfl,hW,hO,hN⟩;have hst2:=HD2.out.step hW hO hN))
  all_goals
   go_end0
   exact hst2.done (l:=l1++(dU y.ret)) (by simp only[List.append_assoc]) (by simp only[nJ,HO1.out,kI,Out.ok_ok])
theorem wl_sigs(x B:Nat)(v:Value)(L:List UInt8)(xs:List wC)(most:Nat)(S:Nat→Prop)(mi:Int)(hmi:mi=(most:Int))(a:Option Addr)(n c:Nat)(w:World)(h:cu w x B v L)(hm:most≤1000)(hl:L.length+(10+most*200)≤140737488355328)(hz:gW 60 2 qK w S (.slice a n c) xs)(hS:∀ b,S b→b<B∧b≠x):
 Calls Tryz.prog 107 #[.agg #[.iface 84 (.pointer (some ⟨x,0,none⟩))],.slice a n c,.int .i64 mi,.func (.func 108) #[.agg #[.iface 84 (.pointer (some ⟨x,0,none⟩))]] #[]] w
  (di x B v L (aH most nJ xs) (.slice a n c) w):=by
 obtain⟨a',c',g,he,hlen,hnil,hpos,hk⟩:=hz.form qK.holds
 cases he
 refine wl_sig nJ xs 200 x B v L most g mi hmi a c w h bJ.sig hm hl hlen (fun hp=>(hpos hp).1) (fun k hkl u v' L' ho hn hw hr=> ?_)
 have hgS:=hS g (hpos (by omega)).2
 have hx:=h.safe hgS
 obtain⟨cs,_,h1,h2⟩:=hk k hkl
 exact wk_sig x B g (k*2) v' L' S cs xs[k] u hw hr (h1.stays ho hx) (qK.holds.off h2 ho (fun b hb=>h.safe (hS b hb))) hgS hS
theorem Fw(x B g off:Nat)(v:Value)(L:List UInt8)(S:Nat→Prop)(cs:List Value)(y:iE)(w:World)(h:cu w x B v L)(hl:L.length+200≤140737488355328)(hw:dm w g off cs)(hq:fD w S cs y)(hg:g<B∧g≠x)(hS:∀ b,S b→b<B∧b≠x):
 Calls Tryz.prog 110 #[.agg #[.iface 84 (.pointer (some ⟨x,0,none⟩))],.pointer (some ⟨g,off,none⟩)] w (di x B v L (ic y) (.tuple #[]) w):=by
 obtain⟨p,q,rfl,hp,hp2⟩:=hq
 obtain⟨a1,c1,g1,rfl,_,_,_,_⟩:=hp.form
 obtain⟨n1,hn1⟩:∃ n,n=y.fields.length:=⟨_,rfl⟩
 rw[←hn1]at hp hw
 clear hn1
 have HP_fields:=hid hp
 clear hp
 obtain⟨a2,c2,g2,rfl,_,_,_,_⟩:=hp2.form
 obtain⟨n2,hn2⟩:∃ n,n=y.methods.length:=⟨_,rfl⟩
 rw[←hn2]at hp2 hw
 clear hn2
 have HP_methods:=hid hp2
 clear hp2
 have hmf:∀ (fn:Fn) (first cap:Array Value) (w:World),(Instr.makeFunc fn first cap).run Tryz.prog w=.ok (.func fn first cap) w:=fun _ _ _ _=>rfl
 have HN0:Hid (∀b,S b→¬ WX x v b):=hid fun b hb=>h.safe (hS b hb)
 have HN1:=hid (h.safe hg)
 have HG:=hid hg
 have HS:=hid hS
 have HW:=hid hw
 have hst0:=WSt.start h
 clear h hw hS hg
 have hd1:=hst0.drew
 have hw1:=hd1.win HW.out HN1.out
 have hb1:=hd1.cell
 have hc1:=hw1.cell (j:=0) (by simp)
 simp only[Nat.add_zero,List.getElem_cons_zero,List.getElem_cons_succ]at hc1
 have hf1:=hw1.free (off)
 have hlt1:=hw1.lt
 have HX1:=hid (hd1.wr.safe HG.out)
 have HD1:=hid hd1
 clear hd1 hw1
 go_enter Tryz.func110,Tryz.ntmps110
 go_upto_region 1 with fail
 go_cut [12] (fun tc wc=>Hid (∃l1 v1,dz 8 y.fields=.ok l1∧WSt x B v w w.heap.size (L++l1) wc v1))
 case first=>
  go_region_law (first|(rw[if_pos (by rfl)];go_simp;go_at_call 144;(with_reducible refine(nQ x B v L y.fields 8 S _ (by omega) a1 n1 c1 _ HD1.out.wr (by omega) (by first|omega|(simp only[List.length_append];omega)) (HP_fields.out.off HD1.out.offs HN0.out) HS.out).mono ?_);rintro e u1 (⟨l1,v1,ho,rfl,hW,hO,hN⟩|⟨er,ho,rfl,hO⟩);rotate_left;(exact⟨rfl,HD1.out.fails hO (by simp only[ic,ho,Out.no_and,Out.ok_no,Out.ok_ok])⟩);have hst1:=HD1.out.step hW hO hN;have hwe:=hst1.win HW.out HN1.out;have hbe:=hst1.cell;have hce:=hwe.cell (j:=0) (by simp);simp only[Nat.add_zero,List.getElem_cons_zero,List.getElem_cons_succ]at hce;have hfe:=hwe.free (off)))
  all_goals
   rw[aP hce]
   go_wp2_with fail
   go_meet
   exact hid ⟨l1,v1,ho,hst1⟩
 case rest=>
  obtain⟨l1,v1,ho1,hst1⟩:=hcut.out
  have HO1:=hid ho1
  have hll1:=bJ.nums 8 y.fields l1 ho1
  clear ho1 hcut
  have hd2:=hst1.drew
  have hw2:=hd2.win HW.out HN1.out
  have hb2:=hd2.cell
  have hc2:=hw2.cell (j:=1) (by simp)
  simp only[Nat.add_zero,List.getElem_cons_zero,List.getElem_cons_succ]at hc2
  have hf2:=hw2.free (off+1)
  have hlt2:=hw2.lt
  have HX2:=hid (hd2.wr.safe HG.out)
  have HD2:=hid hd2
  clear hd2 hw2
  go_wp2_with fail
  go_region_law (first|(rw[if_pos (by rfl)];go_simp;go_at_call 144;(with_reducible refine(nQ x B v1 (L++l1) y.methods 4 S _ (by omega) a2 n2 c2 _ HD2.out.wr (by omega) (by first|omega|(simp only[List.length_append];omega)) (HP_methods.out.off HD2.out.offs HN0.out) HS.out).mono ?_);rintro e u2 (⟨l2,v2,ho,rfl,hW,hO,hN⟩|⟨er,ho,rfl,hO⟩);rotate_left;(exact⟨rfl,HD2.out.fails hO (by simp only[ic,HO1.out,ho,Out.no_and,Out.ok_no,Out.ok_ok])⟩);have hst2:=HD2.out.step hW hO hN;have hwe:=hst2.win HW.out HN1.out;have hbe:=hst2.cell;have hce:=hwe.cell (j:=1) (by simp);simp only[Nat.add_zero,List.getElem_cons_zero,List.getElem_cons_succ]at hce;have hfe:=hwe.free (off+1)))
  all_goals
   rw[aP hce]
   go_end0
   exact hst2.done (l:=l1++(l2)) (by simp only[List.append_assoc]) (by simp only[ic,HO1.out,ho,Out.ok_ok])
theorem Aa(x B:Nat)(v:Value)(L:List UInt8)(xs:List iE)(most:Nat)(S:Nat→Prop)(mi:Int)(hmi:mi=(most:Int))(a:Option Addr)(n c:Nat)(w:World)(h:cu w x B v L)(hm:most≤1000)(hl:L.length+(10+most*200)≤140737488355328)(hz:gW 62 2 fD w S (.slice a n c) xs)(hS:∀ b,S b→b<B∧b≠x):
 Calls Tryz.prog 109 #[.agg #[.iface 84 (.pointer (some ⟨x,0,none⟩))],.slice a n c,.int .i64 mi,.func (.func 110) #[.agg #[.iface 84 (.pointer (some ⟨x,0,none⟩))]] #[]] w
  (di x B v L (aH most ic xs) (.slice a n c) w):=by
 obtain⟨a',c',g,he,hlen,hnil,hpos,hk⟩:=hz.form fD.holds
 cases he
 refine wl_cls ic xs 200 x B v L most g mi hmi a c w h bJ.cls hm hl hlen (fun hp=>(hpos hp).1) (fun k hkl u v' L' ho hn hw hr=> ?_)
 have hgS:=hS g (hpos (by omega)).2
 have hx:=h.safe hgS
 obtain⟨cs,_,h1,h2⟩:=hk k hkl
 exact Fw x B g (k*2) v' L' S cs xs[k] u hw hr (h1.stays ho hx) (fD.holds.off h2 ho (fun b hb=>h.safe (hS b hb))) hgS hS
end Go.Proofs.YthjdeoppajlcoaaGreatDoor
