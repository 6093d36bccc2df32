/- Layer 5: the walk's op, with a writer (gen/wkop.py). -/
import Derived.Test.YthjdeoppajlcoaaGreatDoorYCodeWe

namespace Go.Proofs.YthjdeoppajlcoaaGreatDoor
set_option linter.unusedSimpArgs false
set_option linter.unusedVariables false
open Go.RowKit (wrap64 intOf Below Hid)
attribute [local go_sem ↓] Go.wp_at_zero Go.wp_at_succ
open Go.Lib (hid)
theorem FT.off{X:Nat→Prop}{w w':World}(h:FT w)(ho:Off X w w')(hx:¬ X 0):FT w':=fun k hk=>by
 rw[ho.cell (p:=⟨0,k,none⟩) h.lt hx];exact h k hk
theorem En(o:OpD):dV o 78=kI o.N:=rfl
theorem Em(o:OpD):dV o 83=kT o.S:=rfl
theorem Et(o:OpD):dV o 65=kI o.A:=rfl
theorem Es(o:OpD):dV o 66=kI o.B:=rfl
theorem Er(o:OpD):dV o 67=kI o.C:=rfl
theorem Eo(o:OpD):dV o 76=dz 8 o.L:=rfl
theorem Ep(o:OpD):dV o 75=kI (bitV o.T):=rfl
theorem meth_wt(a:Option Addr)(u:World):(method 352 84 (.pointer a) "hallmark/code.text").run Tryz.prog u=.ok (189,.pointer a) u:=by kernel_rfl
structure tY(x B:Nat)(v:Value)(w:World)(bx:Nat)(L0:List UInt8)(ib:Nat)(K:Int)(y:OpD)(k p:Nat)(u:World)(vu:Value)(l:List UInt8):Prop where
 st:WSt x B v w bx (L0++l) u vu
 enc:bT (dV y) ((av K).take k)=.ok l
 it:u.heap[ib]? =some (.stringIter (fstr K) p)
 nx:ib≠x
 nv:vu.ownBlock≠some ib
 nb:ib≠bx
 ge:w.heap.size≤ib
section
variable {x B : Nat} {v : Value} {w : World} {bx : Nat} {L0 : List UInt8} {ib : Nat} {K : Int} {y : OpD} {k p : Nat} {u : World} {vu : Value} {l : List UInt8}
theorem tY.start{c:World}(h:WSt x B v w bx L0 c vu):tY x B v w bx L0 c.heap.size K y 0 0 (c.iter (fstr K) 0) vu []:=by
 have hb:bx<c.heap.size:=(Array.getElem?_eq_some_iff.1 h.box).1
 refine⟨?_,rfl, ?_, ?_,fun e=> ?_,by omega,h.offs.size⟩
 ·rw[List.append_nil]
  exact h.step (h.wr.since ((Below.refl _ _).alloc (Nat.le_refl _) _)) (Off.alloc (Off.refl _ _) _) (NewAt.refl _ _)
 ·have h:=World.iter_heap c (fstr K) 0
  simpa [World.iter]using h
 ·have:=h.wr.lt;omega
 ·have:=(h.wr.own e).2;omega
theorem tY.move(h:tY x B v w bx L0 ib K y k p u vu l):tY x B v w bx L0 ib K y k (p+1) (u.iterAt ib (fstr K) (p+1)) vu l:=by
 have hs:=mI u ib (fstr K) (p+1)
 have hb:=hs.bel 0 (Nat.zero_le _)
 have ho:Off (fun i=>i=ib) u (u.iterAt ib (fstr K) (p+1)):=⟨hb.os,hb.tape,hb.output,hb.size,fun i _ hi=>hs.same i hi⟩
 have hW:∀ i,i=ib→¬ WX x vu i:=fun i e hx=>by
  subst e
  rcases hx with hx|hx
  ·exact h.nx hx
  ·exact h.nv hx
 refine⟨⟨h.st.wr.stays ho hW,h.st.offs.trans_new ho (fun i hi=>.inr (by rw[hi];exact h.ge)),h.st.new, ?_,h.st.nx,h.st.nv⟩,h.enc,Lib.iterAt_heap _ _ _ _ _ h.it,h.nx,h.nv,h.nb,h.ge⟩
 rw[hs.same bx (fun e=>h.nb e.symm)]
 exact h.st.box
theorem tY.step(h:tY x B v w bx L0 ib K y k p u vu l){u':World}{v':Value}{l':List UInt8}{f:UInt8}(hk:k<(av K).length)(hf:(av K)[k]=f)(he:dV y f=.ok l')(h1:cu u' x B v' (L0++l++l'))(h2:Off (WX x vu) u u')(h3:NewAt u vu v'):
 tY x B v w bx L0 ib K y (k+1) p u' v' (l++l'):=by
 have hlt:ib<u.heap.size:=(Array.getElem?_eq_some_iff.1 h.it).1
 refine⟨by rw[←List.append_assoc];exact h.st.step h1 h2 h3,by rw[fJ _ _ _ hk,h.enc,hf,he];rfl,(h2.block ib hlt (fun hx=> ?_)).trans h.it,h.nx,fun e=> ?_,h.nb,h.ge⟩
 ·rcases hx with hx|hx
  ·exact h.nx hx
  ·exact h.nv hx
 ·rcases h3 ib e with h'|h'
  ·exact h.nv h'
  ·omega
theorem tY.drew(h:tY x B v w bx L0 ib K y k p u vu l):tY x B v w bx L0 ib K y k p u.drew vu l:=⟨h.st.drew,h.enc,h.it,h.nx,h.nv,h.nb,h.ge⟩
theorem tY.fails(h:tY x B v w bx L0 ib K y k p u vu l){l1 L:List UInt8}{u':World}{f:UInt8}{er:Int}(hK:K=y.K)(hb:eX K 26=.ok l1)(hk:k<(av K).length)(hf:(av K)[k]=f)(he:dV y f=.no er)(h2:Off (WX x vu) u u'):
 di x B v L (nK y) (.tuple #[]) w (.panicked [{v:=.iface 30 (.int .i64 er),recovered:=false}]) u':=by
 refine h.st.fails h2 ?_
 unfold nK
 rw[←hK,hb,jf hk h.enc (by rw[hf];exact he)]
 rfl
theorem tY.len(h:tY x B v w bx L0 ib K y k p u vu l)(hk:k<(av K).length):l.length≤270:=by
 have h1:=(bJ.all (n:=90) ((av K).take k) (fun f hf=> ?_)) l h.enc
 ·have h2:=vM K
  have h3:=List.length_take_le k (av K)
  have:((av K).take k).length*90≤3*90:=Nat.mul_le_mul_right _ (by omega)
  omega
 ·have hm:=List.mem_of_mem_take hf
  have:=letters K f hm
  rcases this with rfl|rfl|rfl|rfl|rfl|rfl|rfl
  ·rw[En];exact(bJ.num _).mono (by omega)
  ·rw[Em]
   intro l hl
   by_cases hs:y.S.size≤64
   ·simp only[kT,chk,hs,decide_true,if_true,Out.nil_and,Out.ok.injEq]at hl
    subst hl
    have:=zb hs
    omega
   ·simp only[kT,chk,hs,decide_false,Bool.false_eq_true,if_false,Out.no_and]at hl
    cases hl
  ·rw[Et];exact(bJ.num _).mono (by omega)
  ·rw[Es];exact(bJ.num _).mono (by omega)
  ·rw[Er];exact(bJ.num _).mono (by omega)
  ·rw[Eo];exact(bJ.nums _ _).mono (by omega)
  ·rw[Ep];exact(bJ.num _).mono (by omega)
theorem j4(h:tY x B v w bx L0 ib K y k k u vu l){u':World}{vu':Value}{l':List UInt8}(hlt:k<(av K).length)(h':tY x B v w bx L0 ib K y (k+1) (k+1) u' vu' l'):
 k+1≤(av K).length∧(av K).length-u'.iterPos ib<(av K).length-u.iterPos ib:=by
 refine⟨hlt, ?_⟩
 simp only[World.iterPos,h.it,h'.it]
 omega
end
set_option maxRecDepth 100000 in
set_option maxHeartbeats 8000000 in
theorem wk_op(x B g off:Nat)(v:Value)(L:List UInt8)(S:Nat→Prop)(cs:List Value)(y:OpD)(w:World)(h:cu w x B v L)(hl:L.length+400≤140737488355328)(hw:dm w g off cs)(hq:OpO w S cs y)(hg:g<B∧g≠x)(hS:∀ b,S b→b<B∧b≠x)(hft:FT w)(hfb:0<B∧0≠x):
 Calls Tryz.prog 161 #[.agg #[.iface 84 (.pointer (some ⟨x,0,none⟩))],.pointer (some ⟨g,off,none⟩)] w (di x B v L (nK y) (.tuple #[]) w):=by
 obtain⟨p,rfl,⟨k0,k1⟩,⟨a0,a1⟩,⟨b0,b1⟩,⟨c0,c1⟩,⟨n0,n1⟩,hss,hp⟩:=hq
 obtain⟨pa,pc,pg,rfl,_,_,_,_⟩:=hp.form
 obtain⟨pn,hpn⟩:∃ n,n=y.L.length:=⟨_,rfl⟩
 rw[←hpn]at hp hw
 clear hpn
 obtain⟨yK,hK⟩:∃ k,k=y.K:=⟨_,rfl⟩
 rw[←hK]at k0 k1 hw
 have HK:=hid hK
 clear hK
 have hmf:∀ (fn:Fn) (first cap:Array Value) (w:World),(Instr.makeFunc fn first cap).run Tryz.prog w=.ok (.func fn first cap) w:=fun _ _ _ _=>rfl
 have hme:=DC
 have hmt:=meth_wt
 have HN0:Hid (∀b,S b→¬ WX x v b):=hid fun b hb=>h.safe (hS b hb)
 have HN1:=hid (h.safe hg)
 have HF:=hid hft
 have HFB:=hid (h.safe hfb)
 have HG:=hid hg
 have HS:=hid hS
 have HW:=hid hw
 have HP:=hid hp
 have hst0:=(WSt.start h).drew
 have hw0:=hst0.win hw HN1.out
 have hb0:=hst0.cell
 have hc0:=hw0.cell (j:=0) (by simp)
 simp only[Nat.add_zero,List.getElem_cons_zero]at hc0
 have hf0:=hw0.free off
 have hlt:=hw0.lt
 have HD:=hid hst0
 clear h hw hp hS hg hst0 hw0 hft hfb
 by_cases hbad:yK<0∨26≤yK
 ·have HO:=hid (j3 (n:=yK) (bound:=26) hbad)
  clear hbad
  go_enter Tryz.func161,Tryz.ntmps161
  go_upto_region 1 with fail
  go_cut [12] (fun tc wc=>False)
  case first=>
   go_region_law (first|(rw[if_pos (by rfl)];go_simp;go_at_call 168;(with_reducible refine(lD x B v L yK 26 _ HD.out.wr k0 k1 (by omega) (by omega) (by omega)).mono ?_);rintro e u1 (⟨l',v1,ho,rfl,hW,hO,hN⟩|⟨er,ho,rfl,hO⟩);rotate_left;(exact⟨rfl,HD.out.fails hO (by unfold nK;rw[←HK.out,ho];exact Out.no_and _ _)⟩);have HFA:Hid False:=hid (by rw[HO.out]at ho;cases ho);have hst1:=HD.out.step hW hO hN;have hwe:=hst1.win HW.out HN1.out;have hbe:=hst1.cell;have hce:=hwe.cell (j:=0) (by simp);simp only[Nat.add_zero,List.getElem_cons_zero]at hce;have hfe:=hwe.free off))
   all_goals exact HFA.out.elim
  case rest=>exact hcut.elim
 ·obtain⟨l1,hl1⟩:∃ l,l=dU yK:=⟨_,rfl⟩
  have HO:Hid (eX yK 26=.ok l1):=hid (by rw[hl1];exact iA (by omega) (by omega))
  have hll:l1.length≤10:=by rw[hl1];exact dn _
  clear hl1
  go_enter Tryz.func161,Tryz.ntmps161
  go_upto_region 1 with fail
  go_cut [12] (fun tc wc=>Hid (∃v1,WSt x B v w w.heap.size (L++l1) wc v1))
  case first=>
   go_region_law (first|(rw[if_pos (by rfl)];go_simp;go_at_call 168;(with_reducible refine(lD x B v L yK 26 _ HD.out.wr k0 k1 (by omega) (by omega) (by omega)).mono ?_);rintro e u1 (⟨l',v1,ho,rfl,hW,hO,hN⟩|⟨er,ho,_⟩);rotate_left;(exfalso;rw[HO.out]at ho;cases ho);obtain rfl:l1=l':=(by rw[HO.out]at ho;exact Out.ok.inj ho);have hst1:=HD.out.step hW hO hN;have hwe:=hst1.win HW.out HN1.out;have hbe:=hst1.cell;have hce:=hwe.cell (j:=0) (by simp);simp only[Nat.add_zero,List.getElem_cons_zero]at hce;have hfe:=hwe.free off))
   all_goals
    rw[aP hce]
    go_wp2_with fail
    go_meet
    exact hid ⟨v1,hst1⟩
  case rest=>
   obtain⟨v1,hst1⟩:=hcut.out
   have hw1:=hst1.win HW.out HN1.out
   have hc1:=hw1.cell (j:=0) (by simp)
   simp only[Nat.add_zero,List.getElem_cons_zero]at hc1
   have hlt1:=hw1.lt
   have HFW:=hid (HF.out.off hst1.offs HFB.out)
   have HS1:=hid (tY.start (K:=yK) (y:=y) hst1)
   have hge:=hst1.offs.size
   clear hst1 hw1 hcut
   go_wp2_with(go_at_call 128;(with_reducible refine(mH yK _ HFW.out).mono ?_);rintro e w' ⟨rfl,rfl⟩)
   go_loopw[] (fun wr=>∃ (k:Nat) (vk:Value) (l:List UInt8),Hid (tY x B v w w.heap.size (L++l1) wc.heap.size yK y k k wr vk l)∧k≤(av yK).length) (fun wr=>(av yK).length-wr.iterPos wc.heap.size)
   case atStart=>exact⟨0,v1,[],HS1,Nat.zero_le _⟩
   case round=>
    obtain⟨k,vk,l,HR,hk⟩:=hrel
    have hit:=HR.out.it
    by_cases hlt:k<(av yK).length
    ·obtain⟨f,hgf⟩:∃ f,(av yK)[k]=f:=⟨_,rfl⟩
     have hks:k<(fstr yK).size:=by unfold fstr;rw[mF];exact hlt
     have hgs:(fstr yK)[k]=f:=by rw[←hgf];exact xO hlt hks
     have hlet:=letters yK f (by rw[←hgf];exact List.getElem_mem _)
     have hnx0:=fun ty=>Lib.run_next_ascii_at (P:=Tryz.prog) wr wc.heap.size (fstr yK) k ty hit hks (by rw[hgs];rcases hlet with rfl|rfl|rfl|rfl|rfl|rfl|rfl<;>decide)
     rw[hgs]at hnx0
     have hmv:=HR.out.move
     obtain⟨u,hu⟩:∃ u,wr.iterAt wc.heap.size (fstr yK) (k+1)=u:=⟨_,rfl⟩
     rw[hu]at hnx0 hmv
     have hdr:=hmv.drew
     have hlen:=hmv.len hlt
     have hwu:=hdr.st.win HW.out HN1.out
     have hbu:=hdr.st.cell
     have hltu:=hwu.lt
     have HX:=hid (hdr.st.wr.safe HG.out)
     have HM:=hid hdr
     have HT:=hid hlt
     have HGF:=hid hgf
     have HWU:=hid hwu
     clear hu hgs hit hks hmv hdr hwu hgf
     rcases hlet with rfl|rfl|rfl|rfl|rfl|rfl|rfl
     ·have hcu:=HWU.out.cell (j:=4) (by simp)
      simp only[Nat.add_zero,List.getElem_cons_zero,List.getElem_cons_succ]at hcu
      have hfu:=HWU.out.free (off+4)
      have HE:=hid (En y)
      go_wp2_with fail
      go_region_law (first|(rw[if_pos (by rfl)];go_simp;go_at_call 188;(with_reducible refine(pG x B vk (L++l1++l) y.N _ HM.out.st.wr n0 n1 (by simp only[List.length_append];omega)).mono ?_);rintro e u2 ⟨v2,rfl,hW,hO,hN⟩;have hst2:=HM.out.step HT.out HGF.out (by rw[HE.out];rfl) hW hO hN;have hwe:=hst2.st.win HW.out HN1.out;have hbe:=hst2.st.cell;have hce:=hwe.cell (j:=4) (by simp);simp only[Nat.add_zero,List.getElem_cons_zero,List.getElem_cons_succ]at hce;have hfe:=hwe.free (off+4)))
      all_goals
       rw[aP hce]
       have HN2:=hid hst2
       have HM1:=hid (j4 HR.out HT.out hst2)
       clear hst2
       go_wp2_with fail
       go_roundw
       case rel=>exact⟨k+1,v2,_,HN2,HM1.out.1⟩
       case measure=>exact HM1.out.2
     ·have hcu:=HWU.out.cell (j:=5) (by simp)
      simp only[Nat.add_zero,List.getElem_cons_zero,List.getElem_cons_succ]at hcu
      have hfu:=HWU.out.free (off+5)
      have HE:=hid (Em y)
      go_wp2_with fail
      go_region_law (first|(rw[if_pos (by rfl)];go_simp;go_at_call 189;(with_reducible refine(wr_text x B vk (L++l1++l) y.S _ HM.out.st.wr (by simp only[List.length_append];omega)).mono ?_);rintro e u2 (⟨l2,v2,ho,rfl,hW,hO,hN⟩|⟨er,ho,rfl,hO⟩);rotate_left;(exact⟨rfl,HM.out.fails HK.out HO.out HT.out HGF.out (by rw[HE.out];exact ho) hO⟩);have hst2:=HM.out.step HT.out HGF.out (by rw[HE.out];exact ho) hW hO hN;have hwe:=hst2.st.win HW.out HN1.out;have hbe:=hst2.st.cell;have hce:=hwe.cell (j:=5) (by simp);simp only[Nat.add_zero,List.getElem_cons_zero,List.getElem_cons_succ]at hce;have hfe:=hwe.free (off+5)))
      all_goals
       rw[aP hce]
       have HN2:=hid hst2
       have HM1:=hid (j4 HR.out HT.out hst2)
       clear hst2
       go_wp2_with fail
       go_roundw
       case rel=>exact⟨k+1,v2,_,HN2,HM1.out.1⟩
       case measure=>exact HM1.out.2
     ·have HPw:=hid (show dm u.drew g (off+1) [.int .i64 y.A]from HWU.out.part 1 1 (by simp))
      have HE:=hid (Et y)
      go_wp2_with fail
      go_region_law (first|(rw[if_pos (by rfl)];go_simp;go_at_call 145;(with_reducible refine(gX x B g (off+1) vk (L++l1++l) y.A _ HM.out.st.wr a0 a1 (by simp only[List.length_append];omega) HPw.out HX.out).mono ?_);rintro e u2 ⟨v2,rfl,hW,hO,hN⟩;have hst2:=HM.out.step HT.out HGF.out (by rw[HE.out];rfl) hW hO hN))
      all_goals
       have HN2:=hid hst2
       have HM1:=hid (j4 HR.out HT.out hst2)
       clear hst2
       go_wp2_with fail
       go_roundw
       case rel=>exact⟨k+1,v2,_,HN2,HM1.out.1⟩
       case measure=>exact HM1.out.2
     ·have HPw:=hid (show dm u.drew g (off+2) [.int .i64 y.B]from HWU.out.part 2 1 (by simp))
      have HE:=hid (Es y)
      go_wp2_with fail
      go_region_law (first|(rw[if_pos (by rfl)];go_simp;go_at_call 145;(with_reducible refine(gX x B g (off+2) vk (L++l1++l) y.B _ HM.out.st.wr b0 b1 (by simp only[List.length_append];omega) HPw.out HX.out).mono ?_);rintro e u2 ⟨v2,rfl,hW,hO,hN⟩;have hst2:=HM.out.step HT.out HGF.out (by rw[HE.out];rfl) hW hO hN))
      all_goals
       have HN2:=hid hst2
       have HM1:=hid (j4 HR.out HT.out hst2)
       clear hst2
       go_wp2_with fail
       go_roundw
       case rel=>exact⟨k+1,v2,_,HN2,HM1.out.1⟩
       case measure=>exact HM1.out.2
     ·have HPw:=hid (show dm u.drew g (off+3) [.int .i64 y.C]from HWU.out.part 3 1 (by simp))
      have HE:=hid (Er y)
      go_wp2_with fail
      go_region_law (first|(rw[if_pos (by rfl)];go_simp;go_at_call 145;(with_reducible refine(gX x B g (off+3) vk (L++l1++l) y.C _ HM.out.st.wr c0 c1 (by simp only[List.length_append];omega) HPw.out HX.out).mono ?_);rintro e u2 ⟨v2,rfl,hW,hO,hN⟩;have hst2:=HM.out.step HT.out HGF.out (by rw[HE.out];rfl) hW hO hN))
      all_goals
       have HN2:=hid hst2
       have HM1:=hid (j4 HR.out HT.out hst2)
       clear hst2
       go_wp2_with fail
       go_roundw
       case rel=>exact⟨k+1,v2,_,HN2,HM1.out.1⟩
       case measure=>exact HM1.out.2
     ·have hcu:=HWU.out.cell (j:=6) (by simp)
      simp only[Nat.add_zero,List.getElem_cons_zero,List.getElem_cons_succ]at hcu
      have hfu:=HWU.out.free (off+6)
      have HE:=hid (Eo y)
      go_wp2_with fail
      go_region_law (first|(rw[if_pos (by rfl)];go_simp;go_at_call 144;(with_reducible refine(nQ x B vk (L++l1++l) y.L 8 S _ (by omega) pa pn pc _ HM.out.st.wr (by omega) (by simp only[List.length_append];omega) (HP.out.off HM.out.st.offs HN0.out) HS.out).mono ?_);rintro e u2 (⟨l2,v2,ho,rfl,hW,hO,hN⟩|⟨er,ho,rfl,hO⟩);rotate_left;(exact⟨rfl,HM.out.fails HK.out HO.out HT.out HGF.out (by rw[HE.out];exact ho) hO⟩);have hst2:=HM.out.step HT.out HGF.out (by rw[HE.out];exact ho) hW hO hN;have hwe:=hst2.st.win HW.out HN1.out;have hbe:=hst2.st.cell;have hce:=hwe.cell (j:=6) (by simp);simp only[Nat.add_zero,List.getElem_cons_zero,List.getElem_cons_succ]at hce;have hfe:=hwe.free (off+6)))
      all_goals
       rw[aP hce]
       have HN2:=hid hst2
       have HM1:=hid (j4 HR.out HT.out hst2)
       clear hst2
       go_wp2_with fail
       go_roundw
       case rel=>exact⟨k+1,v2,_,HN2,HM1.out.1⟩
       case measure=>exact HM1.out.2
     ·have hcu:=HWU.out.cell (j:=7) (by simp)
      simp only[Nat.add_zero,List.getElem_cons_zero,List.getElem_cons_succ]at hcu
      have hfu:=HWU.out.free (off+7)
      have HE:=hid (Ep y)
      go_wp2_with fail
      go_region_law (first|(rw[if_pos (by rfl)];go_simp;go_at_call 169;(with_reducible refine(Fv x B vk (L++l1++l) y.T _ HM.out.st.wr (by simp only[List.length_append];omega)).mono ?_);rintro e u2 ⟨v2,rfl,hW,hO,hN⟩;have hst2:=HM.out.step HT.out HGF.out (by rw[HE.out];rfl) hW hO hN;have hwe:=hst2.st.win HW.out HN1.out;have hbe:=hst2.st.cell;have hce:=hwe.cell (j:=7) (by simp);simp only[Nat.add_zero,List.getElem_cons_zero,List.getElem_cons_succ]at hce;have hfe:=hwe.free (off+7)))
      all_goals
       rw[aP hce]
       have HN2:=hid hst2
       have HM1:=hid (j4 HR.out HT.out hst2)
       clear hst2
       go_wp2_with fail
       go_roundw
       case rel=>exact⟨k+1,v2,_,HN2,HM1.out.1⟩
       case measure=>exact HM1.out.2
    ·have hk':(av yK).length≤k:=by omega
     have hks:¬ k<(fstr yK).size:=by unfold fstr;rw[mF];omega
     have hnx0:=fun ty=>Lib.run_next_end_at (P:=Tryz.prog) wr wc.heap.size (fstr yK) k ty hit hks
     have HE:Hid (nK y=.ok (l1++l)):=hid (by
      have h2:=HR.out.enc
      rw[List.take_of_length_le hk']at h2
      unfold nK
      rw[←HK.out,HO.out,h2];rfl)
     clear hit hks
     go_wp2_with fail
     go_end0
     exact HR.out.st.done (l:=l1++l) (by rw[List.append_assoc]) HE.out
end Go.Proofs.YthjdeoppajlcoaaGreatDoor
