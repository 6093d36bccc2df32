/- Layer 5: the walk's truth, target and end, with a writer (gen/wkend.py). -/
import Derived.Test.YthjdeoppajlcoaaGreatDoorYCodeWm

namespace Go.Proofs.YthjdeoppajlcoaaGreatDoor
set_option linter.unusedSimpArgs false
set_option linter.unusedVariables false
set_option maxHeartbeats 4000000
set_option maxRecDepth 100000
open Go.RowKit (wrap64 intOf Below Hid)
attribute [local go_sem ↓] Go.wp_at_zero Go.wp_at_succ
open Go.Lib (hid)
def bitV(t:Bool):Int:=if t then 1 else 0
theorem Fv(x B:Nat)(v:Value)(L:List UInt8)(t:Bool)(w:World)(h:cu w x B v L)(hl:L.length+10≤140737488355328):
 Calls Tryz.prog 169 #[.agg #[.iface 84 (.pointer (some ⟨x,0,none⟩))],.bool t] w (WrYes x B v (L++dU (bitV t)) (.bool t) w):=by
 have hst0:=WSt.start h
 have hc0:=hst0.cell
 have HD:=hid hst0
 clear h hst0
 cases t
 ·have HO:=hid (iA (n:=0) (bound:=2) (by omega) (by omega))
  go_enter Tryz.func169,Tryz.ntmps169
  go_wp2_with fail
  refine(lD x B v L 0 2 _ HD.out.wr (by omega) (by omega) hl (by omega) (by omega)).mono ?_
  rintro e w1 (⟨l,v1,ho,rfl,hW,hO,hN⟩|⟨er,ho,_⟩)
  case inr=>rw[HO.out]at ho;cases ho
  obtain rfl:dU 0=l:=by rw[HO.out]at ho;exact Out.ok.inj ho
  have HS:=hid (HD.out.step hW hO hN)
  clear ho hW hO hN
  go_wp2_with fail
  go_ret
  exact⟨v1,rfl,HS.out.wr,HS.out.offs,HS.out.new⟩
 ·have HO:=hid (iA (n:=1) (bound:=2) (by omega) (by omega))
  go_enter Tryz.func169,Tryz.ntmps169
  go_wp2_with fail
  refine(lD x B v L 1 2 _ HD.out.wr (by omega) (by omega) hl (by omega) (by omega)).mono ?_
  rintro e w1 (⟨l,v1,ho,rfl,hW,hO,hN⟩|⟨er,ho,_⟩)
  case inr=>rw[HO.out]at ho;cases ho
  obtain rfl:dU 1=l:=by rw[HO.out]at ho;exact Out.ok.inj ho
  have HS:=hid (HD.out.step hW hO hN)
  clear ho hW hO hN
  go_wp2_with fail
  go_ret
  exact⟨v1,rfl,HS.out.wr,HS.out.offs,HS.out.new⟩
theorem pJ(x B g o1 o2:Nat)(v:Value)(L:List UInt8)(S:Nat→Prop)(tz:Int)(a:Option Addr)(n c:Nat)(Z:List Int)(w:World)(h:cu w x B v L)(hl:L.length+100≤140737488355328)(ht0: -9223372036854775808≤tz)(ht1:tz≤9223372036854775807)
 (hw1:dm w g o1 [.int .i64 tz])(hw2:dm w g o2 [.slice a n c])(hz:eH w S (.slice a n c) Z)(hg:g<B∧g≠x)(hS:∀ b,S b→b<B∧b≠x):
 Calls Tryz.prog 170 #[.agg #[.iface 84 (.pointer (some ⟨x,0,none⟩))],.pointer (some ⟨g,o1,none⟩),.pointer (some ⟨g,o2,none⟩)] w (di x B v L ((kI tz).and (dz 8 Z)) (.tuple #[]) w):=by
 have hmf:∀ (fn:Fn) (first cap:Array Value) (w:World),(Instr.makeFunc fn first cap).run Tryz.prog w=.ok (.func fn first cap) w:=fun _ _ _ _=>rfl
 have HN0:Hid (∀b,S b→¬ WX x v b):=hid fun b hb=>h.safe (hS b hb)
 have HN1:=hid (h.safe hg)
 have HG:=hid hg
 have HS:=hid hS
 have HZ:=hid hz
 have HW2:=hid hw2
 have hst0:=WSt.start h
 have hp0:=hst0.win hw1 HN1.out
 have hb0:=hst0.cell
 have HP:=hid hp0
 have HX:=hid (hst0.wr.safe HG.out)
 have HD:=hid hst0
 clear h hw1 hw2 hz hS hg hp0 hst0
 go_enter Tryz.func170,Tryz.ntmps170
 go_wp2_with fail
 refine(gX x B g o1 v L tz _ HD.out.wr ht0 ht1 (by omega) HP.out HX.out).mono ?_
 rintro e w1 ⟨v1,rfl,hW,hO,hN⟩
 have hst1:=(HD.out.step hW hO hN).drew
 obtain⟨l1,hl1⟩:∃ l,l=dU tz:=⟨_,rfl⟩
 have HO1:Hid (kI tz=.ok l1):=hid (by rw[hl1];rfl)
 have hll:l1.length≤10:=by rw[hl1];exact dn _
 rw[←hl1]at hst1
 have hw2:=hst1.win HW2.out HN1.out
 have hb1:=hst1.cell
 have hc1:=hw2.cell (j:=0) (by simp)
 simp only[Nat.add_zero,List.getElem_cons_zero]at hc1
 have hf1:=hw2.free o2
 have HD1:=hid hst1
 clear hl1 hW hO hN hst1 hw2
 go_wp2_with fail
 go_region_law (first|(rw[if_pos (by rfl)];go_simp;go_at_call 144;(with_reducible refine(nQ x B v1 (L++l1) Z 8 S _ (by omega) a n c _ HD1.out.wr (by omega) (by simp only[List.length_append];omega) (HZ.out.off HD1.out.offs HN0.out) HS.out).mono ?_);rintro e u2 (⟨l2,v2,ho,rfl,hW,hO,hN⟩|⟨er,ho,rfl,hO⟩);rotate_left;(exact⟨rfl,HD1.out.fails hO (by simp only[HO1.out,ho,Out.ok_no])⟩);have hst2:=HD1.out.step hW hO hN;have hwe:=hst2.win HW2.out HN1.out;have hbe:=hst2.cell;have hce:=hwe.cell (j:=0) (by simp);simp only[Nat.add_zero,List.getElem_cons_zero]at hce;have hfe:=hwe.free o2))
 all_goals
  rw[aP hce]
  go_end0
  exact hst2.done (l:=l1++l2) (by simp only[List.append_assoc]) (by simp only[HO1.out,ho,Out.ok_ok])
theorem wk_end(
 x B g off:Nat) (v:Value) (L:List UInt8) (S:Nat→Prop) (cs:List Value) (y:mV) (w:World) (h:cu w x B v L) (hl:L.length+300≤140737488355328) (hw:dm w g off cs) (hq:Hf w S cs y) (hg:g<B∧g≠x) (hS:∀ b,S b→b<B∧b≠x):
 Calls Tryz.prog 162 #[.agg #[.iface 84 (.pointer (some ⟨x,0,none⟩))],.pointer (some ⟨g,off,none⟩)] w (di x B v L (kD y) (.tuple #[]) w):=by
 obtain⟨p,q,rfl,⟨k0,k1⟩,⟨a0,a1⟩,⟨t0,t1⟩,⟨e0,e1⟩,hp,hp2⟩:=hq
 obtain⟨pa,pc,pg,rfl,_,_,_,_⟩:=hp.form
 obtain⟨pn,hpn⟩:∃ n,n=y.L.length:=⟨_,rfl⟩
 rw[←hpn]at hp hw
 obtain⟨qa,qc,qg,rfl,_,_,_,_⟩:=hp2.form
 obtain⟨qn,hqn⟩:∃ n,n=y.M.length:=⟨_,rfl⟩
 rw[←hqn]at hp2 hw
 clear hpn hqn
 obtain⟨yK,hK⟩:∃ k,k=y.K:=⟨_,rfl⟩
 rw[←hK]at k0 k1 hw
 have HK:=hid hK
 clear hK
 have HN0:Hid (∀b,S b→¬ WX x v b):=hid fun b hb=>h.safe (hS b hb)
 have HN1:=hid (h.safe hg)
 have HG:=hid hg
 have HS:=hid hS
 have HW:=hid hw
 have HP:=hid hp
 have HQ:=hid hp2
 have hst0:=(WSt.start h).drew
 have hw0:=hst0.win hw HN1.out
 have hb0:=hst0.cell
 have hc0:=hw0.cell (j:=0) (by simp)
 simp only[Nat.add_zero,List.getElem_cons_zero]at hc0
 have hf0:=hw0.free off
 have hlt:=hw0.lt
 have HD:=hid hst0
 clear h hw hp hp2 hS hg hst0 hw0
 by_cases hbad:yK<0∨4≤yK
 ·have HO:=hid (j3 (n:=yK) (bound:=4) hbad)
  clear hbad
  go_enter Tryz.func162,Tryz.ntmps162
  go_wp2_with fail
  go_region_law (first|(rw[if_pos (by rfl)];go_simp;go_at_call 168;(with_reducible refine(lD x B v L yK 4 _ HD.out.wr k0 k1 (by omega) (by omega) (by omega)).mono ?_);rintro e u1 (⟨l',v1,ho,rfl,hW,hO,hN⟩|⟨er,ho,rfl,hO⟩);rotate_left;(exact⟨rfl,HD.out.fails hO (by unfold kD;rw[←HK.out,ho];exact Out.no_and _ _)⟩);have HF:Hid False:=hid (by rw[HO.out]at ho;cases ho);have hst1:=HD.out.step hW hO hN;have hwe:=hst1.win HW.out HN1.out;have hbe:=hst1.cell;have hce:=hwe.cell (j:=0) (by simp);simp only[Nat.add_zero,List.getElem_cons_zero]at hce;have hfe:=hwe.free off))
  all_goals exact HF.out.elim
 ·obtain⟨l1,hl1⟩:∃ l,l=dU yK:=⟨_,rfl⟩
  have HO:Hid (eX yK 4=.ok l1):=hid (by rw[hl1];exact iA (by omega) (by omega))
  have hll:l1.length≤10:=by rw[hl1];exact dn _
  clear hl1
  go_enter Tryz.func162,Tryz.ntmps162
  go_upto_region 1 with fail
  go_cut [10] (fun tc wc=>Hid (∃v1,WSt x B v w w.heap.size (L++l1) wc v1))
  case first=>
   go_region_law (first|(rw[if_pos (by rfl)];go_simp;go_at_call 168;(with_reducible refine(lD x B v L yK 4 _ HD.out.wr k0 k1 (by omega) (by omega) (by omega)).mono ?_);rintro e u1 (⟨l',v1,ho,rfl,hW,hO,hN⟩|⟨er,ho,_⟩);rotate_left;(exfalso;rw[HO.out]at ho;cases ho);obtain rfl:l1=l':=(by rw[HO.out]at ho;exact Out.ok.inj ho);have hst1:=HD.out.step hW hO hN;have hwe:=hst1.win HW.out HN1.out;have hbe:=hst1.cell;have hce:=hwe.cell (j:=0) (by simp);simp only[Nat.add_zero,List.getElem_cons_zero]at hce;have hfe:=hwe.free off))
   all_goals
    rw[aP hce]
    go_wp2_with fail
    go_meet
    exact hid ⟨v1,hst1⟩
  case rest=>
   obtain⟨v1,hst1⟩:=hcut.out
   have hw1:=hst1.win HW.out HN1.out
   have hc1:=hw1.cell (j:=0) (by simp)
   simp only[Nat.add_zero,List.getElem_cons_zero]at hc1
   have hb1:=hst1.cell
   have hb1':=hst1.drew.cell
   have HPt:=hid (show dm wc.drew g (off+2) [.int .i64 y.To]from(hst1.drew.win HW.out HN1.out).part 2 1 (by simp))
   have HPl:=hid (show dm wc.drew g (off+4) [.slice pa pn pc]from(hst1.drew.win HW.out HN1.out).part 4 1 (by simp))
   have HPa:=hid (show dm wc.drew g (off+1) [.int .i64 y.A]from(hst1.drew.win HW.out HN1.out).part 1 1 (by simp))
   have HX1:=hid (hst1.drew.wr.safe HG.out)
   have HD1:=hid hst1.drew
   have hlt1:=hw1.lt
   clear hst1 hw1 hcut
   by_cases h0:yK=0
   ·have HE:Hid (kD y=(Out.ok l1).and ((kI y.To).and (dz 8 y.L))):=hid (by unfold kD nY;rw[←HK.out,HO.out,if_pos h0])
    have ht:(yK==0)=true:=by simpa using h0
    clear h0 hbad
    go_wp2_with fail
    go_region_law (first|(rw[if_pos (by rfl)];go_simp;go_at_call 170;(with_reducible refine(pJ x B g (off+2) (off+4) v1 (L++l1) S y.To pa pn pc y.L _ HD1.out.wr (by simp only[List.length_append];omega) t0 t1 HPt.out HPl.out (HP.out.off HD1.out.offs HN0.out) HG.out HS.out).mono ?_);rintro e u2 (⟨l2,v2,ho,rfl,hW,hO,hN⟩|⟨er,ho,rfl,hO⟩);rotate_left;(exact⟨rfl,HD1.out.fails hO (by rw[HE.out,ho,Out.ok_no])⟩);have hst2:=HD1.out.step hW hO hN))
    all_goals
     go_end0
     exact hst2.done (l:=l1++l2) (by simp only[List.append_assoc]) (by rw[HE.out,ho,Out.ok_ok])
   ·have hf:(yK==0)=false:=by rw[beq_eq_false_iff_ne];exact h0
    by_cases h1:yK=1
    ·have HE:Hid (kD y=(Out.ok l1).and ((kI y.A).and (((kI y.To).and (dz 8 y.L)).and ((kI y.Else).and (dz 8 y.M))))):=hid (by unfold kD nY;rw[←HK.out,HO.out,if_neg h0,if_pos h1,Out.and_assoc])
     have ht:(yK==1)=true:=by simpa using h1
     clear h0 h1 hbad
     go_upto_region 6 with fail
     go_cut [33] (fun tc wc=>Hid (∃v2,WSt x B v w w.heap.size (L++l1++dU y.A) wc v2))
     case first=>
      go_region_law (first|(rw[if_pos (by rfl)];go_simp;go_at_call 145;(with_reducible refine(gX x B g (off+1) v1 (L++l1) y.A _ HD1.out.wr a0 a1 (by simp only[List.length_append];omega) HPa.out HX1.out).mono ?_);rintro e u2 ⟨v2,rfl,hW,hO,hN⟩;have hst2:=HD1.out.step hW hO hN))
      all_goals
       go_wp2_with fail
       go_meet
       exact hid ⟨v2,hst2⟩
     case rest=>
      obtain⟨v2,hst2⟩:=hcut.out
      obtain⟨l2,hl2⟩:∃ l,l=dU y.A:=⟨_,rfl⟩
      have HO2:Hid (kI y.A=.ok l2):=hid (by rw[hl2];rfl)
      have hll2:l2.length≤10:=by rw[hl2];exact dn _
      rw[←hl2]at hst2
      have hb2:=hst2.drew.cell
      have HP2t:=hid (show dm wc.drew g (off+2) [.int .i64 y.To]from(hst2.drew.win HW.out HN1.out).part 2 1 (by simp))
      have HP2l:=hid (show dm wc.drew g (off+4) [.slice pa pn pc]from(hst2.drew.win HW.out HN1.out).part 4 1 (by simp))
      have HD2:=hid hst2.drew
      clear hl2 hst2 hcut
      go_upto_region 7 with fail
      go_cut [41] (fun tc wc=>Hid (∃l3 v3,(kI y.To).and (dz 8 y.L)=.ok l3∧WSt x B v w w.heap.size (L++l1++l2++l3) wc v3))
      case first=>
       go_region_law (first|(rw[if_pos (by rfl)];go_simp;go_at_call 170;(with_reducible refine(pJ x B g (off+2) (off+4) v2 (L++l1++l2) S y.To pa pn pc y.L _ HD2.out.wr (by simp only[List.length_append];omega) t0 t1 HP2t.out HP2l.out (HP.out.off HD2.out.offs HN0.out) HG.out HS.out).mono ?_);rintro e u3 (⟨l3,v3,ho,rfl,hW,hO,hN⟩|⟨er,ho,rfl,hO⟩);rotate_left;(exact⟨rfl,HD2.out.fails hO (by rw[HE.out,HO2.out,ho];simp only[Out.no_and,Out.ok_no])⟩);have hst3:=HD2.out.step hW hO hN))
       all_goals
        go_wp2_with fail
        go_meet
        exact hid ⟨l3,v3,ho,hst3⟩
      case rest=>
       obtain⟨l3,v3,ho3,hst3⟩:=hcut.out
       have HO3:=hid ho3
       have hll3:l3.length≤100:=((bJ.num y.To).and (bJ.nums 8 y.L)) l3 ho3
       have hb3:=hst3.drew.cell
       have HP3t:=hid (show dm wc.drew g (off+3) [.int .i64 y.Else]from(hst3.drew.win HW.out HN1.out).part 3 1 (by simp))
       have HP3l:=hid (show dm wc.drew g (off+5) [.slice qa qn qc]from(hst3.drew.win HW.out HN1.out).part 5 1 (by simp))
       have HD3:=hid hst3.drew
       clear ho3 hst3 hcut
       go_wp2_with fail
       go_region_law (first|(rw[if_pos (by rfl)];go_simp;go_at_call 170;(with_reducible refine(pJ x B g (off+3) (off+5) v3 (L++l1++l2++l3) S y.Else qa qn qc y.M _ HD3.out.wr (by simp only[List.length_append];omega) e0 e1 HP3t.out HP3l.out (HQ.out.off HD3.out.offs HN0.out) HG.out HS.out).mono ?_);rintro e u4 (⟨l4,v4,ho,rfl,hW,hO,hN⟩|⟨er,ho,rfl,hO⟩);rotate_left;(exact⟨rfl,HD3.out.fails hO (by rw[HE.out,HO2.out,HO3.out,ho];rfl)⟩);have hst4:=HD3.out.step hW hO hN))
       all_goals
        go_end0
        exact hst4.done (l:=l1++(l2++(l3++l4))) (by simp only[List.append_assoc]) (by rw[HE.out,HO2.out,HO3.out,ho];rfl)
    ·have HE:Hid (kD y=(Out.ok l1).and (kI y.A)):=hid (by unfold kD nY;rw[←HK.out,HO.out,if_neg h0,if_neg h1])
     have hf1:(yK==1)=false:=by rw[beq_eq_false_iff_ne];exact h1
     by_cases h2:yK=2
     ·have ht:(yK==2)=true:=by simpa using h2
      clear h0 h1 h2 hbad
      go_wp2_with fail
      go_region_law (first|(rw[if_pos (by rfl)];go_simp;go_at_call 145;(with_reducible refine(gX x B g (off+1) v1 (L++l1) y.A _ HD1.out.wr a0 a1 (by simp only[List.length_append];omega) HPa.out HX1.out).mono ?_);rintro e u2 ⟨v2,rfl,hW,hO,hN⟩;have hst2:=HD1.out.step hW hO hN))
      all_goals
       go_end0
       exact hst2.done (l:=l1++dU y.A) (by simp only[List.append_assoc]) (by rw[HE.out];rfl)
     ·have hf2:(yK==2)=false:=by rw[beq_eq_false_iff_ne];exact h2
      have ht:(yK==3)=true:=by rw[beq_iff_eq];omega
      clear h0 h1 h2 hbad
      go_wp2_with fail
      go_region_law (first|(rw[if_pos (by rfl)];go_simp;go_at_call 145;(with_reducible refine(gX x B g (off+1) v1 (L++l1) y.A _ HD1.out.wr a0 a1 (by simp only[List.length_append];omega) HPa.out HX1.out).mono ?_);rintro e u2 ⟨v2,rfl,hW,hO,hN⟩;have hst2:=HD1.out.step hW hO hN))
      all_goals
       go_end0
       exact hst2.done (l:=l1++dU y.A) (by simp only[List.append_assoc]) (by rw[HE.out];rfl)
end Go.Proofs.YthjdeoppajlcoaaGreatDoor
