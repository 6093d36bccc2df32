/- Layer 5: the walk's list, with a writer, at each type of what is listed (gen/wklist.py). -/
import Derived.Test.YthjdeoppajlcoaaGreatDoorYCodeWk

namespace Go.Proofs.YthjdeoppajlcoaaGreatDoor
set_option linter.unusedVariables false
set_option maxRecDepth 100000
open Go.RowKit (wrap64 intOf Below Hid)
open Go.Lib (hid)
def OneW{α:Type}(F:FuncId)(f:α→Out)(ub x B:Nat)(v:Value)(w:World)(g off:Nat)(y:α):Prop:=
 ∀(u:World) (v':Value) (L':List UInt8),Off (WX x v) w u→NewAt w v v'→cu u x B v' L'→L'.length+ub≤140737488355328→
  Calls Tryz.prog F #[.agg #[.iface 84 (.pointer (some ⟨x,0,none⟩))],.pointer (some ⟨g,off,none⟩)] u (di x B v' L' (f y) (.tuple #[]) u)
theorem om{α:Type}{f:α→Out}{ub:Nat}(hu:∀ y,bJ (f y) ub){xs:List α}{k:Nat}{l:List UInt8}(h:bT f (xs.take k)=.ok l):l.length≤k*ub:=by
 refine Nat.le_trans (bJ.all _ (fun y _=>hu y) l h) ?_
 exact Nat.mul_le_mul_right _ (List.length_take_le _ _)
theorem wl_int{α:Type}(f:α→Out)(xs:List α)(ub x B:Nat)(v:Value)(L:List UInt8)(most g:Nat)(mi:Int)(hmi:mi=(most:Int))(a:Option Addr)(c:Nat)(w:World)(h:cu w x B v L)(hu:∀ y,bJ (f y) ub)(hm:most≤1000)(hl:L.length+(10+most*ub)≤140737488355328)
 (hn:xs.length≤140737488351232)(ha:0<xs.length→a=some ⟨g,0,none⟩)(h1:∀ k (hk:k<xs.length),OneW 145 f ub x B v w g (k) xs[k]):
 Calls Tryz.prog 144 #[.agg #[.iface 84 (.pointer (some ⟨x,0,none⟩))],.slice a xs.length c,.int .i64 mi,.func (.func 145) #[.agg #[.iface 84 (.pointer (some ⟨x,0,none⟩))]] #[]] w
  (di x B v L (aH most f xs) (.slice a xs.length c) w):=by
 subst hmi
 obtain⟨n,hN⟩:∃ n,n=xs.length:=⟨_,rfl⟩
 rw[←hN]at hn ha⊢
 have HN:=hid hN
 have HH:=hid h
 have HW:Hid (∀o,cu (w.alloc o) x B v L):=hid fun o=>h.since ((Below.refl _ _).alloc (Nat.le_refl _) o)
 have HA:=hid ha
 have HU:=hid hu
 have H1:=hid h1
 have HL:=hid hl
 have hl10:L.length+10≤140737488355328:=by omega
 clear h hN ha hu h1 hl
 by_cases hle:n≤most
 ·have HC:=hid (dY hle)
  go_enter Tryz.func144,Tryz.ntmps144
  go_wp2_with fail
  refine(fE x B v L n most _ (HW.out _) (by omega) hl10 hm).mono ?_
  rintro e w1 (⟨l,v1,ho,rfl,hW1,hO1,hN1⟩|⟨er,ho,_⟩)
  case inr=>rw[HC.out]at ho;cases ho
  obtain rfl:dU n=l:=by rw[HC.out]at ho;exact Out.ok.inj ho
  have HE:Hid (cu w1 x B v1 (L++dU n)∧Off (WX x v) w w1∧NewAt w v v1):=hid ⟨hW1,hO1.behind,hN1.behind⟩
  clear hW1 hO1 hN1 ho
  go_wp2_with fail
  go_loopw[1,16] (fun sv iv wr=>∃ k:Nat,k≤n∧iv=.int .i64 (k:Int)∧sv=.slice a n c∧Hid (∃(l:List UInt8) (vk:Value),bT f (xs.take k)=.ok l∧cu wr x B vk (L++dU n++l)∧Off (WX x v) w wr∧NewAt w v vk)) (fun _ iv _=>n-(intOf iv).toNat)
  case atStart=>exact⟨0,Nat.zero_le _,rfl,rfl,hid ⟨[],v1,rfl,by simpa using HE.out.1,HE.out.2⟩⟩
  case round=>
   obtain⟨k,hk,rfl,rfl,HK⟩:=hrel
   by_cases hlt:k<n
   ·obtain rfl:=HA.out (by omega)
    have hne:((k:Int)==(n:Int))=false:=by rw[beq_eq_false_iff_ne];omega
    have hkx:k<xs.length:=by rw[←HN.out];exact hlt
    have HX:=hid hkx
    obtain⟨l,vk,h2,h3,h4,h5⟩:=HK.out
    have HK2:=hid h2
    have HK3:=hid h3
    have HK4:=hid h4
    have HK5:=hid h5
    have hlen:(L++dU n++l).length+ub≤140737488355328:=by
     have e1:=om HU.out h2
     have e2:=dn n
     have e3:k*ub+ub≤most*ub:=by rw[←Nat.succ_mul];exact Nat.mul_le_mul_right _ (by omega)
     have e4:=HL.out
     simp only[List.length_append]
     omega
    have HLN:=hid hlen
    clear h2 h3 h4 h5 hkx hlen HK
    go_wp2_with fail
    refine(H1.out k HX.out _ vk _ HK4.out HK5.out HK3.out HLN.out).mono ?_
    rintro e w2 (⟨l2,v2,ho,rfl,hW2,hO2,hN2⟩|⟨er,ho,rfl,hO2⟩)
    ·have HK':Hid (∃(l:List UInt8) (vk:Value),bT f (xs.take (k+1))=.ok l∧cu w2 x B vk (L++dU n++l)∧Off (WX x v) w w2∧NewAt w v vk):=hid ⟨l++l2,v2,by rw[fJ f xs k HX.out,HK2.out,ho];rfl,by rw[←List.append_assoc];exact hW2,HK4.out.wr HK5.out hO2,HK5.out.trans hN2 HK4.out.size⟩
     clear ho hW2 hO2 hN2 HK2 HK3 HK4 HK5 HLN
     go_wp2_with fail
     go_roundw
     case rel=>exact⟨k+1,by omega,by go_num,rfl,HK'⟩
     case measure=>simp[intOf];omega
    ·have HP:Hid (aH most f xs=.no er∧Off (WX x v) w w2):=hid ⟨by unfold aH;rw[←HN.out,HC.out,jf HX.out HK2.out ho];rfl,HK4.out.wr HK5.out hO2⟩
     clear ho hO2 HK2 HK3 HK4 HK5 HLN
     go_wp2_with fail
     exact⟨rfl,.inr ⟨er,HP.out.1,rfl,HP.out.2⟩⟩
   ·obtain rfl:k=n:=by omega
    obtain⟨l,vk,h2,h3,h4,h5⟩:=HK.out
    rw[List.take_of_length_le (by rw[HN.out];exact Nat.le_refl _)]at h2
    have HP:Hid (aH most f xs=.ok (dU k++l)∧cu wr x B vk (L++(dU k++l))∧Off (WX x v) w wr∧NewAt w v vk):=hid ⟨by unfold aH;rw[←HN.out,HC.out,h2];rfl,by rw[←List.append_assoc];exact h3,h4,h5⟩
    clear h2 h3 h4 h5 HK
    go_wp2_with fail
    go_ret
    exact .inl ⟨_,vk,HP.out.1,rfl,HP.out.2⟩
 ·have HC:=hid (fH (n:=n) (most:=most) (by omega))
  go_enter Tryz.func144,Tryz.ntmps144
  go_wp2_with fail
  refine(fE x B v L n most _ (HW.out _) (by omega) hl10 hm).mono ?_
  rintro e w1 (⟨l,v1,ho,_⟩|⟨er,ho,rfl,hO1⟩)
  ·rw[HC.out]at ho;cases ho
  ·have HP:Hid (aH most f xs=.no er∧Off (WX x v) w w1):=hid ⟨by unfold aH;rw[←HN.out,ho];rfl,hO1.behind⟩
   clear ho hO1
   go_wp2_with fail
   exact⟨rfl,.inr ⟨er,HP.out.1,rfl,HP.out.2⟩⟩
theorem wl_sig{α:Type}(f:α→Out)(xs:List α)(ub x B:Nat)(v:Value)(L:List UInt8)(most g:Nat)(mi:Int)(hmi:mi=(most:Int))(a:Option Addr)(c:Nat)(w:World)(h:cu w x B v L)(hu:∀ y,bJ (f y) ub)(hm:most≤1000)(hl:L.length+(10+most*ub)≤140737488355328)
 (hn:xs.length≤140737488351232)(ha:0<xs.length→a=some ⟨g,0,none⟩)(h1:∀ k (hk:k<xs.length),OneW 108 f ub x B v w g (k*2) xs[k]):
 Calls Tryz.prog 107 #[.agg #[.iface 84 (.pointer (some ⟨x,0,none⟩))],.slice a xs.length c,.int .i64 mi,.func (.func 108) #[.agg #[.iface 84 (.pointer (some ⟨x,0,none⟩))]] #[]] w
  (di x B v L (aH most f xs) (.slice a xs.length c) w):=by
 subst hmi
 obtain⟨n,hN⟩:∃ n,n=xs.length:=⟨_,rfl⟩
 rw[←hN]at hn ha⊢
 have HN:=hid hN
 have HH:=hid h
 have HW:Hid (∀o,cu (w.alloc o) x B v L):=hid fun o=>h.since ((Below.refl _ _).alloc (Nat.le_refl _) o)
 have HA:=hid ha
 have HU:=hid hu
 have H1:=hid h1
 have HL:=hid hl
 have hl10:L.length+10≤140737488355328:=by omega
 clear h hN ha hu h1 hl
 by_cases hle:n≤most
 ·have HC:=hid (dY hle)
  go_enter Tryz.func107,Tryz.ntmps107
  go_wp2_with fail
  refine(fE x B v L n most _ (HW.out _) (by omega) hl10 hm).mono ?_
  rintro e w1 (⟨l,v1,ho,rfl,hW1,hO1,hN1⟩|⟨er,ho,_⟩)
  case inr=>rw[HC.out]at ho;cases ho
  obtain rfl:dU n=l:=by rw[HC.out]at ho;exact Out.ok.inj ho
  have HE:Hid (cu w1 x B v1 (L++dU n)∧Off (WX x v) w w1∧NewAt w v v1):=hid ⟨hW1,hO1.behind,hN1.behind⟩
  clear hW1 hO1 hN1 ho
  go_wp2_with fail
  go_loopw[1,16] (fun sv iv wr=>∃ k:Nat,k≤n∧iv=.int .i64 (k:Int)∧sv=.slice a n c∧Hid (∃(l:List UInt8) (vk:Value),bT f (xs.take k)=.ok l∧cu wr x B vk (L++dU n++l)∧Off (WX x v) w wr∧NewAt w v vk)) (fun _ iv _=>n-(intOf iv).toNat)
  case atStart=>exact⟨0,Nat.zero_le _,rfl,rfl,hid ⟨[],v1,rfl,by simpa using HE.out.1,HE.out.2⟩⟩
  case round=>
   obtain⟨k,hk,rfl,rfl,HK⟩:=hrel
   by_cases hlt:k<n
   ·obtain rfl:=HA.out (by omega)
    have hne:((k:Int)==(n:Int))=false:=by rw[beq_eq_false_iff_ne];omega
    have hkx:k<xs.length:=by rw[←HN.out];exact hlt
    have HX:=hid hkx
    obtain⟨l,vk,h2,h3,h4,h5⟩:=HK.out
    have HK2:=hid h2
    have HK3:=hid h3
    have HK4:=hid h4
    have HK5:=hid h5
    have hlen:(L++dU n++l).length+ub≤140737488355328:=by
     have e1:=om HU.out h2
     have e2:=dn n
     have e3:k*ub+ub≤most*ub:=by rw[←Nat.succ_mul];exact Nat.mul_le_mul_right _ (by omega)
     have e4:=HL.out
     simp only[List.length_append]
     omega
    have HLN:=hid hlen
    clear h2 h3 h4 h5 hkx hlen HK
    go_wp2_with fail
    refine(H1.out k HX.out _ vk _ HK4.out HK5.out HK3.out HLN.out).mono ?_
    rintro e w2 (⟨l2,v2,ho,rfl,hW2,hO2,hN2⟩|⟨er,ho,rfl,hO2⟩)
    ·have HK':Hid (∃(l:List UInt8) (vk:Value),bT f (xs.take (k+1))=.ok l∧cu w2 x B vk (L++dU n++l)∧Off (WX x v) w w2∧NewAt w v vk):=hid ⟨l++l2,v2,by rw[fJ f xs k HX.out,HK2.out,ho];rfl,by rw[←List.append_assoc];exact hW2,HK4.out.wr HK5.out hO2,HK5.out.trans hN2 HK4.out.size⟩
     clear ho hW2 hO2 hN2 HK2 HK3 HK4 HK5 HLN
     go_wp2_with fail
     go_roundw
     case rel=>exact⟨k+1,by omega,by go_num,rfl,HK'⟩
     case measure=>simp[intOf];omega
    ·have HP:Hid (aH most f xs=.no er∧Off (WX x v) w w2):=hid ⟨by unfold aH;rw[←HN.out,HC.out,jf HX.out HK2.out ho];rfl,HK4.out.wr HK5.out hO2⟩
     clear ho hO2 HK2 HK3 HK4 HK5 HLN
     go_wp2_with fail
     exact⟨rfl,.inr ⟨er,HP.out.1,rfl,HP.out.2⟩⟩
   ·obtain rfl:k=n:=by omega
    obtain⟨l,vk,h2,h3,h4,h5⟩:=HK.out
    rw[List.take_of_length_le (by rw[HN.out];exact Nat.le_refl _)]at h2
    have HP:Hid (aH most f xs=.ok (dU k++l)∧cu wr x B vk (L++(dU k++l))∧Off (WX x v) w wr∧NewAt w v vk):=hid ⟨by unfold aH;rw[←HN.out,HC.out,h2];rfl,by rw[←List.append_assoc];exact h3,h4,h5⟩
    clear h2 h3 h4 h5 HK
    go_wp2_with fail
    go_ret
    exact .inl ⟨_,vk,HP.out.1,rfl,HP.out.2⟩
 ·have HC:=hid (fH (n:=n) (most:=most) (by omega))
  go_enter Tryz.func107,Tryz.ntmps107
  go_wp2_with fail
  refine(fE x B v L n most _ (HW.out _) (by omega) hl10 hm).mono ?_
  rintro e w1 (⟨l,v1,ho,_⟩|⟨er,ho,rfl,hO1⟩)
  ·rw[HC.out]at ho;cases ho
  ·have HP:Hid (aH most f xs=.no er∧Off (WX x v) w w1):=hid ⟨by unfold aH;rw[←HN.out,ho];rfl,hO1.behind⟩
   clear ho hO1
   go_wp2_with fail
   exact⟨rfl,.inr ⟨er,HP.out.1,rfl,HP.out.2⟩⟩
theorem wl_cls{α:Type}(f:α→Out)(xs:List α)(ub x B:Nat)(v:Value)(L:List UInt8)(most g:Nat)(mi:Int)(hmi:mi=(most:Int))(a:Option Addr)(c:Nat)(w:World)(h:cu w x B v L)(hu:∀ y,bJ (f y) ub)(hm:most≤1000)(hl:L.length+(10+most*ub)≤140737488355328)
 (hn:xs.length≤140737488351232)(ha:0<xs.length→a=some ⟨g,0,none⟩)(h1:∀ k (hk:k<xs.length),OneW 110 f ub x B v w g (k*2) xs[k]):
 Calls Tryz.prog 109 #[.agg #[.iface 84 (.pointer (some ⟨x,0,none⟩))],.slice a xs.length c,.int .i64 mi,.func (.func 110) #[.agg #[.iface 84 (.pointer (some ⟨x,0,none⟩))]] #[]] w
  (di x B v L (aH most f xs) (.slice a xs.length c) w):=by
 subst hmi
 obtain⟨n,hN⟩:∃ n,n=xs.length:=⟨_,rfl⟩
 rw[←hN]at hn ha⊢
 have HN:=hid hN
 have HH:=hid h
 have HW:Hid (∀o,cu (w.alloc o) x B v L):=hid fun o=>h.since ((Below.refl _ _).alloc (Nat.le_refl _) o)
 have HA:=hid ha
 have HU:=hid hu
 have H1:=hid h1
 have HL:=hid hl
 have hl10:L.length+10≤140737488355328:=by omega
 clear h hN ha hu h1 hl
 by_cases hle:n≤most
 ·have HC:=hid (dY hle)
  go_enter Tryz.func109,Tryz.ntmps109
  go_wp2_with fail
  refine(fE x B v L n most _ (HW.out _) (by omega) hl10 hm).mono ?_
  rintro e w1 (⟨l,v1,ho,rfl,hW1,hO1,hN1⟩|⟨er,ho,_⟩)
  case inr=>rw[HC.out]at ho;cases ho
  obtain rfl:dU n=l:=by rw[HC.out]at ho;exact Out.ok.inj ho
  have HE:Hid (cu w1 x B v1 (L++dU n)∧Off (WX x v) w w1∧NewAt w v v1):=hid ⟨hW1,hO1.behind,hN1.behind⟩
  clear hW1 hO1 hN1 ho
  go_wp2_with fail
  go_loopw[1,16] (fun sv iv wr=>∃ k:Nat,k≤n∧iv=.int .i64 (k:Int)∧sv=.slice a n c∧Hid (∃(l:List UInt8) (vk:Value),bT f (xs.take k)=.ok l∧cu wr x B vk (L++dU n++l)∧Off (WX x v) w wr∧NewAt w v vk)) (fun _ iv _=>n-(intOf iv).toNat)
  case atStart=>exact⟨0,Nat.zero_le _,rfl,rfl,hid ⟨[],v1,rfl,by simpa using HE.out.1,HE.out.2⟩⟩
  case round=>
   obtain⟨k,hk,rfl,rfl,HK⟩:=hrel
   by_cases hlt:k<n
   ·obtain rfl:=HA.out (by omega)
    have hne:((k:Int)==(n:Int))=false:=by rw[beq_eq_false_iff_ne];omega
    have hkx:k<xs.length:=by rw[←HN.out];exact hlt
    have HX:=hid hkx
    obtain⟨l,vk,h2,h3,h4,h5⟩:=HK.out
    have HK2:=hid h2
    have HK3:=hid h3
    have HK4:=hid h4
    have HK5:=hid h5
    have hlen:(L++dU n++l).length+ub≤140737488355328:=by
     have e1:=om HU.out h2
     have e2:=dn n
     have e3:k*ub+ub≤most*ub:=by rw[←Nat.succ_mul];exact Nat.mul_le_mul_right _ (by omega)
     have e4:=HL.out
     simp only[List.length_append]
     omega
    have HLN:=hid hlen
    clear h2 h3 h4 h5 hkx hlen HK
    go_wp2_with fail
    refine(H1.out k HX.out _ vk _ HK4.out HK5.out HK3.out HLN.out).mono ?_
    rintro e w2 (⟨l2,v2,ho,rfl,hW2,hO2,hN2⟩|⟨er,ho,rfl,hO2⟩)
    ·have HK':Hid (∃(l:List UInt8) (vk:Value),bT f (xs.take (k+1))=.ok l∧cu w2 x B vk (L++dU n++l)∧Off (WX x v) w w2∧NewAt w v vk):=hid ⟨l++l2,v2,by rw[fJ f xs k HX.out,HK2.out,ho];rfl,by rw[←List.append_assoc];exact hW2,HK4.out.wr HK5.out hO2,HK5.out.trans hN2 HK4.out.size⟩
     clear ho hW2 hO2 hN2 HK2 HK3 HK4 HK5 HLN
     go_wp2_with fail
     go_roundw
     case rel=>exact⟨k+1,by omega,by go_num,rfl,HK'⟩
     case measure=>simp[intOf];omega
    ·have HP:Hid (aH most f xs=.no er∧Off (WX x v) w w2):=hid ⟨by unfold aH;rw[←HN.out,HC.out,jf HX.out HK2.out ho];rfl,HK4.out.wr HK5.out hO2⟩
     clear ho hO2 HK2 HK3 HK4 HK5 HLN
     go_wp2_with fail
     exact⟨rfl,.inr ⟨er,HP.out.1,rfl,HP.out.2⟩⟩
   ·obtain rfl:k=n:=by omega
    obtain⟨l,vk,h2,h3,h4,h5⟩:=HK.out
    rw[List.take_of_length_le (by rw[HN.out];exact Nat.le_refl _)]at h2
    have HP:Hid (aH most f xs=.ok (dU k++l)∧cu wr x B vk (L++(dU k++l))∧Off (WX x v) w wr∧NewAt w v vk):=hid ⟨by unfold aH;rw[←HN.out,HC.out,h2];rfl,by rw[←List.append_assoc];exact h3,h4,h5⟩
    clear h2 h3 h4 h5 HK
    go_wp2_with fail
    go_ret
    exact .inl ⟨_,vk,HP.out.1,rfl,HP.out.2⟩
 ·have HC:=hid (fH (n:=n) (most:=most) (by omega))
  go_enter Tryz.func109,Tryz.ntmps109
  go_wp2_with fail
  refine(fE x B v L n most _ (HW.out _) (by omega) hl10 hm).mono ?_
  rintro e w1 (⟨l,v1,ho,_⟩|⟨er,ho,rfl,hO1⟩)
  ·rw[HC.out]at ho;cases ho
  ·have HP:Hid (aH most f xs=.no er∧Off (WX x v) w w1):=hid ⟨by unfold aH;rw[←HN.out,ho];rfl,hO1.behind⟩
   clear ho hO1
   go_wp2_with fail
   exact⟨rfl,.inr ⟨er,HP.out.1,rfl,HP.out.2⟩⟩
theorem wl_fun{α:Type}(f:α→Out)(xs:List α)(ub x B:Nat)(v:Value)(L:List UInt8)(most g:Nat)(mi:Int)(hmi:mi=(most:Int))(a:Option Addr)(c:Nat)(w:World)(h:cu w x B v L)(hu:∀ y,bJ (f y) ub)(hm:most≤1000)(hl:L.length+(10+most*ub)≤140737488355328)
 (hn:xs.length≤140737488351232)(ha:0<xs.length→a=some ⟨g,0,none⟩)(h1:∀ k (hk:k<xs.length),OneW 112 f ub x B v w g (k*2) xs[k]):
 Calls Tryz.prog 111 #[.agg #[.iface 84 (.pointer (some ⟨x,0,none⟩))],.slice a xs.length c,.int .i64 mi,.func (.func 112) #[.agg #[.iface 84 (.pointer (some ⟨x,0,none⟩))]] #[]] w
  (di x B v L (aH most f xs) (.slice a xs.length c) w):=by
 subst hmi
 obtain⟨n,hN⟩:∃ n,n=xs.length:=⟨_,rfl⟩
 rw[←hN]at hn ha⊢
 have HN:=hid hN
 have HH:=hid h
 have HW:Hid (∀o,cu (w.alloc o) x B v L):=hid fun o=>h.since ((Below.refl _ _).alloc (Nat.le_refl _) o)
 have HA:=hid ha
 have HU:=hid hu
 have H1:=hid h1
 have HL:=hid hl
 have hl10:L.length+10≤140737488355328:=by omega
 clear h hN ha hu h1 hl
 by_cases hle:n≤most
 ·have HC:=hid (dY hle)
  go_enter Tryz.func111,Tryz.ntmps111
  go_wp2_with fail
  refine(fE x B v L n most _ (HW.out _) (by omega) hl10 hm).mono ?_
  rintro e w1 (⟨l,v1,ho,rfl,hW1,hO1,hN1⟩|⟨er,ho,_⟩)
  case inr=>rw[HC.out]at ho;cases ho
  obtain rfl:dU n=l:=by rw[HC.out]at ho;exact Out.ok.inj ho
  have HE:Hid (cu w1 x B v1 (L++dU n)∧Off (WX x v) w w1∧NewAt w v v1):=hid ⟨hW1,hO1.behind,hN1.behind⟩
  clear hW1 hO1 hN1 ho
  go_wp2_with fail
  go_loopw[1,16] (fun sv iv wr=>∃ k:Nat,k≤n∧iv=.int .i64 (k:Int)∧sv=.slice a n c∧Hid (∃(l:List UInt8) (vk:Value),bT f (xs.take k)=.ok l∧cu wr x B vk (L++dU n++l)∧Off (WX x v) w wr∧NewAt w v vk)) (fun _ iv _=>n-(intOf iv).toNat)
  case atStart=>exact⟨0,Nat.zero_le _,rfl,rfl,hid ⟨[],v1,rfl,by simpa using HE.out.1,HE.out.2⟩⟩
  case round=>
   obtain⟨k,hk,rfl,rfl,HK⟩:=hrel
   by_cases hlt:k<n
   ·obtain rfl:=HA.out (by omega)
    have hne:((k:Int)==(n:Int))=false:=by rw[beq_eq_false_iff_ne];omega
    have hkx:k<xs.length:=by rw[←HN.out];exact hlt
    have HX:=hid hkx
    obtain⟨l,vk,h2,h3,h4,h5⟩:=HK.out
    have HK2:=hid h2
    have HK3:=hid h3
    have HK4:=hid h4
    have HK5:=hid h5
    have hlen:(L++dU n++l).length+ub≤140737488355328:=by
     have e1:=om HU.out h2
     have e2:=dn n
     have e3:k*ub+ub≤most*ub:=by rw[←Nat.succ_mul];exact Nat.mul_le_mul_right _ (by omega)
     have e4:=HL.out
     simp only[List.length_append]
     omega
    have HLN:=hid hlen
    clear h2 h3 h4 h5 hkx hlen HK
    go_wp2_with fail
    refine(H1.out k HX.out _ vk _ HK4.out HK5.out HK3.out HLN.out).mono ?_
    rintro e w2 (⟨l2,v2,ho,rfl,hW2,hO2,hN2⟩|⟨er,ho,rfl,hO2⟩)
    ·have HK':Hid (∃(l:List UInt8) (vk:Value),bT f (xs.take (k+1))=.ok l∧cu w2 x B vk (L++dU n++l)∧Off (WX x v) w w2∧NewAt w v vk):=hid ⟨l++l2,v2,by rw[fJ f xs k HX.out,HK2.out,ho];rfl,by rw[←List.append_assoc];exact hW2,HK4.out.wr HK5.out hO2,HK5.out.trans hN2 HK4.out.size⟩
     clear ho hW2 hO2 hN2 HK2 HK3 HK4 HK5 HLN
     go_wp2_with fail
     go_roundw
     case rel=>exact⟨k+1,by omega,by go_num,rfl,HK'⟩
     case measure=>simp[intOf];omega
    ·have HP:Hid (aH most f xs=.no er∧Off (WX x v) w w2):=hid ⟨by unfold aH;rw[←HN.out,HC.out,jf HX.out HK2.out ho];rfl,HK4.out.wr HK5.out hO2⟩
     clear ho hO2 HK2 HK3 HK4 HK5 HLN
     go_wp2_with fail
     exact⟨rfl,.inr ⟨er,HP.out.1,rfl,HP.out.2⟩⟩
   ·obtain rfl:k=n:=by omega
    obtain⟨l,vk,h2,h3,h4,h5⟩:=HK.out
    rw[List.take_of_length_le (by rw[HN.out];exact Nat.le_refl _)]at h2
    have HP:Hid (aH most f xs=.ok (dU k++l)∧cu wr x B vk (L++(dU k++l))∧Off (WX x v) w wr∧NewAt w v vk):=hid ⟨by unfold aH;rw[←HN.out,HC.out,h2];rfl,by rw[←List.append_assoc];exact h3,h4,h5⟩
    clear h2 h3 h4 h5 HK
    go_wp2_with fail
    go_ret
    exact .inl ⟨_,vk,HP.out.1,rfl,HP.out.2⟩
 ·have HC:=hid (fH (n:=n) (most:=most) (by omega))
  go_enter Tryz.func111,Tryz.ntmps111
  go_wp2_with fail
  refine(fE x B v L n most _ (HW.out _) (by omega) hl10 hm).mono ?_
  rintro e w1 (⟨l,v1,ho,_⟩|⟨er,ho,rfl,hO1⟩)
  ·rw[HC.out]at ho;cases ho
  ·have HP:Hid (aH most f xs=.no er∧Off (WX x v) w w1):=hid ⟨by unfold aH;rw[←HN.out,ho];rfl,hO1.behind⟩
   clear ho hO1
   go_wp2_with fail
   exact⟨rfl,.inr ⟨er,HP.out.1,rfl,HP.out.2⟩⟩
theorem Fu{α:Type}(f:α→Out)(xs:List α)(ub x B:Nat)(v:Value)(L:List UInt8)(most g:Nat)(mi:Int)(hmi:mi=(most:Int))(a:Option Addr)(c:Nat)(w:World)(h:cu w x B v L)(hu:∀ y,bJ (f y) ub)(hm:most≤1000)(hl:L.length+(10+most*ub)≤140737488355328)
 (hn:xs.length≤140737488351232)(ha:0<xs.length→a=some ⟨g,0,none⟩)(h1:∀ k (hk:k<xs.length),OneW 147 f ub x B v w g (k*8) xs[k]):
 Calls Tryz.prog 146 #[.agg #[.iface 84 (.pointer (some ⟨x,0,none⟩))],.slice a xs.length c,.int .i64 mi,.func (.func 147) #[.agg #[.iface 84 (.pointer (some ⟨x,0,none⟩))]] #[]] w
  (di x B v L (aH most f xs) (.slice a xs.length c) w):=by
 subst hmi
 obtain⟨n,hN⟩:∃ n,n=xs.length:=⟨_,rfl⟩
 rw[←hN]at hn ha⊢
 have HN:=hid hN
 have HH:=hid h
 have HW:Hid (∀o,cu (w.alloc o) x B v L):=hid fun o=>h.since ((Below.refl _ _).alloc (Nat.le_refl _) o)
 have HA:=hid ha
 have HU:=hid hu
 have H1:=hid h1
 have HL:=hid hl
 have hl10:L.length+10≤140737488355328:=by omega
 clear h hN ha hu h1 hl
 by_cases hle:n≤most
 ·have HC:=hid (dY hle)
  go_enter Tryz.func146,Tryz.ntmps146
  go_wp2_with fail
  refine(fE x B v L n most _ (HW.out _) (by omega) hl10 hm).mono ?_
  rintro e w1 (⟨l,v1,ho,rfl,hW1,hO1,hN1⟩|⟨er,ho,_⟩)
  case inr=>rw[HC.out]at ho;cases ho
  obtain rfl:dU n=l:=by rw[HC.out]at ho;exact Out.ok.inj ho
  have HE:Hid (cu w1 x B v1 (L++dU n)∧Off (WX x v) w w1∧NewAt w v v1):=hid ⟨hW1,hO1.behind,hN1.behind⟩
  clear hW1 hO1 hN1 ho
  go_wp2_with fail
  go_loopw[1,16] (fun sv iv wr=>∃ k:Nat,k≤n∧iv=.int .i64 (k:Int)∧sv=.slice a n c∧Hid (∃(l:List UInt8) (vk:Value),bT f (xs.take k)=.ok l∧cu wr x B vk (L++dU n++l)∧Off (WX x v) w wr∧NewAt w v vk)) (fun _ iv _=>n-(intOf iv).toNat)
  case atStart=>exact⟨0,Nat.zero_le _,rfl,rfl,hid ⟨[],v1,rfl,by simpa using HE.out.1,HE.out.2⟩⟩
  case round=>
   obtain⟨k,hk,rfl,rfl,HK⟩:=hrel
   by_cases hlt:k<n
   ·obtain rfl:=HA.out (by omega)
    have hne:((k:Int)==(n:Int))=false:=by rw[beq_eq_false_iff_ne];omega
    have hkx:k<xs.length:=by rw[←HN.out];exact hlt
    have HX:=hid hkx
    obtain⟨l,vk,h2,h3,h4,h5⟩:=HK.out
    have HK2:=hid h2
    have HK3:=hid h3
    have HK4:=hid h4
    have HK5:=hid h5
    have hlen:(L++dU n++l).length+ub≤140737488355328:=by
     have e1:=om HU.out h2
     have e2:=dn n
     have e3:k*ub+ub≤most*ub:=by rw[←Nat.succ_mul];exact Nat.mul_le_mul_right _ (by omega)
     have e4:=HL.out
     simp only[List.length_append]
     omega
    have HLN:=hid hlen
    clear h2 h3 h4 h5 hkx hlen HK
    go_wp2_with fail
    refine(H1.out k HX.out _ vk _ HK4.out HK5.out HK3.out HLN.out).mono ?_
    rintro e w2 (⟨l2,v2,ho,rfl,hW2,hO2,hN2⟩|⟨er,ho,rfl,hO2⟩)
    ·have HK':Hid (∃(l:List UInt8) (vk:Value),bT f (xs.take (k+1))=.ok l∧cu w2 x B vk (L++dU n++l)∧Off (WX x v) w w2∧NewAt w v vk):=hid ⟨l++l2,v2,by rw[fJ f xs k HX.out,HK2.out,ho];rfl,by rw[←List.append_assoc];exact hW2,HK4.out.wr HK5.out hO2,HK5.out.trans hN2 HK4.out.size⟩
     clear ho hW2 hO2 hN2 HK2 HK3 HK4 HK5 HLN
     go_wp2_with fail
     go_roundw
     case rel=>exact⟨k+1,by omega,by go_num,rfl,HK'⟩
     case measure=>simp[intOf];omega
    ·have HP:Hid (aH most f xs=.no er∧Off (WX x v) w w2):=hid ⟨by unfold aH;rw[←HN.out,HC.out,jf HX.out HK2.out ho];rfl,HK4.out.wr HK5.out hO2⟩
     clear ho hO2 HK2 HK3 HK4 HK5 HLN
     go_wp2_with fail
     exact⟨rfl,.inr ⟨er,HP.out.1,rfl,HP.out.2⟩⟩
   ·obtain rfl:k=n:=by omega
    obtain⟨l,vk,h2,h3,h4,h5⟩:=HK.out
    rw[List.take_of_length_le (by rw[HN.out];exact Nat.le_refl _)]at h2
    have HP:Hid (aH most f xs=.ok (dU k++l)∧cu wr x B vk (L++(dU k++l))∧Off (WX x v) w wr∧NewAt w v vk):=hid ⟨by unfold aH;rw[←HN.out,HC.out,h2];rfl,by rw[←List.append_assoc];exact h3,h4,h5⟩
    clear h2 h3 h4 h5 HK
    go_wp2_with fail
    go_ret
    exact .inl ⟨_,vk,HP.out.1,rfl,HP.out.2⟩
 ·have HC:=hid (fH (n:=n) (most:=most) (by omega))
  go_enter Tryz.func146,Tryz.ntmps146
  go_wp2_with fail
  refine(fE x B v L n most _ (HW.out _) (by omega) hl10 hm).mono ?_
  rintro e w1 (⟨l,v1,ho,_⟩|⟨er,ho,rfl,hO1⟩)
  ·rw[HC.out]at ho;cases ho
  ·have HP:Hid (aH most f xs=.no er∧Off (WX x v) w w1):=hid ⟨by unfold aH;rw[←HN.out,ho];rfl,hO1.behind⟩
   clear ho hO1
   go_wp2_with fail
   exact⟨rfl,.inr ⟨er,HP.out.1,rfl,HP.out.2⟩⟩
theorem wl_op{α:Type}(f:α→Out)(xs:List α)(ub x B:Nat)(v:Value)(L:List UInt8)(most g:Nat)(mi:Int)(hmi:mi=(most:Int))(a:Option Addr)(c:Nat)(w:World)(h:cu w x B v L)(hu:∀ y,bJ (f y) ub)(hm:most≤1000)(hl:L.length+(10+most*ub)≤140737488355328)
 (hn:xs.length≤140737488351232)(ha:0<xs.length→a=some ⟨g,0,none⟩)(h1:∀ k (hk:k<xs.length),OneW 161 f ub x B v w g (k*8) xs[k]):
 Calls Tryz.prog 160 #[.agg #[.iface 84 (.pointer (some ⟨x,0,none⟩))],.slice a xs.length c,.int .i64 mi,.func (.func 161) #[.agg #[.iface 84 (.pointer (some ⟨x,0,none⟩))]] #[]] w
  (di x B v L (aH most f xs) (.slice a xs.length c) w):=by
 subst hmi
 obtain⟨n,hN⟩:∃ n,n=xs.length:=⟨_,rfl⟩
 rw[←hN]at hn ha⊢
 have HN:=hid hN
 have HH:=hid h
 have HW:Hid (∀o,cu (w.alloc o) x B v L):=hid fun o=>h.since ((Below.refl _ _).alloc (Nat.le_refl _) o)
 have HA:=hid ha
 have HU:=hid hu
 have H1:=hid h1
 have HL:=hid hl
 have hl10:L.length+10≤140737488355328:=by omega
 clear h hN ha hu h1 hl
 by_cases hle:n≤most
 ·have HC:=hid (dY hle)
  go_enter Tryz.func160,Tryz.ntmps160
  go_wp2_with fail
  refine(fE x B v L n most _ (HW.out _) (by omega) hl10 hm).mono ?_
  rintro e w1 (⟨l,v1,ho,rfl,hW1,hO1,hN1⟩|⟨er,ho,_⟩)
  case inr=>rw[HC.out]at ho;cases ho
  obtain rfl:dU n=l:=by rw[HC.out]at ho;exact Out.ok.inj ho
  have HE:Hid (cu w1 x B v1 (L++dU n)∧Off (WX x v) w w1∧NewAt w v v1):=hid ⟨hW1,hO1.behind,hN1.behind⟩
  clear hW1 hO1 hN1 ho
  go_wp2_with fail
  go_loopw[1,16] (fun sv iv wr=>∃ k:Nat,k≤n∧iv=.int .i64 (k:Int)∧sv=.slice a n c∧Hid (∃(l:List UInt8) (vk:Value),bT f (xs.take k)=.ok l∧cu wr x B vk (L++dU n++l)∧Off (WX x v) w wr∧NewAt w v vk)) (fun _ iv _=>n-(intOf iv).toNat)
  case atStart=>exact⟨0,Nat.zero_le _,rfl,rfl,hid ⟨[],v1,rfl,by simpa using HE.out.1,HE.out.2⟩⟩
  case round=>
   obtain⟨k,hk,rfl,rfl,HK⟩:=hrel
   by_cases hlt:k<n
   ·obtain rfl:=HA.out (by omega)
    have hne:((k:Int)==(n:Int))=false:=by rw[beq_eq_false_iff_ne];omega
    have hkx:k<xs.length:=by rw[←HN.out];exact hlt
    have HX:=hid hkx
    obtain⟨l,vk,h2,h3,h4,h5⟩:=HK.out
    have HK2:=hid h2
    have HK3:=hid h3
    have HK4:=hid h4
    have HK5:=hid h5
    have hlen:(L++dU n++l).length+ub≤140737488355328:=by
     have e1:=om HU.out h2
     have e2:=dn n
     have e3:k*ub+ub≤most*ub:=by rw[←Nat.succ_mul];exact Nat.mul_le_mul_right _ (by omega)
     have e4:=HL.out
     simp only[List.length_append]
     omega
    have HLN:=hid hlen
    clear h2 h3 h4 h5 hkx hlen HK
    go_wp2_with fail
    refine(H1.out k HX.out _ vk _ HK4.out HK5.out HK3.out HLN.out).mono ?_
    rintro e w2 (⟨l2,v2,ho,rfl,hW2,hO2,hN2⟩|⟨er,ho,rfl,hO2⟩)
    ·have HK':Hid (∃(l:List UInt8) (vk:Value),bT f (xs.take (k+1))=.ok l∧cu w2 x B vk (L++dU n++l)∧Off (WX x v) w w2∧NewAt w v vk):=hid ⟨l++l2,v2,by rw[fJ f xs k HX.out,HK2.out,ho];rfl,by rw[←List.append_assoc];exact hW2,HK4.out.wr HK5.out hO2,HK5.out.trans hN2 HK4.out.size⟩
     clear ho hW2 hO2 hN2 HK2 HK3 HK4 HK5 HLN
     go_wp2_with fail
     go_roundw
     case rel=>exact⟨k+1,by omega,by go_num,rfl,HK'⟩
     case measure=>simp[intOf];omega
    ·have HP:Hid (aH most f xs=.no er∧Off (WX x v) w w2):=hid ⟨by unfold aH;rw[←HN.out,HC.out,jf HX.out HK2.out ho];rfl,HK4.out.wr HK5.out hO2⟩
     clear ho hO2 HK2 HK3 HK4 HK5 HLN
     go_wp2_with fail
     exact⟨rfl,.inr ⟨er,HP.out.1,rfl,HP.out.2⟩⟩
   ·obtain rfl:k=n:=by omega
    obtain⟨l,vk,h2,h3,h4,h5⟩:=HK.out
    rw[List.take_of_length_le (by rw[HN.out];exact Nat.le_refl _)]at h2
    have HP:Hid (aH most f xs=.ok (dU k++l)∧cu wr x B vk (L++(dU k++l))∧Off (WX x v) w wr∧NewAt w v vk):=hid ⟨by unfold aH;rw[←HN.out,HC.out,h2];rfl,by rw[←List.append_assoc];exact h3,h4,h5⟩
    clear h2 h3 h4 h5 HK
    go_wp2_with fail
    go_ret
    exact .inl ⟨_,vk,HP.out.1,rfl,HP.out.2⟩
 ·have HC:=hid (fH (n:=n) (most:=most) (by omega))
  go_enter Tryz.func160,Tryz.ntmps160
  go_wp2_with fail
  refine(fE x B v L n most _ (HW.out _) (by omega) hl10 hm).mono ?_
  rintro e w1 (⟨l,v1,ho,_⟩|⟨er,ho,rfl,hO1⟩)
  ·rw[HC.out]at ho;cases ho
  ·have HP:Hid (aH most f xs=.no er∧Off (WX x v) w w1):=hid ⟨by unfold aH;rw[←HN.out,ho];rfl,hO1.behind⟩
   clear ho hO1
   go_wp2_with fail
   exact⟨rfl,.inr ⟨er,HP.out.1,rfl,HP.out.2⟩⟩
end Go.Proofs.YthjdeoppajlcoaaGreatDoor
