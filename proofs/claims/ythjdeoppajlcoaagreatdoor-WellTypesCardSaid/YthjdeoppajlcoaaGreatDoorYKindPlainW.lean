/- Layer 4, P4.1: package kind's Plain, walked. -/
import Derived.Test.YthjdeoppajlcoaaGreatDoorYT2

namespace Go.Proofs.YthjdeoppajlcoaaGreatDoor
set_option linter.unusedVariables false
open Go.RowKit (wrap64 intOf Below Hid)
open Go.Lib (hid)
theorem Fh.start(w:World)(K A B C N:Int)(S:ByteArray)(la:Option Addr)(ln lc:Nat)(T:Bool)(L:List Int)(t0 t1 t2:TypeId):
 Fh w ((((w.alloc (.cells #[.int .i64 K,.int .i64 A,.int .i64 B,.int .i64 C,.int .i64 N,.string S,.slice la ln lc,.bool T] t0)).alloc (.cells #[.int .i64 0,.int .i64 0,.int .i64 0,.int .i64 0,.int .i64 0,.string ⟨#[]⟩,.slice none 0 0,.bool false] t1)).alloc (.cells #[.int .i64 K,.int .i64 0,.int .i64 0,.int .i64 0,.int .i64 0,.string ⟨#[]⟩,.slice none 0 0,.bool false] t2)).iter (fstr K) 0) K A B C N S la ln lc T L 0 none 0 0:=by
 unfold World.iter
 refine⟨(((Box.new w _ t0 rfl).alloc (by simp) _).alloc (by simp<;>omega) _).alloc (by simp<;>omega) _,((Box.new _ _ t1 (by simp)).alloc (by simp) _).alloc (by simp<;>omega) _, ?_, ?_, ?_,(((Below.refl w.heap.size w).alloc (Nat.le_refl _) _).alloc (by simp) _ |>.alloc (by simp<;>omega) _).alloc (by simp<;>omega) _,by simp⟩
 ·rw[xE]
  exact(Box.new _ _ t2 (by simp)).alloc (by simp) _
 ·have h:=World.iter_heap (((w.alloc (.cells #[.int .i64 K,.int .i64 A,.int .i64 B,.int .i64 C,.int .i64 N,.string S,.slice la ln lc,.bool T] t0)).alloc (.cells #[.int .i64 0,.int .i64 0,.int .i64 0,.int .i64 0,.int .i64 0,.string ⟨#[]⟩,.slice none 0 0,.bool false] t1)).alloc (.cells #[.int .i64 K,.int .i64 0,.int .i64 0,.int .i64 0,.int .i64 0,.string ⟨#[]⟩,.slice none 0 0,.bool false] t2)) (fstr K) 0
  simpa [World.iter]using h
 ·rw[vH]
  exact World.ownsRow_nil _ _ _ 1
theorem iY{w u u':World}{K A B C N A' B' C' N':Int}{S S':ByteArray}{la la':Option Addr}{ln lc ln' lc':Nat}{T T':Bool}{L L':List Int}{k:Nat}{va va':Option Addr}{vn vc vn' vc':Nat}(hlt:k<(av K).length)
 (h:Fh w u K A B C N S la ln lc T L k va vn vc)(h':Fh w u' K A' B' C' N' S' la' ln' lc' T' L' (k+1) va' vn' vc'):
 k+1≤(av K).length∧(av K).length-u'.iterPos (w.heap.size+3)<(av K).length-u.iterPos (w.heap.size+3):=by
 refine⟨hlt, ?_⟩
 simp only[World.iterPos,h.it,h'.it]
 omega
set_option maxRecDepth 100000 in
set_option maxHeartbeats 2000000 in
theorem Bj(K A B C N:Int)(S:ByteArray)(la:Option Addr)(ln lc:Nat)(T:Bool)(L:List Int)(w:World)(hft:FT w)(hat:ai w la ln L)(hnil:la=none→lc=0)(hn:ln*8≤140737488355328):
 Calls Tryz.prog 149 #[.agg #[.int .i64 K,.int .i64 A,.int .i64 B,.int .i64 C,.int .i64 N,.string S,.slice la ln lc,.bool T]] w (E9 K A B C N S T L w):=by
 have HA:=hid hat
 have HNIL:=hid hnil
 have HFT:=hid hft
 clear hat hnil hft
 go_enter Tryz.func149,Tryz.ntmps149
 go_wp2_with(go_at_call 128;(with_reducible refine(mH K _ (HFT.out.since ((((Below.refl w.heap.size w).alloc (Nat.le_refl _) _).alloc (by simp) _).alloc (by simp<;>omega) _))).mono ?_);rintro e w' ⟨rfl,rfl⟩)
 go_loopw[] (fun wr=>∃ (k:Nat) (va:Option Addr) (vn vc:Nat),Hid (Fh w wr K A B C N S la ln lc T L k va vn vc)∧k≤(av K).length) (fun wr=>(av K).length-wr.iterPos (w.heap.size+3))
 case atStart=>exact⟨0,none,0,0,hid (Fh.start w K A B C N S la ln lc T L _ _ _),Nat.zero_le _⟩
 case round=>
  obtain⟨k,va,vn,vc,HS,hk⟩:=hrel
  have hit:=HS.out.it
  by_cases hlt:k<(av K).length
  ·obtain⟨g,hg⟩:∃ g,(av K)[k]=g:=⟨_,rfl⟩
   have hks:k<(fstr K).size:=by unfold fstr;rw[mF];exact hlt
   have hgs:(fstr K)[k]=g:=by rw[←hg];exact xO hlt hks
   have hlet:=letters K g (by rw[←hg];exact List.getElem_mem _)
   have hnx0:=fun ty=>Lib.run_next_ascii_at (P:=Tryz.prog) wr (w.heap.size+1+1+1) (fstr K) k ty hit hks (by rw[hgs];rcases hlet with rfl|rfl|rfl|rfl|rfl|rfl|rfl<;>decide)
   rw[hgs]at hnx0
   have HM:=hid HS.out.move
   obtain⟨u,hu⟩:∃ u,wr.iterAt (w.heap.size+1+1+1) (fstr K) (k+1)=u:=⟨_,rfl⟩
   have hu':wr.iterAt (w.heap.size+3) (fstr K) (k+1)=u:=hu
   rw[hu]at hnx0
   rw[hu']at HM
   have hc0:∀ j,u.cell? ⟨w.heap.size,j,none⟩=_:=HM.out.inb.1
   have hc2:∀ j,u.cell? ⟨w.heap.size+1+1,j,none⟩=_:=HM.out.box.1
   unfold bP at hc2
   have hf2:∀ j,u.frozen? ⟨w.heap.size+1+1,j,none⟩=false:=HM.out.box.2
   clear hu hu' hgs hit hks
   rcases hlet with rfl|rfl|rfl|rfl|rfl|rfl|rfl
   ·obtain⟨hP,hL⟩:=put_N (A:=A) (B:=B) (C:=C) (N:=N) (S:=S) (T:=T) (l:=.slice va vn vc) hlt hg
    have HN:=hid (HM.out.put 4 _ (by omega) hP hL)
    have HM1:=hid (iY hlt HS.out HN.out)
    clear hP hL hg hlt
    go_wp2_with fail
    go_roundw
    case rel=>exact⟨k+1,va,vn,vc,HN,HM1.out.1⟩
    case measure=>exact HM1.out.2
   ·obtain⟨hP,hL⟩:=put_S (A:=A) (B:=B) (C:=C) (N:=N) (S:=S) (T:=T) (l:=.slice va vn vc) hlt hg
    have HN:=hid (HM.out.put 5 _ (by omega) hP hL)
    have HM1:=hid (iY hlt HS.out HN.out)
    clear hP hL hg hlt
    go_wp2_with fail
    go_roundw
    case rel=>exact⟨k+1,va,vn,vc,HN,HM1.out.1⟩
    case measure=>exact HM1.out.2
   ·obtain⟨hP,hL⟩:=put_A (A:=A) (B:=B) (C:=C) (N:=N) (S:=S) (T:=T) (l:=.slice va vn vc) hlt hg
    have HN:=hid (HM.out.put 1 _ (by omega) hP hL)
    have HM1:=hid (iY hlt HS.out HN.out)
    clear hP hL hg hlt
    go_wp2_with fail
    go_roundw
    case rel=>exact⟨k+1,va,vn,vc,HN,HM1.out.1⟩
    case measure=>exact HM1.out.2
   ·obtain⟨hP,hL⟩:=put_B (A:=A) (B:=B) (C:=C) (N:=N) (S:=S) (T:=T) (l:=.slice va vn vc) hlt hg
    have HN:=hid (HM.out.put 2 _ (by omega) hP hL)
    have HM1:=hid (iY hlt HS.out HN.out)
    clear hP hL hg hlt
    go_wp2_with fail
    go_roundw
    case rel=>exact⟨k+1,va,vn,vc,HN,HM1.out.1⟩
    case measure=>exact HM1.out.2
   ·obtain⟨hP,hL⟩:=put_C (A:=A) (B:=B) (C:=C) (N:=N) (S:=S) (T:=T) (l:=.slice va vn vc) hlt hg
    have HN:=hid (HM.out.put 3 _ (by omega) hP hL)
    have HM1:=hid (iY hlt HS.out HN.out)
    clear hP hL hg hlt
    go_wp2_with fail
    go_roundw
    case rel=>exact⟨k+1,va,vn,vc,HN,HM1.out.1⟩
    case measure=>exact HM1.out.2
   ·obtain⟨hL0,hP0⟩:lY K (k+1) 76=true∧∀ l',bP K A B C N S T (k+1) l'=(bP K A B C N S T k (.slice va vn vc)).setIfInBounds 6 l':=⟨(put_L (A:=A) (B:=B) (C:=C) (N:=N) (S:=S) (T:=T) (l:=.slice va vn vc) (l':=.slice va vn vc) hlt hg).2,fun l'=>(put_L hlt hg).1⟩
    have HP:=hid hP0
    have HL0:=hid hL0
    have HLT:=hid hlt
    have hsz:=HM.out.siz
    clear hP0 hL0 hg hlt
    go_wp2_with(at_builtin;refine bQ _ rfl _ _ 40 rfl 3 Tryz.underlying40 aT (w.heap.size+4) _ [] rfl (World.ownsRow_nil _ _ _ 1) (by omega) la ln lc L rfl HNIL.out (HA.out.since HM.out.bel) (by simpa using hn) ?_;intro va' vn' vc' w2 hown hb;have HN:=hid (HM.out.dU hb hown (HP.out _) HL0.out);have hf3:∀ j,w2.frozen? ⟨w.heap.size+1+1,j,none⟩=false:=(HM.out.box.below hb (by omega)).2;have hc3:∀ j,w2.cell? ⟨w.heap.size+1+1,j,none⟩=_:=(HM.out.box.below hb (by omega)).1;unfold bP at hc3;clear hown hb)
    have HM1:=hid (iY HLT.out HS.out HN.out)
    go_roundw
    case rel=>exact⟨k+1,va',vn',vc',HN,HM1.out.1⟩
    case measure=>exact HM1.out.2
   ·obtain⟨hP,hL⟩:=put_K (A:=A) (B:=B) (C:=C) (N:=N) (S:=S) (T:=T) (l:=.slice va vn vc) hlt hg
    have HN:=hid (HM.out.put 7 _ (by omega) hP hL)
    have HM1:=hid (iY hlt HS.out HN.out)
    clear hP hL hg hlt
    go_wp2_with fail
    go_roundw
    case rel=>exact⟨k+1,va,vn,vc,HN,HM1.out.1⟩
    case measure=>exact HM1.out.2
  ·have hks:¬ k<(fstr K).size:=by unfold fstr;rw[mF];exact hlt
   have hnx0:=fun ty=>Lib.run_next_end_at (P:=Tryz.prog) wr (w.heap.size+1+1+1) (fstr K) k ty hit hks
   have hc2:∀ j,wr.cell? ⟨w.heap.size+1+1,j,none⟩=_:=HS.out.box.1
   unfold bP at hc2
   have hc1:∀ j,wr.cell? ⟨w.heap.size+1,j,none⟩=_:=HS.out.res.1
   have hf1:∀ j,wr.frozen? ⟨w.heap.size+1,j,none⟩=false:=HS.out.res.2
   go_wp2_with fail
   have HE:=hid (fun f=>Gi (K:=K) (k:=k) f (by omega))
   have hown:=HS.out.own
   rw[HE.out]at hown
   have HO:=hid hown
   have HW:=hid HS.out.bel
   clear hown
   refine bodyPost_ret (v:=.agg #[.int .i64 K,.int .i64 (jk (hasB K 65) A),.int .i64 (jk (hasB K 66) B),.int .i64 (jk (hasB K 67) C),.int .i64 (jk (hasB K 78) N),.string (uS (hasB K 83) S),.slice va vn vc,.bool (hasB K 75&&T)]) (by simp[results,Tryz.results149,go_sem,hc1,HE.out]) rfl ⟨va,vn,vc,rfl, ?_, ?_⟩
   ·exact(Gr HO.out _ (by omega) _ _ _ _ _ _ _ _).mono (by omega)
   ·exact BG HW.out _ (by omega) _ _ _ _ _ _ _ _
end Go.Proofs.YthjdeoppajlcoaaGreatDoor
