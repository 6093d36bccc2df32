/- Layer 8: slices.DeleteFunc of those blocks that are not met. -/
import Derived.Test.YthjdeoppajlcoaaGreatDoorYDomG

namespace Go.Proofs.YthjdeoppajlcoaaGreatDoor
set_option linter.unusedSimpArgs false
set_option linter.unusedVariables false
set_option maxRecDepth 100000
open Go.RowKit (wrap64 intOf Below Hid)
open Go.Lib (hid)
def tL(d:Int→Bool)(L:List Int)(k:Int):Prop:=(k= -1∧∀ z∈L,d z=false)∨∃ i:Nat,k=(i:Int)∧i<L.length∧d (nth L i)=true∧∀ z∈L.take i,d z=false
theorem Bp{W:World}{d:Int→Bool}(bt:Nat)(a:Option Addr)(n c:Nat)(L:List Int)(hat:ai W a n L)(hn:n≤1099511627776)
 (hc:∀ z,Calls Tryz.prog 139 #[.int .i64 z,.pointer (some ⟨bt,0,none⟩)] W fun e w'=>e=.returned (.bool (d z))∧w'=W):
 Calls Tryz.prog 157 #[.slice a n c,.func (.func 139) #[] #[.pointer (some ⟨bt,0,none⟩)]] W fun e w'=>∃ k:Int,e=.returned (.int .i64 k)∧tL d L k∧w'=W:=by
 have HL:=hid hat.1
 have HA:=hid hat
 have HC:=hid hc
 clear hat hc
 go_enter Tryz.func157,Tryz.ntmps157
 go_wp2_with fail
 go_loop [8] (fun iv=>∃ i:Nat,i≤n∧Hid (∀z∈L.take i,d z=false)∧iv=.int .i64 (i:Int)) (fun iv=>n-(intOf iv).toNat)
 case atStart=>exact⟨0,Nat.zero_le _,hid (by simp),rfl⟩
 case round=>
  obtain⟨i,hi,HU,rfl⟩:=hrel
  by_cases hlt:i<n
  ·have hi1:i<L.length:=by rw[HL.out];exact hlt
   obtain⟨g,off,rfl,hg,hcs⟩:=HA.out.2 (by omega)
   have hcell:=hcs i hi1
   obtain⟨y,hy⟩:∃ y,y=nth L i:=⟨_,rfl⟩
   rw[←bN hi1,←hy]at hcell
   unfold dN at hcell
   have HY:=hid hy
   have CD:=hid (HC.out y)
   have HI1:=hid hi1
   clear hcs hy hi1
   cases hd:d y with
   |true=>
    have HF:Hid (tL d L (i:Int)):=hid (.inr ⟨i,rfl,HI1.out,by rw[←HY.out];exact hd,HU.out⟩)
    rw[hd]at CD
    clear hd
    go_wp2_with(go_at_call 139;refine CD.out.mono ?_;rintro e u ⟨rfl,hu⟩;rw[hu];clear hu u)
    go_ret
    exact⟨_,rfl,HF.out,rfl⟩
   |false=>
    have HV:Hid (∀z∈L.take (i+1),d z=false):=hid fun z hz=>by
     rw[List.take_succ_eq_append_getElem HI1.out,List.mem_append,List.mem_singleton]at hz
     rcases hz with hz|rfl
     ·exact HU.out z hz
     ·rw[←bN HI1.out,←HY.out];exact hd
    rw[hd]at CD
    clear hd
    go_wp2_with(go_at_call 139;refine CD.out.mono ?_;rintro e u ⟨rfl,hu⟩;rw[hu];clear hu u)
    go_round
    case rel=>exact⟨i+1,hlt,HV,by go_num⟩
    case measure=>simp[intOf];omega
  ·obtain rfl:i=n:=by omega
   have HF:Hid (tL d L (-1)):=hid (.inl ⟨rfl,by have:=HU.out;rwa [List.take_of_length_le (by rw[HL.out];exact Nat.le_refl _)]at this⟩)
   go_wp2_with fail
   go_ret
   exact⟨_,rfl,HF.out,rfl⟩
theorem aj.cut{W:World}{B:Nat}{e:TypeId}{g n c:Nat}{L:List Int}(h:aj W B e (.slice (some ⟨g,0,none⟩) n c) L){i:Nat}(hi:i≤n):aj W B e (.slice (some ⟨g,0,none⟩) i c) (L.take i):=by
 have hl:=h.read.1
 refine⟨by simp, ?_⟩
 rcases h.2 with⟨e,_⟩|⟨g',cap,cur,e,hB,hg,h1,h2,h3,h4⟩
 ·cases e
 ·cases e
  have hll:(L.take i).length=i:=by simp;omega
  refine .inr ⟨g,c,cur,by rw[hll],hB,hg,by rw[hll];omega,h2,h3, ?_⟩
  rw[hll,List.map_take,←h4,hl,List.take_take]
  congr 1
  omega
theorem uW{B:Nat}{e:TypeId}{g n c i:Nat}:∀ (k o:Nat) (W:World) (L:List Int),i≤o→aj W B e (.slice (some ⟨g,0,none⟩) n c) L→∃ L',aj (W.setCells g o (List.replicate k (.int .i64 0))) B e (.slice (some ⟨g,0,none⟩) n c) L'∧L'.take i=L.take i
 |0,o,W,L,hi,h=>⟨L,h,rfl⟩
 |k+1,o,W,L,hi,h=>by
  obtain⟨L',h1,h2⟩:=uW (i:=i) k (o+1) (W.setCell ⟨g,o,none⟩ (.int .i64 0)) (L.set o 0) (by omega) (jI h o 0)
  refine⟨L',h1, ?_⟩
  rw[h2]
  exact List.take_set_of_le hi
theorem uZ{X:Nat→Prop}{W0:World}{g:Nat}(hg:X g):∀ (vs:List Value) (o:Nat) (W:World),Off X W0 W→Off X W0 (W.setCells g o vs)
 | [],_,_,h=>h
 |v::vs,o,W,h=>uZ hg vs (o+1) _ (h.setCell (p:=⟨g,o,none⟩) (.inl hg) v)
structure ow(W0:World)(d:Int→Bool)(B g n c:Nat)(L:List Int)(i j:Nat)(D:List Int)(W:World):Prop where
 own:aj W B 3 (.slice (some ⟨g,0,none⟩) n c) D
 off:Off (fun k=>k=g) W0 W
 done:D.take i=(L.take j).filter (fun z=> !d z)
 rest:∀ k,j≤k→nth D k=nth L k
 lt:i<j
 len:i=((L.take j).filter (fun z=> !d z)).length
section
variable {W0 W : World} {d : Int → Bool} {B g n c : Nat} {L : List Int} {i j : Nat} {D : List Int}
theorem gU{d:Int→Bool}{L:List Int}{j:Nat}(hj:j<L.length):(L.take (j+1)).filter (fun z=> !d z)=(L.take j).filter (fun z=> !d z)++(if d (nth L j)then []else [nth L j]):=by
 rw[List.take_succ_eq_append_getElem hj,List.filter_append,bN hj]
 congr 1
 cases h:d L[j]<;>simp[h]
theorem ow.start(ho:aj W B 3 (.slice (some ⟨g,0,none⟩) n c) L){i:Nat}(hi:i<L.length)(hd:d (nth L i)=true)(hall:∀ z∈L.take i,d z=false):ow W d B g n c L i (i+1) L W:=by
 have e:(L.take i).filter (fun z=> !d z)=L.take i:=List.filter_eq_self.2 fun z hz=>by rw[hall z hz];rfl
 refine⟨ho,Off.refl _ _, ?_,fun _ _=>rfl,by omega, ?_⟩
 ·rw[gU hi,if_pos hd,List.append_nil,e]
 ·rw[gU hi,if_pos hd,List.append_nil,e,List.length_take];omega
theorem ow.skip(h:ow W0 d B g n c L i j D W)(hj:j<L.length)(hd:d (nth L j)=true):ow W0 d B g n c L i (j+1) D W:=
 ⟨h.own,h.off,by rw[gU hj,if_pos hd,List.append_nil];exact h.done,fun k hk=>h.rest k (by omega),by have:=h.lt;omega,by rw[gU hj,if_pos hd,List.append_nil];exact h.len⟩
theorem ow.keep(h:ow W0 d B g n c L i j D W)(hj:j<L.length)(hln:L.length=n)(hd:d (nth L j)=false):ow W0 d B g n c L (i+1) (j+1) (D.set i (nth L j)) (W.setCell ⟨g,i,none⟩ (.int .i64 (nth L j))):=by
 have hl:=h.own.read.1
 have hlt:=h.lt
 have hdf:¬ d (nth L j)=true:=by rw[hd];simp
 refine⟨jI h.own i _,h.off.setCell (.inl rfl) _, ?_,fun k hk=> ?_,by omega, ?_⟩
 ·rw[gU hj,if_neg hdf,←h.done,List.take_succ_eq_append_getElem (by rw[List.length_set];omega),List.getElem_set_self,List.take_set_of_le (Nat.le_refl _)]
 ·rw[dP (by omega),if_neg (by omega)]
  exact h.rest k (by omega)
 ·rw[gU hj,if_neg hdf,List.length_append,←h.len];rfl
end
set_option maxHeartbeats 4000000 in
theorem xY{W:World}{d:Int→Bool}{B:Nat}(bt:Nat)(a:Option Addr)(n c:Nat)(L:List Int)(ho:aj W B 3 (.slice a n c) L)(hn:n≤1099511627776)
 (hc:∀ z U,Off (fun k=>(Value.slice a n c).ownBlock=some k) W U→Calls Tryz.prog 139 #[.int .i64 z,.pointer (some ⟨bt,0,none⟩)] U fun e w'=>e=.returned (.bool (d z))∧w'=U):
 Calls Tryz.prog 138 #[.slice a n c,.func (.func 139) #[] #[.pointer (some ⟨bt,0,none⟩)]] W fun e w'=>∃ m,e=.returned (.slice a m c)∧aj w' B 3 (.slice a m c) (L.filter fun z=> !d z)∧Off (fun k=>(Value.slice a n c).ownBlock=some k) W w':=by
 have HO:=hid ho
 have HC:=hid hc
 have HLN:Hid (L.length=n):=hid ho.read.1
 have CI:=hid (Bp (d:=d) bt a n c L ho.read hn (fun z=>hc z W (Off.refl _ _)))
 clear ho hc
 go_enter Tryz.func138,Tryz.ntmps138
 go_wp2_with(go_at_call 157;refine CI.out.mono ?_;rintro e u ⟨k,rfl,hk,hu⟩;rw[hu];clear hu u;have HK:=hid hk;clear hk)
 ·have hkb:(k== -1)=true:=by assumption
  have hk1:k= -1:=by simpa using hkb
  have HF:Hid (L.filter (fun z=> !d z)=L):=hid (by
   rcases HK.out with⟨_,h⟩|⟨i,h,_⟩
   ·exact List.filter_eq_self.2 fun z hz=>by rw[h z hz];rfl
   ·omega)
  clear hkb hk1
  go_wp2_with fail
  go_ret
  exact⟨n,rfl,by rw[HF.out];exact HO.out,Off.refl _ _⟩
 ·rename_i hkb Kx ax
  have hk1:k≠ -1:=by simpa using hkb
  obtain⟨i0,rfl,hi0,hd0,hall⟩:∃ i:Nat,k=(i:Int)∧i<L.length∧d (nth L i)=true∧∀ z∈L.take i,d z=false:=HK.out.resolve_left (fun h=>hk1 h.1)
  obtain⟨g,rfl,hBg,hgl⟩:=zi HO.out (by omega)
  have HS0:Hid (ow W d B g n c L i0 (i0+1) L W):=hid (ow.start HO.out hi0 hd0 hall)
  have hi0n:i0<n:=by have:=HLN.out;omega
  have HG:Hid (B≤g∧g<W.heap.size):=hid ⟨hBg,hgl⟩
  have HWI:Hid (wrap64 ((i0:Int)+1)=((i0+1:Nat):Int)):=hid (by unfold wrap64;omega)
  have hkf:((i0:Int)== -1)=false:=by rw[beq_eq_false_iff_ne];omega
  try rw[hkf]
  clear hk1 hi0 hd0 hall HK hBg hgl hkb hkf
  go_wp2_with fail
  go_loopw[5,6,7] (fun v5 v6 _ wr=>∃ (i j:Nat) (D:List Int),v5=.int .i64 (i:Int)∧v6=.int .i64 (j:Int)∧j≤n∧Hid (ow W d B g n c L i j D wr)) (fun _ v6 _ _=>n-(intOf v6).toNat)
  case atStart=>exact⟨i0,i0+1,L,rfl,by rw[HWI.out],hi0n,HS0⟩
  case round=>
   obtain⟨i,j,D,rfl,rfl,hj,HI⟩:=hrel
   clear HS0
   obtain⟨wo,hwo⟩:∃ u,u=wr:=⟨_,rfl⟩
   rw[←hwo]at HI⊢
   clear hwo
   have hDl:D.length=n:=HI.out.own.read.1
   have hij:=HI.out.lt
   by_cases hlt:j<n
   ·obtain⟨y,hy⟩:∃ y,y=nth L j:=⟨_,rfl⟩
    have hcj:wo.cell? ⟨g,j,none⟩=some (.int .i64 y):=by rw[hy,←HI.out.rest j (Nat.le_refl _)];exact iP HI.out.own (by omega)
    have hci:wo.cell? ⟨g,i,none⟩=some (.int .i64 (nth D i)):=iP HI.out.own (by omega)
    have hfi:wo.frozen? ⟨g,i,none⟩=false:=lM HI.out.own i
    have hjn:(j:Int)<(n:Int):=by omega
    have hin:(i:Int)<(n:Int):=by omega
    have CD:=hid (HC.out y wo (HI.out.off.mono (fun k _ hk=>by rw[hk];rfl)))
    have HY:=hid hy
    have HJL:Hid (j<L.length):=hid (by have:=HLN.out;omega)
    clear hy
    cases hd:d y with
    |true=>
     have HN:Hid (ow W d B g n c L i (j+1) D wo):=hid (HI.out.skip HJL.out (by rw[←HY.out];exact hd))
     rw[hd]at CD
     clear hd hDl hij
     go_wp2_with(go_at_call 139;refine CD.out.mono ?_;rintro e u ⟨rfl,hu⟩;rw[hu];clear hu u)
     go_roundw
     case rel=>exact⟨i,j+1,D,rfl,by go_num,hlt,HN⟩
     case measure=>simp[intOf];omega
    |false=>
     have HN:Hid (ow W d B g n c L (i+1) (j+1) (D.set i y) (wo.setCell ⟨g,i,none⟩ (.int .i64 y))):=hid (by have h:=HI.out.keep HJL.out HLN.out (by rw[←HY.out];exact hd);rw[←HY.out]at h;exact h)
     rw[hd]at CD
     clear hd hDl
     go_wp2_with(go_at_call 139;refine CD.out.mono ?_;rintro e u ⟨rfl,hu⟩;rw[hu];clear hu u)
     go_roundw
     case rel=>exact⟨i+1,j+1,_,by go_num,by go_num,hlt,HN⟩
     case measure=>simp[intOf];omega
   ·obtain rfl:j=n:=by omega
    have hcap:j≤c:=own_cap HI.out.own
    have hcl:∀ ty,(Builtin.clear_ #[40] ty #[.slice (some ⟨g,i,none⟩) (j-i) (c-i)]).run Tryz.prog wo=.ok (.tuple #[]) (wo.setCells g i (List.replicate (j-i) (.int .i64 0))):=fun ty=>Lib.run_clear_slice wo 40 3 ty (.int .i64 0) Tryz.underlying40 Tryz.zeroValue3 rfl rfl g i (j-i) (c-i) (by omega) (fun k hk=>by rw[iP HI.out.own (j:=i+k) (by omega)];rfl) (fun k hk=>lM HI.out.own (i+k))
    obtain⟨L',ho',ht'⟩:=uW (i:=i) (j-i) i wo D (Nat.le_refl _) HI.out.own
    have HF:Hid (aj (wo.setCells g i (List.replicate (j-i) (.int .i64 0))) B 3 (.slice (some ⟨g,0,none⟩) i c) (L.filter fun z=> !d z)∧Off (fun k=>k=g) W (wo.setCells g i (List.replicate (j-i) (.int .i64 0)))):=hid ⟨by
     have h:=ho'.cut (i:=i) (by omega)
     rw[ht',HI.out.done,List.take_of_length_le (by have:=HLN.out;omega)]at h
     exact h,uZ (X:=fun k=>k=g) rfl _ _ _ HI.out.off⟩
    have hii:(i:Int)≤(j:Int):=by omega
    have hic:(i:Int)≤(c:Int):=by omega
    have hjc:(j:Int)≤(c:Int):=by omega
    clear ho' ht' hDl
    go_wp2_with fail
    go_ret
    exact⟨i,rfl,HF.out.1,HF.out.2.mono (fun k _ hk=>by rw[hk];rfl)⟩
end Go.Proofs.YthjdeoppajlcoaaGreatDoor
