/- Layer 5: the walk's list, with a reader, at each type of what is listed (gen/rklist.py). -/
import Derived.Test.YtikoklagffbgiaaGreatDoorSCodeRw

namespace Go.Proofs.YtikoklagffbgiaaGreatDoor
set_option linter.unusedSimpArgs false
set_option linter.unusedVariables false
open Go.RowKit (wrap64 intOf Below Hid)
open Go.Lib (hid)
def RowR{α:Type}(T k:Nat)(Q:World→(Nat→Prop)→List Value→α→Prop)(w:World)(S:Nat→Prop)(v:Value)(xs:List α)(C:List Value):Prop:=
 ∃css:List (List Value),w.ownsRow 0 T k v (xs.length+1) (css.flatten++C)∧css.length=xs.length∧(∀cs∈css,cs.length=k)∧C.length=k∧(∀b,v.ownBlock=some b→S b)∧xs.length≤100000∧
  ∀i (h:i<xs.length) (h':i<css.length),Q w (fun b=>S b∧v.ownBlock≠some b) css[i] xs[i]
theorem RowO.same{α:Type}{T k:Nat}{Q:World→(Nat→Prop)→List Value→α→Prop}{w:World}{S:Nat→Prop}{a:Option Addr}{n c:Nat}{xs:List α}(h:RowO T k Q w S (.slice a n c) xs):n=xs.length:=by
 obtain⟨css,h1,_⟩:=h
 rcases h1.2 with⟨he,h0⟩|⟨g,cap,cur,he,_⟩
 ·cases he;exact h0.symm
 ·cases he;rfl
theorem RowR.win{α:Type}{T k:Nat}{Q:World→(Nat→Prop)→List Value→α→Prop}{w:World}{S:Nat→Prop}{g n c:Nat}{xs:List α}{C:List Value}(h:RowR T k Q w S (.slice (some ⟨g,0,none⟩) n c) xs C):WinAt w g (xs.length*k) C:=by
 obtain⟨css,r1,r2,r3,r4,r5,r6,r7⟩:=h
 have h1:w.ownsRow 0 T k (.slice (some ⟨g,0,none⟩) n c) (xs.length+1) (css++ [C]).flatten:=by simpa using r1
 have hk:∀ cs∈css++ [C],cs.length=k:=fun cs hcs=>by
  rcases List.mem_append.1 hcs with h'|h'
  ·exact r3 cs h'
  ·simp only[List.mem_singleton]at h';rw[h'];exact r4
 have:=ownsRow_win h1 hk (g:=g) rfl (i:=css.length) (by simp)
 have h2:(css++ [C])[css.length]'(by simp)=C:=by simp
 rw[h2,r2]at this
 exact this
theorem FT.rd{r B:Nat}{L:List UInt8}{w w':World}(h:FT w)(hr:RdAt w r B L)(hfb:0<B)(ho:Off (RX r) w w'):FT w':=fun k hk=>by
 rw[ho.cell (p:=⟨0,k,none⟩) h.lt (fun e=>by have e:0=r:=e;have:=hr.lt;omega)]
 exact h k hk
end Go.Proofs.YtikoklagffbgiaaGreatDoor
