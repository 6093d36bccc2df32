/- Layer 8 plain: which block is passed on each way to which; a tree of what is next over what -/

namespace Go.Proofs.YthjdeoppajlcoaaGreatDoor
set_option linter.unusedVariables false
inductive Way(E:Nat→Nat→Prop)(ok:Nat→Prop):Nat→Nat→Prop
 |nil {x:Nat}:ok x→Way E ok x x
 |snoc {x y z:Nat}:Way E ok x y→E y z→ok z→Way E ok x z
section
variable {E : Nat → Nat → Prop} {ok ok' : Nat → Prop}
theorem Way.mono(h:∀ v,ok v→ok' v){x y:Nat}(p:Way E ok x y):Way E ok' x y:=by
 induction p with
 |nil h1=>exact .nil (h _ h1)
 |snoc _ e h1 ih=>exact .snoc ih e (h _ h1)
theorem Way.append{x y z:Nat}(p:Way E ok x y)(q:Way E ok y z):Way E ok x z:=by
 induction q with
 |nil _=>exact p
 |snoc _ e h1 ih=>exact .snoc ih e h1
end
def Dom(E:Nat→Nat→Prop)(a v:Nat):Prop:=¬ Way E (fun u=>u≠a) 0 v
inductive On(up:Nat→Int):Nat→Nat→Prop
 |refl (v:Nat):On up v v
 |step {v c a:Nat}:up v=(c:Int)→On up c a→On up v a
theorem On.trans{up:Nat→Int}{a b c:Nat}(h:On up a b)(k:On up b c):On up a c:=by
 induction h with
 |refl _=>exact k
 |step e _ ih=>exact .step e (ih k)
def upd(up:Nat→Int)(b x:Nat):Nat→Int:=fun v=>if v=b then(x:Int)else up v
theorem upd_same(up:Nat→Int)(b x:Nat):upd up b x b=(x:Int):=if_pos rfl
theorem bW{up:Nat→Int}{b x v:Nat}(h:v≠b):upd up b x v=up v:=if_neg h
structure Rpo(E:Nat→Nat→Prop)(M:Nat→Prop)(pl:Nat→Nat):Prop where
 zero:M 0
 pl0:∀ v,M v→(pl v=0↔v=0)
 inj:∀ u v,M u→M v→pl u=pl v→u=v
 clos:∀ u v,M u→E u v→M v
 fwd:∀ v,M v→v≠0→∃ u,M u∧E u v∧pl u<pl v
structure Tree(E:Nat→Nat→Prop)(M:Nat→Prop)(pl:Nat→Nat)(up:Nat→Int)(m:Nat):Prop where
 known:∀ v,M v→v≠0→(0≤up v↔pl v<m)
 none:∀ v,¬(M v∧v≠0)→up v= -1
 low:∀ v, -1≤up v
 lt:∀ v c:Nat,up v=(c:Int)→M c∧pl c<pl v∧pl c<m
 way:∀ v c:Nat,up v=(c:Int)→Way E (fun u=>u=c∨pl c<pl u) c v
 dom:∀ v a,M v→M a→(v=0∨0≤up v)→Dom E a v→On up v a
 mono:∀ v c:Nat,M v→up v=(c:Int)→∀ z,(∀p,M p→E p v→pl p<m→On up p z)→On up c z
structure wI(E:Nat→Nat→Prop)(M:Nat→Prop)(pl:Nat→Nat)(up:Nat→Int)(i m:Nat):Prop where
 done:∀ v c:Nat,M v→up v=(c:Int)→pl v<i→∀ p,M p→E p v→pl p<pl v→On up p c
 prev:∀ v c:Nat,M v→up v=(c:Int)→i≤pl c→∀ p,M p→E p v→pl p<pl v→On up p c
def mU(up:Nat→Int)(PP:Nat→Prop)(x:Nat):Prop:=(∀p,PP p→On up p x)∧∀ z,(∀p,PP p→On up p z)→On up x z
section
variable {E : Nat → Nat → Prop} {M : Nat → Prop} {pl : Nat → Nat} {up : Nat → Int} {m i : Nat}
theorem xM(hlt:∀ v c:Nat,up v=(c:Int)→M c∧pl c<pl v∧pl c<m){v a:Nat}(h:On up v a):v=a∨(M a∧pl a<pl v∧pl a<m):=by
 induction h with
 |refl _=>exact .inl rfl
 |step e _ ih=>
  have h1:=hlt _ _ e
  rcases ih with rfl|⟨h2,h3,h4⟩
  ·exact .inr h1
  ·exact .inr ⟨h2,by omega,h4⟩
theorem sW(hlt:∀ v c:Nat,up v=(c:Int)→M c∧pl c<pl v∧pl c<m){v a:Nat}(h:On up v a):pl a≤pl v:=by
 rcases xM hlt h with rfl|⟨_,h,_⟩<;>omega
theorem Dt(hlt:∀ v c:Nat,up v=(c:Int)→M c∧pl c<pl v∧pl c<m){v a:Nat}(hv:M v)(h:On up v a):M a:=by
 rcases xM hlt h with rfl|⟨h,_,_⟩
 ·exact hv
 ·exact h
theorem Du(hlt:∀ v c:Nat,up v=(c:Int)→M c∧pl c<pl v∧pl c<m){v a b:Nat}(h:On up v a)(k:On up v b)(hab:pl b≤pl a):On up a b:=by
 induction h with
 |refl _=>exact k
 |step e h1 ih=>
  cases k with
  |refl _=>
   have:=sW hlt h1
   have:=(hlt _ _ e).2.1
   omega
  |step e2 k2=>
   have e3:=e.symm.trans e2
   have e4:=Int.ofNat.inj e3
   subst e4
   exact ih k2 hab
theorem Ho(T:Tree E M pl up m){v a:Nat}(h:On up v a):Way E (fun u=>u=a∨pl a<pl u) a v:=by
 induction h with
 |refl v=>exact .nil (.inl rfl)
 |step e h1 ih=>
  rename_i v c a
  refine ih.append ((T.way _ _ e).mono fun u hu=> ?_)
  rcases xM T.lt h1 with rfl|⟨_,h2,_⟩
  ·exact hu
  ·rcases hu with rfl|hu
   ·exact .inr h2
   ·exact .inr (by omega)
theorem sV(hlt:∀ v c:Nat,up v=(c:Int)→M c∧pl c<pl v∧pl c<m){b x v a:Nat}(h:On up v a)(hb:pl b≤pl a):On (upd up b x) v a:=by
 induction h with
 |refl _=>exact .refl _
 |step e h1 ih=>
  have:=sW hlt h1
  have h2:=(hlt _ _ e).2.1
  refine .step ?_ (ih hb)
  rw[bW (fun e'=>by subst e';omega)]
  exact e
theorem sU(hlt:∀ v c:Nat,up v=(c:Int)→M c∧pl c<pl v∧pl c<m){b x v a:Nat}(h:On up v a)(hb:pl v<pl b):On (upd up b x) v a:=by
 induction h with
 |refl _=>exact .refl _
 |step e h1 ih=>
  have h2:=(hlt _ _ e).2.1
  refine .step ?_ (ih (by omega))
  rw[bW (fun e'=>by subst e';omega)]
  exact e
theorem F4(hlt:∀ v c:Nat,up v=(c:Int)→M c∧pl c<pl v∧pl c<m){b x v a:Nat}(h:On (upd up b x) v a)(hb:pl v<pl b):On up v a:=by
 induction h with
 |refl _=>exact .refl _
 |step e h1 ih=>
  rw[bW (fun e'=>by subst e';omega)]at e
  have h2:=(hlt _ _ e).2.1
  exact .step e (ih (by omega))
theorem Dr(hlt:∀ v c:Nat,up v=(c:Int)→M c∧pl c<pl v∧pl c<m){b x v a:Nat}(h:On up v a)(hn:¬ (On up v b∧On up b a∧a≠b)):On (upd up b x) v a:=by
 induction h with
 |refl _=>exact .refl _
 |step e h1 ih=>
  refine .step ?_ (ih fun hc=>hn ⟨.step e hc.1,hc.2.1,hc.2.2⟩)
  rw[bW (fun e'=>by
   subst e'
   have:=sW hlt h1
   have h2:=(hlt _ _ e).2.1
   exact hn ⟨.refl _,.step e h1,fun e'=>by subst e';omega⟩)]
  exact e
theorem on_updS{b x y v a:Nat}(hb:up b=(y:Int))(hy:On up y x)(h:On (upd up b x) v a):On up v a:=by
 induction h with
 |refl _=>exact .refl _
 |step e h1 ih=>
  rename_i v c a
  by_cases hv:v=b
  ·subst hv
   rw[upd_same]at e
   have e':=Int.ofNat.inj e
   subst e'
   exact .step hb (hy.trans ih)
  ·rw[bW hv]at e
   exact .step e ih
theorem Tree.start(R:Rpo E M pl):Tree E M pl (fun _=> -1) 1:=by
 have none:∀ v c:Nat,¬((-1:Int)=(c:Int)):=fun v c h=>by omega
 refine⟨fun v hv h0=>⟨fun h=>absurd h (by decide),fun h=>absurd ((R.pl0 v hv).1 (by omega)) h0⟩,fun _ _=>rfl,fun _=>by omega,fun v c h=>absurd h (none v c),fun v c h=>absurd h (none v c),fun v a hv ha h hd=> ?_,fun v c _ h=>absurd h (none v c)⟩
 rcases h with rfl|h
 ·have:a=0:=Classical.byContradiction fun h0=>hd (.nil (fun e=>h0 e.symm))
  subst this
  exact .refl _
 ·exact absurd h (by decide)
theorem wI.start:wI E M pl (fun _=> -1) 0 1:=⟨fun v c _ h=>absurd h (by omega),fun v c _ h=>absurd h (by omega)⟩
theorem wI.first(R:Rpo E M pl)(T:Tree E M pl up m)(S:wI E M pl up 0 m):wI E M pl up 1 m:=by
 refine⟨fun v c hv h hp=> ?_,fun v c hv h hp=>S.prev v c hv h (Nat.zero_le _)⟩
 have:=(T.lt _ _ h).2.1
 omega
theorem wI.again(S:wI E M pl up i m)(h:∀ v,M v→pl v<i):wI E M pl up 0 m:=
 ⟨fun v c _ _ h=>absurd h (by omega),fun v c hv e _=>S.done v c hv e (h v hv)⟩
section
variable {b x : Nat}
theorem vG(R:Rpo E M pl)(T:Tree E M pl up m)(hb:M b)(h0:b≠0)(him:pl b≤m)(J:mU up (fun p=>M p∧E p b∧pl p<m) x):M x∧pl x<pl b:=by
 obtain⟨p,hp,he,hl⟩:=R.fwd b hb h0
 have h1:=J.1 p ⟨hp,he,by omega⟩
 exact⟨Dt T.lt hp h1,by have:=sW T.lt h1;omega⟩
theorem zD(T:Tree E M pl up m)(hb:M b)(J:mU up (fun p=>M p∧E p b∧pl p<m) x){y:Nat}(hy:up b=(y:Int)):On up y x:=
 T.mono b y hb hy x fun p h1 h2 h3=>J.1 p ⟨h1,h2,h3⟩
theorem Tree.step(R:Rpo E M pl)(T:Tree E M pl up m)(S:wI E M pl up i m)(hb:M b)(h0:b≠0)(hi:pl b=i)(him:i≤m)(J:mU up (fun p=>M p∧E p b∧pl p<m) x):
 Tree E M pl (upd up b x) (max m (i+1))∧wI E M pl (upd up b x) (i+1) (max m (i+1)):=by
 subst hi
 obtain⟨hMx,hxb⟩:=vG R T hb h0 him J
 have hm:m≤max m (pl b+1):=Nat.le_max_left _ _
 have hm2:pl b+1≤max m (pl b+1):=Nat.le_max_right _ _
 have hother:∀ v,M v→v≠b→(pl v<max m (pl b+1)↔pl v<m):=fun v hv hne=>by
  have:pl v≠pl b:=fun e=>hne (R.inj v b hv hb e)
  omega
 have hlt':∀ v c:Nat,upd up b x v=(c:Int)→M c∧pl c<pl v∧pl c<max m (pl b+1):=by
  intro v c h
  by_cases hv:v=b
  ·subst hv
   rw[upd_same]at h
   have:=Int.ofNat.inj h
   subst this
   exact⟨hMx,hxb,by omega⟩
  ·rw[bW hv]at h
   have:=T.lt v c h
   exact⟨this.1,this.2.1,by omega⟩
 have sub:∀ p a,M p→pl p<m→On (upd up b x) p a→On up p a:=by
  intro p a hp hpm h
  by_cases hbm:pl b<m
  ·have h1:=(T.known b hb h0).2 hbm
   obtain⟨y,hy⟩:=Int.eq_ofNat_of_zero_le h1
   exact on_updS hy (zD T hb J hy) h
  ·exact F4 T.lt h (by omega)
 have caseB:∀ a,M a→Dom E a b→On (upd up b x) b a:=by
  intro a ha hd
  by_cases hab:a=b
  ·subst hab;exact .refl _
  ·refine .step (upd_same _ _ _) (sU T.lt (J.2 a fun p hp=> ?_) hxb)
   refine T.dom p a hp.1 ha ?_ (fun hw=>hd (.snoc hw hp.2.1 (fun e=>hab e.symm)))
   by_cases hp0:p=0
   ·exact .inl hp0
   ·exact .inr ((T.known p hp.1 hp0).2 hp.2.2)
 refine⟨⟨fun v hv hv0=> ?_,fun v hv=> ?_,fun v=> ?_,hlt',fun v c h=> ?_,fun v a hv ha hk hd=> ?_,fun v c hv hc z hz=> ?_⟩,⟨fun v c hv hc hp p hMp he hpv=> ?_,fun v c hv hc hp p hMp he hpv=> ?_⟩⟩
 ·by_cases hvb:v=b
  ·subst hvb;rw[upd_same];constructor<;>intro _<;>omega
  ·rw[bW hvb,hother v hv hvb];exact T.known v hv hv0
 ·rw[bW (fun e=>hv (by rw[e];exact⟨hb,h0⟩))];exact T.none v hv
 ·by_cases hvb:v=b
  ·subst hvb;rw[upd_same];omega
  ·rw[bW hvb];exact T.low v
 ·by_cases hvb:v=b
  ·subst hvb
   rw[upd_same]at h
   have:=Int.ofNat.inj h
   subst this
   obtain⟨p,hp,he,hl⟩:=R.fwd v hb h0
   exact .snoc (Ho T (J.1 p ⟨hp,he,by omega⟩)) he (.inr hxb)
  ·rw[bW hvb]at h
   exact T.way v c h
 ·by_cases hvb:v=b
  ·subst hvb;exact caseB a ha hd
  ·rw[bW hvb]at hk
   have hold:=T.dom v a hv ha hk hd
   by_cases hthru:On up v b∧On up b a∧a≠b
   ·have hpa:pl a<pl b:=by
     rcases xM T.lt hthru.2.1 with e|⟨_,h,_⟩
     ·exact absurd e.symm hthru.2.2
     ·exact h
    have hdb:Dom E a b:=fun hw=>hd (hw.append ((Ho T hthru.1).mono fun u hu=>by
     rcases hu with rfl|hu
     ·exact fun e=>hthru.2.2 e.symm
     ·exact fun e=>by subst e;omega))
    exact(sV T.lt hthru.1 (Nat.le_refl _)).trans (caseB a ha hdb)
   ·exact Dr T.lt hold hthru
 ·have hz':∀ p,M p→E p v→pl p<m→On up p z:=fun p h1 h2 h3=>sub p z h1 h3 (hz p h1 h2 (by omega))
  by_cases hvb:v=b
  ·subst hvb
   rw[upd_same]at hc
   have:=Int.ofNat.inj hc
   subst this
   exact sU T.lt (J.2 z fun p hp=>hz' p hp.1 hp.2.1 hp.2.2) hxb
  ·rw[bW hvb]at hc
   have hold:=T.mono v c hv hc z hz'
   have hlc:=T.lt v c hc
   by_cases hthru:On up c b∧On up b z∧z≠b
   ·have hle:=sW T.lt hthru.1
    have hv0:v≠0:=fun e=>by subst e;rw[T.none 0 (by simp)]at hc;omega
    have hvm:pl v<m:=(T.known v hv hv0).1 (by omega)
    obtain⟨p,hp,he,hl⟩:=R.fwd v hv hv0
    have h1:=S.prev v c hv hc hle p hp he hl
    have h2:On (upd up b x) p b:=sV T.lt (h1.trans hthru.1) (Nat.le_refl _)
    have h3:=hz p hp he (by omega)
    have h4:=Du hlt' h2 h3 (sW T.lt hthru.2.1)
    exact(sV T.lt hthru.1 (Nat.le_refl _)).trans h4
   ·exact Dr T.lt hold hthru
 ·by_cases hvb:v=b
  ·subst hvb
   rw[upd_same]at hc
   have:=Int.ofNat.inj hc
   subst this
   exact sU T.lt (J.1 p ⟨hMp,he,by omega⟩) hpv
  ·rw[bW hvb]at hc
   have hne:pl v≠pl b:=fun e=>hvb (R.inj v b hv hb e)
   exact sU T.lt (S.done v c hv hc (by omega) p hMp he hpv) (by omega)
 ·by_cases hvb:v=b
  ·subst hvb
   rw[upd_same]at hc
   have:=Int.ofNat.inj hc
   subst this
   omega
  ·rw[bW hvb]at hc
   exact sV T.lt (S.prev v c hv hc (by omega) p hMp he hpv) (by omega)
end
theorem settled(R:Rpo E M pl)(T:Tree E M pl up m)(hall:∀ v,M v→pl v<m)(hfix:∀ v c:Nat,M v→up v=(c:Int)→∀ p,M p→E p v→On up p c){v a:Nat}(hv:M v)(ha:M a):On up v a↔Dom E a v:=by
 constructor
 ·intro h hw
  have key:∀ {v:Nat},Way E (fun u=>u≠a) 0 v→M v∧¬ On up v a:=by
   intro v hw
   generalize hz:0=z at hw
   induction hw with
   |nil h1=>
    subst hz
    refine⟨R.zero,fun h=> ?_⟩
    cases h with
    |refl _=>exact h1 rfl
    |step e _=>rw[T.none 0 (by simp)]at e;omega
   |snoc hw e h1 ih=>
    rename_i y z
    have hy:=ih
    have hMz:=R.clos _ _ hy.1 e
    refine⟨hMz,fun h=> ?_⟩
    cases h with
    |refl _=>exact h1 rfl
    |step e2 h2=>exact hy.2 ((hfix _ _ hMz e2 _ hy.1 e).trans h2)
  exact(key hw).2 h
 ·intro h
  refine T.dom v a hv ha ?_ h
  by_cases h0:v=0
  ·exact .inl h0
  ·exact .inr ((T.known v hv h0).2 (hall v hv))
structure Cj(up:Nat→Int)(j0 f0 j f:Nat):Prop where
 hj:On up j0 j
 hf:On up f0 f
 all:∀ z,On up j0 z→On up f0 z→On up j z∧On up f z
theorem Cj.start(j f:Nat):Cj up j f j f:=⟨.refl _,.refl _,fun z h k=>⟨h,k⟩⟩
theorem Cj.goj(T:Tree E M pl up m){j0 f0 j f c:Nat}(h:Cj up j0 f0 j f)(hl:pl f<pl j)(hc:up j=(c:Int)):Cj up j0 f0 c f:=by
 refine⟨h.hj.trans (.step hc (.refl _)),h.hf,fun z h1 h2=> ?_⟩
 have h3:=h.all z h1 h2
 refine⟨?_,h3.2⟩
 cases h3.1 with
 |refl _=>have:=sW T.lt h3.2;omega
 |step e k=>have:=Int.ofNat.inj (hc.symm.trans e);subst this;exact k
theorem Cj.gof(T:Tree E M pl up m){j0 f0 j f c:Nat}(h:Cj up j0 f0 j f)(hl:pl j<pl f)(hc:up f=(c:Int)):Cj up j0 f0 j c:=by
 refine⟨h.hj,h.hf.trans (.step hc (.refl _)),fun z h1 h2=> ?_⟩
 have h3:=h.all z h1 h2
 refine⟨h3.1, ?_⟩
 cases h3.2 with
 |refl _=>have:=sW T.lt h3.1;omega
 |step e k=>have:=Int.ofNat.inj (hc.symm.trans e);subst this;exact k
theorem Cj.found{j0 f0 j f:Nat}(h:Cj up j0 f0 j f)(hx:On up f j):On up j0 j∧On up f0 j∧∀ z,On up j0 z→On up f0 z→On up j z:=
 ⟨h.hj,h.hf.trans hx,fun z h1 h2=>(h.all z h1 h2).1⟩
end
end Go.Proofs.YthjdeoppajlcoaaGreatDoor
