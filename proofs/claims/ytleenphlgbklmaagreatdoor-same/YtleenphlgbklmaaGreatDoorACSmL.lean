import Derived.Test.YtleenphlgbklmaaGreatDoorACSmE
set_option linter.unusedVariables false
set_option linter.unusedSimpArgs false
set_option maxRecDepth 100000
set_option maxHeartbeats 8000000
open List renaming replicate → Vet, map → Veu
namespace Go.Proofs.YtleenphlgbklmaaGreatDoor
open Go.RowKit
variable {a b:Option (Option (Nat×BA))}{i k:Nat}{m:BA}{names:List BA}
structure Mk(σ σ':St):Prop where
 len:σ'.length=σ.length
 at_:∀(i:Nat) (nd:Nd),σ[i]? =some nd->σ'[i]? =some nd\/∃nm,nd=⟨.vr nm false,none⟩/\σ'[i]? =some ⟨.vr nm true,none⟩
theorem Mk.refl(σ:St):Mk σ σ:=⟨rfl,fun _ _ h=> .inl h⟩
theorem Mk.trans{a b c:St}(h:Mk a b)(g:Mk b c):Mk a c:=⟨g.len.trans h.len,fun i nd q=>by
 rcases h.at_ i nd q with d|⟨nm,rfl,d⟩
 .exact g.at_ i nd d
 .rcases g.at_ i _ d with D|⟨E,e,_⟩
  .exact .inr ⟨nm,rfl,D⟩
  .simp at e⟩
variable {σ σ':St}{r:TR}{t:Tt}
theorem Mk.tr(h:Mk σ σ')(g:Tr σ r t):Tr σ' r t:=by
 have keep:∀{i:Nat} {nk:NK} {s:Option TR},nk.kd≠ .vr\/s≠none->σ[i]? =some ⟨nk,s⟩->σ'[i]? =some ⟨nk,s⟩:=fun{i nk s} D e=>by
  rcases h.at_ i _ e with d|⟨nm,G,_⟩
  .exact d
  .simp only[Nd.mk.injEq]at G;obtain⟨rfl,rfl⟩:=G
   rcases D with D|D
   .exact absurd rfl D
   .exact absurd rfl D
 induction g with
 |int=>exact .int
 |bool=>exact .bool
 |vr i nm g e=>
  rcases h.at_ i _ e with d|⟨L,G,d⟩
  .exact .vr i nm g d
  .exact .vr i L true d
 |ls i x a e _ J=>exact .ls i x a (keep (.inl (by simp[NK.kd])) e) J
 |pr i x y a b e _ _ E I=>exact .pr i x y a b (keep (.inl (by simp[NK.kd])) e) E I
 |ar i x y a b e _ _ E I=>exact .ar i x y a b (keep (.inl (by simp[NK.kd])) e) E I
 |fd i nk r t e _ J=>exact .fd i nk r t (keep (.inr (by simp)) e) J
theorem Mk.vl(h:Mk σ σ')(g:Vl σ r):Vl σ' r:=by
 cases r with
 |int=>trivial
 |bool=>trivial
 |nd k i=>
  obtain⟨nk,s,e,q⟩:=g
  rcases h.at_ i _ e with d|⟨nm,D,d⟩
  .exact⟨nk,s,d,q⟩
  .simp only[Nd.mk.injEq]at D;obtain⟨rfl,rfl⟩:=D;exact⟨_,_,d,q⟩
theorem Mk.lv(h:Mk σ σ')(g:Vl σ' r):Vl σ r:=by
 cases r with
 |int=>trivial
 |bool=>trivial
 |nd k i=>
  obtain⟨nk,s,e,q⟩:=g;have D:=(Vae.1 e).1;rw[h.len]at D
  rcases h.at_ i _ (Vav D)with d|⟨nm,E,d⟩
  .rw[e]at d;simp only[Vaa]at d;exact⟨nk,s,by rw[d];exact Vav D,q⟩
  .rw[e]at d;simp only[Vaa,Nd.mk.injEq]at d;obtain⟨rfl,rfl⟩:=d;exact⟨.vr nm false,none,by rw[Vav D,E],q⟩
theorem Mk.gd(h:Mk σ σ')(g:Gd σ):Gd σ':=fun r d=>by
 obtain⟨t,ht⟩:=g r (h.lv d);exact⟨t,h.tr ht⟩
variable {nm:BA}
theorem Jkm{g:Bool}(d:σ[i]? =some ⟨.vr nm g,none⟩):JdZ σ (.nd .vr i)=σ.set i ⟨.vr nm true,none⟩/\Mk σ (σ.set i ⟨.vr nm true,none⟩):=by
 refine⟨by simp only[JdZ,d],by simp,fun j nd e=> ?_⟩
 by_cases z:i=j
 .subst z;rw[d]at e;simp only[Vaa]at e;subst e;rw[Jfk d]
  cases g with
  |true=>exact .inl rfl
  |false=>exact .inr ⟨nm,rfl,rfl⟩
 .exact .inl ((Jav z).trans e)
theorem Jj1:∀(n:Nat) {σ:St} {r:TR} {t:Tt} (bd:List TR),σ.length<fuN->Tr σ r t->t.ht<n->∃σ',genF n σ r bd=some σ'/\Mk σ σ':=by
 intro n
 induction n with
 |zero=>intro σ r t bd _ _ h;omega
 |succ n G=>
  intro σ r t bd D h E;obtain⟨r0,W,Y⟩:=h.rt;simp only[genF,JaK W D,Vad]
  by_cases J:memT r0 bd=true
  .rw[Vat J];exact⟨σ,rfl,Mk.refl σ⟩
  .rw[Vaq J]
   have two:∀(x y:TR) (a b:Tt),Tr σ x a->Tr σ y b->a.ht<n->b.ht<n->∃σ',((genF n σ x bd).bind fun L=>genF n L y bd)=some σ'/\Mk σ σ':=fun x y a b k d U V=>by
    obtain⟨L,T,I⟩:=G bd D k U;obtain⟨O,e2,M⟩:=G bd (by rw[I.len];exact D) (I.tr d) V;rw[T,Vad];exact⟨O,e2,I.trans M⟩
   cases Y with
   |int=>exact⟨σ,rfl,Mk.refl σ⟩
   |bool=>exact⟨σ,rfl,Mk.refl σ⟩
   |vr i nm g e=>
    obtain⟨q1,Z⟩:=Jkm e;simp only[isVr];exact⟨_,VbH some q1,Z⟩
   |ls i x a e k=>
    simp only[Tt.ht]at E;simp only[isVr,Jap,e,Vad];exact G bd D k (by omega)
   |pr i x y a b e k d=>
    simp only[Tt.ht]at E;simp only[isVr,Jap,e,Vad];exact two x y a b k d (by omega) (by omega)
   |ar i x y a b e k d=>
    simp only[Tt.ht]at E;simp only[isVr,Jap,e,Vad];exact two x y a b k d (by omega) (by omega)
theorem Tr.up(h:Tr σ r t)(u:St):Tr (σ++u) r t:=by
 have g:∀{i:Nat} {x:Nd},σ[i]? =some x->(σ++u)[i]? =some x:=fun{i x} h=>by
  rw[Vak (Vae.1 h).1];exact h
 induction h with
 |int=>exact .int
 |bool=>exact .bool
 |vr i nm b e=>exact .vr i nm b (g e)
 |ls i x a e _ E=>exact .ls i x a (g e) E
 |pr i x y a b e _ _ d D=>exact .pr i x y a b (g e) d D
 |ar i x y a b e _ _ d D=>exact .ar i x y a b (g e) d D
 |fd i nk r t e _ E=>exact .fd i nk r t (g e) E
theorem Vl.up(h:Vl σ r)(u:St):Vl (σ++u) r:=by
 cases r with
 |int=>trivial
 |bool=>trivial
 |nd k i=>
  obtain⟨nk,s,e,q⟩:=h;exact⟨nk,s,by rw[Vak (Vae.1 e).1];exact e,q⟩
theorem Ja2(σ:St)(x:Nd):(σ++ [x])[σ.length]? =some x:=by simp
theorem Gd.snoc{x:Nd}(h:Gd σ)(d:Tr (σ++ [x]) (.nd x.k.kd σ.length) t):Gd (σ++ [x]):=fun r G=>by
 cases r with
 |int=>exact⟨_,.int⟩
 |bool=>exact⟨_,.bool⟩
 |nd k i=>
  obtain⟨nk,s,e,q⟩:=G
  by_cases E:i<σ.length
  .rw[Vak E]at e;obtain⟨t,ht⟩:=h (.nd k i) ⟨nk,s,e,q⟩;exact⟨t,ht.up _⟩
  .have D:=(Vae.1 e).1;simp only[Vap,VaG]at D;obtain rfl:i=σ.length:=by omega
   rw[Ja2]at e;simp only[Vaa]at e;subst e;subst q;exact⟨t,d⟩
theorem JcG(σ:St):Tr (σ++ [newV]) (.nd .vr σ.length) (.v σ.length):= .vr _ _ _ (Ja2 σ newV)
theorem Jm8(O:σ.length<fuN):∀(n:Nat) {x y:TR} {a b:Tt} (m:List (Nat×Nat)),Tr σ x a->Tr σ y b->a.ht<n->∃p,Jch n σ x y m=some p:=by
 intro n
 induction n with
 |zero=>intro x y a b m _ _ ag;omega
 |succ n J=>
  intro x y a b m hx hy I;obtain⟨x0,ac,ae⟩:=hx.rt;obtain⟨y0,aa,h⟩:=hy.rt;simp only[Jch,JaK ac O,JaK aa O,Vad]
  by_cases V:x0.eqb y0=true
  .rw[Vat V];exact⟨_,rfl⟩
  .rw[Vaq V]
   have two:∀{Z U W M:TR} {Y T b1 b2:Tt},Tr σ Z Y->Tr σ U T->Tr σ W b1->Tr σ M b2->Y.ht<n->T.ht<n->∃p,((Jch n σ Z W m).bind fun p=>if p.1 then Jch n σ U M p.2 else some p)=some p:=fun k1 G k3 k4 h1 h2=>by
    obtain⟨p,e⟩:=J m k1 k3 h1;rw[e,Vad]
    split
    .exact J _ G k4 h2
    .exact⟨_,rfl⟩
   cases ae with
   |int=>cases h<;>exact⟨_,rfl⟩
   |bool=>cases h<;>exact⟨_,rfl⟩
   |vr i nm g e=>
    cases h with
    |vr j af g2 e2=>
     simp only[isVr,genB,e,e2,Vad]
     split
     .split
      .exact⟨_,rfl⟩
      .exact⟨_,rfl⟩
     .exact⟨_,rfl⟩
    |_=>exact⟨_,rfl⟩
   |ls i p c e k=>
    simp only[Tt.ht]at I
    cases h with
    |ls j q d E D=>
     simp only[isVr,alkF,Kd.eqb,Va0,Jap,e,E,Vad];exact J m k D (by omega)
    |_=>exact⟨_,rfl⟩
   |pr i p p2 c c2 e k G=>
    simp only[Tt.ht]at I
    cases h with
    |pr j q q2 d d2 E D L=>
     simp only[isVr,alkF,Kd.eqb,Va0,Jap,e,E,Vad];exact two k G D L (by omega) (by omega)
    |_=>exact⟨_,rfl⟩
   |ar i p p2 c c2 e k G=>
    simp only[Tt.ht]at I
    cases h with
    |ar j q q2 d d2 E D L=>
     simp only[isVr,alkF,Kd.eqb,Va0,Jap,e,E,Vad];exact two k G D L (by omega) (by omega)
    |_=>exact⟨_,rfl⟩
theorem JeJ{σ:St}(E:σ.length<fuN)(d:Gd σ):∀(l k:List TR),l.length<=k.length->(∀r,r∈l->Vl σ r)->(∀r,r∈k->Vl σ r)->∃b,Jba σ l k=some b
 | [],_,_,_,_=>⟨_,rfl⟩
 |a::l,[],h,_,_=>by simp at h
 |a::l,c::k,h,D,G=>by
  obtain⟨s,I⟩:=d a (D a (by simp));obtain⟨u,J⟩:=d c (G c (by simp));have L:=I.ht_le;obtain⟨p,e⟩:=Jm8 E fuN [] I J (by omega);simp only[Jba,e,Vad]
  split
  .exact JeJ E d l k (by simpa using h) (fun r q=>D r (by simp[q])) (fun r q=>G r (by simp[q]))
  .exact⟨_,rfl⟩
theorem Jcr{σ:St}(d:σ.length<fuN)(D:Gd σ):∀(own:List Bd) (l:List TR),(∀b,b∈own->Vl σ b.ty)->∃G,Jbh σ own l=some G
 | [],l,_=>⟨l,rfl⟩
 |b::E,l,h=>by
  simp only[Jbh]
  split
  .obtain⟨t,ht⟩:=D b.ty (h b (by simp));have I:=ht.ht_le;obtain⟨l1,e,_⟩:=Jex d fuN l ht (by omega);rw[e,Vad];exact Jcr d D E l1 fun c q=>h c (by simp[q])
  .exact Jcr d D E l fun c q=>h c (by simp[q])
theorem Jfz{bd:List TR}:∀(ts:List TR) {σ:St},σ.length<fuN->Gd σ->(∀r,r∈ts->Vl σ r)->∃σ',JdD σ bd ts=some σ'/\Mk σ σ'
 | [],σ,_,_,_=>⟨σ,rfl,Mk.refl σ⟩
 |t::ts,σ,D,E,h=>by
  obtain⟨a,G⟩:=E t (h t (by simp));have T:=G.ht_le;obtain⟨O,M,d⟩:=Jj1 fuN bd D G (by omega);obtain⟨L,J,I⟩:=Jfz ts (by rw[d.len];exact D) (d.gd E) fun r q=>d.vl (h r (by simp[q]))
  exact⟨L,by simp only[JdD,M,Vad];exact J,d.trans I⟩
def isGn(σ:St)(i:Nat):Bool:=match σ[i]? with
 |some ⟨.vr _ true,none⟩=>true
 |_=>false
def insT(σ:St)(m:List (Nat×Nat)):Nat->Tt:=fun i=>if isGn σ i then match Jal i m with
 |some j=> .v j
 |none=> .v i
 else .v i
theorem Tt.sub_ext{θ η:Nat->Tt}:∀{t:Tt},(∀i,t.has i->θ i=η i)->t.sub θ=t.sub η
 | .int,_=>rfl
 | .bool,_=>rfl
 | .v i,h=>h i rfl
 | .l c,h=>by simp only[Tt.sub];rw[Tt.sub_ext (t:=c) h]
 | .p c d,h=>by simp only[Tt.sub];rw[Tt.sub_ext (t:=c) fun i g=>h i (.inl g),Tt.sub_ext (t:=d) fun i g=>h i (.inr g)]
 | .f c d,h=>by simp only[Tt.sub];rw[Tt.sub_ext (t:=c) fun i g=>h i (.inl g),Tt.sub_ext (t:=d) fun i g=>h i (.inr g)]
theorem Jcy{i j:Nat}{k:Nat}:∀{m:List (Nat×Nat)},Jal k (m++ [(i,j)])=match Jal k m with|some x=>some x|none=>if k==i then some j else none
 | []=>by simp only[VaK,Jal]
 |e::m=>by
  simp only[VaV,Jal]
  split
  .rfl
  .exact Jcy (m:=m)
structure MO(n0:Nat)(σ:St)(m:List (Nat×Nat)):Prop where
 new:∀i j,Jal i m=some j->n0<=j/\∃nm,σ[j]? =some ⟨.vr nm false,none⟩
 inj:∀i k j,Jal i m=some j->Jal k m=some j->i=k
variable {n0:Nat}
theorem MO.up{m:List (Nat×Nat)}(h:MO n0 σ m)(u:St):MO n0 (σ++u) m:=⟨fun i j e=>by
 obtain⟨D,nm,d⟩:=h.new i j e;exact⟨D,nm,by rw[Vak (Vae.1 d).1];exact d⟩,h.inj⟩
structure InR(σ0 σ σ':St)(t:Tt)(m m':List (Nat×Nat))(r':TR):Prop where
 gr:∃v,σ'=σ++v/\v.length<=t.sz
 gd:Gd σ'
 mo:MO σ0.length σ' m'
 mm:∀i j,Jal i m=some j->Jal i m'=some j
 all:∀i,t.has i->isGn σ0 i=true->(Jal i m').isSome=true
 tr:Tr σ' r' (t.sub (insT σ0 m'))
variable {σ0:St}{m':List (Nat×Nat)}
theorem JoX{m:List (Nat×Nat)}(h:∀i j,Jal i m=some j->Jal i m'=some j)(d:∀i,t.has i->isGn σ0 i=true->(Jal i m).isSome=true):t.sub (insT σ0 m)=t.sub (insT σ0 m'):=Tt.sub_ext fun i D=>by
 simp only[insT]
 by_cases g:isGn σ0 i=true
 .rw[Vat g,Vat g];have:=d i D g
  cases e:Jal i m with
  |none=>rw[e]at this;simp at this
  |some j=>rw[h i j e]
 .rw[Vaq g,Vaq g]
theorem Jib:∀(n:Nat) {σ u:St} {r:TR} {t:Tt} {m:List (Nat×Nat)},σ.length+t.sz<fuN->Tr σ0 r t->σ=σ0++u->MO σ0.length σ m->Gd σ->t.ht<n->∃r' σ' m',Ja1 n σ r m=some (r',σ',m')/\InR σ0 σ σ' t m m' r':=by
 intro n
 induction n with
 |zero=>intro σ u r t m _ _ _ _ _ af;omega
 |succ n ih=>
  intro σ u r t m hL af V G O hn;obtain⟨r0,h1,h2⟩:=af.rt
  have up:∀{i:Nat} {x:Nd},σ0[i]? =some x->σ[i]? =some x:=fun{i x} e=>by
   rw[V,Vak (Vae.1 e).1];exact e
  have rr:Rp σ r r0:=by rw[V];exact h1.up u
  simp only[Ja1,JaK rr (show σ.length<fuN by omega),Vad]
  have two:∀{x y:TR} {a b:Tt} {mk:TR->TR->NK} {mt:Tt->Tt->Tt} {kd:Kd},Tr σ0 x a->Tr σ0 y b->a.ht<n->b.ht<n->a.sz+b.sz+1=t.sz->t=mt a b->(∀i,t.has i<->a.has i\/b.has i)->(∀θ,t.sub θ=mt (a.sub θ) (b.sub θ))->(∀p q,(mk p q).kd=kd)->(∀{τ:St} {i:Nat} {p q:TR} {c d:Tt},τ[i]? =some ⟨mk p q,none⟩->Tr τ p c->Tr τ q d->Tr τ (.nd kd i) (mt c d))->
    ∃r' σ' m',((Ja1 n σ x m).bind fun p=>(Ja1 n p.2.1 y p.2.2).bind fun q=>some (TR.nd kd q.2.1.length,q.2.1++ [⟨mk p.1 q.1,none⟩],q.2.2))=some (r',σ',m')/\InR σ0 σ σ' t m m' r':=by
   intro x y a b mk mt kd k1 k2 ha hb hz ht ak ai ah al;obtain⟨r1,σ1,m1,e1,E⟩:=ih (m:=m) (by omega) k1 V G O ha;obtain⟨v1,w1,w2⟩:=E.gr;have am:σ1.length<=σ.length+a.sz:=by rw[w1,Vap];omega
   obtain⟨r2,σ2,W,e2,M⟩:=ih (σ:=σ1) (u:=u++v1) (m:=m1) (by omega) k2 (by rw[w1,V,Val]) E.mo E.gd hb;obtain⟨v2,w3,w4⟩:=M.gr;rw[e1];simp only[Vad,e2]
   have T1:Tr σ2 r1 (a.sub (insT σ0 W)):=by
    rw[<-JoX M.mm E.all,w3];exact E.tr.up _
   have Y:Tr (σ2++ [⟨mk r1 r2,none⟩]) (.nd kd σ2.length) (mt (a.sub (insT σ0 W)) (b.sub (insT σ0 W))):=al (Ja2 _ _) (T1.up _) (M.tr.up _);refine⟨_,_,_,rfl,⟨v1++v2++ [⟨mk r1 r2,none⟩],by rw[w3,w1];simp only[Val],by simp only[Vap,VaG];omega⟩,?_,M.mo.up _,fun i j e=>M.mm i j (E.mm i j e),fun i I J=> ?_,by rw[ai];exact Y⟩
   .have aj:(⟨mk r1 r2,none⟩:Nd).k.kd=kd:=ah r1 r2;exact M.gd.snoc (t:=mt (a.sub (insT σ0 W)) (b.sub (insT σ0 W))) (by rw[aj];exact Y)
   .rcases(ak i).1 I with I|I
    .have:=E.all i I J
     cases e:Jal i m1 with
     |none=>rw[e]at this;simp at this
     |some j=>rw[M.mm i j e];rfl
    .exact M.all i I J
  cases h2 with
  |int=>exact⟨_,_,_,rfl,⟨[],by simp,by simp⟩,O,G,fun _ _ e=>e,fun i I=>I.elim,.int⟩
  |bool=>exact⟨_,_,_,rfl,⟨[],by simp,by simp⟩,O,G,fun _ _ e=>e,fun i I=>I.elim,.bool⟩
  |vr i nm g e=>
   cases g with
   |false=>
    have J:isGn σ0 i=false:=by simp only[isGn,e]
    simp only[up e];refine⟨_,_,_,rfl,⟨[],by simp,by simp⟩,O,G,fun _ _ e=>e,fun k T ac=> ?_,?_⟩
    .simp only[Tt.has]at T;subst T;rw[J]at ac
     cases ac
    .simp only[Tt.sub,insT,J];exact .vr i nm false (up e)
   |true=>
    have J:isGn σ0 i=true:=by simp only[isGn,e]
    simp only[up e]
    cases T:Jal i m with
    |some j=>
     refine⟨_,_,_,rfl,⟨[],by simp,by simp⟩,O,G,fun _ _ e=>e,fun k Z _=> ?_,?_⟩
     .simp only[Tt.has]at Z;subst Z;rw[T];rfl
     .obtain⟨_,ae,h⟩:=G.new i j T;simp only[Tt.sub,insT,J,T,Va0];exact .vr j ae false h
    |none=>
     have aa:Jal i (m++ [(i,σ.length)])=some σ.length:=by
      rw[Jcy,T];simp
     refine⟨_,_,_,rfl,⟨[newV],rfl,by simp[Tt.sz]⟩,O.snoc (JcG σ),⟨fun k j h=> ?_,fun k l j h D=> ?_⟩,fun k j h=>by rw[Jcy,h],fun k Z _=> ?_,?_⟩
     .rw[Jcy]at h
      cases L:Jal k m with
      |some z=>
       rw[L]at h;simp only[Vaa]at h;subst h;exact(G.up [newV]).new k z L
      |none=>
       rw[L]at h;simp only at h
       split at h
       .simp only[Vaa]at h;subst h;exact⟨by rw[V,Vap];omega,_,Ja2 σ newV⟩
       .cases h
     .have lt:∀{q z:Nat},Jal q m=some z->z<σ.length:=fun{q z} hq=>by
       obtain⟨_,ae,h5⟩:=G.new q z hq;exact(Vae.1 h5).1
      rw[Jcy]at h D
      cases L:Jal k m with
      |some z=>
       rw[L]at h;simp only[Vaa]at h;subst h
       cases U:Jal l m with
       |some y=>
        rw[U]at D;simp only[Vaa]at D;subst D;exact G.inj k l y L U
       |none=>
        rw[U]at D;simp only at D
        split at D
        .simp only[Vaa]at D;have:=lt L;omega
        .cases D
      |none=>
       rw[L]at h;simp only at h
       split at h
       .rename_i aa;simp only[Vaa]at h
        cases U:Jal l m with
        |some y=>
         rw[U]at D;simp only[Vaa]at D;have:=lt U;omega
        |none=>
         rw[U]at D;simp only at D
         split at D
         .rename_i ag;rw[eq_of_beq aa,eq_of_beq ag]
         .cases D
       .cases h
     .simp only[Tt.has]at Z;subst Z;rw[aa];rfl
     .simp only[Tt.sub,insT,J,aa,Va0];exact JcG σ
  |ls i x a e k=>
   simp only[Tt.ht]at hn;simp only[Tt.sz]at hL;simp only[up e];obtain⟨r1,σ1,m1,e1,E⟩:=ih (m:=m) (by omega) k V G O (by omega);obtain⟨v1,w1,w2⟩:=E.gr;rw[e1,Vad];have Y:Tr (σ1++ [⟨.ls r1,none⟩]) (.nd .ls σ1.length) (.l (a.sub (insT σ0 m1))):= .ls _ _ _ (Ja2 _ _) (E.tr.up _);exact⟨_,_,_,rfl,⟨v1++ [⟨.ls r1,none⟩],by rw[w1,Val],by simp only[Vap,VaG,Tt.sz];omega⟩,E.gd.snoc Y,E.mo.up _,E.mm,E.all,Y⟩
  |pr i x y a b e k k2=>
   simp only[Tt.ht]at hn;simp only[up e];exact two (mk:= .pr) (mt:= .p) k k2 (by omega) (by omega) rfl rfl (fun _=>Iff.rfl) (fun _=>rfl) (fun _ _=>rfl) (fun e h1 h2=> .pr _ _ _ _ _ e h1 h2)
  |ar i x y a b e k k2=>
   simp only[Tt.ht]at hn;simp only[up e];exact two (mk:= .ar) (mt:= .f) k k2 (by omega) (by omega) rfl rfl (fun _=>Iff.rfl) (fun _=>rfl) (fun _ _=>rfl) (fun e h1 h2=> .ar _ _ _ _ _ e h1 h2)
def sqF(a b:Option (Option (Nat×BA))):Option (Option (Nat×BA)):=a.bind fun r=>match r with
 |some e=>some (some e)
 |none=>b
def grpC(f:X->List Bd->Option (Option (Nat×BA)))(names:List BA)(kids:List X)(own:List Bd):Option (Option (Nat×BA)):=if names.length<=1000000 then kids.foldl (fun r x=>sqF r (f x (grpF names (Vet names.length .int) own))) (some none)else none
def chkF(d:Bool)(gv:Gv):Nat->X->List Bd->Option (Option (Nat×BA))
 |0,_,_=>none
 |n+1,.mk op names kids loc,own=>
  if bq op ⟨#[110,97,109,101]⟩then match names with
   | [m]=>match JaJ m gv own with|some _=>some none|none=>if m.size<=1000 then some (some (loc,m))else none
   |_=>none
  else if bq op ⟨#[110,117,109]⟩then some none
  else if bq op ⟨#[102,117,110]⟩then match names,kids with
   | [m],[b]=>chkF d gv n b (⟨m,.int,false⟩::own)
   |_,_=>none
  else if bq op ⟨#[105,102]⟩then match kids with
   | [x,y,z]=>sqF (chkF d gv n x own) (sqF (chkF d gv n y own) (chkF d gv n z own))
   |_=>none
  else if bq op ⟨#[108,101,116]⟩then match names,kids with
   | [m],[x,y]=>sqF (chkF d gv n x own) (chkF d gv n y (⟨m,.int,false⟩::own))
   |_,_=>none
  else if bq op ⟨#[97,112,112]⟩then match kids with
   | [x,y]=>sqF (chkF d gv n x own) (chkF d gv n y own)
   |_=>none
  else if bq op ⟨#[112,97,105,114]⟩then match kids with
   | [x,y]=>sqF (chkF d gv n x own) (chkF d gv n y own)
   |_=>none
  else if d&&bq op ⟨#[114,101,99]⟩then grpC (fun x own=>chkF d gv n x own) names kids own
  else none
inductive WX:X->Prop
 |nam (n:BA) (loc:Nat):WX (.mk ⟨#[110,97,109,101]⟩ [n] [] loc)
 |num (n:BA) (loc:Nat):WX (.mk ⟨#[110,117,109]⟩ [n] [] loc)
 |fn (n:BA) (a:X) (loc:Nat):WX a->WX (.mk ⟨#[102,117,110]⟩ [n] [a] loc)
 |pair (a b:X) (loc:Nat):WX a->WX b->WX (.mk ⟨#[112,97,105,114]⟩ [] [a,b] loc)
 |ite (a b c:X) (loc:Nat):WX a->WX b->WX c->WX (.mk ⟨#[105,102]⟩ [] [a,b,c] loc)
 |app (a b:X) (loc:Nat):WX a->WX b->WX (.mk ⟨#[97,112,112]⟩ [] [a,b] loc)
 |lt (n:BA) (a b:X) (loc:Nat):WX a->WX b->WX (.mk ⟨#[108,101,116]⟩ [n] [a,b] loc)
 |rc (names:List BA) (vs:List X) (y:X) (loc:Nat):names.length=vs.length->(∀v,v∈vs->WX v)->WX y->WX (.mk ⟨#[114,101,99]⟩ names (vs++ [y]) loc)
mutual
def grw:X->Nat
 | .mk _ names kids _=>200+names.length+7*grws kids
def grws:List X->Nat
 | []=>0
 |x::xs=>grw x+grws xs
end
theorem Jc2:∀xs d:List X,grws (xs++d)=grws xs+grws d
 | [],d=>by simp[grws]
 |x::xs,d=>by simp only[VaV,grws,Jc2 xs d];omega
def BB:Nat:=10^60
theorem BB_fu:BB*(BB+2)+BB+1<=fuN:=by decide+kernel
theorem Jdx:BB+200<fuN:=by decide+kernel
def Lt(σ σ':St):Prop:=σ.length<=σ'.length/\∀r,Vl σ r->Vl σ' r
theorem Lt.refl(σ:St):Lt σ σ:=⟨Vau _,fun _ h=>h⟩
theorem Lt.trans{a b c:St}(h:Lt a b)(g:Lt b c):Lt a c:=⟨Vas h.1 g.1,fun r q=>g.2 r (h.2 r q)⟩
theorem Lt.up(σ u:St):Lt σ (σ++u):=⟨by simp,fun _ h=>h.up u⟩
theorem Ex.lt(h:Ex σ σ'):Lt σ σ':=⟨by rw[h.len];exact Vau _,fun _ g=>h.vl g⟩
theorem Mk.lt(h:Mk σ σ'):Lt σ σ':=⟨by rw[h.len];exact Vau _,fun _ g=>h.vl g⟩
def OkR(σ:St)(g:Nat):Oc (TR×St)->Prop
 | .er j=>j=3\/j=4\/j=5
 | .ok p=>Lt σ p.2/\Gd p.2/\Vl p.2 p.1/\p.2.length<=σ.length+g
def OwV(σ:St)(own:List Bd):Prop:=∀b,b∈own->Vl σ b.ty
def GvV(σ:St)(gv:Gv):Prop:=∀e,e∈gv->Vl σ e.2
variable {own:List Bd}
theorem OwV.lt(h:OwV σ own)(g:Lt σ σ'):OwV σ' own:=fun b q=>g.2 _ (h b q)
theorem GvV.lt{gv:Gv}(h:GvV σ gv)(g:Lt σ σ'):GvV σ' gv:=fun b q=>g.2 _ (h b q)
theorem JjM{x y:TR}(d:Gd σ)(T:σ.length<=BB)(D:Vl σ x)(G:Vl σ y):eqF fuN σ x y=some (.er 3)\/∃σ',eqF fuN σ x y=some (.ok σ')/\Eqd σ σ' x y:=by
 obtain⟨a,h⟩:=d x D;obtain⟨b,E⟩:=d y G;have L:=h.ht_le;have M:=JrI σ;have I:=BB_fu;have J:=Jdx;have O:vc σ*(σ.length+2)<=BB*(BB+2):=Nat.mul_le_mul (by omega) (by omega);exact JqN fuN (by omega) h E (by omega)
theorem Jjw{x:TR}(E:Gd σ)(I:σ.length<=BB)(D:Vl σ x):∃b t,bigF σ x=some b/\Tr σ x t/\(b=false->t.sz<=120):=by
 obtain⟨a,d⟩:=E x D;have G:=Jdx;exact⟨_,a,Jee (by omega) d,d,fun h=>by have:=of_decide_eq_false h;omega⟩
theorem Jh5{σ:St}{m:BA}:∀{gv:Gv} {t:TR},GvV σ gv->Jcq m gv=some t->Vl σ t
 | [],t,_,h=>by cases h
 |e::l,t,d,h=>by
  simp only[Jcq]at h
  split at h
  .simp only[Vaa]at h;subst h;exact d e (by simp)
  .exact Jh5 (gv:=l) (fun b q=>d b (by simp[q])) h
theorem Jh3{σ:St}{gv:Gv}{m:BA}(d:GvV σ gv):∀{own:List Bd} {t:TR},OwV σ own->JaJ m gv own=some t->Vl σ t
 | [],t,_,h=>Jh5 d h
 |e::l,t,D,h=>by
  simp only[JaJ]at h
  split at h
  .simp only[Vaa]at h;subst h;exact D e (by simp)
  .exact Jh3 d (own:=l) (fun b q=>D b (by simp[q])) h
def nms(own:List Bd):List BA:=own.map Bd.name
theorem Jgj{gv:Gv}{m:BA}:∀{a b:List Bd},nms a=nms b->(JaJ m gv a).isSome=(JaJ m gv b).isSome
 | [],[],_=>rfl
 | [],_::_,h=>by simp[nms]at h
 |_::_,[],h=>by simp[nms]at h
 |x::a,y::b,h=>by
  simp only[nms,VaP,Vb5]at h;simp only[JaJ,h.1]
  split
  .rfl
  .exact Jgj (a:=a) (b:=b) h.2
theorem Jdc:∀{D:List BA} {ts:List TR} {d:List Bd},ts.length=D.length->nms (grpF D ts d)=D.reverse++nms d
 | [],ts,d,h=>by simp[grpF]
 |n::D,[],d,h=>by simp at h
 |n::D,t::ts,d,h=>by
  simp only[grpF];rw[Jdc (by simpa using h)];simp[nms]
theorem JfA{σ:St}:∀{E:List BA} {ts:List TR} {d:List Bd},(∀t,t∈ts->Vl σ t)->OwV σ d->OwV σ (grpF E ts d)
 | [],ts,d,_,h=>by simpa only[grpF]using h
 |n::E,[],d,_,h=>by simpa only[grpF]using h
 |n::E,t::ts,d,ht,h=>by
  simp only[grpF];refine JfA (fun u q=>ht u (by simp[q])) fun b D=> ?_
  rcases VaW.1 D with rfl|D
  .exact ht t (by simp)
  .exact h b D
theorem JcU(h:sqF a b=some none):a=some none/\b=some none:=by
 unfold sqF at h
 cases a with
 |none=>cases h
 |some r=>
  cases r with
  |none=>exact⟨rfl,h⟩
  |some e=>cases h
theorem Jgn{f:X->Option (Option (Nat×BA))}:∀{l:List X} {r:Option (Option (Nat×BA))},l.foldl (fun r x=>sqF r (f x)) r=some none->r=some none/\∀x,x∈l->f x=some none
 | [],r,h=>⟨h,fun x q=>by cases q⟩
 |x::l,r,h=>by
  obtain⟨E,G⟩:=Jgn (l:=l) h;obtain⟨d,D⟩:=JcU E;refine⟨d,fun y q=> ?_⟩
  rcases VaW.1 q with rfl|q
  .exact D
  .exact G y q
theorem Jg6:∀(k:Nat) (σ:St),(anyF k σ).2=σ++Vet k ⟨.vr ⟨#[]⟩ true,none⟩/\(anyF k σ).1.length=k/\∀r,r∈(anyF k σ).1->∃i,r= .nd .vr i/\σ.length<=i/\i<σ.length+k
 |0,σ=>by simp[anyF]
 |k+1,σ=>by
  obtain⟨D,G,h⟩:=Jg6 k (σ++ [⟨.vr ⟨#[]⟩ true,none⟩]);refine⟨?_,?_,?_⟩
  .simp only[anyF,D,Val,List.replicate_succ,VbR]
  .simp only[anyF,VaY,G]
  .intro r d;simp only[anyF,VaW]at d
   rcases d with rfl|d
   .exact⟨_,rfl,by omega,by omega⟩
   .obtain⟨i,e,I,E⟩:=h r d;simp only[Vap,VaG]at I E;exact⟨i,e,by omega,by omega⟩
theorem JnF{σ:St}(d:Gd σ):∀k,Gd (σ++Vet k ⟨.vr ⟨#[]⟩ true,none⟩)
 |0=>by simpa using d
 |k+1=>by
  rw[Ver,<-Val];exact(JnF d k).snoc (.vr _ _ _ (Ja2 _ _))
theorem Jqv(h:r∈(anyF k σ).1):Vl (anyF k σ).2 r:=by
 obtain⟨D,_,d⟩:=Jg6 k σ;obtain⟨i,rfl,E,G⟩:=d r h;rw[D];refine⟨.vr ⟨#[]⟩ true,none,?_,rfl⟩
 rw[VaU E,Vef,Vat (by omega)]
section
variable {gv:Gv}{fuel:Nat}
abbrev TyF:=X->List Bd->St->Unit->Option (Oc (TR×St)×Unit)
def SmOk(gv:Gv)(f:TyF)(x:X)(d:List BA):Prop:=∀own σ,nms own=d->Gd σ->OwV σ own->GvV σ gv->σ.length+grw x<=BB->∃r,f x own σ ()=some (r,())/\OkR σ (grw x) r
variable {g':Nat}
theorem OkR.mono{g:Nat}{r:Oc (TR×St)}(h:OkR σ g r)(d:g<=g'):OkR σ g' r:=by
 cases r with
 |er j=>exact h
 |ok p=>exact⟨h.1,h.2.1,h.2.2.1,by have:=h.2.2.2;omega⟩
theorem Jms(V:(JaJ m gv own).isSome=true)(d:Gd σ)(O:OwV σ own)(U:GvV σ gv)(T:σ.length<=BB):∃r,Jc0 gv m own σ=some r/\OkR σ 200 r:=by
 obtain⟨s,E⟩:=Vd7.1 V;have L:=Jh3 U O E;obtain⟨b,t,M,D,J⟩:=Jjw d T L;simp only[Jc0,E,M,Vad]
 cases b with
 |true=>exact⟨_,rfl,.inr (.inl rfl)⟩
 |false=>
  have Z:=J rfl;have Y:=Jdx;have h5:=D.ht_le;obtain⟨W,σ',m',e,I⟩:=Jib (σ0:=σ) (u:= []) (m:= []) fuN (by omega) D (by simp) ⟨fun i j h=>by simp[Jal]at h,fun i k j h=>by simp[Jal]at h⟩ d (by omega);obtain⟨v,G,w2⟩:=I.gr;simp only[e,Vad];refine⟨_,rfl,?_,I.gd,I.tr.vl,?_⟩
  .rw[G];exact Lt.up _ _
  .rw[G,Vap];omega
variable {f:TyF}
theorem JoQ{b:X}(U:SmOk gv f b (m::nms own))(O:Gd σ)(L:OwV σ own)(T:GvV σ gv)(V:σ.length+(grw b+2)<=BB):∃r,funF f m b own σ ()=some (r,())/\OkR σ (grw b+2) r:=by
 have h:=Lt.up σ [newV]
 obtain⟨r,e,G⟩:=U (⟨m,.nd .vr σ.length,true⟩::own) (σ++ [newV]) rfl (O.snoc (JcG σ)) (fun c q=>by
  rcases VaW.1 q with rfl|q
  .exact(JcG σ).vl
  .exact h.2 _ (L c q)) (T.lt h) (by simp only[Vap,VaG];omega)
 simp only[funF,e,Vad]
 cases r with
 |er j=>exact⟨_,rfl,G⟩
 |ok p=>
  obtain⟨D,d,I,J⟩:=G;obtain⟨t,ht⟩:=d _ I;obtain⟨u,M⟩:=d (.nd .vr σ.length) (D.2 _ (JcG σ).vl);have E:Tr (p.2++ [⟨.ar (.nd .vr σ.length) p.1,none⟩]) (.nd .ar p.2.length) (.f u t):= .ar _ _ _ _ _ (Ja2 _ _) (M.up _) (ht.up _);refine⟨_,rfl,(h.trans D).trans (Lt.up _ _),d.snoc E,E.vl,?_⟩
  simp only[Vap,VaG]at J⊢;omega
variable {x y z:X}
theorem Jq1(hx:SmOk gv f x (nms own))(hy:SmOk gv f y (nms own))(U:SmOk gv f z (nms own))(T:Gd σ)(D:OwV σ own)(G:GvV σ gv)(hB:σ.length+(grw x+grw y+grw z)<=BB):∃r,ifF f x y z own σ ()=some (r,())/\OkR σ (grw x+grw y+grw z) r:=by
 obtain⟨r,e,d⟩:=hx own σ rfl T D G (by omega);simp only[ifF,e,Vad]
 cases r with
 |er j=>exact⟨_,rfl,d⟩
 |ok p=>
  obtain⟨Z,L,O,h4⟩:=d
  rcases JjM L (by omega) O (y:= .bool) trivial with q|⟨Y,q,E⟩
  .simp only[q,Vad];exact⟨_,rfl,.inl rfl⟩
  .simp only[q,Vad];have I:=Z.trans E.ex.lt;obtain⟨r,e,d⟩:=hy own Y rfl (E.ex.gd L) (D.lt I) (G.lt I) (by rw[E.ex.len];omega);simp only[e,Vad]
   cases r with
   |er j=>exact⟨_,rfl,d⟩
   |ok V=>
    obtain⟨W,k2,M,k4⟩:=d;have J:=I.trans W;rw[E.ex.len]at k4;obtain⟨r,e,d⟩:=U own V.2 rfl k2 (D.lt J) (G.lt J) (by omega);simp only[e,Vad]
    cases r with
    |er j=>exact⟨_,rfl,d⟩
    |ok p3=>
     obtain⟨l1,l2,l3,l4⟩:=d
     rcases JjM l2 (by omega) (l1.2 _ M) l3 with q|⟨σ2,q,h⟩
     .simp only[q,Vad];exact⟨_,rfl,.inl rfl⟩
     .simp only[q,Vad];exact⟨_,rfl,(J.trans l1).trans h.ex.lt,h.ex.gd l2,h.ex.vl (l1.2 _ M),by rw[h.ex.len];omega⟩
theorem Jo7(Z:SmOk gv f x (nms own))(Y:SmOk gv f y (m::nms own))(L:Gd σ)(h:OwV σ own)(I:GvV σ gv)(hB:σ.length+(grw x+grw y)<=BB):∃r,letF f m x y own σ ()=some (r,())/\OkR σ (grw x+grw y) r:=by
 obtain⟨r,e,d⟩:=Z own σ rfl L h I (by omega);simp only[letF,e,Vad]
 cases r with
 |er j=>exact⟨_,rfl,d⟩
 |ok p=>
  obtain⟨J,E,G,h4⟩:=d;have h6:=Jdx;obtain⟨bd,q⟩:=Jcr (show p.2.length<fuN by omega) E own [] (h.lt J);obtain⟨t,ht⟩:=E _ G;have h7:=ht.ht_le;obtain⟨U,O,M⟩:=Jj1 fuN bd (show p.2.length<fuN by omega) ht (by omega);simp only[q,O,Vad];have D:=J.trans M.lt
  obtain⟨r,e,d⟩:=Y (⟨m,p.1,false⟩::own) U rfl (M.gd E) (fun c q=>by
   rcases VaW.1 q with rfl|q
   .exact M.vl G
   .exact D.2 _ (h c q)) (I.lt D) (by rw[M.len];omega)
  refine⟨r,e,?_⟩
  cases r with
  |er j=>exact d
  |ok p2=>
   obtain⟨T,k2,V,W⟩:=d;rw[M.len]at W;exact⟨D.trans T,k2,V,by omega⟩
theorem Jou(hx:SmOk gv f x (nms own))(hy:SmOk gv f y (nms own))(Y:Gd σ)(M:OwV σ own)(T:GvV σ gv)(hB:σ.length+(grw x+grw y+2)<=BB):∃r,appF f x y own σ ()=some (r,())/\OkR σ (grw x+grw y+2) r:=by
 obtain⟨r,e,d⟩:=hx own σ rfl Y M T (by omega);simp only[appF,e,Vad]
 cases r with
 |er j=>exact⟨_,rfl,d⟩
 |ok p=>
  obtain⟨h1,h2,W,h4⟩:=d;have V:=Lt.up p.2 [newV];have D:=h1.trans V;obtain⟨r,e,d⟩:=hy own (p.2++ [newV]) rfl (h2.snoc (JcG p.2)) (M.lt D) (T.lt D) (by simp only[Vap,VaG];omega);simp only[e,Vad]
  cases r with
  |er j=>exact⟨_,rfl,d⟩
  |ok q=>
   obtain⟨h,J,k3,k4⟩:=d;simp only[Vap,VaG]at k4;obtain⟨t,ht⟩:=J _ k3;have L:Vl q.2 (.nd .vr p.2.length):=h.2 _ (JcG p.2).vl;obtain⟨u,Z⟩:=J _ L;have O:Tr (q.2++ [⟨.ar q.1 (.nd .vr p.2.length),none⟩]) (.nd .ar q.2.length) (.f t u):= .ar _ _ _ _ _ (Ja2 _ _) (ht.up _) (Z.up _);have U:=J.snoc O;have G:=Lt.up q.2 [⟨.ar q.1 (.nd .vr p.2.length),none⟩]
   rcases JjM U (by simp only[Vap,VaG];omega) (G.2 _ (h.2 _ (V.2 _ W))) O.vl with I|⟨σ1,I,E⟩
   .simp only[I,Vad];exact⟨_,rfl,.inl rfl⟩
   .simp only[I,Vad];exact⟨_,rfl,((D.trans h).trans G).trans E.ex.lt,E.ex.gd U,E.ex.vl (G.2 _ L),by rw[E.ex.len];simp only[Vap,VaG];omega⟩
theorem Jqb(M:SmOk gv f x (nms own))(W:SmOk gv f y (nms own))(T:Gd σ)(E:OwV σ own)(J:GvV σ gv)(Z:σ.length+(grw x+grw y+1)<=BB):∃r,twoF f x y own σ ()=some (r,())/\OkR σ (grw x+grw y+1) r:=by
 obtain⟨r,e,d⟩:=M own σ rfl T E J (by omega);simp only[twoF,e,Vad]
 cases r with
 |er j=>exact⟨_,rfl,d⟩
 |ok p=>
  obtain⟨h,U,L,Y⟩:=d;obtain⟨r,e,d⟩:=W own p.2 rfl U (E.lt h) (J.lt h) (by omega);simp only[e,Vad]
  cases r with
  |er j=>exact⟨_,rfl,d⟩
  |ok q=>
   obtain⟨I,D,V,k4⟩:=d;obtain⟨t,ht⟩:=D _ (I.2 _ L);obtain⟨u,O⟩:=D _ V;have G:Tr (q.2++ [⟨.pr p.1 q.1,none⟩]) (.nd .pr q.2.length) (.p t u):= .pr _ _ _ _ _ (Ja2 _ _) (ht.up _) (O.up _);exact⟨_,rfl,(h.trans I).trans (Lt.up _ _),D.snoc G,G.vl,by simp only[Vap,VaG];omega⟩
theorem Jf1{f:TyF}{J:List BA}:∀{vs:List X} {own:List Bd} {σ:St},(∀v,v∈vs->SmOk gv f v J)->nms own=J->Gd σ->OwV σ own->GvV σ gv->σ.length+grws vs<=BB->∃r,Jbg (fun x=>f x own) vs σ ()=some (r,())/\match r with
  | .er j=>j=3\/j=4\/j=5
  | .ok p=>p.1.length=vs.length/\Lt σ p.2/\Gd p.2/\(∀t,t∈p.1->Vl p.2 t)/\p.2.length<=σ.length+grws vs
 | [],own,σ,_,_,D,_,_,_=>⟨_,rfl,rfl,Lt.refl σ,D,fun t q=>(by cases q),Vau _⟩
 |v::vs,own,σ,E,I,D,G,M,W=>by
  simp only[grws]at W;obtain⟨r,e,d⟩:=E v (by simp) own σ I D G M (by omega);simp only[Jbg,e,Vad]
  cases r with
  |er j=>exact⟨_,rfl,d⟩
  |ok p=>
   obtain⟨h,T,O,Z⟩:=d;obtain⟨r,e,d⟩:=Jf1 (vs:=vs) (fun v q=>E v (by simp[q])) I T (G.lt h) (M.lt h) (by omega);simp only[e,Vad]
   cases r with
   |er j=>exact⟨_,rfl,d⟩
   |ok q=>
    obtain⟨V,L,U,Y,k5⟩:=d;refine⟨_,rfl,by simp[V],h.trans L,U,fun t ht=> ?_,by simp only[grws];omega⟩
    rcases VaW.1 ht with rfl|ht
    .exact L.2 _ O
    .exact Y t ht
variable {vs:List X}
theorem JpR(hl:names.length=vs.length)(Z:∀v,v∈vs->SmOk gv f v (names.reverse++nms own)):∀(k L:Nat) {ahead:List TR} {σ:St},k+1+L=fuel+1->ahead.length=names.length->(∀t,t∈ahead->Vl σ t)->Gd σ->OwV σ own->GvV σ gv->σ.length+(k+1)*grws vs<=BB->∃r,rndF tlN f names vs own fuel (k+1) L ahead σ ()=some (r,())/\match r with
  | .er j=>j=3\/j=4\/j=5
  | .ok p=>p.1.length=names.length/\Lt σ p.2/\Gd p.2/\(∀t,t∈p.1->Vl p.2 t)/\p.2.length<=σ.length+(k+1)*grws vs:=by
 intro k
 induction k with
 |zero=>
  intro L ahead σ hk Y J U G O hB;obtain⟨r,e,D⟩:=Jf1 (own:=grpF names ahead own) Z (Jdc Y) U (JfA J G) O (by omega);simp only[rndF,e,Vad]
  cases r with
  |er j=>exact⟨_,rfl,D⟩
  |ok p=>
   obtain⟨k1,I,d,E,k5⟩:=D;have h6:=Jdx;obtain⟨bd,q⟩:=Jcr (show p.2.length<fuN by omega) d own [] (G.lt I);obtain⟨T,V,M⟩:=Jfz (bd:=bd) p.1 (show p.2.length<fuN by omega) d E;have h:=I.trans M.lt;obtain⟨b,W⟩:=JeJ (show T.length<fuN by rw[M.len];omega) (M.gd d) ahead p.1 (by omega) (fun t ht=>h.2 _ (J t ht)) (fun t ht=>M.vl (E t ht));simp only[q,V,tlN,W,Vad]
   cases b with
   |true=>exact⟨_,rfl,by simp only;omega,h,M.gd d,fun t ht=>M.vl (E t ht),by simp only[M.len];omega⟩
   |false=>
    rw[Vaq (by simp),Vat (by simp;omega)];exact⟨_,rfl,.inr (.inr rfl)⟩
 |succ k ih=>
  intro L ahead σ hk Y J U G O hB;rw[Vdr,VdR]at hB;obtain⟨r,e,D⟩:=Jf1 (own:=grpF names ahead own) Z (Jdc Y) U (JfA J G) O (by omega);rw[rndF];simp only[e,Vad]
  cases r with
  |er j=>exact⟨_,rfl,D⟩
  |ok p=>
   obtain⟨k1,I,d,E,k5⟩:=D;have h6:=Jdx;obtain⟨bd,q⟩:=Jcr (show p.2.length<fuN by omega) d own [] (G.lt I);obtain⟨T,V,M⟩:=Jfz (bd:=bd) p.1 (show p.2.length<fuN by omega) d E;have h:=I.trans M.lt;obtain⟨b,W⟩:=JeJ (show T.length<fuN by rw[M.len];omega) (M.gd d) ahead p.1 (by omega) (fun t ht=>h.2 _ (J t ht)) (fun t ht=>M.vl (E t ht));simp only[q,V,tlN,W,Vad]
   cases b with
   |true=>exact⟨_,rfl,by simp only;omega,h,M.gd d,fun t ht=>M.vl (E t ht),by simp only[M.len];rw[Vdr,VdR];omega⟩
   |false=>
    rw[Vaq (by simp),Vaq (by simp;omega)];obtain⟨r,e3,D⟩:=ih (L+1) (ahead:=p.1) (σ:=T) (by omega) (by omega) (fun t ht=>M.vl (E t ht)) (M.gd d) (G.lt h) (O.lt h) (by rw[M.len];omega);refine⟨r,e3,?_⟩
    cases r with
    |er j=>exact D
    |ok z=>
     obtain⟨l1,l2,l3,l4,l5⟩:=D;rw[M.len]at l5;refine⟨l1,h.trans l2,l3,l4,?_⟩
     rw[Vdr,VdR];omega
theorem JpQ(h1:1<=fuel)(Z:fuel<=6)(L:names.length=vs.length)(Y:names.length<=1000000)(M:∀v,v∈vs->SmOk gv f v (names.reverse++nms own))(hy:SmOk gv f y (names.reverse++nms own))(O:Gd σ)(G:OwV σ own)(I:GvV σ gv)(hB:σ.length+(names.length+6*grws vs+grw y)<=BB):∃r,recF tlN f fuel names vs y own σ ()=some (r,())/\OkR σ (names.length+6*grws vs+grw y) r:=by
 obtain⟨E,T,_⟩:=Jg6 names.length σ;have V:=fun t=>Jqv (σ:=σ) (k:=names.length) (r:=t)
 have U:Gd (anyF names.length σ).2:=by rw[E];exact JnF O _
 have h:Lt σ (anyF names.length σ).2:=by rw[E];exact Lt.up _ _
 have J:(anyF names.length σ).2.length=σ.length+names.length:=by rw[E];simp
 obtain⟨k,rfl⟩:∃k,fuel=k+1:=⟨fuel-1,by omega⟩
 have hk:(k+1)*grws vs<=6*grws vs:=Vb9 _ Z;obtain⟨r,e,d⟩:=JpR (gv:=gv) (fuel:=k+1) (f:=f) L M k 1 (ahead:=(anyF names.length σ).1) (σ:=(anyF names.length σ).2) rfl T V U (G.lt h) (I.lt h) (by rw[J];omega);simp only[recF,Vat Y,e,Vad]
 cases r with
 |er j=>exact⟨_,rfl,d⟩
 |ok p=>
  obtain⟨W,k2,k3,k4,k5⟩:=d;rw[J]at k5;have D:=h.trans k2;obtain⟨r,e,d⟩:=hy (grpF names p.1 own) p.2 (Jdc W) k3 (JfA k4 (G.lt D)) (I.lt D) (by omega);refine⟨r,e,?_⟩
  cases r with
  |er j=>exact d
  |ok p2=>
   obtain⟨l1,l2,l3,l4⟩:=d;exact⟨D.trans l1,l2,l3,by omega⟩
theorem Jqh(h1:1<=fuel)(h2:fuel<=6):∀(n:Nat) {x:X} {h:List Bd},WX x->chkF true gv n x h=some none->SmOk gv (fun x own σ o=>typF tlN true gv fuel n x own σ o) x (nms h):=by
 intro n
 induction n with
 |zero=>intro x h _ aa;cases x;cases aa
 |succ n G=>
  intro x h hx d own σ E J L O T
  have ae:(∃r,kndF tlN true gv fuel (fun x own σ o=>typF tlN true gv fuel n x own σ o) x own σ ()=some (r,())/\OkR σ (grw x) r)->∃r,typF tlN true gv fuel (n+1) x own σ ()=some (r,())/\OkR σ (grw x) r:=by
   rintro⟨r,e,D⟩;simp only[typF,e,Vad]
   cases r with
   |er j=>exact⟨_,rfl,D⟩
   |ok p=>
    obtain⟨k1,W,Y,k4⟩:=D;obtain⟨b,t,e2,_⟩:=Jjw W (by omega) Y;simp only[e2,Vad]
    cases b with
    |true=>exact⟨_,rfl,.inr (.inl rfl)⟩
    |false=>exact⟨_,rfl,k1,W,Y,k4⟩
  apply ae
  cases hx with
  |nam m loc=>
   have d:(match JaJ m gv h with|some _=>some none|none=>if m.size<=1000 then some (some (loc,m))else none)=some (none:Option (Nat×BA)):=d
   have hs:(JaJ m gv own).isSome=true:=by
    rw[Jgj E]
    cases e:JaJ m gv h with
    |some s=>rfl
    |none=>
     rw[e]at d;simp only at d
     split at d<;>simp at d
   simp only[grw,grws]at T;obtain⟨r,e,D⟩:=Jms hs J L O (by omega);refine⟨r,?_,D.mono (by simp only[grw];omega)⟩
   show(Jc0 gv m own σ).bind _=_;rw[e];rfl
  |num m loc=>exact⟨_,rfl,Lt.refl σ,J,trivial,by simp only;omega⟩
  |fn m a loc I=>
   have d:chkF true gv n a (⟨m,.int,false⟩::h)=some none:=d;simp only[grw,grws]at T;have:=G I d;obtain⟨r,e,D⟩:=JoQ (m:=m) (own:=own) (σ:=σ) (by rw[E];exact this) J L O (by omega);exact⟨r,e,D.mono (by simp only[grw,grws];omega)⟩
  |pair a b loc I U=>
   have d:sqF (chkF true gv n a h) (chkF true gv n b h)=some none:=d;obtain⟨M,c2⟩:=JcU d;simp only[grw,grws]at T;obtain⟨r,e,D⟩:=Jqb (own:=own) (σ:=σ) (by rw[E];exact G I M) (by rw[E];exact G U c2) J L O (by omega);exact⟨r,e,D.mono (by simp only[grw,grws];omega)⟩
  |ite a b c loc I U ac=>
   have d:sqF (chkF true gv n a h) (sqF (chkF true gv n b h) (chkF true gv n c h))=some none:=d;obtain⟨M,c2⟩:=JcU d;obtain⟨c2,c3⟩:=JcU c2;simp only[grw,grws]at T;obtain⟨r,e,D⟩:=Jq1 (own:=own) (σ:=σ) (by rw[E];exact G I M) (by rw[E];exact G U c2) (by rw[E];exact G ac c3) J L O (by omega);exact⟨r,e,D.mono (by simp only[grw,grws];omega)⟩
  |app a b loc I U=>
   have d:sqF (chkF true gv n a h) (chkF true gv n b h)=some none:=d;obtain⟨M,c2⟩:=JcU d;simp only[grw,grws]at T;obtain⟨r,e,D⟩:=Jou (own:=own) (σ:=σ) (by rw[E];exact G I M) (by rw[E];exact G U c2) J L O (by omega);exact⟨r,e,D.mono (by simp only[grw,grws];omega)⟩
  |lt m a b loc I U=>
   have d:sqF (chkF true gv n a h) (chkF true gv n b (⟨m,.int,false⟩::h))=some none:=d;obtain⟨M,c2⟩:=JcU d;simp only[grw,grws]at T;obtain⟨r,e,D⟩:=Jo7 (m:=m) (own:=own) (σ:=σ) (by rw[E];exact G I M) (by rw[E];exact G U c2) J L O (by omega);exact⟨r,e,D.mono (by simp only[grw,grws];omega)⟩
  |rc names vs y loc Z hv hy=>
   have d:grpC (fun x own=>chkF true gv n x own) names (vs++ [y]) h=some none:=d;unfold grpC at d
   split at d
   .rename_i hm;obtain⟨_,c2⟩:=Jgn d;have V:nms (grpF names (Vet names.length .int) h)=names.reverse++nms own:=by rw[Jdc (by simp),E]
    simp only[grw,Jc2,grws]at T;obtain⟨r,e,D⟩:=JpQ (own:=own) (σ:=σ) h1 h2 Z hm (fun v q=>by rw[<-V];exact G (hv v q) (c2 v (by simp[q]))) (by rw[<-V];exact G hy (c2 y (by simp))) J L O (by omega);refine⟨r,?_,D.mono (by simp only[grw,Jc2,grws];omega)⟩
    show(match(vs++ [y]).reverse with|z::ws=>recF tlN _ fuel names ws.reverse z own σ ()| []=>none)=_;simp only[Vck,Vcy,VcI,VaK,VbR,Vca];exact e
   .cases d
end
inductive OR{α β:Type}(R:α->β->Prop):Option α->Option β->Prop
 |no:OR R none none
 |so {a:α} {b:β}:R a b->OR R (some a) (some b)
theorem OR.bind{D d G E:Type}{R:D->d->Prop}{S:G->E->Prop}{a:Option D}{b:Option d}{f:D->Option G}{h:d->Option E}(I:OR R a b)(J:∀x y,R x y->OR S (f x) (h y)):OR S (a.bind f) (b.bind h):=by
 cases I with
 |no=>exact .no
 |so q=>exact J _ _ q
def OcR{d h:Type}(R:d->h->Prop):Oc d->Oc h->Prop
 | .er i,.er j=>i=j
 | .ok a,.ok b=>R a b
 |_,_=>False
section
variable (g d:Nat)
def zhI(i:Nat):Nat:=if i<g then i else i+d
def zhT:TR->TR
 | .nd k i=> .nd k (zhI g d i)
 | .int=> .int
 | .bool=> .bool
def zhK:NK->NK
 | .vr nm b=> .vr nm b
 | .ls x=> .ls (zhT g d x)
 | .pr x y=> .pr (zhT g d x) (zhT g d y)
 | .ar x y=> .ar (zhT g d x) (zhT g d y)
def zhN(n:Nd):Nd:=⟨zhK g d n.k,n.s.map (zhT g d)⟩
def zhB(b:Bd):Bd:=⟨b.name,zhT g d b.ty,b.par⟩
def zhP(e:Nat×Nat):Nat×Nat:=(zhI g d e.1,zhI g d e.2)
structure Sv(pre:St)(σ σ':St):Prop where
 hg:g<=σ.length
 len:σ'.length=σ.length+d
 at_:∀i,σ'[zhI g d i]? =(σ[i]?).map (zhN g d)
 mid:∀k,k<d->σ'[g+k]? =pre[k]?
end
section
variable {g d:Nat}{pre:St}
variable {j:Nat}
theorem JeX(h:zhI g d i=zhI g d j):i=j:=by unfold zhI at h;split at h<;>split at h<;>omega
theorem JlI(h:k<d):zhI g d i≠g+k:=by unfold zhI;split<;>omega
theorem Jqp{x y:TR}(h:zhT g d x=zhT g d y):x=y:=by
 cases x<;>cases y<;>simp only[zhT,TR.nd.injEq,reduceCtorEq]at h⊢
 exact⟨h.1,JeX h.2⟩
theorem Jf3{x y:TR}:(zhT g d x).eqb (zhT g d y)=x.eqb y:=by
 rw[Vb7,TR.eqb_iff,TR.eqb_iff];exact⟨Jqp,fun h=>by rw[h]⟩
theorem Jg4(k:NK):(zhK g d k).kd=k.kd:=by cases k<;>rfl
theorem Jcd(h:Sv g d pre σ σ'):zhI g d σ.length=σ'.length:=by
 have:=h.hg;unfold zhI;rw[Vaq (by omega),h.len]
theorem Sv.snoc(h:Sv g d pre σ σ')(x:Nd):Sv g d pre (σ++ [x]) (σ'++ [zhN g d x]):=by
 have I:=h.hg;have J:=h.len;refine⟨by simp only[Vap];omega,by simp only[Vap,VaG];omega,fun i=> ?_,fun k D=> ?_⟩
 .by_cases E:i<σ.length
  .have:zhI g d i<σ'.length:=by unfold zhI;split<;>omega
   rw[Vak E,Vak this];exact h.at_ i
  .by_cases G:i=σ.length
   .subst G;rw[Jcd h];simp
   .have:σ'.length+1<=zhI g d i:=by unfold zhI;split<;>omega
    rw[Vbq (by simp only[Vap,VaG];omega),Vbq (by simp only[Vap,VaG];omega)];rfl
 .rw[Vak (by omega)];exact h.mid k D
theorem Sv.set(h:Sv g d pre σ σ')(i:Nat)(x:Nd):Sv g d pre (σ.set i x) (σ'.set (zhI g d i) (zhN g d x)):=by
 refine⟨by simpa using h.hg,by simpa using h.len,fun j=> ?_,fun k I=> ?_⟩
 .by_cases e:i=j
  .subst e;rw[VbJ,VbJ];have E:=h.at_ i
   by_cases G:i<σ.length
   .have D:zhI g d i<σ'.length:=by
     rw[Vav G]at E;exact(Vae.1 E).1
    rw[Vat rfl,Vat rfl,Vat D,Vat G];rfl
   .have D: ¬zhI g d i<σ'.length:=by
     intro D;rw[Vbq (show σ.length<=i by omega),Vav D]at E
     cases E
    rw[Vat rfl,Vat rfl,Vaq D,Vaq G];rfl
  .rw[VaC e,VaC (fun z=>e (JeX z))];exact h.at_ j
 .rw[VaC (JlI I)];exact h.mid k I
theorem JeG{σ σ':St}(h:Sv g d pre σ σ'):∀(n:Nat) (r:TR),repF n σ' (zhT g d r)=(repF n σ r).map (zhT g d)
 |0,r=>rfl
 |n+1,.int=>rfl
 |n+1,.bool=>rfl
 |n+1,.nd k i=>by
  simp only[zhT,repF,h.at_ i]
  cases e:σ[i]? with
  |none=>rfl
  |some nd=>
   obtain⟨nk,s⟩:=nd
   cases s with
   |none=>
    simp only[VaE,zhN,Jg4,Vbc]
    split<;>rfl
   |some r=>
    simp only[VaE,zhN,Jg4]
    split
    .exact JeG h n r
    .rfl
theorem Jeo(h:Sv g d pre σ σ')(r:TR):Jap σ' (zhT g d r)=(Jap σ r).map (Veu (zhT g d)):=by
 cases r with
 |int=>rfl
 |bool=>rfl
 |nd k i=>
  simp only[zhT,Jap,h.at_ i]
  cases e:σ[i]? with
  |none=>rfl
  |some nd=>
   obtain⟨nk,s⟩:=nd
   cases s<;>cases nk<;>rfl
theorem JhB{σ σ':St}(h:Sv g d pre σ σ'):∀(n:Nat) (r:TR) (D:Int),Jc1 n σ' (zhT g d r) D=Jc1 n σ r D
 |0,r,D=>rfl
 |n+1,r,D=>by
  simp only[Jc1,JeG h]
  cases repF fuN σ r with
  |none=>rfl
  |some E=>
   simp only[VaE,Vad,Jeo h]
   cases Jap σ E with
   |none=>rfl
   |some G=>
    simp only[VaE,Vad]
    match G with
    | []=>rfl
    | [x]=>simp only[VaP,Vbb,JhB h n]
    | [x,y]=>simp only[VaP,Vbb,JhB h n]
    |x::y::z::l=>rfl
theorem Jij{r:TR}:∀{l:List TR},memT (zhT g d r) (l.map (zhT g d))=memT r l
 | []=>rfl
 |x::l=>by simp only[VaP,memT,Jf3,Jij (l:=l)]
theorem Jdn{σ σ':St}(h:Sv g d pre σ σ'):∀(n:Nat) (r:TR) (l:List TR),JaL n σ' (zhT g d r) (l.map (zhT g d))=(JaL n σ r l).map (Veu (zhT g d))
 |0,r,l=>rfl
 |n+1,r,l=>by
  simp only[JaL,JeG h]
  cases repF fuN σ r with
  |none=>rfl
  |some D=>
   simp only[VaE,Vad,Jij,Jeo h]
   by_cases E:memT D l=true
   .rw[Vat E,Vat E];rfl
   .rw[Vaq E,Vaq E]
    cases Jap σ D with
    |none=>rfl
    |some I=>
     simp only[VaE,Vad];have G:l.map (zhT g d)++ [zhT g d D]=(l++ [D]).map (zhT g d):=by simp
     match I with
     | []=>simp only[Vbb,G,VaE]
     | [x]=>simp only[VaP,Vbb,G,Jdn h n]
     | [x,y]=>
      simp only[VaP,Vbb,G,Jdn h n]
      cases JaL n σ x (l++ [D])with
      |none=>rfl
      |some l1=>simp only[VaE,Vad,Jdn h n]
     |x::y::z::l=>rfl
theorem JpU(h:Sv g d pre σ σ')(r:TR):JgN σ' (zhT g d r)=JgN σ r:=by
 cases r with
 |int=>rfl
 |bool=>rfl
 |nd k i=>
  simp only[zhT,JgN,h.at_ i]
  cases e:σ[i]? with
  |none=>rfl
  |some nd=>
   obtain⟨nk,s⟩:=nd
   cases s with
   |none=>simp only[VaE,zhN,Jg4,Vbc]
   |some r=>rfl
theorem JrB(h:Sv g d pre σ σ')(i:Nat)(r:TR):OR (Sv g d pre) (stF σ i r) (stF σ' (zhI g d i) (zhT g d r)):=by
 simp only[stF,h.at_ i]
 cases e:σ[i]? with
 |none=>exact .no
 |some nd=>
  obtain⟨nk,s⟩:=nd
  cases s with
  |some r=>exact .no
  |none=>
   simp only[VaE,zhN,Jg4,Vbc,JpU h];have:(TR.nd nk.kd (zhI g d i)).eqb (zhT g d r)=(TR.nd nk.kd i).eqb r:=Jf3 (x:= .nd nk.kd i);rw[this]
   split
   .exact .so (h.set i ⟨nk,some r⟩)
   .exact .no
theorem JnK(h:Sv g d pre σ σ')(i:Nat)(t:TR):OR (OcR (Sv g d pre)) (becF σ i t) (becF σ' (zhI g d i) (zhT g d t)):=by
 simp only[becF];have:=Jdn h fuN t [];simp only[Vbb]at this;rw[this]
 cases JaL fuN σ t []with
 |none=>exact .no
 |some l=>
  simp only[VaE,Vad];have:memT (.nd .vr (zhI g d i)) (l.map (zhT g d))=memT (.nd .vr i) l:=Jij (r:= .nd .vr i);rw[this]
  split
  .exact .so rfl
  .exact(JrB h i t).bind fun _ _ q=> .so q
theorem Jhk(r:TR):isVr (zhT g d r)=(isVr r).map (zhI g d):=by
 cases r with
 |int=>rfl
 |bool=>rfl
 |nd k i=>cases k<;>rfl
theorem JnE(x y:TR):alkF (zhT g d x) (zhT g d y)=alkF x y:=by cases x<;>cases y<;>rfl
theorem Jqz(h:Sv g d pre σ σ'){f:St->TR->TR->Option (Oc St)}(D:∀σ σ' x y,Sv g d pre σ σ'->OR (OcR (Sv g d pre)) (f σ x y) (f σ' (zhT g d x) (zhT g d y)))(x y:TR):OR (OcR (Sv g d pre)) (belF f σ x y) (belF f σ' (zhT g d x) (zhT g d y)):=by
 simp only[belF,JnE,Jeo h]
 split
 .cases Jap σ y with
  |none=>exact .no
  |some os=>
   cases Jap σ x with
   |none=>exact .no
   |some G=>
    simp only[VaE,Vad]
    match G,os with
    | [],[]=>exact .no
    | [],_::_=>exact .no
    | [a],[]=>exact .no
    | [a],[c]=>exact D σ σ' a c h
    | [a],c::e::l=>exact .no
    | [a,b],[]=>exact .no
    | [a,b],[c]=>exact .no
    | [a,b],[c,e]=>
     refine(D σ σ' a c h).bind fun o E q=> ?_
     cases o<;>cases E<;>first|exact q.elim|exact .so q|skip
     exact D _ _ b e q
    | [a,b],c::e::m::l=>exact .no
    |a::b::m::l,_=>cases os<;>exact .no
 .exact .so rfl
theorem JoI:∀(n:Nat) (σ σ':St) (x y:TR),Sv g d pre σ σ'->OR (OcR (Sv g d pre)) (eqF n σ x y) (eqF n σ' (zhT g d x) (zhT g d y))
 :=by
 intro n
 induction n with
 |zero=>intro _ _ _ _ _;exact .no
 |succ n I=>
  intro σ σ' x y h;simp only[eqF,JeG h]
  cases repF fuN σ x with
  |none=>exact .no
  |some E=>
   cases repF fuN σ y with
   |none=>exact .no
   |some D=>
    simp only[VaE,Vad,Jf3,Jhk]
    split
    .exact .so h
    .cases L:isVr E with
     |some i=>
      simp only[VaE];have q:=JnK h i D;exact q
     |none=>
      cases J:isVr D with
      |some j=>
       simp only[VaE,Vbc];have q:=JnK h j E;exact q
      |none=>
       simp only[Vbc];refine(Jqz h (fun σ σ' x y q=>I σ σ' x y q) E D).bind fun o G q=> ?_
       cases o<;>cases G<;>first|exact q.elim|exact .so q|skip
       cases E with
       |int=>exact .no
       |bool=>exact .no
       |nd k i=>exact(JrB q i D).bind fun _ _ q=> .so q
theorem Jpi(h:Sv g d pre σ σ')(r:TR):Sv g d pre (JdZ σ r) (JdZ σ' (zhT g d r)):=by
 cases r with
 |int=>exact h
 |bool=>exact h
 |nd k i=>
  cases k<;>first|exact h|skip
  simp only[zhT,JdZ,h.at_ i]
  cases e:σ[i]? with
  |none=>exact h
  |some nd=>
   obtain⟨nk,s⟩:=nd
   cases nk<;>cases s<;>first|exact h|skip
   exact h.set i ⟨.vr _ true,none⟩
theorem Jn0:∀(n:Nat) (σ σ':St) (r:TR) (bd:List TR),Sv g d pre σ σ'->OR (Sv g d pre) (genF n σ r bd) (genF n σ' (zhT g d r) (bd.map (zhT g d)))
 :=by
 intro n
 induction n with
 |zero=>intro _ _ _ _ _;exact .no
 |succ n D=>
  intro σ σ' r bd h;simp only[genF,JeG h]
  cases repF fuN σ r with
  |none=>exact .no
  |some E=>
   simp only[VaE,Vad,Jij,Jhk,Jeo h]
   split
   .exact .so h
   .cases I:isVr E with
    |some i=>
     simp only[VaE];exact .so (Jpi h E)
    |none=>
     simp only[Vbc]
     cases Jap σ E with
     |none=>exact .no
     |some G=>
      simp only[VaE,Vad]
      match G with
      | []=>exact .so h
      | [x]=>exact D σ σ' x bd h
      | [x,y]=>exact(D σ σ' x bd h).bind fun _ _ q=>D _ _ y bd q
      |x::y::z::l=>exact .no
end
section
variable {g d:Nat}{pre:St}
theorem Jhq{i:Nat}:∀{m:List (Nat×Nat)},Jal (zhI g d i) (m.map (zhP g d))=(Jal i m).map (zhI g d)
 | []=>rfl
 |e::m=>by
  simp only[VaP,Jal,zhP]
  by_cases h:i=e.1
  .subst h;simp
  .have:zhI g d i≠zhI g d e.1:=fun z=>h (JeX z)
   rw[Vaq (by simpa using this),Vaq (by simpa using h)];exact Jhq (m:=m)
def InS(g d:Nat)(pre:St)(p q:TR×St×List (Nat×Nat)):Prop:=q.1=zhT g d p.1/\Sv g d pre p.2.1 q.2.1/\q.2.2=p.2.2.map (zhP g d)
theorem JoZ:∀(n:Nat) (σ σ':St) (r:TR) (m:List (Nat×Nat)),Sv g d pre σ σ'->OR (InS g d pre) (Ja1 n σ r m) (Ja1 n σ' (zhT g d r) (m.map (zhP g d))):=by
 intro n
 induction n with
 |zero=>intro _ _ _ _ _;exact .no
 |succ n I=>
  intro σ σ' r m h;simp only[Ja1,JeG h]
  cases repF fuN σ r with
  |none=>exact .no
  |some T=>
   simp only[VaE,Vad]
   have two:∀(x y:TR) (mk:TR->TR->NK) (kd:Kd),(∀a b,zhK g d (mk a b)=mk (zhT g d a) (zhT g d b))->OR (InS g d pre) ((Ja1 n σ x m).bind fun p=>(Ja1 n p.2.1 y p.2.2).bind fun q=>some (TR.nd kd q.2.1.length,q.2.1++ [⟨mk p.1 q.1,none⟩],q.2.2)) ((Ja1 n σ' (zhT g d x) (m.map (zhP g d))).bind fun p=>(Ja1 n p.2.1 (zhT g d y) p.2.2).bind fun q=>some (TR.nd kd q.2.1.length,q.2.1++ [⟨mk p.1 q.1,none⟩],q.2.2)):=by
    intro x y mk kd O;refine(I σ σ' x m h).bind fun p p' ⟨E,D,G⟩=> ?_
    rw[G];refine(I _ _ y _ D).bind fun z z' ⟨M,J,L⟩=> .so ⟨?_,?_,L⟩
    .simp only[zhT,Jcd J]
    .have:=J.snoc ⟨mk p.1 z.1,none⟩;simp only[zhN,O,Vbc]at this;rw[E,M];exact this
   cases T with
   |int=>exact .so ⟨rfl,h,rfl⟩
   |bool=>exact .so ⟨rfl,h,rfl⟩
   |nd k i=>
    simp only[zhT,h.at_ i]
    cases e:σ[i]? with
    |none=>exact .no
    |some nd=>
     obtain⟨nk,s⟩:=nd
     cases s with
     |some r=>
      cases nk with
      |vr nm b=>cases b<;>exact .no
      |_=>exact .no
     |none=>
      cases nk with
      |vr nm b=>
       cases b with
       |false=>exact .so ⟨rfl,h,rfl⟩
       |true=>
        simp only[VaE,zhN,zhK,Vbc,Jhq]
        cases Jal i m with
        |some j=>exact .so ⟨rfl,h,rfl⟩
        |none=>
         refine .so ⟨?_,h.snoc newV,?_⟩
         .simp only[zhT,Jcd h]
         .simp only[Vbu,VaP,Vbb,zhP,Jcd h]
      |ls x=>
       simp only[VaE,zhN,zhK,Vbc];refine(I σ σ' x m h).bind fun p p' ⟨E,D,G⟩=> .so ⟨?_,?_,G⟩
       .simp only[zhT,Jcd D]
       .have:=D.snoc ⟨.ls p.1,none⟩;simp only[zhN,zhK,Vbc]at this;rw[E];exact this
      |pr x y=>
       simp only[VaE,zhN,zhK,Vbc];exact two x y .pr .pr fun _ _=>rfl
      |ar x y=>
       simp only[VaE,zhN,zhK,Vbc];exact two x y .ar .ar fun _ _=>rfl
theorem JpB(v w:Nat)(m:List (Nat×Nat)):Jhu (zhI g d v) (zhI g d w) (m.map (zhP g d))=((Jhu v w m).1,(Jhu v w m).2.map (zhP g d)):=by
 simp only[Jhu,Jhq]
 cases Jal v m with
 |none=>
  cases Jal w m with
  |none=>simp[zhP]
  |some y=>rfl
 |some x=>
  simp only[VaE]
  by_cases h:x=w
  .subst h;simp
  .have:zhI g d x≠zhI g d w:=fun z=>h (JeX z)
   simp only[VbL.2 this,VbL.2 h]
theorem JoS(h:Sv g d pre σ σ')(i:Nat):genB σ' (zhI g d i)=genB σ i:=by
 simp only[genB,h.at_ i]
 cases e:σ[i]? with
 |none=>rfl
 |some nd=>
  obtain⟨nk,s⟩:=nd
  cases nk<;>cases s<;>rfl
theorem JpZ(h:Sv g d pre σ σ'):∀(n:Nat) (x y:TR) (m:List (Nat×Nat)),Jch n σ' (zhT g d x) (zhT g d y) (m.map (zhP g d))=(Jch n σ x y m).map fun p=>(p.1,p.2.map (zhP g d)):=by
 intro n
 induction n with
 |zero=>intro _ _ _;rfl
 |succ n D=>
  intro x y m;simp only[Jch,JeG h]
  cases repF fuN σ x with
  |none=>rfl
  |some G=>
   cases repF fuN σ y with
   |none=>rfl
   |some E=>
    simp only[VaE,Vad,Jf3,Jhk,JnE,Jeo h]
    split
    .rfl
    .cases O:isVr G with
     |some i=>
      simp only[VaE]
      cases M:isVr E with
      |none=>rfl
      |some j=>
       simp only[VaE,JoS h]
       cases genB σ i with
       |none=>rfl
       |some L=>
        simp only[Vad]
        cases L with
        |false=>rfl
        |true=>
         cases genB σ j with
         |none=>rfl
         |some I=>
          cases I with
          |false=>rfl
          |true=>simp only[Vad,Va0,JpB,VaE]
     |none=>
      simp only[Vbc]
      split
      .cases Jap σ E with
       |none=>rfl
       |some os=>
        cases Jap σ G with
        |none=>rfl
        |some J=>
         simp only[VaE,Vad]
         match J,os with
         | [],[]=>rfl
         | [],_::_=>rfl
         | [a],[]=>rfl
         | [a],[c]=>exact D a c m
         | [a],c::e::l=>rfl
         | [a,b],[]=>rfl
         | [a,b],[c]=>rfl
         | [a,b],[c,e]=>
          simp only[VaP,Vbb,D a c m]
          cases Jch n σ a c m with
          |none=>rfl
          |some p=>
           simp only[VaE,Vad]
           split
           .exact D b e p.2
           .rfl
         | [a,b],c::e::m::l=>rfl
         |a::b::m::l,_=>cases os<;>rfl
      .rfl
theorem Jm7(h:Sv g d pre σ σ')(n:Nat)(a c:TR):Jch n σ' (zhT g d a) (zhT g d c) []=(Jch n σ a c []).map fun p=>(p.1,p.2.map (zhP g d)):=JpZ h n a c []
variable {l:List TR}
theorem Jfi{a c:TR}{k:List TR}:Jba σ (a::l) (c::k)=(Jch fuN σ a c []).bind fun p=>if p.1 then Jba σ l k else some false:=by rw[Jba]
variable {P:Option (Bool×List (Nat×Nat))}{F:List (Nat×Nat)->List (Nat×Nat)}{u:Option Bool}
theorem Jjf:((P.map fun p=>(p.1,F p.2)).bind fun p=>if p.1 then u else some false)=P.bind fun p=>if p.1 then u else some false:=by cases P<;>rfl
theorem Jm9(h:Sv g d pre σ σ'):∀(l k:List TR),Jba σ' (l.map (zhT g d)) (k.map (zhT g d))=Jba σ l k:=by
 have key:=Jm7 h fuN;intro l
 induction l with
 |nil=>intro k;simp only[Vbb,Jba]
 |cons a l D=>
  intro k
  cases k with
  |nil=>simp only[Vbb,VaP,Jba]
  |cons c k=>
   rw[VaP,VaP,Jfi,Jfi,key,D k];exact Jjf (F:=Veu (zhP g d))
def zhG(g d:Nat)(e:BA×TR):BA×TR:=(e.1,zhT g d e.2)
theorem Jh4{n:BA}:∀{gv:Gv},Jcq n (gv.map (zhG g d))=(Jcq n gv).map (zhT g d)
 | []=>rfl
 |e::l=>by
  simp only[VaP,Jcq,zhG]
  split
  .rfl
  .exact Jh4 (gv:=l)
theorem JjT{n:BA}{gv:Gv}:∀{own:List Bd},JaJ n (gv.map (zhG g d)) (own.map (zhB g d))=(JaJ n gv own).map (zhT g d)
 | []=>Jh4
 |e::l=>by
  simp only[VaP,JaJ,zhB]
  split
  .rfl
  .exact JjT (own:=l)
theorem Jd2{σ σ':St}(h:Sv g d pre σ σ'):∀(own:List Bd) (l:List TR),Jbh σ' (own.map (zhB g d)) (l.map (zhT g d))=(Jbh σ own l).map (Veu (zhT g d))
 | [],l=>rfl
 |b::D,l=>by
  simp only[VaP,Jbh,zhB,Jdn h]
  split
  .cases JaL fuN σ b.ty l with
   |none=>rfl
   |some l1=>
    simp only[VaE,Vad];exact Jd2 h D l1
  .exact Jd2 h D l
theorem JnM(h:Sv g d pre σ σ')(r:TR):bigF σ' (zhT g d r)=bigF σ r:=by simp only[bigF,JhB h]
theorem Jj3:∀(D:List BA) (ts:List TR) (h:List Bd),grpF D (ts.map (zhT g d)) (h.map (zhB g d))=(grpF D ts h).map (zhB g d)
 | [],ts,h=>by simp only[grpF]
 |n::D,[],h=>by simp only[grpF,Vbb]
 |n::D,t::ts,h=>by
  simp only[VaP,grpF];exact Jj3 D ts (⟨n,t,false⟩::h)
theorem Jj2(bd:List TR):∀(ts:List TR) (σ σ':St),Sv g d pre σ σ'->OR (Sv g d pre) (JdD σ bd ts) (JdD σ' (bd.map (zhT g d)) (ts.map (zhT g d)))
 | [],σ,σ',h=> .so h
 |t::ts,σ,σ',h=>(Jn0 fuN σ σ' t bd h).bind fun _ _ q=>Jj2 bd ts _ _ q
theorem JnG:∀(k:Nat) (σ σ':St),Sv g d pre σ σ'->(anyF k σ').1=(anyF k σ).1.map (zhT g d)/\Sv g d pre (anyF k σ).2 (anyF k σ').2
 |0,σ,σ',h=>⟨rfl,h⟩
 |k+1,σ,σ',h=>by
  obtain⟨E,D⟩:=JnG k _ _ (h.snoc ⟨.vr ⟨#[]⟩ true,none⟩);refine⟨?_,D⟩
  simp only[anyF,VaP,zhT,Jcd h];exact VbH _ E
def TyS(g d:Nat)(pre:St)(a b:Oc (TR×St)×Unit):Prop:=OcR (fun p q=>q.1=zhT g d p.1/\Sv g d pre p.2 q.2) a.1 b.1
def TsS(g d:Nat)(pre:St)(a b:Oc (List TR×St)×Unit):Prop:=OcR (fun p q=>q.1=p.1.map (zhT g d)/\Sv g d pre p.2 q.2) a.1 b.1
def FS(g d:Nat)(pre:St)(f f':TyF):Prop:=∀x own σ σ',WX x->Sv g d pre σ σ'->OR (TyS g d pre) (f x own σ ()) (f' x (own.map (zhB g d)) σ' ())
theorem TyS.case{a b:Oc (TR×St)×Unit}(h:TyS g d pre a b):(∃j,a=(.er j,())/\b=(.er j,()))\/∃p q,a=(.ok p,())/\b=(.ok q,())/\q.1=zhT g d p.1/\Sv g d pre p.2 q.2:=by
 obtain⟨a,⟨⟩⟩:=a;obtain⟨b,⟨⟩⟩:=b
 cases a with
 |er i=>
  cases b with
  |er j=>exact .inl ⟨i,rfl,by rw[show i=j from h]⟩
  |ok q=>exact h.elim
 |ok p=>
  cases b with
  |er j=>exact h.elim
  |ok q=>exact .inr ⟨p,q,rfl,rfl,h⟩
theorem TsS.case{a b:Oc (List TR×St)×Unit}(h:TsS g d pre a b):(∃j,a=(.er j,())/\b=(.er j,()))\/∃p q,a=(.ok p,())/\b=(.ok q,())/\q.1=p.1.map (zhT g d)/\Sv g d pre p.2 q.2:=by
 obtain⟨a,⟨⟩⟩:=a;obtain⟨b,⟨⟩⟩:=b
 cases a with
 |er i=>
  cases b with
  |er j=>exact .inl ⟨i,rfl,by rw[show i=j from h]⟩
  |ok q=>exact h.elim
 |ok p=>
  cases b with
  |er j=>exact h.elim
  |ok q=>exact .inr ⟨p,q,rfl,rfl,h⟩
variable {gv:Gv}{fuel:Nat}
theorem Jmq(m:BA)(own:List Bd)(h:Sv g d pre σ σ'):OR (TyS g d pre) ((Jc0 gv m own σ).bind fun r=>some (r,())) ((Jc0 (gv.map (zhG g d)) m (own.map (zhB g d)) σ').bind fun r=>some (r,())):=by
 simp only[Jc0,JjT]
 cases JaJ m gv own with
 |none=>exact .no
 |some s=>
  simp only[VaE,Vad,JnM h]
  cases bigF σ s with
  |none=>exact .no
  |some b=>
   cases b with
   |true=>exact .so rfl
   |false=>
    simp only[Vad];have D:=JoZ fuN σ σ' s [] h;rw[Vbb]at D;generalize Ja1 fuN σ s []=P at D⊢;generalize Ja1 fuN σ' (zhT g d s) []=Q at D⊢
    cases D with
    |no=>exact .no
    |so q=>exact .so ⟨q.1,q.2.1⟩
variable {f f':TyF}
theorem JoP(I:FS g d pre f f')(m:BA){b:X}(G:WX b)(own:List Bd)(h:Sv g d pre σ σ'):OR (TyS g d pre) (funF f m b own σ ()) (funF f' m b (own.map (zhB g d)) σ' ()):=by
 simp only[funF];have:=I b (⟨m,.nd .vr σ.length,true⟩::own) _ _ G (h.snoc newV);simp only[VaP,zhB,zhT,Jcd h]at this;refine this.bind fun r J q=> ?_
 rcases q.case with⟨j,rfl,rfl⟩|⟨p,L,rfl,rfl,E,D⟩
 .exact .so rfl
 .refine .so ⟨?_,?_⟩
  .simp only[zhT,Jcd D]
  .have:=D.snoc ⟨.ar (.nd .vr σ.length) p.1,none⟩;simp only[zhN,zhK,zhT,Jcd h,Vbc]at this;rw[E];exact this
variable {x y z:X}
theorem Jq0(I:FS g d pre f f')(wx:WX x)(L:WX y)(T:WX z)(own:List Bd)(h:Sv g d pre σ σ'):OR (TyS g d pre) (ifF f x y z own σ ()) (ifF f' x y z (own.map (zhB g d)) σ' ()):=by
 simp only[ifF];refine(I x own _ _ wx h).bind fun r J q=> ?_
 rcases q.case with⟨j,rfl,rfl⟩|⟨p,O,rfl,rfl,E,G⟩
 .exact .so rfl
 .simp only[E];refine(JoI fuN _ _ p.1 .bool G).bind fun o D q=> ?_
  cases o<;>cases D<;>first|exact q.elim|exact .so q|skip
  refine(I y own _ _ L q).bind fun r J q=> ?_
  rcases q.case with⟨j,rfl,rfl⟩|⟨p,O,rfl,rfl,E,G⟩
  .exact .so rfl
  .refine(I z own _ _ T G).bind fun r J q=> ?_
   rcases q.case with⟨j,rfl,rfl⟩|⟨k,V,rfl,rfl,M,U⟩
   .exact .so rfl
   .simp only[E,M];refine(JoI fuN _ _ p.1 k.1 U).bind fun o D q=> ?_
    cases o<;>cases D<;>first|exact q.elim|exact .so q|skip
    exact .so ⟨rfl,q⟩
theorem Jo6(G:FS g d pre f f')(m:BA)(wx:WX x)(J:WX y)(own:List Bd)(h:Sv g d pre σ σ'):OR (TyS g d pre) (letF f m x y own σ ()) (letF f' m x y (own.map (zhB g d)) σ' ()):=by
 simp only[letF];refine(G x own _ _ wx h).bind fun r L q=> ?_
 rcases q.case with⟨j,rfl,rfl⟩|⟨p,M,rfl,rfl,I,D⟩
 .exact .so rfl
 .have E:=Jd2 D own [];simp only[Vbb]at E;simp only[E,I]
  cases Jbh p.2 own []with
  |none=>exact .no
  |some bd=>
   simp only[VaE,Vad];refine(Jn0 fuN _ _ p.1 bd D).bind fun τ O q=> ?_
   exact G y (⟨m,p.1,false⟩::own) _ _ J q
theorem Jot(J:FS g d pre f f')(wx:WX x)(T:WX y)(own:List Bd)(h:Sv g d pre σ σ'):OR (TyS g d pre) (appF f x y own σ ()) (appF f' x y (own.map (zhB g d)) σ' ()):=by
 simp only[appF];refine(J x own _ _ wx h).bind fun r L q=> ?_
 rcases q.case with⟨j,rfl,rfl⟩|⟨p,V,rfl,rfl,O,D⟩
 .exact .so rfl
 .refine(J y own _ _ T (D.snoc newV)).bind fun r L q=> ?_
  rcases q.case with⟨j,rfl,rfl⟩|⟨k,W,rfl,rfl,U,G⟩
  .exact .so rfl
  .have E:=G.snoc ⟨.ar k.1 (.nd .vr p.2.length),none⟩;simp only[zhN,zhK,zhT,Jcd D,Vbc]at E;simp only[O,U];have I:=JoI fuN _ _ p.1 (.nd .ar k.2.length) E;simp only[zhT,Jcd G]at I;refine I.bind fun o M q=> ?_
   cases o<;>cases M<;>first|exact q.elim|exact .so q|skip
   exact .so ⟨by simp only[zhT,Jcd D],q⟩
theorem Jqa(E:FS g d pre f f')(wx:WX x)(J:WX y)(own:List Bd)(h:Sv g d pre σ σ'):OR (TyS g d pre) (twoF f x y own σ ()) (twoF f' x y (own.map (zhB g d)) σ' ()):=by
 simp only[twoF];refine(E x own _ _ wx h).bind fun r G q=> ?_
 rcases q.case with⟨j,rfl,rfl⟩|⟨p,O,rfl,rfl,I,L⟩
 .exact .so rfl
 .refine(E y own _ _ J L).bind fun r G q=> ?_
  rcases q.case with⟨j,rfl,rfl⟩|⟨k,T,rfl,rfl,M,D⟩
  .exact .so rfl
  .refine .so ⟨by simp only[zhT,Jcd D],?_⟩
   have:=D.snoc ⟨.pr p.1 k.1,none⟩;simp only[zhN,zhK,Vbc]at this;rw[I,M];exact this
theorem JiG{f f':TyF}(E:FS g d pre f f')(own:List Bd):∀(vs:List X) {σ σ':St},(∀v,v∈vs->WX v)->Sv g d pre σ σ'->OR (TsS g d pre) (Jbg (fun x=>f x own) vs σ ()) (Jbg (fun x=>f' x (own.map (zhB g d))) vs σ' ())
 | [],σ,σ',_,h=> .so ⟨rfl,h⟩
 |x::xs,σ,σ',D,h=>by
  have wx:=D x (by simp);simp only[Jbg];refine(E x own _ _ wx h).bind fun r G q=> ?_
  rcases q.case with⟨j,rfl,rfl⟩|⟨p,O,rfl,rfl,I,J⟩
  .exact .so rfl
  .refine(JiG E own xs (fun v q=>D v (by simp[q])) J).bind fun r G q=> ?_
   rcases q.case with⟨j,rfl,rfl⟩|⟨k,T,rfl,rfl,L,M⟩
   .exact .so rfl
   .exact .so ⟨by simp only[I,L,VaP],M⟩
theorem Jk6{f f':TyF}(I:FS g d pre f f')(names:List BA){vs:List X}(wv:∀v,v∈vs->WX v)(own:List Bd):∀(k D:Nat) (ahead:List TR) {σ σ':St},Sv g d pre σ σ'->OR (TsS g d pre) (rndF tlN f names vs own fuel k D ahead σ ()) (rndF tlN f' names vs (own.map (zhB g d)) fuel k D (ahead.map (zhT g d)) σ' ())
 |0,_,_,_,_,_=> .no
 |k+1,D,ahead,σ,σ',h=>by
  simp only[rndF,Jj3];refine(JiG I (grpF names ahead own) vs wv h).bind fun r L q=> ?_
  rcases q.case with⟨j,rfl,rfl⟩|⟨p,M,rfl,rfl,J,E⟩
  .exact .so rfl
  .have G:=Jd2 E own [];simp only[Vbb]at G;simp only[G,J]
   cases Jbh p.2 own []with
   |none=>exact .no
   |some bd=>
    simp only[VaE,Vad];refine(Jj2 bd p.1 _ _ E).bind fun τ O q=> ?_
    simp only[tlN,Vad,Jm9 q]
    cases Jba τ ahead p.1 with
    |none=>exact .no
    |some b=>
     simp only[Vad]
     split
     .exact .so ⟨rfl,q⟩
     .split
      .exact .so rfl
      .exact Jk6 I names wv own k (D+1) p.1 q
variable {vs:List X}
theorem JpP(G:FS g d pre f f')(names:List BA)(wv:∀v,v∈vs->WX v)(I:WX y)(own:List Bd)(h:Sv g d pre σ σ'):OR (TyS g d pre) (recF tlN f fuel names vs y own σ ()) (recF tlN f' fuel names vs y (own.map (zhB g d)) σ' ()):=by
 simp only[recF]
 split
 .obtain⟨D,E⟩:=JnG names.length σ σ' h;rw[D];refine(Jk6 G names wv own fuel 1 _ E).bind fun r J q=> ?_
  rcases q.case with⟨j,rfl,rfl⟩|⟨p,L,rfl,rfl,D,E⟩
  .exact .so rfl
  .simp only[D,Jj3];exact G y _ _ _ I E
 .exact .no
theorem Jo2(G:FS g d pre f f')(I:WX x)(own:List Bd)(h:Sv g d pre σ σ'):OR (TyS g d pre) (kndF tlN true gv fuel f x own σ ()) (kndF tlN true (gv.map (zhG g d)) fuel f' x (own.map (zhB g d)) σ' ()):=by
 cases I with
 |nam m loc=>exact Jmq m own h
 |num m loc=>exact .so ⟨rfl,h⟩
 |fn m a loc D=>exact JoP G m D own h
 |pair a b loc D E=>exact Jqa G D E own h
 |ite a b c loc D E L=>exact Jq0 G D E L own h
 |app a b loc D E=>exact Jot G D E own h
 |lt m a b loc D E=>exact Jo6 G m D E own h
 |rc names vs y loc O J M=>
  have e:∀(gv:Gv) (f:TyF) own σ,kndF tlN true gv fuel f (.mk ⟨#[114,101,99]⟩ names (vs++ [y]) loc) own σ ()=recF tlN f fuel names vs y own σ ():=fun gv f own σ=>by
   show(match(vs++ [y]).reverse with|z::ws=>recF tlN f fuel names ws.reverse z own σ ()| []=>none)=_;simp only[Vck,Vcy,VcI,VaK,VbR,Vca]
  rw[e,e];exact JpP G names J M own h
theorem Jqg:∀(n:Nat),FS g d pre (fun x own σ o=>typF tlN true gv fuel n x own σ o) (fun x own σ o=>typF tlN true (gv.map (zhG g d)) fuel n x own σ o):=by
 intro n
 induction n with
 |zero=>intro _ _ _ _ _ _;exact .no
 |succ n I=>
  intro x own σ σ' G h;simp only[typF];refine(Jo2 I G own h).bind fun r J q=> ?_
  rcases q.case with⟨j,rfl,rfl⟩|⟨p,L,rfl,rfl,D,E⟩
  .exact .so rfl
  .simp only[D,JnM E]
   cases bigF p.2 p.1 with
   |none=>exact .no
   |some b=>
    cases b with
    |true=>exact .so rfl
    |false=>exact .so ⟨D,E⟩
end
mutual
def er:X->X
 | .mk op names kids _=> .mk op names (ers kids) 0
def ers:List X->List X
 | []=> []
 |x::xs=>er x::ers xs
end
theorem Jb2:∀xs d:List X,ers (xs++d)=ers xs++ers d
 | [],d=>by simp[ers]
 |x::xs,d=>by simp only[VaV,ers,Jb2 xs d]
section
variable {gv:Gv}{fuel:Nat}
theorem JlB{f:TyF}{own:List Bd}:∀(vs:List X),(∀v,v∈vs->∀own σ,f (er v) own σ ()=f v own σ ())->∀σ,Jbg (fun x=>f x own) (ers vs) σ ()=Jbg (fun x=>f x own) vs σ ()
 | [],_,σ=>rfl
 |v::vs,h,σ=>by
  simp only[ers,Jbg,h v (by simp)];congr 1
  funext r;obtain⟨r,⟨⟩⟩:=r
  cases r with
  |er j=>rfl
  |ok p=>simp only[JlB vs (fun v q=>h v (by simp[q]))]
theorem Joj{f:TyF}{names:List BA}{vs:List X}{own:List Bd}(h:∀v,v∈vs->∀own σ,f (er v) own σ ()=f v own σ ()):∀(k d:Nat) (ahead:List TR) (σ:St),rndF tlN f names (ers vs) own fuel k d ahead σ ()=rndF tlN f names vs own fuel k d ahead σ ()
 |0,_,_,_=>rfl
 |k+1,d,ahead,σ=>by
  have D:=Joj (names:=names) (own:=own) h k;simp only[rndF,JlB vs h,D]
theorem Jop:∀(n:Nat) {x:X},WX x->∀own σ,typF tlN true gv fuel n (er x) own σ ()=typF tlN true gv fuel n x own σ ():=by
 intro n
 induction n with
 |zero=>intro x _ own σ;rfl
 |succ n d=>
  intro x E own σ;simp only[typF]
  have key:kndF tlN true gv fuel (fun x own σ o=>typF tlN true gv fuel n x own σ o) (er x) own σ ()=kndF tlN true gv fuel (fun x own σ o=>typF tlN true gv fuel n x own σ o) x own σ ():=by
   cases E with
   |nam m loc=>rfl
   |num m loc=>rfl
   |fn m a loc h=>
    show funF _ m (er a) own σ ()=funF _ m a own σ ();simp only[funF,d h]
   |pair a b loc h D=>
    show twoF _ (er a) (er b) own σ ()=twoF _ a b own σ ();simp only[twoF,d h,d D]
   |ite a b c loc h D J=>
    show ifF _ (er a) (er b) (er c) own σ ()=ifF _ a b c own σ ();simp only[ifF,d h,d D,d J]
   |app a b loc h D=>
    show appF _ (er a) (er b) own σ ()=appF _ a b own σ ();simp only[appF,d h,d D]
   |lt m a b loc h D=>
    show letF _ m (er a) (er b) own σ ()=letF _ m a b own σ ();simp only[letF,d h,d D]
   |rc names vs y loc L G I=>
    have e:∀(f:TyF) own σ loc vs y,kndF tlN true gv fuel f (.mk ⟨#[114,101,99]⟩ names (vs++ [y]) loc) own σ ()=recF tlN f fuel names vs y own σ ():=fun f own σ loc vs y=>by
     show(match(vs++ [y]).reverse with|z::ws=>recF tlN f fuel names ws.reverse z own σ ()| []=>none)=_;simp only[Vck,Vcy,VcI,VaK,VbR,Vca]
    simp only[er,Jb2,ers];rw[e,e];simp only[recF,d I];rw[Joj fun v q own σ=>d (G v q) own σ]
  rw[key]
end
def ckb(a:Option (Option (Nat×BA))):Option (Option BA):=a.map fun r=>r.map Prod.snd
variable {c e:Option (Option (Nat×BA))}
theorem Je5(d:ckb a=ckb c)(h:ckb b=ckb e):ckb (sqF a b)=ckb (sqF c e):=by
 cases a with
 |none=>
  cases c with
  |none=>rfl
  |some c=>simp[ckb]at d
 |some a=>
  cases c with
  |none=>simp[ckb]at d
  |some c=>
   cases a with
   |none=>
    cases c with
    |none=>exact h
    |some c=>simp[ckb]at d
   |some a=>
    cases c with
    |none=>simp[ckb]at d
    |some c=>exact d
theorem Jd4(h:ckb a=ckb b):a=some none<->b=some none:=by
 cases a with
 |none=>
  cases b with
  |none=>simp
  |some c=>simp[ckb]at h
 |some a=>
  cases b with
  |none=>simp[ckb]at h
  |some c=>
   cases a with
   |none=>
    cases c with
    |none=>simp
    |some c=>simp[ckb]at h
   |some a=>
    cases c with
    |none=>simp[ckb]at h
    |some c=>simp
theorem Jh8{f:X->Option (Option (Nat×BA))}:∀{l:List X} {r d:Option (Option (Nat×BA))},(∀x,x∈l->ckb (f (er x))=ckb (f x))->ckb r=ckb d->ckb ((ers l).foldl (fun r x=>sqF r (f x)) r)=ckb (l.foldl (fun r x=>sqF r (f x)) d)
 | [],r,d,_,h=>h
 |x::l,r,d,D,h=>by
  simp only[ers,VbO];exact Jh8 (l:=l) (fun y q=>D y (by simp[q])) (Je5 h (D x (by simp)))
theorem JnN{gv:Gv}:∀(n:Nat) {x:X},WX x->∀own,ckb (chkF true gv n (er x) own)=ckb (chkF true gv n x own):=by
 intro n
 induction n with
 |zero=>intro x _ own;cases x;rfl
 |succ n d=>
  intro x E own
  cases E with
  |nam m loc=>
   show ckb (match JaJ m gv own with|some _=>some none|none=>if m.size<=1000 then some (some (0,m))else none)=ckb (match JaJ m gv own with|some _=>some none|none=>if m.size<=1000 then some (some (loc,m))else none)
   cases JaJ m gv own with
   |some _=>rfl
   |none=>
    simp only
    split<;>rfl
  |num m loc=>rfl
  |fn m a loc h=>exact d h (⟨m,.int,false⟩::own)
  |pair a b loc h D=>exact Je5 (d h own) (d D own)
  |ite a b c loc h D I=>exact Je5 (d h own) (Je5 (d D own) (d I own))
  |app a b loc h D=>exact Je5 (d h own) (d D own)
  |lt m a b loc h D=>exact Je5 (d h own) (d D (⟨m,.int,false⟩::own))
  |rc names vs y loc L G J=>
   show ckb (grpC (fun x own=>chkF true gv n x own) names (ers (vs++ [y])) own)=ckb (grpC (fun x own=>chkF true gv n x own) names (vs++ [y]) own);unfold grpC
   split
   .refine Jh8 (fun x q=> ?_) rfl
    rcases Vbd.1 q with q|q
    .exact d (G x q) _
    .rw[Va4]at q;subst q;exact d J _
   .rfl
end Go.Proofs.YtleenphlgbklmaaGreatDoor
