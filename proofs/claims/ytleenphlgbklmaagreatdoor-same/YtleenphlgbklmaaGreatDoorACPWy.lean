import Derived.Test.YtleenphlgbklmaaGreatDoorACSmM
set_option linter.unusedVariables false
set_option linter.unusedSimpArgs false
set_option maxRecDepth 100000
set_option maxHeartbeats 8000000
namespace Go.Proofs.YtleenphlgbklmaaGreatDoor
open Go.RowKit
open Lib renaming strCells → Vet, strCells_eq → Veu, byteCells → Vev, strCells_length → Vew
open Instr renaming typeAssert → Vex
open Tryz
variable {names:List BA}{n i l1 l2 B b:Nat}{z nm last:BA}{g:Bool}{H:TypeId}{w:World}{bs:List Value}{P:Nat->Prop}{v:Value}
def X.kids:X->List X
 | .mk _ _ kids _=>kids
section
variable {gv:Gv}{fuel:Nat}
theorem Jg2{f f':TyF}{own:List Bd}:∀(vs:List X),(∀v,v∈vs->∀own σ,f v own σ ()=f' v own σ ())->∀σ,Jbg (fun x=>f x own) vs σ ()=Jbg (fun x=>f' x own) vs σ ()
 | [],_,σ=>rfl
 |v::vs,h,σ=>by
  simp only[Jbg,h v (by simp)];congr 1
  funext r;obtain⟨r,⟨⟩⟩:=r
  cases r with
  |er j=>rfl
  |ok p=>simp only[Jg2 vs (fun v q=>h v (by simp[q]))]
theorem Jiu{f f':TyF}{names:List BA}{vs:List X}{own:List Bd}(h:∀v,v∈vs->∀own σ,f v own σ ()=f' v own σ ()):∀(k d:Nat) (ahead:List TR) (σ:St),rndF tlN f names vs own fuel k d ahead σ ()=rndF tlN f' names vs own fuel k d ahead σ ()
 |0,_,_,_=>rfl
 |k+1,d,ahead,σ=>by
  have D:=Jiu (names:=names) (own:=own) h k;simp only[rndF,Jg2 vs h,D]
variable {f:TyF}{vs:List X}{y:X}{loc:Nat}{own:List Bd}{σ:St}
theorem Jkd:kndF tlN true gv fuel f (.mk ⟨#[114,101,99]⟩ names (vs++ [y]) loc) own σ ()=recF tlN f fuel names vs y own σ ():=by
 show(match(vs++ [y]).reverse with|z::ws=>recF tlN f fuel names ws.reverse z own σ ()| []=>none)=_;simp only[Vck,Vcy,VcI,VaK,VbR,Vca]
variable {x:X}
theorem Jmb{f':TyF}(J:WX x)(h:∀k,k∈x.kids->∀own σ,f k own σ ()=f' k own σ ())(own:List Bd)(σ:St):kndF tlN true gv fuel f x own σ ()=kndF tlN true gv fuel f' x own σ ():=by
 cases J with
 |nam m loc=>rfl
 |num m loc=>rfl
 |fn m a loc E=>
  have d:=h a (by simp[X.kids]);show funF f m a own σ ()=funF f' m a own σ ();simp only[funF,d]
 |pair a b loc E G=>
  have d:=h a (by simp[X.kids]);have D:=h b (by simp[X.kids]);show twoF f a b own σ ()=twoF f' a b own σ ();simp only[twoF,d,D]
 |ite a b c loc E G T=>
  have d:=h a (by simp[X.kids]);have D:=h b (by simp[X.kids]);have I:=h c (by simp[X.kids]);show ifF f a b c own σ ()=ifF f' a b c own σ ();simp only[ifF,d,D,I]
 |app a b loc E G=>
  have d:=h a (by simp[X.kids]);have D:=h b (by simp[X.kids]);show appF f a b own σ ()=appF f' a b own σ ();simp only[appF,d,D]
 |lt m a b loc E G=>
  have d:=h a (by simp[X.kids]);have D:=h b (by simp[X.kids]);show letF f m a b own σ ()=letF f' m a b own σ ();simp only[letF,d,D]
 |rc names vs y loc L O M=>
  have d:=h y (by simp[X.kids]);rw[Jkd,Jkd];simp only[recF,d];rw[Jiu fun v q own σ=>h v (by simp[X.kids,q]) own σ]
theorem WX.kid(h:WX x){k:X}(d:k∈x.kids):WX k:=by
 cases h with
 |nam m loc=>simp[X.kids]at d
 |num m loc=>simp[X.kids]at d
 |fn m a loc D=>simp[X.kids]at d;rw[d];exact D
 |pair a b loc D E=>simp[X.kids]at d;rcases d with rfl|rfl;exact D;exact E
 |ite a b c loc D E J=>simp[X.kids]at d;rcases d with rfl|rfl|rfl;exact D;exact E;exact J
 |app a b loc D E=>simp[X.kids]at d;rcases d with rfl|rfl;exact D;exact E
 |lt m a b loc D E=>simp[X.kids]at d;rcases d with rfl|rfl;exact D;exact E
 |rc names vs y loc L I G=>
  simp only[X.kids,Vbd,Va4]at d
  rcases d with d|rfl
  .exact I _ d
  .exact G
theorem JnP{k:X}(h:k∈x.kids):dp k<dp x:=by
 obtain⟨op,names,kids,loc⟩:=x;have:=JjE (xs:=kids) h;simp only[dp];omega
theorem JrG:∀(n:Nat) {x:X},WX x->dp x<=n->∀own σ,typF tlN true gv fuel (n+1) x own σ ()=typF tlN true gv fuel n x own σ ():=by
 intro n
 induction n with
 |zero=>intro x _ h;obtain⟨op,names,kids,loc⟩:=x;simp only[dp]at h;omega
 |succ n E=>
  intro x D h own σ;rw[typF,typF];have:=Jmb (gv:=gv) (fuel:=fuel) (f:=fun x own σ o=>typF tlN true gv fuel (n+1) x own σ o) (f':=fun x own σ o=>typF tlN true gv fuel n x own σ o) D (fun k d own σ=>E (D.kid d) (by have:=JnP d;omega) own σ) own σ;rw[this]
theorem Jnx{m:Nat}(G:WX x)(J:dp x<=n)(I:dp x<=m)(own:List Bd)(σ:St):typF tlN true gv fuel n x own σ ()=typF tlN true gv fuel m x own σ ():=by
 have key:∀d,typF tlN true gv fuel (dp x+d) x own σ ()=typF tlN true gv fuel (dp x) x own σ ():=by
  intro d
  induction d with
  |zero=>rfl
  |succ d E=>rw[<-Vc2,JrG _ G (by omega),E]
 have h:=key (n-dp x);have D:=key (m-dp x);rw[show dp x+(n-dp x)=n by omega]at h;rw[show dp x+(m-dp x)=m by omega]at D;rw[h,D]
theorem Jgl{f f':X->Option (Option (Nat×BA))}:∀{l:List X} {r:Option (Option (Nat×BA))},(∀x,x∈l->f x=f' x)->l.foldl (fun r x=>sqF r (f x)) r=l.foldl (fun r x=>sqF r (f' x)) r
 | [],r,_=>rfl
 |x::l,r,h=>by
  simp only[VbO,h x (by simp)];exact Jgl (l:=l) fun y q=>h y (by simp[q])
theorem JqF:∀(n:Nat) {x:X},WX x->dp x<=n->∀own,chkF true gv (n+1) x own=chkF true gv n x own:=by
 intro n
 induction n with
 |zero=>intro x _ h;obtain⟨op,names,kids,loc⟩:=x;simp only[dp]at h;omega
 |succ n I=>
  intro x G h own;have d:∀k,k∈x.kids->∀own,chkF true gv (n+1) k own=chkF true gv n k own:=fun k d own=>I (G.kid d) (by have:=JnP d;omega) own
  cases G with
  |nam m loc=>rfl
  |num m loc=>rfl
  |fn m a loc D=>exact d a (by simp[X.kids]) _
  |pair a b loc D E=>
   show sqF _ _=sqF _ _;rw[d a (by simp[X.kids]),d b (by simp[X.kids])]
  |ite a b c loc D E O=>
   show sqF _ (sqF _ _)=sqF _ (sqF _ _);rw[d a (by simp[X.kids]),d b (by simp[X.kids]),d c (by simp[X.kids])]
  |app a b loc D E=>
   show sqF _ _=sqF _ _;rw[d a (by simp[X.kids]),d b (by simp[X.kids])]
  |lt m a b loc D E=>
   show sqF _ _=sqF _ _;rw[d a (by simp[X.kids]),d b (by simp[X.kids])]
  |rc names vs y loc J M L=>
   show grpC (fun x own=>chkF true gv (n+1) x own) names (vs++ [y]) own=grpC (fun x own=>chkF true gv n x own) names (vs++ [y]) own;unfold grpC
   split
   .exact Jgl fun x q=>d x (by simpa[X.kids]using q) _
   .rfl
theorem JlV{m:Nat}(G:WX x)(J:dp x<=n)(I:dp x<=m)(own:List Bd):chkF true gv n x own=chkF true gv m x own:=by
 have key:∀d,chkF true gv (dp x+d) x own=chkF true gv (dp x) x own:=by
  intro d
  induction d with
  |zero=>rfl
  |succ d E=>rw[<-Vc2,JqF _ G (by omega),E]
 have h:=key (n-dp x);have D:=key (m-dp x);rw[show dp x+(n-dp x)=n by omega]at h;rw[show dp x+(m-dp x)=m by omega]at D;rw[h,D]
end
variable {σ σ':St}
theorem Mk.gn(h:Mk σ σ')(g:isGn σ i=true):isGn σ' i=true:=by
 unfold isGn at g⊢
 split at g
 .rename_i nm e
  rcases h.at_ i _ e with d|⟨E,D,d⟩
  .rw[d]
  .rw[d]
 .cases g
theorem gn_up{u:St}(g:isGn σ i=true):isGn (σ++u) i=true:=by
 unfold isGn at g⊢
 split at g
 .rename_i nm e;rw[Vak (Vae.1 e).1,e]
 .cases g
theorem JoT:∀(n:Nat) {σ:St} {r:TR} {t:Tt},σ.length<fuN->Tr σ r t->t.ht<n->∃σ',genF n σ r []=some σ'/\Mk σ σ'/\∀i,t.has i->isGn σ' i=true:=by
 intro n
 induction n with
 |zero=>intro σ r t _ _ h;omega
 |succ n J=>
  intro σ r t E h I;obtain⟨r0,V,O⟩:=h.rt;simp only[genF,JaK V E,Vad,memT,Vao,VaS]
  have two:∀(x y:TR) (a b:Tt),Tr σ x a->Tr σ y b->a.ht<n->b.ht<n->∃σ',((genF n σ x []).bind fun σ1=>genF n σ1 y [])=some σ'/\Mk σ σ'/\∀i,a.has i\/b.has i->isGn σ' i=true:=fun x y a b k D ha T=>by
   obtain⟨σ1,e1,G,Z⟩:=J E k ha;obtain⟨σ2,Y,L,U⟩:=J (by rw[G.len];exact E) (G.tr D) T;rw[e1,Vad];exact⟨σ2,Y,G.trans L,fun i d=>d.elim (fun d=>L.gn (Z i d)) (fun d=>U i d)⟩
  cases O with
  |int=>exact⟨σ,rfl,Mk.refl σ,fun i d=>d.elim⟩
  |bool=>exact⟨σ,rfl,Mk.refl σ,fun i d=>d.elim⟩
  |vr i nm g e=>
   obtain⟨W,q2⟩:=Jkm e;simp only[isVr];refine⟨_,VbH some W,q2,fun j M=> ?_⟩
   simp only[Tt.has]at M;subst M;unfold isGn;rw[Jfk e]
  |ls i x a e k=>
   simp only[Tt.ht]at I;simp only[isVr,Jap,e,Vad];have:=J E k (by omega);exact this
  |pr i x y a b e k D=>
   simp only[Tt.ht]at I;simp only[isVr,Jap,e,Vad];exact two x y a b k D (by omega) (by omega)
  |ar i x y a b e k D=>
   simp only[Tt.ht]at I;simp only[isVr,Jap,e,Vad];exact two x y a b k D (by omega) (by omega)
structure Cp(σ σ':St)(τ:Tt)(r:TR)(ρ:Nat->Nat):Prop where
 up:∃v,σ'=σ++v/\v.length<=120
 gd:Gd σ'
 tr:Tr σ' r (τ.sub fun i=> .v (ρ i))
 inj:∀i j,τ.has i->τ.has j->ρ i=ρ j->i=j
 lo:∀i,τ.has i->σ.length<=ρ i
 hi:∀i,τ.has i->ρ i<σ'.length
section
variable {gv:Gv}{fuel:Nat}
variable {own:List Bd}{t:TR}{τ:Tt}
theorem Jpu(V:JaJ z gv own=some t)(ht:Tr σ t τ)(hz:τ.sz<=120)(G:∀i,τ.has i->isGn σ i=true)(Z:Gd σ)(hB:σ.length<=BB):∃r σ' ρ,Jc0 gv z own σ=some (.ok (r,σ'))/\Cp σ σ' τ r ρ:=by
 have h4:=Jdx;have h5:=ht.ht_le;obtain⟨M,σ',D,e,I⟩:=Jib (σ0:=σ) (u:= []) (m:= []) fuN (by omega) ht (by simp) ⟨fun i j h=>by simp[Jal]at h,fun i k j h=>by simp[Jal]at h⟩ Z (by omega);obtain⟨v,L,w2⟩:=I.gr;have Y:∀i,τ.has i->∃j,Jal i D=some j:=fun i d=>Vd7.1 (I.all i d (G i d))
 have E:∀i,τ.has i->Jal i D=some ((Jal i D).getD 0):=fun i d=>by
  obtain⟨j,hj⟩:=Y i d;rw[hj];rfl
 refine⟨M,σ',fun i=>(Jal i D).getD 0,?_,⟨v,L,by omega⟩,I.gd,?_,?_,?_,?_⟩
 .simp only[Jc0,V,Jee (show σ.length<fuN by omega) ht,Vad];rw[Vaq (by rw[Va1];omega),e];rfl
 .have:=I.tr;rwa[Tt.sub_ext (η:=fun i=> .v ((Jal i D).getD 0)) fun i d=>by simp only[insT,G i d,Va0];rw[E i d];rfl]at this
 .intro i j T O W;have J:=E i T;have U:=E j O;rw[show(Jal i D).getD 0=(Jal j D).getD 0 from W]at J;exact I.mo.inj i j _ J U
 .intro i d;exact(I.mo.new i _ (E i d)).1
 .intro i d;obtain⟨_,nm,h⟩:=I.mo.new i _ (E i d);exact(Vae.1 h).1
theorem Tt.sub_sz{θ:Nat->Tt}(h:∀i,∃j,θ i= .v j):∀t:Tt,(t.sub θ).sz=t.sz
 | .int=>rfl
 | .bool=>rfl
 | .v i=>by obtain⟨j,e⟩:=h i;simp only[Tt.sub,e,Tt.sz]
 | .l c=>by simp only[Tt.sub,Tt.sz,Tt.sub_sz h c]
 | .p c d=>by simp only[Tt.sub,Tt.sz,Tt.sub_sz h c,Tt.sub_sz h d]
 | .f c d=>by simp only[Tt.sub,Tt.sz,Tt.sub_sz h c,Tt.sub_sz h d]
theorem Tt.ren_sz(ρ:Nat->Nat)(t:Tt):(t.sub fun i=> .v (ρ i)).sz=t.sz:=Tt.sub_sz (fun i=>⟨_,rfl⟩) t
variable {x:X}
theorem Jck{r:TR}(h:kndF tlN true gv fuel (fun x own σ o=>typF tlN true gv fuel n x own σ o) x own σ ()=some (.ok (r,σ'),()))(ht:Tr σ' r τ)(D:σ'.length<=BB):typF tlN true gv fuel (n+1) x own σ ()=if τ.sz<=120 then some (.ok (r,σ'),())else some (.er 4,()):=by
 have E:=Jdx;simp only[typF,h,Vad,Jee (show σ'.length<fuN by omega) ht]
 by_cases d:τ.sz<=120
 .rw[Vat d,Vaq (by rw[Va1];omega)]
 .rw[Vaq d,Vat (by rw[Va1];omega)]
variable {loc:Nat}
theorem JfF(h:JaJ z gv own=some t)(ht:Tr σ t τ)(d:τ.sz<=120)(E:∀i,τ.has i->isGn σ i=true)(G:Gd σ)(I:σ.length+120<=BB):∃r σ' ρ,typF tlN true gv fuel (n+1) (.mk ⟨#[110,97,109,101]⟩ [z] [] loc) own σ ()=some (.ok (r,σ'),())/\Cp σ σ' τ r ρ:=by
 obtain⟨r,σ',ρ,e,C⟩:=Jpu h ht d E G (by omega);obtain⟨v,D,J⟩:=C.up;refine⟨r,σ',ρ,?_,C⟩
 rw[Jck (τ:=τ.sub fun i=> .v (ρ i)) (r:=r) (σ':=σ') ?_ C.tr (by rw[D,Vap];omega),Vat (by rw[Tt.ren_sz];exact d)];show(Jc0 gv z own σ).bind _=_;rw[e];rfl
variable {f:TyF}{y:X}{σ1:St}
theorem Jn5(h:f x [] σ ()=some (.ok (t,σ1),()))(ht:Tr σ1 t τ)(G:σ1.length<=BB):∃d,letF f z x y [] σ ()=f y [⟨z,t,false⟩] d ()/\Mk σ1 d/\∀i,τ.has i->isGn d i=true:=by
 have D:=Jdx;have E:=ht.ht_le;obtain⟨d,e,M,g⟩:=JoT fuN (show σ1.length<fuN by omega) ht (by omega);refine⟨d,?_,M,g⟩
 simp only[letF,h,Vad,Jbh,e]
variable {j:Nat}
theorem Jq8(d:f x [] σ ()=some (.er j,())):letF f z x y [] σ ()=some (.er j,()):=by
 simp only[letF,d,Vad]
theorem Jft(a:BA):bq a a=true:=Jf8.2 rfl
theorem Jmi(L:typF tlN true gv fuel (n+1) x [] σ ()=some (.ok (t,σ1),()))(ht:Tr σ1 t τ)(h:τ.sz<=120)(G:Gd σ1)(I:σ1.length+120<=BB):∃(r:TR) (σ':St) (ρ:Nat->Nat),typF tlN true gv fuel (n+2) (.mk ⟨#[108,101,116]⟩ [z] [x,.mk ⟨#[110,97,109,101]⟩ [z] [] l1] l2) [] σ ()=some (.ok (r,σ'),())/\Tr σ' r (τ.sub fun i=> .v (ρ i))/\(∀i j,τ.has i->τ.has j->ρ i=ρ j->i=j)/\σ'.length<=BB:=by
 obtain⟨O,e,M,g⟩:=Jn5 (f:=fun x own σ o=>typF tlN true gv fuel (n+1) x own σ o) (z:=z) (y:= .mk ⟨#[110,97,109,101]⟩ [z] [] l1) L ht (by omega);obtain⟨r,σ',ρ,J,C⟩:=JfF (gv:=gv) (fuel:=fuel) (n:=n) (z:=z) (loc:=l1) (own:= [⟨z,t,false⟩]) (t:=t) (by simp only[JaJ,Jft,Va0]) (M.tr ht) h g (M.gd G) (by rw[M.len];exact I);obtain⟨v,D,T⟩:=C.up;have d:σ'.length<=BB:=by rw[D,Vap,M.len];omega
 refine⟨r,σ',ρ,?_,C.tr,C.inj,d⟩
 have E:kndF tlN true gv fuel (fun x own σ o=>typF tlN true gv fuel (n+1) x own σ o) (.mk ⟨#[108,101,116]⟩ [z] [x,.mk ⟨#[110,97,109,101]⟩ [z] [] l1] l2) [] σ ()=some (.ok (r,σ'),()):=e.trans J;rw[Jck E C.tr d,Vat (by rw[Tt.ren_sz];exact h)]
variable {l3 l4:Nat}
theorem Jmj(hx:typF tlN true gv fuel (n+2) x [] σ ()=some (.ok (t,σ1),()))(ht:Tr σ1 t τ)(W:τ.sz<=120)(hG:Gd σ1)(hB:σ1.length+241<=BB):
  (typF tlN true gv fuel (n+3) (.mk ⟨#[108,101,116]⟩ [z] [x,.mk ⟨#[112,97,105,114]⟩ [] [.mk ⟨#[110,97,109,101]⟩ [z] [] l1,.mk ⟨#[110,97,109,101]⟩ [z] [] l2] l3] l4) [] σ ()=some (.er 4,())\/
  ∃(r:TR) (σ':St) (ρ h:Nat->Nat),typF tlN true gv fuel (n+3) (.mk ⟨#[108,101,116]⟩ [z] [x,.mk ⟨#[112,97,105,114]⟩ [] [.mk ⟨#[110,97,109,101]⟩ [z] [] l1,.mk ⟨#[110,97,109,101]⟩ [z] [] l2] l3] l4) [] σ ()=some (.ok (r,σ'),())/\Tr σ' r (.p (τ.sub fun i=> .v (ρ i)) (τ.sub fun i=> .v (h i)))/\(∀i j,τ.has i->τ.has j->ρ i=ρ j->i=j)/\(∀i j,τ.has i->τ.has j->h i=h j->i=j)/\(∀i j,τ.has i->τ.has j->ρ i≠h j)/\σ'.length<=BB/\τ.sz+τ.sz+1<=120):=by
 obtain⟨Z,e,M,g⟩:=Jn5 (f:=fun x own σ o=>typF tlN true gv fuel (n+2) x own σ o) (z:=z) (y:= .mk ⟨#[112,97,105,114]⟩ [] [.mk ⟨#[110,97,109,101]⟩ [z] [] l1,.mk ⟨#[110,97,109,101]⟩ [z] [] l2] l3) hx ht (by omega);have Y:JaJ z gv [⟨z,t,false⟩]=some t:=by simp only[JaJ,Jft,Va0]
 obtain⟨r,L,ρ,e2,C⟩:=JfF (gv:=gv) (fuel:=fuel) (n:=n) (z:=z) (loc:=l1) (own:= [⟨z,t,false⟩]) Y (M.tr ht) W g (M.gd hG) (by rw[M.len];omega);obtain⟨v,J,w2⟩:=C.up;have ag:L.length<=σ1.length+120:=by rw[J,Vap,M.len];omega
 have ae:Tr L t τ:=by rw[J];exact(M.tr ht).up _
 have ac:∀i,τ.has i->isGn L i=true:=fun i hi=>by rw[J];exact gn_up (g i hi)
 obtain⟨I,d,h,e3,E⟩:=JfF (gv:=gv) (fuel:=fuel) (n:=n) (z:=z) (loc:=l2) (own:= [⟨z,t,false⟩]) Y ae W ac C.gd (by omega);obtain⟨v2,V,w4⟩:=E.up;have af:d.length<=σ1.length+240:=by rw[V,Vap];omega
 have T1:Tr d r (τ.sub fun i=> .v (ρ i)):=by rw[V];exact C.tr.up _
 have T:Tr (d++ [⟨.pr r I,none⟩]) (.nd .pr d.length) (.p (τ.sub fun i=> .v (ρ i)) (τ.sub fun i=> .v (h i))):= .pr _ _ _ _ _ (Ja2 _ _) (T1.up _) (E.tr.up _);have O:(d++ [(⟨.pr r I,none⟩:Nd)]).length<=BB:=by simp only[Vap,VaG];omega
 have hp:kndF tlN true gv fuel (fun x own σ o=>typF tlN true gv fuel (n+1) x own σ o) (.mk ⟨#[112,97,105,114]⟩ [] [.mk ⟨#[110,97,109,101]⟩ [z] [] l1,.mk ⟨#[110,97,109,101]⟩ [z] [] l2] l3) [⟨z,t,false⟩] Z ()=some (.ok (.nd .pr d.length,d++ [⟨.pr r I,none⟩]),()):=by
  show twoF (fun x own σ o=>typF tlN true gv fuel (n+1) x own σ o) _ _ _ Z ()=_;simp only[twoF,e2,e3,Vad]
 have D:=Jck hp T O;have aa:(Tt.p (τ.sub fun i=> .v (ρ i)) (τ.sub fun i=> .v (h i))).sz=τ.sz+τ.sz+1:=by simp only[Tt.sz,Tt.ren_sz]
 rw[aa]at D
 by_cases G:τ.sz+τ.sz+1<=120
 .rw[Vat G]at D;refine .inr ⟨_,_,ρ,h,?_,T,C.inj,E.inj,fun i j h1 h2=> ?_,O,G⟩
  .have hk:kndF tlN true gv fuel (fun x own σ o=>typF tlN true gv fuel (n+2) x own σ o) (.mk ⟨#[108,101,116]⟩ [z] [x,.mk ⟨#[112,97,105,114]⟩ [] [.mk ⟨#[110,97,109,101]⟩ [z] [] l1,.mk ⟨#[110,97,109,101]⟩ [z] [] l2] l3] l4) [] σ ()=some (.ok (.nd .pr d.length,d++ [⟨.pr r I,none⟩]),()):=e.trans D;rw[Jck hk T O,Vat (by rw[aa];exact G)]
  .have:=C.hi i h1;have:=E.lo j h2;omega
 .rw[Vaq G]at D;refine .inl ?_
  have e4:=e.trans D;have U:kndF tlN true gv fuel (fun x own σ o=>typF tlN true gv fuel (n+2) x own σ o) (.mk ⟨#[108,101,116]⟩ [z] [x,.mk ⟨#[112,97,105,114]⟩ [] [.mk ⟨#[110,97,109,101]⟩ [z] [] l1,.mk ⟨#[110,97,109,101]⟩ [z] [] l2] l3] l4) [] σ ()=some (.er 4,()):=e4;simp only[typF]at U⊢;rw[U];rfl
theorem Jo5{l:Nat}(d:typF tlN true gv fuel n x [] σ ()=some (.er j,())):typF tlN true gv fuel (n+1) (.mk ⟨#[108,101,116]⟩ [z] [x,y] l) [] σ ()=some (.er j,()):=by
 have e:kndF tlN true gv fuel (fun x own σ o=>typF tlN true gv fuel n x own σ o) (.mk ⟨#[108,101,116]⟩ [z] [x,y] l) [] σ ()=some (.er j,()):=Jq8 (f:=fun x own σ o=>typF tlN true gv fuel n x own σ o) d;rw[typF];rw[e];rfl
end
theorem JkE(Z:σ.length<fuN):∀(n:Nat) {r:TR} {t:Tt} {l J:List TR},Tr σ r t->JaL n σ r l=some J->∀e,e∈J->e∈l\/∃u,Rt σ e u/\Pt u t:=by
 intro n
 induction n with
 |zero=>intro r t l J _ h;cases h
 |succ n O=>
  intro r t l J h d e D;obtain⟨L,Y,U⟩:=h.rt;simp only[JaL,JaK Y Z,Vad]at d
  by_cases T:memT L l=true
  .rw[Vat T]at d
   cases d
   exact .inl D
  .rw[Vaq T]at d
   have own:∀e,e∈l++ [L]->e∈l\/∃u,Rt σ e u/\Pt u t:=fun e D=>by
    rcases Vbd.1 D with D|D
    .exact .inl D
    .rw[Va4]at D;subst D;exact .inr ⟨t,U,.refl t⟩
   have two:∀(x y:TR) (a b:Tt),Tr σ x a->Tr σ y b->Pt a t->Pt b t->((JaL n σ x (l++ [L])).bind fun l1=>JaL n σ y l1)=some J->e∈l\/∃u,Rt σ e u/\Pt u t:=fun x y a b k G V W d=>by
    cases M:JaL n σ x (l++ [L])with
    |none=>rw[M]at d;cases d
    |some l1=>
     rw[M,Vad]at d
     rcases O G d e D with h|⟨u,I,E⟩
     .rcases O k M e h with h|⟨u,I,E⟩
      .exact own e h
      .exact .inr ⟨u,I,E.trans V⟩
     .exact .inr ⟨u,I,E.trans W⟩
   cases U with
   |int=>cases d;exact own e D
   |bool=>cases d;exact own e D
   |vr i nm g q=>
    simp only[Jap,q,Vad]at d
    cases d
    exact own e D
   |ls i x a q k=>
    simp only[Jap,q,Vad]at d
    rcases O k d e D with h|⟨u,I,E⟩
    .exact own e h
    .exact .inr ⟨u,I,.l E⟩
   |pr i x y a b q k G=>
    simp only[Jap,q,Vad]at d;exact two x y a b k G (.pl (.refl a)) (.pr (.refl b)) d
   |ar i x y a b q k G=>
    simp only[Jap,q,Vad]at d;exact two x y a b k G (.al (.refl a)) (.ar (.refl b)) d
theorem Jrk{t:Tt}(h:Pt (.v i) t):t.has i:=by
 induction h with
 |refl=>rfl
 |l _ d=>exact d
 |pl _ d=>exact .inl d
 |pr _ d=>exact .inr d
 |al _ d=>exact .inl d
 |ar _ d=>exact .inr d
variable {t:TR}{tt:Tt}
theorem JnJ(D:σ.length<fuN)(M:σ[i]? =some ⟨.vr nm g,none⟩)(ht:Rt σ t tt)(E: ¬tt.has i):becF σ i t=some (.ok (σ.set i ⟨.vr nm g,some t⟩)):=by
 have O:=ht.tr.ht_le
 have L:TR.nd (NK.vr nm g).kd i≠t:=fun z=>by
  subst z
  cases ht with
  |vr i nm g e=>exact E rfl
 obtain⟨l,d,_,_,_⟩:=Jex D fuN [] ht.tr (by omega);simp only[becF,d,Vad];rw[Vaq,JfS M ht.root L]
 .rfl
 .intro G
  rcases JkE D fuN ht.tr d _ (Jd8.1 G)with h|⟨u,J,I⟩
  .cases h
  .cases J with
   |vr i nm g e=>exact E (Jrk I)
variable {y0:TR}{u:Tt}
theorem JnV(d:σ.length<fuN){x y:TR}(I:σ[i]? =some ⟨.vr nm g,none⟩)(J:Rp σ x (.nd .vr i))(G:Rp σ y y0)(h:Rt σ y0 u)(D: ¬u.has i):eqF (n+1) σ x y=some (.ok (σ.set i ⟨.vr nm g,some y0⟩)):=by
 have E: ¬(TR.nd .vr i).eqb y0=true:=fun z=>by
  have:=TR.eqb_iff.1 z;subst this
  cases h with
  |vr i nm g e=>exact D rfl
 simp only[eqF,JaK J d,JaK G d,Vad];rw[Vaq E];simp only[isVr];rw[JnJ d I h D]
variable {x0:TR}
theorem JoK(d:σ.length<fuN){x y:TR}(I:σ[i]? =some ⟨.vr nm g,none⟩)(J:Rp σ x x0)(h:isVr x0=none)(E:Rp σ y (.nd .vr i))(G:Rt σ x0 u)(L: ¬u.has i):eqF (n+1) σ x y=some (.ok (σ.set i ⟨.vr nm g,some x0⟩)):=by
 have D: ¬x0.eqb (TR.nd .vr i)=true:=fun z=>by
  have:=TR.eqb_iff.1 z;subst this
  cases h
 simp only[eqF,JaK J d,JaK E d,Vad];rw[Vaq D,h];simp only[isVr];rw[JnJ d I G L]
variable {d:Nat}
theorem tr_sh{g:Nat}{pre:St}(h:Sv g d pre σ σ'){r:TR}{t:Tt}(ht:Tr σ r t):Tr σ' (zhT g d r) (t.sub fun i=> .v (zhI g d i)):=by
 have at_:∀{i:Nat} {nd:Nd},σ[i]? =some nd->σ'[zhI g d i]? =some (zhN g d nd):=fun{i nd} e=>by rw[h.at_ i,e];rfl
 induction ht with
 |int=>exact .int
 |bool=>exact .bool
 |vr i nm b e=>exact .vr _ nm b (at_ e)
 |ls i x a e _ D=>exact .ls _ _ _ (at_ e) D
 |pr i x y a b e _ _ E G=>exact .pr _ _ _ _ _ (at_ e) E G
 |ar i x y a b e _ _ E G=>exact .ar _ _ _ _ _ (at_ e) E G
 |fd i nk r t e _ D=>
  have:=Tr.fd (σ:=σ') (zhI g d i) (zhK g d nk) (zhT g d r) _ (at_ e) D;rw[Jg4]at this;exact this
theorem Jc5{ρ:Nat->Nat}:∀{t:Tt} {j:Nat},(t.sub fun i=> .v (ρ i)).has j->∃i,t.has i/\j=ρ i
 | .int,_,h=>h.elim
 | .bool,_,h=>h.elim
 | .v i,j,h=>⟨i,rfl,h⟩
 | .l c,j,h=>Jc5 (t:=c) h
 | .p c d,j,h=>h.elim (fun h=>let ⟨i,a,b⟩:=Jc5 (t:=c) h;⟨i,.inl a,b⟩) (fun h=>let ⟨i,a,b⟩:=Jc5 (t:=d) h;⟨i,.inr a,b⟩)
 | .f c d,j,h=>h.elim (fun h=>let ⟨i,a,b⟩:=Jc5 (t:=c) h;⟨i,.inl a,b⟩) (fun h=>let ⟨i,a,b⟩:=Jc5 (t:=d) h;⟨i,.inr a,b⟩)
theorem JdE{ρ:Nat->Nat}:∀{t:Tt} {i:Nat},t.has i->(t.sub fun i=> .v (ρ i)).has (ρ i)
 | .int,_,h=>h.elim
 | .bool,_,h=>h.elim
 | .v i,j,h=>VbH ρ h
 | .l c,j,h=>JdE (t:=c) h
 | .p c d,j,h=>h.elim (fun h=> .inl (JdE (t:=c) h)) (fun h=> .inr (JdE (t:=d) h))
 | .f c d,j,h=>h.elim (fun h=> .inl (JdE (t:=c) h)) (fun h=> .inr (JdE (t:=d) h))
def idN(k:Nat):St:= [newV,⟨.ar (.nd .vr k) (.nd .vr k),none⟩,newV]
theorem Sv.put(pre:St)(h:∀nd,nd∈σ->zhN σ.length pre.length nd=nd):Sv σ.length pre.length pre σ (σ++pre):=by
 refine⟨Vau _,by simp,fun i=> ?_,fun k D=> ?_⟩
 .by_cases d:i<σ.length
  .have e:zhI σ.length pre.length i=i:=by unfold zhI;rw[Vat d]
   rw[e,Vak d,Vav d,VaE,h _ (Vbw d)]
  .have e:zhI σ.length pre.length i=i+pre.length:=by unfold zhI;rw[Vaq d]
   rw[e,Vbq (by simp;omega),Vbq (by omega)];rfl
 .rw[VaU (by omega)];simp
variable {k:Nat}{τ:Tt}
theorem id_eq(hB:σ.length+1<fuN)(h0:σ[k]? =some newV)(h1:σ[k+1]? =some ⟨.ar (.nd .vr k) (.nd .vr k),none⟩)(W:σ[k+2]? =some newV)(ht:Tr σ t τ)(O: ¬τ.has k)(U: ¬τ.has (k+2))(N:Nat):
  ∃(σ':St) (ρ:Nat->Nat),eqF (N+2) (σ++ [⟨.ar t (.nd .vr (k+2)),none⟩]) (.nd .ar (k+1)) (.nd .ar σ.length)=some (.ok σ')/\Tr σ' (.nd .vr (k+2)) (τ.sub fun i=> .v (ρ i))/\(∀i j,τ.has i->τ.has j->ρ i=ρ j->i=j)/\σ'.length=σ.length+1:=by
 have hk:=(Vae.1 W).1;have ag:=ht.up [⟨.ar t (.nd .vr (k+2)),none⟩];have hl:(σ++ [(⟨.ar t (.nd .vr (k+2)),none⟩:Nd)]).length=σ.length+1:=by simp
 have hA:=Ja2 σ ⟨.ar t (.nd .vr (k+2)),none⟩;have I:(σ++ [(⟨.ar t (.nd .vr (k+2)),none⟩:Nd)])[k]? =some newV:=Jdb h0;have g1:(σ++ [(⟨.ar t (.nd .vr (k+2)),none⟩:Nd)])[k+1]? =some ⟨.ar (.nd .vr k) (.nd .vr k),none⟩:=Jdb h1;have g2:(σ++ [(⟨.ar t (.nd .vr (k+2)),none⟩:Nd)])[k+2]? =some newV:=Jdb W;have aE:k+2<σ.length:=hk;generalize hS:σ++ [(⟨.ar t (.nd .vr (k+2)),none⟩:Nd)]=S at*;generalize σ.length=L at*;clear hS h0 h1 W ht;obtain⟨d,r1,J⟩:=ag.rt;have Z:S.length<fuN:=by omega
 have X:Rp S (.nd .ar (k+1)) (.nd .ar (k+1)):= .root (k+1) _ g1;have av:Rp S (.nd .ar L) (.nd .ar L):= .root L _ hA;have V0:Rp S (.nd .vr k) (.nd .vr k):= .root k _ I;have V2:Rp S (.nd .vr (k+2)) (.nd .vr (k+2)):= .root (k+2) _ g2
 have az:TR.nd .vr k≠d:=fun z=>by
  subst z
  cases J with
  |vr i nm g e=>exact O rfl
 have e1:eqF (N+1) S (.nd .vr k) t=some (.ok (S.set k ⟨.vr ⟨#[]⟩ false,some d⟩)):=JnV Z I V0 r1 J O;have A1:∀r u,Tr S r u->Tr (S.set k ⟨.vr ⟨#[]⟩ false,some d⟩) r (u.sub (bnd k τ)):=fun r u h=>Tr.bind I J.tr O h
 have am:τ.sub (bnd k τ)=τ:=Tt.sub_id fun i hi=>by
  unfold bnd;rw[Vaq];intro z;subst z;exact O hi
 have ac:(S.set k (⟨.vr ⟨#[]⟩ false,some d⟩:Nd))[k+1]? =some ⟨.ar (.nd .vr k) (.nd .vr k),none⟩:=(Jav (by omega)).trans g1;have G:(S.set k (⟨.vr ⟨#[]⟩ false,some d⟩:Nd))[k+2]? =some newV:=(Jav (by omega)).trans g2;have Y:(S.set k (⟨.vr ⟨#[]⟩ false,some d⟩:Nd))[L]? =some ⟨.ar t (.nd .vr (k+2)),none⟩:=(Jav (by omega)).trans hA;have ax:(S.set k (⟨.vr ⟨#[]⟩ false,some d⟩:Nd))[k]? =some ⟨.vr ⟨#[]⟩ false,some d⟩:=Jfk I;have an:=A1 _ _ J.tr;rw[am]at an;have aa:=A1 _ _ ag;rw[am]at aa;have la:(S.set k (⟨.vr ⟨#[]⟩ false,some d⟩:Nd)).length=S.length:=by simp
 have ah:Rp (S.set k ⟨.vr ⟨#[]⟩ false,some d⟩) d d:=JfN (nk:= .vr ⟨#[]⟩ false) J.root az I;generalize aq:S.set k ⟨.vr ⟨#[]⟩ false,some d⟩=D at*;clear aq A1;have ai:D.length<fuN:=by omega
 have T:Rp D (.nd .vr k) d:= .step k (.vr ⟨#[]⟩ false) d d ax ah;have ak:Rp D (.nd .vr (k+2)) (.nd .vr (k+2)):= .root (k+2) _ G
 have M:Rt D d τ:=by
  obtain⟨s0,q1,q2⟩:=an.rt;rw[ah.det q1];exact q2
 have au:∃(E:St) (ρ:Nat->Nat),eqF (N+1) D (.nd .vr k) (.nd .vr (k+2))=some (.ok E)/\E.length=D.length/\E[k+1]? =some ⟨.ar (.nd .vr k) (.nd .vr k),none⟩/\E[L]? =some ⟨.ar t (.nd .vr (k+2)),none⟩/\Tr E (.nd .vr k) (τ.sub fun i=> .v (ρ i))/\Tr E t (τ.sub fun i=> .v (ρ i))/\Tr E (.nd .vr (k+2)) (τ.sub fun i=> .v (ρ i))/\∀i j,τ.has i->τ.has j->ρ i=ρ j->i=j:=by
  by_cases hv:∃i,d= .nd .vr i
  .obtain⟨i,rfl⟩:=hv
   obtain⟨nm,b,e,rfl⟩:∃nm b,D[i]? =some ⟨.vr nm b,none⟩/\τ= .v i:=by
    cases M with
    |vr i nm b e=>exact⟨nm,b,e,rfl⟩
   have aj:i≠k+2:=fun z=>U z.symm
   have aD:i≠k+1:=fun z=>by subst z;rw[ac]at e;simp at e
   have ay:i≠L:=fun z=>by subst z;rw[Y]at e;simp at e
   have w2:Tr D (.nd .vr (k+2)) (.v (k+2)):= .vr _ _ _ G;have hn: ¬(Tt.v (k+2)).has i:=aj;have B:=fun r u (h:Tr D r u)=>Tr.bind e w2 hn h
   refine⟨D.set i ⟨.vr nm b,some (.nd .vr (k+2))⟩,fun _=>k+2,JnV ai e T ak (.vr _ _ _ G) hn,by simp,(Jav aD).trans ac,(Jav ay).trans Y,?_,?_,?_,?_⟩
   .have:=B _ _ (T.tr M.tr);simpa only[Tt.sub,bnd,Va0]using this
   .have:=B _ _ aa;simpa only[Tt.sub,bnd,Va0]using this
   .have:=B _ _ w2;simpa only[Tt.sub,bnd,Vaq (Vdg aj)]using this
   .intro p q h3 h4 _;exact h3.trans h4.symm
  .have aw:isVr d=none:=by
    cases d with
    |int=>rfl
    |bool=>rfl
    |nd kd i=>cases kd<;>first|rfl|exact absurd ⟨i,rfl⟩ hv
   have B:=fun r u (h:Tr D r u)=>Tr.bind G M.tr U h
   have al:τ.sub (bnd (k+2) τ)=τ:=Tt.sub_id fun i hi=>by
    unfold bnd;rw[Vaq];intro z;subst z;exact U hi
   have af:(τ.sub fun i=> .v ((fun j=>j) i))=τ:=Tt.sub_id fun _ _=>rfl
   refine⟨D.set (k+2) ⟨.vr ⟨#[]⟩ false,some d⟩,fun i=>i,JoK ai G T aw ak M U,by simp,(Jav (by omega)).trans ac,(Jav (by omega)).trans Y,?_,?_,?_,fun _ _ _ _ h=>h⟩
   .have:=B _ _ (T.tr M.tr);rw[al]at this;rw[af];exact this
   .have:=B _ _ aa;rw[al]at this;rw[af];exact this
   .have:=B _ _ (.vr _ _ _ G);simp only[Tt.sub,bnd,Va0]at this;rw[af];exact this
 obtain⟨E,ρ,e2,lb,ae,aC,T0,aB,T2,ao⟩:=au;have TX:Tr E (.nd .ar (k+1)) (.f (τ.sub fun i=> .v (ρ i)) (τ.sub fun i=> .v (ρ i))):= .ar _ _ _ _ _ ae T0 T0;have TY:Rt E (.nd .ar L) (.f (τ.sub fun i=> .v (ρ i)) (τ.sub fun i=> .v (ρ i))):= .ar _ _ _ _ _ aC aB T2
 have V:TR.nd (NK.ar (.nd .vr k) (.nd .vr k)).kd (k+1)≠ .nd .ar L:=fun z=>by
  simp only[TR.nd.injEq]at z;omega
 refine⟨E.set (k+1) ⟨.ar (.nd .vr k) (.nd .vr k),some (.nd .ar L)⟩,ρ,?_,Tr.merge ae TX TY V T2,ao,by rw[VdS,lb,la];exact hl⟩
 have aA: ¬(TR.nd .ar (k+1)).eqb (.nd .ar L)=true:=fun z=>V (TR.eqb_iff.1 z)
 rw[eqF];simp only[JaK X Z,JaK av Z,Vad];rw[Vaq aA];simp only[isVr,belF,alkF,Kd.eqb,Va0,Jap,g1,hA,Vad,e1,e2];rw[JfS ae TY.root V];rfl
section
variable {gv:Gv}{fuel:Nat}
variable {m:List (Nat×Nat)}
theorem Jl8(d:σ.length<fuN)(h:σ[i]? =some ⟨.vr nm false,none⟩):Ja1 (n+1) σ (.nd .vr i) m=some (.nd .vr i,σ,m):=by
 have D:Rp σ (.nd .vr i) (.nd .vr i):= .root i _ h;simp only[Ja1,JaK D d,Vad,h]
theorem JjZ:∃N,fuN=N+2:=by
 have d:=Jdx;have h:2<=BB:=by decide+kernel
 exact⟨fuN-2,by omega⟩
theorem JqZ(M:σ.length+2<=BB):typF tlN true gv fuel (n+2) (.mk ⟨#[102,117,110]⟩ [z] [.mk ⟨#[110,97,109,101]⟩ [z] [] l1] l2) [] σ ()=some (.ok (.nd .ar (σ.length+1),σ++ [newV]++ [⟨.ar (.nd .vr σ.length) (.nd .vr σ.length),none⟩]),()):=by
 have L:=Jdx;obtain⟨N,I⟩:=JjZ;have D:(σ++ [newV]).length=σ.length+1:=by simp
 have d:=JcG σ
 have E:Jc0 gv z [⟨z,.nd .vr σ.length,true⟩] (σ++ [newV])=some (.ok (.nd .vr σ.length,σ++ [newV])):=by
  simp only[Jc0,JaJ,Jft,Va0,Vad,Jee (show(σ++ [newV]).length<fuN by omega) d];rw[Vaq (by simp[Tt.sz])]
  have:Ja1 fuN (σ++ [newV]) (.nd .vr σ.length) []=some (.nd .vr σ.length,σ++ [newV],[]):=by
   rw[I];exact Jl8 (by omega) (Ja2 σ newV)
  rw[this];rfl
 have G:typF tlN true gv fuel (n+1) (.mk ⟨#[110,97,109,101]⟩ [z] [] l1) [⟨z,.nd .vr σ.length,true⟩] (σ++ [newV]) ()=some (.ok (.nd .vr σ.length,σ++ [newV]),()):=by
  have h:kndF tlN true gv fuel (fun x own σ o=>typF tlN true gv fuel n x own σ o) (.mk ⟨#[110,97,109,101]⟩ [z] [] l1) [⟨z,.nd .vr σ.length,true⟩] (σ++ [newV]) ()=some (.ok (.nd .vr σ.length,σ++ [newV]),()):=by
   show(Jc0 gv z _ _).bind _=_;rw[E];rfl
  rw[Jck h d (by omega),Vat (by simp[Tt.sz])]
 have J:Tr (σ++ [newV]++ [⟨.ar (.nd .vr σ.length) (.nd .vr σ.length),none⟩]) (.nd .ar (σ.length+1)) (.f (.v σ.length) (.v σ.length)):=by
  have:=Tr.ar (σ:=σ++ [newV]++ [⟨.ar (.nd .vr σ.length) (.nd .vr σ.length),none⟩]) (σ++ [newV]).length _ _ _ _ (Ja2 _ _) (d.up _) (d.up _);rw[D]at this;exact this
 have h:kndF tlN true gv fuel (fun x own σ o=>typF tlN true gv fuel (n+1) x own σ o) (.mk ⟨#[102,117,110]⟩ [z] [.mk ⟨#[110,97,109,101]⟩ [z] [] l1] l2) [] σ ()=some (.ok (.nd .ar (σ.length+1),σ++ [newV]++ [⟨.ar (.nd .vr σ.length) (.nd .vr σ.length),none⟩]),()):=by
  show funF (fun x own σ o=>typF tlN true gv fuel (n+1) x own σ o) z (.mk ⟨#[110,97,109,101]⟩ [z] [] l1) [] σ ()=_;simp only[funF,G,Vad,D]
 rw[Jck h J (by simp only[Vap,VaG];omega),Vat (by simp[Tt.sz])]
variable {x:X}{l3:Nat}
theorem JnH{res:Oc (TR×St)}(hσ:∀nd,nd∈σ->zhN σ.length 3 nd=nd)(af:gv.map (zhG σ.length 3)=gv)(hx:WX x)(ag:σ.length+5<=BB)(hT:typF tlN true gv fuel (n+2) x [] σ ()=some (res,())):
  (∀j,res= .er j->typF tlN true gv fuel (n+3) (.mk ⟨#[97,112,112]⟩ [] [.mk ⟨#[102,117,110]⟩ [z] [.mk ⟨#[110,97,109,101]⟩ [z] [] l1] l2,x] l3) [] σ ()=some (.er j,()))/\
  ∀t σ1 τ,res= .ok (t,σ1)->Tr σ1 t τ->τ.sz<=120->σ1.length+5<=BB->∃(r:TR) (σ':St) (ρ:Nat->Nat),typF tlN true gv fuel (n+3) (.mk ⟨#[97,112,112]⟩ [] [.mk ⟨#[102,117,110]⟩ [z] [.mk ⟨#[110,97,109,101]⟩ [z] [] l1] l2,x] l3) [] σ ()=some (.ok (r,σ'),())/\Tr σ' r (τ.sub fun i=> .v (ρ i))/\(∀i j,τ.has i->τ.has j->ρ i=ρ j->i=j)/\σ'.length<=BB:=by
 have h4:=Jdx;have e1:=JqZ (gv:=gv) (fuel:=fuel) (n:=n) (z:=z) (l1:=l1) (l2:=l2) (σ:=σ) (by omega);have hp:σ++ [newV]++ [⟨.ar (.nd .vr σ.length) (.nd .vr σ.length),none⟩]++ [newV]=σ++idN σ.length:=by simp[idN]
 have ac:(σ++ [newV]++ [(⟨.ar (.nd .vr σ.length) (.nd .vr σ.length),none⟩:Nd)]).length=σ.length+2:=by simp
 have hS:Sv σ.length 3 (idN σ.length) σ (σ++idN σ.length):=Sv.put (idN σ.length) hσ;have D:=Jqg (gv:=gv) (fuel:=fuel) (n+2) x [] σ (σ++idN σ.length) hx hS;simp only[Vbb]at D;rw[af,hT]at D
 have app:∀r,typF tlN true gv fuel (n+2) x [] (σ++idN σ.length) ()=some (r,())->kndF tlN true gv fuel (fun x own σ o=>typF tlN true gv fuel (n+2) x own σ o) (.mk ⟨#[97,112,112]⟩ [] [.mk ⟨#[102,117,110]⟩ [z] [.mk ⟨#[110,97,109,101]⟩ [z] [] l1] l2,x] l3) [] σ ()=match r with
   | .er j=>some (.er j,())
   | .ok q=>(eqF fuN (q.2++ [⟨.ar q.1 (.nd .vr (σ.length+2)),none⟩]) (.nd .ar (σ.length+1)) (.nd .ar q.2.length)).bind fun e=>match e with
    | .er j=>some (.er j,())
    | .ok σ1=>some (.ok (.nd .vr (σ.length+2),σ1),()):=fun r hr=>by
  show appF (fun x own σ o=>typF tlN true gv fuel (n+2) x own σ o) _ x [] σ ()=_;simp only[appF,e1,Vad,hp,ac,hr]
  cases r<;>rfl
 refine⟨fun j L=> ?_,fun t σ1 τ L ht hz hB=> ?_⟩
 .subst L;generalize J:typF tlN true gv fuel (n+2) x [] (σ++idN σ.length) ()=aa at D
  cases D with
  |so q=>
   rename_i b
   rcases q.case with⟨i,d,rfl⟩|⟨p,G,d,_⟩
   .simp only[Vaf,Oc.er.injEq,Vbo]at d;subst d;have:=app _ J;rw[typF];rw[this];rfl
   .simp only[Vaf,reduceCtorEq,Vbo]at d
 .subst L;generalize J:typF tlN true gv fuel (n+2) x [] (σ++idN σ.length) ()=aa at D
  cases D with
  |so q=>
   rename_i b
   rcases q.case with⟨i,d,rfl⟩|⟨p,G,d,rfl,M,E⟩
   .simp only[Vaf,reduceCtorEq,Vbo]at d
   .simp only[Vaf,Oc.ok.injEq,Vbo]at d;subst d;have h:=app _ J;simp only at h;have W:=tr_sh E ht;simp only at M;rw[<-M]at W
    have U:∀k,k<3->¬(τ.sub fun i=> .v (zhI σ.length 3 i)).has (σ.length+k):=fun k h ae=>by
     obtain⟨i,_,e⟩:=Jc5 ae;exact JlI h e.symm
    have m0:G.2[σ.length]? =some newV:=E.mid 0 (by omega);have m1:G.2[σ.length+1]? =some ⟨.ar (.nd .vr σ.length) (.nd .vr σ.length),none⟩:=E.mid 1 (by omega);have Y:G.2[σ.length+2]? =some newV:=E.mid 2 (by omega);have hl:=E.len;simp only at hl;obtain⟨N,hN⟩:=JjZ;obtain⟨σ',ρ,T,I,g3,g4⟩:=id_eq (by omega) m0 m1 Y W (U 0 (by omega)) (U 2 (by omega)) N;rw[<-hN]at T;rw[T]at h;simp only[Vad]at h;rw[Tt.sub_sub]at I;have O:σ'.length<=BB:=by rw[g4];omega
    refine⟨_,σ',fun i=>ρ (zhI σ.length 3 i),?_,I,fun i j d Z h3=> ?_,O⟩
    .rw[Jck h I O,Vat];rw[Tt.sub_sz (θ:=fun i=>Tt.sub (fun i=>Tt.v (ρ i)) (Tt.v (zhI σ.length 3 i))) (fun i=>⟨_,rfl⟩)];exact hz
    .have V:∀i,τ.has i->(τ.sub fun i=> .v (zhI σ.length 3 i)).has (zhI σ.length 3 i):=fun i hi=>JdE hi
     exact JeX (g3 _ _ (V i d) (V j Z) h3)
end
structure OwE(m:BA):Prop where
 nz:∃c x,m.data.toList=c::x/\lowI (c.toNat:Int)=true
 lf:∀d,d∈m.data.toList->lfI (d.toNat:Int)=true
 sz:m.data.toList.length<=8
 kw:kwIn Jad m=false
structure NuE(m:BA):Prop where
 nz:m.data.toList≠ []
 fg:∀d,d∈m.data.toList->figI (d.toNat:Int)=true
 sz:m.data.toList.length<=8
theorem JfP(p:Int->Bool)(s:BA):∀(f i j:Nat),i<=j->j<runF p s f i->p (chr s j)=true
 |0,i,j,h,d=>by simp only[runF]at d;omega
 |f+1,i,j,h,d=>by
  rw[runF]at d
  split at d
  .rename_i c
   by_cases e:i=j
   .subst e;exact c.2
   .exact JfP p s f (i+1) j (by omega) d
  .omega
theorem Jh2(s:BA)(i k:Nat)(G:k<=s.size):∀d,d∈(s.extract i k).data.toList->∃j,i<=j/\j<k/\chr s j=(d.toNat:Int):=by
 intro d h;simp only[Vbg,VcJ,Vcc]at h;obtain⟨q,D,e⟩:=Vbk h;simp only[Vc4,List.length_drop,Vbx]at D;have I:s.data.size=s.size:=rfl;simp only[Vcz,List.getElem_drop,Array.getElem_toList]at e;refine⟨i+q,by omega,by omega,?_⟩
 have E:i+q<s.size:=by omega
 unfold chr;rw[Vdp E,<-e];rfl
theorem Jhg(s:BA)(i k:Nat)(h:k<=s.size):(s.extract i k).data.toList.length=k-i:=by
 simp only[Vbg,VcJ,Vcc,Vc4,List.length_drop,Vbx];have d:s.data.size=s.size:=rfl;omega
theorem JjO(s:BA)(i k:Nat)(J:i<k)(D:k<=s.size):∃c x,(s.extract i k).data.toList=c::x/\(c.toNat:Int)=chr s i:=by
 have h:=Jhg s i k D
 cases e:(s.extract i k).data.toList with
 |nil=>rw[e]at h;simp at h;omega
 |cons c x=>
  refine⟨c,x,rfl,?_⟩
  have d:(s.extract i k).data.toList[0]? =some c:=by rw[e];rfl
  simp only[Vbg,VcJ,Vcc]at d;have I:s.data.size=s.size:=rfl;rw[List.getElem?_take,Vat (by omega),List.getElem?_drop]at d;simp only[Vei,Vem]at d;have G:i<s.size:=by omega
  have E:s.data[i]? =some (s.data[i]'(by omega)):=Vd5 (by omega);rw[E]at d;simp only[Vaa]at d;unfold chr;rw[Vdp G,<-d];rfl
theorem JrF(s:BA)(i:Nat)(hi:i<=s.size):((tok1 s Jad i).1.is=⟨#[110,97,109,101]⟩->OwE (tok1 s Jad i).1.s)/\((tok1 s Jad i).1.is=⟨#[110,117,109]⟩->NuE (tok1 s Jad i).1.s):=by
 have L:=JfW s Jad (fun w hw=>(Jc6.ne w hw).1) i hi;generalize tok1 s Jad i=t at L;obtain⟨t,k⟩:=t;simp only at L⊢
 cases L with
 |fin _ e=>exact⟨fun h=>by rw[e]at h;exact absurd h (Jac (by decide)),fun h=>by rw[e]at h;exact absurd h (Jac (by decide))⟩
 |bad e=>exact⟨fun h=>by rw[e]at h;exact absurd h (Jac (by decide)),fun h=>by rw[e]at h;exact absurd h (Jac (by decide))⟩
 |word M T E D=>
  unfold pTok at E;rw[Vat M,Vat T]at E
  split at E
  .rename_i h8;simp only[Vaa,Vaf,VbG]at E;obtain⟨I,_⟩:=E;have J:=Jbi lfI s i hi;have Y:=Jdq lfI s i M (by unfold lfI;rw[T];rfl)
   cases U:kwIn Jad t.s with
   |true=>
    rw[U]at D;simp only[Va0]at D;have hm:=JbB U;exact⟨fun h=>absurd (D.symm.trans h) (Jc6.ne _ hm).1,fun h=>absurd (D.symm.trans h) (Jc6.ne _ hm).2.2.2⟩
   |false=>
    rw[U]at D;simp only[Vao,VaS]at D;refine⟨fun _=>⟨?_,?_,?_,U⟩,fun h=>absurd (D.symm.trans h) (Jac (by decide))⟩
    .rw[<-I];obtain⟨c,x,G,O⟩:=JjO s i _ Y J;exact⟨c,x,G,by rw[O];exact T⟩
    .rw[<-I];intro d W;obtain⟨j,G,O,g3⟩:=Jh2 s i _ J d W;rw[<-g3];exact JfP lfI s _ i j G O
    .rw[<-I,Jhg s i _ J];exact h8
  .cases E
 |num M T E D Z=>
  refine⟨fun h=>absurd (Z.symm.trans h) (Jac (by decide)),fun _=> ?_⟩
  unfold pTok at D;rw[Vat M,T,Vaq (by simp),Vat E]at D
  split at D
  .rename_i h8;simp only[Vaa,Vaf,VbG]at D;obtain⟨I,_⟩:=D;have J:=Jbi figI s i hi;have Y:=Jdq figI s i M E;refine⟨?_,?_,?_⟩
   .rw[<-I];obtain⟨c,x,G,O⟩:=JjO s i _ Y J;rw[G];simp
   .rw[<-I];intro d W;obtain⟨j,G,O,g3⟩:=Jh2 s i _ J d W;rw[<-g3];exact JfP figI s _ i j G O
   .rw[<-I,Jhg s i _ J];exact h8
  .cases D
 |sign M T E D Z h5=>
  have V:t.is.data.toList.length<=2:=by
   rw[Z]
   rcases h5 with e|⟨_,e,_⟩
   .rw[e];decide
   .rw[e];simp
  refine⟨fun h=> ?_,fun h=> ?_⟩
  .rw[h]at V;exact absurd V (by decide)
  .rw[h]at V;exact absurd V (by decide)
theorem Jlu(s:BA):∀n i k,i<=s.size->((tkAt (Jan s Jad n i) k).is=⟨#[110,97,109,101]⟩->OwE (tkAt (Jan s Jad n i) k).s)/\((tkAt (Jan s Jad n i) k).is=⟨#[110,117,109]⟩->NuE (tkAt (Jan s Jad n i) k).s)
 |0,i,k,_=>by
  have:tkAt (Jan s Jad 0 i) k=Tk.no:=by simp[tkAt,Jan]
  rw[this];exact⟨fun h=>absurd h (Jac (by decide)),fun h=>absurd h (Jac (by decide))⟩
 |n+1,i,k,D=>by
  have d:=Jbi blI s i D;have ht:=JrF s (run blI s i) d;rw[Jan]
  split
  .cases k with
   |zero=>rw[JbN];exact ht
   |succ k=>
    have:tkAt [(tok1 s Jad (run blI s i)).1] (k+1)=Tk.no:=by simp[tkAt]
    rw[this];exact⟨fun h=>absurd h (Jac (by decide)),fun h=>absurd h (Jac (by decide))⟩
  .cases k with
   |zero=>rw[JbN];exact ht
   |succ k=>
    rw[Jbd];exact Jlu s n _ k (Jfv s _ d).2
inductive WLx:X->Prop
 |nam (n:BA) (loc:Nat):OwE n->WLx (.mk ⟨#[110,97,109,101]⟩ [n] [] loc)
 |num (n:BA) (loc:Nat):NuE n->WLx (.mk ⟨#[110,117,109]⟩ [n] [] loc)
 |fn (n:BA) (a:X) (loc:Nat):OwE n->WLx a->WLx (.mk ⟨#[102,117,110]⟩ [n] [a] loc)
 |pair (a b:X) (loc:Nat):WLx a->WLx b->WLx (.mk ⟨#[112,97,105,114]⟩ [] [a,b] loc)
 |ite (a b c:X) (loc:Nat):WLx a->WLx b->WLx c->WLx (.mk ⟨#[105,102]⟩ [] [a,b,c] loc)
 |app (a b:X) (loc:Nat):WLx a->WLx b->WLx (.mk ⟨#[97,112,112]⟩ [] [a,b] loc)
 |lt (n:BA) (a b:X) (loc:Nat):OwE n->WLx a->WLx b->WLx (.mk ⟨#[108,101,116]⟩ [n] [a,b] loc)
 |rc (names:List BA) (vs:List X) (y:X) (loc:Nat):names.length=vs.length->names≠ []->names.Nodup->(∀m,m∈names->OwE m)->(∀v,v∈vs->WLx v)->WLx y->WLx (.mk ⟨#[114,101,99]⟩ names (vs++ [y]) loc)
variable {x:X}
theorem WLx.wx(h:WLx x):WX x:=by
 induction h with
 |nam n loc _=>exact .nam n loc
 |num n loc _=>exact .num n loc
 |fn n a loc _ _ G=>exact .fn n a loc G
 |pair a b loc _ _ d D=>exact .pair a b loc d D
 |ite a b c loc _ _ _ d D I=>exact .ite a b c loc d D I
 |app a b loc _ _ d D=>exact .app a b loc d D
 |lt n a b loc _ _ _ d D=>exact .lt n a b loc d D
 |rc names vs y loc E _ _ _ _ _ d D=>exact .rc names vs y loc E d D
def Jqr(l:List Tk):Prop:=∀k,((tkAt l k).is=⟨#[110,97,109,101]⟩->OwE (tkAt l k).s)/\((tkAt l k).is=⟨#[110,117,109]⟩->NuE (tkAt l k).s)
structure Jor(l:List Tk)(n:Nat):Prop where
 e:∀k bad x k' b',expM l n k bad=some (x,k',b')->b'<0->b'=bad/\WLx x
 b:∀nm kd k bad nm' kd' k' b',Jaz l n nm kd k bad=some (nm',kd',k',b')->b'<0->b'=bad/\∃s y,nm'=nm++ [s]/\kd'=kd++ [y]/\WLx y/\OwE s/\s∉nm
 nn:∀nm kd k bad nm' kd' k' b',andM l n nm kd k bad=some (nm',kd',k',b')->b'<0->nm.Nodup->b'=bad/\nm'.Nodup/\∃ns ys,nm'=nm++ns/\kd'=kd++ys/\ns.length=ys.length/\(∀y,y∈ys->WLx y)/\∀m,m∈ns->OwE m
 a:∀k bad x k' b',Ja0 l n k bad=some (x,k',b')->b'<0->b'=bad/\WLx x
 p:∀x k bad x' k' b',appM l n x k bad=some (x',k',b')->b'<0->b'=bad/\(WLx x->WLx x')
variable {s:BA}
theorem Ji3{nm:List BA}(h:nm.Nodup)(D:s∉nm):(nm++ [s]).Nodup:=by
 rw[VbU];refine⟨h,by simp,fun a E b d=> ?_⟩
 rw[Va4]at d;subst d;intro z;subst z;exact D E
variable {l:List Tk}{bad:Int}{r:List BA×List X×Nat×Int}
theorem Jjq{kids:List X}(d:0<=bad)(h:andM l n names kids k bad=some r):r.2.2.2=bad:=by
 cases n with
 |zero=>simp[andM]at h
 |succ n=>
  rw[andM,Vaq]at h
  .simp only[Vaa]at h;rw[<-h]
  .unfold isM;simp;omega
theorem Jph(hs:Jqr l)(n:Nat)(M:Jor l n):Jor l (n+1):=by
 refine⟨?_,?_,?_,?_,?_⟩
 .intro k bad x k' b' h D;rw[expM]at h
  split at h
  .simp only[Vaa,Vaf]at h;omega
  .split at h
   .obtain⟨⟨y,U,O⟩,I,d⟩:=Vab.1 h;simp only[Vaa,Vaf]at d;obtain⟨rfl,rfl,rfl⟩:=d;obtain⟨G,L⟩:=M.e _ _ _ _ _ I D;rw[G]at D;obtain⟨m1,T,m3,E⟩:=Jak D;obtain⟨q1,W,q3,q4⟩:=Jak E;exact⟨by rw[G,T,W],.fn _ _ _ ((hs _).1 (Ja4 q1)) L⟩
   .split at h
    .obtain⟨⟨y1,U,O⟩,h1,d⟩:=Vab.1 h;obtain⟨⟨y2,k2,b2⟩,h2,d⟩:=Vab.1 d;obtain⟨⟨y3,k3,b3⟩,h3,d⟩:=Vab.1 d;simp only[Vaa,Vaf]at d;obtain⟨rfl,rfl,rfl⟩:=d;obtain⟨Z,w3⟩:=M.e _ _ _ _ _ h3 D;rw[Z]at D;obtain⟨m1,T,m3,E⟩:=Jak D;obtain⟨J,V⟩:=M.e _ _ _ _ _ h2 E;simp only at E J;rw[J]at E;obtain⟨q1,W,q3,q4⟩:=Jak E;obtain⟨G,L⟩:=M.e _ _ _ _ _ h1 q4;exact⟨by rw[Z,T];simp only;rw[J,W];exact G,.ite _ _ _ _ L V w3⟩
    .split at h
     .split at h
      .obtain⟨⟨n1,d1,U,O⟩,h1,d⟩:=Vab.1 h;obtain⟨⟨n2,d2,k2,b2⟩,h2,d⟩:=Vab.1 d;obtain⟨⟨y3,k3,b3⟩,h3,d⟩:=Vab.1 d;simp only[Vaa,Vaf]at d;obtain⟨rfl,rfl,rfl⟩:=d;obtain⟨Z,w3⟩:=M.e _ _ _ _ _ h3 D;rw[Z]at D;obtain⟨m1,T,m3,E⟩:=Jak D;have ah:=E;simp only at ah
       have aa:O<0:=by
        rcases(show O<0\/0<=O by omega)with g|g
        .exact g
        .exfalso;have:=Jjq (l:=l) (n:=n) (names:=n1) (kids:=d1) (k:=U) g h2;simp only at E;omega
       obtain⟨G,s1,y1,rfl,rfl,L,o1,_⟩:=M.b _ _ _ _ _ _ _ _ h1 aa;obtain⟨J,nd,ns,ys,rfl,rfl,hl,hw,ho⟩:=M.nn _ _ _ _ _ _ _ _ h2 E (by simp);simp only at J;refine⟨by rw[Z,T];simp only;rw[J];exact G,?_⟩
       refine .rc _ ([y1]++ys) _ _ (by simp[hl]) (by simp) (by simpa using nd) (fun m Y=> ?_) (fun v hv=> ?_) w3
       .rcases Vbd.1 Y with Y|Y
        .simp only[VaK,Va4]at Y;rw[Y];exact o1
        .exact ho m Y
       .rcases Vbd.1 hv with hv|hv
        .rw[Va4]at hv;rw[hv];exact L
        .exact hw v hv
      .obtain⟨⟨n1,d1,U,O⟩,h1,d⟩:=Vab.1 h;obtain⟨⟨y3,k3,b3⟩,h3,d⟩:=Vab.1 d;simp only[Vaa,Vaf]at d;obtain⟨rfl,rfl,rfl⟩:=d;obtain⟨Z,w3⟩:=M.e _ _ _ _ _ h3 D;rw[Z]at D;obtain⟨m1,T,m3,E⟩:=Jak D;obtain⟨G,s1,y1,rfl,rfl,L,o1,_⟩:=M.b _ _ _ _ _ _ _ _ h1 E;exact⟨by rw[Z,T];exact G,.lt _ _ _ _ o1 L w3⟩
     .obtain⟨⟨y,U,O⟩,I,d⟩:=Vab.1 h;obtain⟨J,V⟩:=M.p _ _ _ _ _ _ d D;simp only at J V;rw[J]at D;obtain⟨G,L⟩:=M.a _ _ _ _ _ I D;exact⟨by rw[J,G],V L⟩
 .intro nm kd k bad ag af k' b' h D;rw[Jaz]at h;obtain⟨⟨y,U,O⟩,I,d⟩:=Vab.1 h;simp only[Vaa,Vaf]at d;obtain⟨rfl,rfl,rfl,rfl⟩:=d;obtain⟨G,L⟩:=M.e _ _ _ _ _ I D;rw[G]at D;obtain⟨m1,T,m3,E⟩:=Jak D;have m5:=JhZ E;have m6:=E;rw[m5]at E;obtain⟨q1,W,q3,q4⟩:=Jak E;refine⟨by rw[G,T,m5,W],_,_,rfl,rfl,L,(hs k).1 (Ja4 q1),fun Y=> ?_⟩
  have:dupB nm (tkAt l k).s (tkAt l k).loc (Jab l ⟨#[110,97,109,101]⟩ k bad)=((tkAt l k).loc:Int):=by
   unfold dupB;rw[Vat];rw[Vaz];exact⟨Vci.2 ⟨_,Y,by simp⟩,by simpa using E⟩
  rw[this]at m6;omega
 .intro nm kd k bad ag af k' b' h D ac;rw[andM]at h
  split at h
  .obtain⟨⟨n1,d1,U,O⟩,h1,d⟩:=Vab.1 h
   have aa:O<0:=by
    rcases(show O<0\/0<=O by omega)with g|g
    .exact g
    .exfalso;have:=Jjq (l:=l) (n:=n) (names:=n1) (kids:=d1) (k:=U) g d;simp only at this;omega
   obtain⟨G,s1,y1,rfl,rfl,L,o1,ae⟩:=M.b _ _ _ _ _ _ _ _ h1 aa;obtain⟨J,nd,ns,ys,hn,hd,hl,hw,ho⟩:=M.nn _ _ _ _ _ _ _ _ d D (Ji3 ac ae);simp only at J hn hd;refine⟨by rw[J,G],nd,s1::ns,y1::ys,by rw[hn];simp,by rw[hd];simp,by simp[hl],?_,?_⟩
   .intro y I
    rcases VaW.1 I with rfl|I
    .exact L
    .exact hw y I
   .intro y I
    rcases VaW.1 I with rfl|I
    .exact o1
    .exact ho y I
  .simp only[Vaa,Vaf]at h;obtain⟨rfl,rfl,rfl,rfl⟩:=h;exact⟨rfl,ac,[],[],by simp,by simp,rfl,fun y I=>(nomatch I),fun y I=>(nomatch I)⟩
 .intro k bad x k' b' h D;rw[Ja0]at h
  split at h
  .rename_i c;simp only[Vaa,Vaf]at h;obtain⟨rfl,rfl,rfl⟩:=h;refine⟨rfl,?_⟩
   rcases Vdt.1 c with c|c
   .have e:=Ja4 c;rw[e];exact .nam _ _ ((hs k).1 e)
   .have e:=Ja4 c;rw[e];exact .num _ _ ((hs k).2 e)
  .obtain⟨⟨y,U,O⟩,I,d⟩:=Vab.1 h;simp only at d
   split at d
   .obtain⟨⟨z,k2,b2⟩,hz,d⟩:=Vab.1 d;simp only[Vaa,Vaf]at d;obtain⟨rfl,rfl,rfl⟩:=d;obtain⟨m1,T,m3,E⟩:=Jak D;obtain⟨J,V⟩:=M.e _ _ _ _ _ hz E;rw[J]at E;obtain⟨G,L⟩:=M.e _ _ _ _ _ I E;rw[G]at E;obtain⟨q1,W,q3,q4⟩:=Jak E;exact⟨by rw[T,J,G,W],.pair _ _ _ L V⟩
   .simp only[Vaa,Vaf]at d;obtain⟨rfl,rfl,rfl⟩:=d;obtain⟨m1,T,m3,E⟩:=Jak D;obtain⟨G,L⟩:=M.e _ _ _ _ _ I E;rw[G]at E;obtain⟨q1,W,q3,q4⟩:=Jak E;exact⟨by rw[T,G,W],L⟩
 .intro x k bad x' k' b' h D;rw[appM]at h
  split at h
  .obtain⟨⟨y,U,O⟩,I,d⟩:=Vab.1 h;obtain⟨J,V⟩:=M.p _ _ _ _ _ _ d D;simp only at J V;rw[J]at D;obtain⟨G,L⟩:=M.a _ _ _ _ _ I D;exact⟨by rw[J,G],fun hx=>V (.app _ _ _ hx L)⟩
  .simp only[Vaa,Vaf]at h;obtain⟨rfl,rfl,rfl⟩:=h;exact⟨rfl,id⟩
theorem Jrf(l:List Tk)(d:Jqr l)(n:Nat):Jor l n:=by
 induction n with
 |zero=>exact⟨fun _ _ _ _ _ h=>by simp[expM]at h,fun _ _ _ _ _ _ _ _ h=>by simp[Jaz]at h,fun _ _ _ _ _ _ _ _ h=>by simp[andM]at h,fun _ _ _ _ _ h=>by simp[Ja0]at h,fun _ _ _ _ _ _ h=>by simp[appM]at h⟩
 |succ n D=>exact Jph d n D
theorem BW.c2{x:Value}(h:BW H w B b x bs):w.cell? ⟨b,2,none⟩=some x/\w.frozen? ⟨b,2,none⟩=false:=by
 obtain⟨D,p,v,_,d,_⟩:=h;exact⟨by simp[World.cell?,d],by simp[World.frozen?,d]⟩
theorem BW.setX{x y:Value}(h:BW H w B b x bs):BW H (w.setCell ⟨b,2,none⟩ y) B b y bs/\KB B b w (w.setCell ⟨b,2,none⟩ y):=by
 obtain⟨D,p,v,E,J,I,d⟩:=h;refine⟨⟨D,p,v,E,by simp[World.setCell,J,Vay],Vdf I d _,d⟩,(Kp.refl _ _).setCell _ _ (fun _=>D),fun k M e f G _ L=> ?_⟩
 rw[<-L];simp only[World.setCell];rw[Vay,Vaq (fun z=>G z.symm)]
theorem Ibs:(187:Nat)≠5:=by decide
theorem JgR(a b:BA):Vet (a++b)=Vet a++Vet b:=by
 simp[Veu,Vev]
theorem Jru:Lib.strCells ⟨#[]⟩= []:=by simp[Veu,Vev]
theorem sep_f(l t:BA):sep l t=if(Jag l ⟨#[]⟩||Jag l ⟨#[40]⟩||Jag t ⟨#[41]⟩||Jag t ⟨#[44]⟩)then⟨#[]⟩else⟨#[32]⟩:=by
 unfold sep pre opn cls
 cases Jag l ⟨#[]⟩<;>cases Jag l ⟨#[40]⟩<;>cases Jag t ⟨#[41]⟩<;>cases Jag t ⟨#[44]⟩<;>rfl
theorem JkV(B b g c:Nat)(ts:List BA)(w:World)(last:BA)(bs:List Value)(ac:BW 187 w B b (.string last) bs)(D:w.heap[g]? =some (.cells (ts.map Value.string).toArray 9 (0,0)))(ao:bs.length+(ts.map fun t=>t.size+1).sum<=100000000)(au:ts.length<=1000000):
  Calls prog 135 #[.pointer (some ⟨b,0,none⟩),.slice (some ⟨g,0,none⟩) ts.length c] w fun e w'=>e= .returned (.tuple #[])/\BW 187 w' B b (.string (lst last ts)) (bs++Vet (em last ts))/\KB B b w w':=by
 have an:g≠b:=fun e=>by
  obtain⟨hB,p,v,_,am,_⟩:=ac;rw[e,am]at D;simp only[Vaa,VaT]at D;exact absurd D.2.1 (by decide)
 have h0:BW 187 w B b (.string (lst last (ts.take 0))) (bs++Vet (em last (ts.take 0))):=by
  have e:Vet (em last (ts.take 0))= []:=by simp[em,Veu,Vev]
  rw[e];simpa[lst]using ac
 have V:Hid _:=h0;clear h0 ac
 go_enter func135,ntmps135
 go_wp2
 go_loopw [8] (fun i wr=>KB B b w wr/\∃q:Nat,q<=ts.length/\i= .int .i64 q/\BW 187 wr B b (.string (lst last (ts.take q))) (bs++Vet (em last (ts.take q)))) (fun i _=>ts.length-(intOf i).toNat)
 case atStart=>exact⟨KB.refl _ _ _,0,VaN _,rfl,V.out⟩
 case round=>
  obtain⟨W,q,hq,rfl,G⟩:=hrel
  by_cases ae:q<ts.length
  .have ag:=W.oth g _ _ _ an (by decide) D;have hc:wr.cell? ⟨g,q,none⟩=some (.string ts[q]):=by simp[World.cell?,ag,ae]
   have e1:ts.take (q+1)=ts.take q++ [ts[q]]:=Va9 ae
   have E:Hid (lst last (ts.take (q+1))=ts[q]/\em last (ts.take (q+1))=em last (ts.take q)++(sep (lst last (ts.take q)) ts[q]++ts[q])):=by
    show _/\_;rw[e1,Jpa,JqK,JjG];exact⟨rfl,rfl⟩
   have hz:=JoH (ts.take q) last
   have ak:((ts.take q).map fun t=>t.size+1).sum+(ts[q].size+1)<=(ts.map fun t=>t.size+1).sum:=by
    have e2:(ts.map fun t=>t.size+1).sum=((ts.take (q+1)++ts.drop (q+1)).map fun t=>t.size+1).sum:=by rw[Vdh]
    rw[e2,Vbu,VcN,e1,Vbu,VcN];simp
   clear ag e1 D V;generalize lst last (ts.take q)=l at*;generalize em last (ts.take q)=m at*;generalize ts[q]=t at*
   have aq:(bs++Vet m).length+t.size+1<=100000000:=by
    rw[Vap,Vew];omega
   clear hz ak;obtain⟨c2,f2⟩:=G.c2;have W1:Hid _:=JhY 187 IaZ Ibs B b _ _ ⟨#[32]⟩ wr G (by have:(⟨#[32]⟩:BA).size=1:=rfl;omega);have Z:Hid (∀d Y,BW 187 d B b (.string l) Y->Y.length+t.size<=100000000->Calls prog 147 #[.pointer (some ⟨b,0,none⟩),.string t] d fun e w'=>e= .returned (.tuple #[.int .i64 t.size,.nilIface])/\BW 187 w' B b (.string l) (Y++Vet t)/\KB B b d w'):=fun d Y h1 h2=>JhY 187 IaZ Ibs B b _ _ t d h1 (by omega)
   have V:Hid _:=G;clear G;have D1:(l.toList== [])=Jag l ⟨#[]⟩:=by rw[VaL];rfl
   have D2:(l.toList== [40])=Jag l ⟨#[40]⟩:=by rw[VaL];rfl
   have D3:(t.toList== [41])=Jag t ⟨#[41]⟩:=by rw[VaL];rfl
   have D4:(t.toList== [44])=Jag t ⟨#[44]⟩:=by rw[VaL];rfl
   have M:=sep_f l t
   cases T:(Jag l ⟨#[]⟩||Jag l ⟨#[40]⟩||Jag t ⟨#[41]⟩||Jag t ⟨#[44]⟩)
   .rw[T,Vaq (by simp)]at M;simp only[VbT]at T;obtain⟨⟨⟨I,O⟩,J⟩,L⟩:=T;rw[I]at D1;rw[O]at D2;rw[J]at D3;rw[L]at D4;rw[M]at E;clear M I O J L
    go_wp2_with fail
    refine Vac W1.out ?_
    rintro e d ⟨rfl,af,ai⟩
    go_wp2_with fail
    refine Vac (Z.out d _ af (by rw[Vap,Vew (s:=⟨#[32]⟩)];have:(⟨#[32]⟩:BA).size=1:=rfl;omega)) ?_
    rintro e w2 ⟨rfl,h,aa⟩;obtain⟨al,aj⟩:=h.c2;have U:=h.setX (y:= .string t);clear af h W1 Z c2 f2
    go_wp2
    refine⟨⟨((W.trans ai).trans aa).trans U.2,q+1,by omega,by go_num,?_⟩,by simp[intOf];omega⟩
    rw[E.out.1,E.out.2,JgR,JgR,<-Val,<-Val];exact U.1
   .rw[T,Vat rfl]at M;rw[M]at E;clear M W1
    cases I:Jag l ⟨#[]⟩<;>cases O:Jag l ⟨#[40]⟩<;>cases J:Jag t ⟨#[41]⟩<;>cases L:Jag t ⟨#[44]⟩<;>simp only[I,O,J,L,Vdv,Bool.or_true,Vao]at T
    all_goals
     rw[I]at D1;rw[O]at D2;rw[J]at D3;rw[L]at D4;clear I O J L
     go_wp2_with fail
     refine Vac (Z.out wr _ V.out (by omega)) ?_
     rintro e w2 ⟨rfl,h,aa⟩;obtain⟨al,aj⟩:=h.c2;have U:=h.setX (y:= .string t);clear h Z c2 f2
     go_wp2
     refine⟨⟨(W.trans aa).trans U.2,q+1,by omega,by go_num,?_⟩,by simp[intOf];omega⟩
     rw[E.out.1,E.out.2,JgR,JgR,<-Val,Jru,VaK];exact U.1
  .have ah:q=ts.length:=by omega
   have hk:Hid (ts.take q=ts):=by show _=_;rw[ah,VbA]
   clear D V ah
   go_wp2
   go_end0
   rw[hk.out]at G;exact⟨rfl,G,W⟩
theorem IcG(v:Value)(w:World):(Vex (.iface 257 v) 130 257 true).run prog w= .ok (.tuple #[v,.bool true]) w:=by kernel_rfl
theorem IcH(v:Value)(w:World):(Vex (.iface 257 v) 130 263 true).run prog w= .ok (.tuple #[.pointer none,.bool false]) w:=by kernel_rfl
theorem IcD(v:Value)(w:World):(Vex (.iface 257 v) 130 266 true).run prog w= .ok (.tuple #[.pointer none,.bool false]) w:=by kernel_rfl
theorem IcE(v:Value)(w:World):(Vex (.iface 257 v) 130 269 true).run prog w= .ok (.tuple #[.pointer none,.bool false]) w:=by kernel_rfl
theorem IcF(v:Value)(w:World):(Vex (.iface 257 v) 130 271 true).run prog w= .ok (.tuple #[.pointer none,.bool false]) w:=by kernel_rfl
theorem IcJ(v:Value)(w:World):(Vex (.iface 257 v) 130 274 true).run prog w= .ok (.tuple #[.pointer none,.bool false]) w:=by kernel_rfl
theorem IcI(v:Value)(w:World):(Vex (.iface 257 v) 130 281 true).run prog w= .ok (.tuple #[.pointer none,.bool false]) w:=by kernel_rfl
theorem IcO(v:Value)(w:World):(Vex (.iface 263 v) 130 257 true).run prog w= .ok (.tuple #[.pointer none,.bool false]) w:=by kernel_rfl
theorem IcP(v:Value)(w:World):(Vex (.iface 263 v) 130 263 true).run prog w= .ok (.tuple #[v,.bool true]) w:=by kernel_rfl
theorem IcL(v:Value)(w:World):(Vex (.iface 263 v) 130 266 true).run prog w= .ok (.tuple #[.pointer none,.bool false]) w:=by kernel_rfl
theorem IcM(v:Value)(w:World):(Vex (.iface 263 v) 130 269 true).run prog w= .ok (.tuple #[.pointer none,.bool false]) w:=by kernel_rfl
theorem IcN(v:Value)(w:World):(Vex (.iface 263 v) 130 271 true).run prog w= .ok (.tuple #[.pointer none,.bool false]) w:=by kernel_rfl
theorem IcR(v:Value)(w:World):(Vex (.iface 263 v) 130 274 true).run prog w= .ok (.tuple #[.pointer none,.bool false]) w:=by kernel_rfl
theorem IcK(v:Value)(w:World):(Vex (.iface 263 v) 130 276 true).run prog w= .ok (.tuple #[.pointer none,.bool false]) w:=by kernel_rfl
theorem IcQ(v:Value)(w:World):(Vex (.iface 263 v) 130 281 true).run prog w= .ok (.tuple #[.pointer none,.bool false]) w:=by kernel_rfl
theorem Icl(v:Value)(w:World):(Vex (.iface 266 v) 130 257 true).run prog w= .ok (.tuple #[.pointer none,.bool false]) w:=by kernel_rfl
theorem Icm(v:Value)(w:World):(Vex (.iface 266 v) 130 263 true).run prog w= .ok (.tuple #[.pointer none,.bool false]) w:=by kernel_rfl
theorem Ici(v:Value)(w:World):(Vex (.iface 266 v) 130 266 true).run prog w= .ok (.tuple #[v,.bool true]) w:=by kernel_rfl
theorem Icj(v:Value)(w:World):(Vex (.iface 266 v) 130 269 true).run prog w= .ok (.tuple #[.pointer none,.bool false]) w:=by kernel_rfl
theorem Ick(v:Value)(w:World):(Vex (.iface 266 v) 130 271 true).run prog w= .ok (.tuple #[.pointer none,.bool false]) w:=by kernel_rfl
theorem Ico(v:Value)(w:World):(Vex (.iface 266 v) 130 274 true).run prog w= .ok (.tuple #[.pointer none,.bool false]) w:=by kernel_rfl
theorem Icn(v:Value)(w:World):(Vex (.iface 266 v) 130 281 true).run prog w= .ok (.tuple #[.pointer none,.bool false]) w:=by kernel_rfl
theorem Ics(v:Value)(w:World):(Vex (.iface 269 v) 130 257 true).run prog w= .ok (.tuple #[.pointer none,.bool false]) w:=by kernel_rfl
theorem Ict(v:Value)(w:World):(Vex (.iface 269 v) 130 263 true).run prog w= .ok (.tuple #[.pointer none,.bool false]) w:=by kernel_rfl
theorem Icp(v:Value)(w:World):(Vex (.iface 269 v) 130 266 true).run prog w= .ok (.tuple #[.pointer none,.bool false]) w:=by kernel_rfl
theorem Icq(v:Value)(w:World):(Vex (.iface 269 v) 130 269 true).run prog w= .ok (.tuple #[v,.bool true]) w:=by kernel_rfl
theorem Icr(v:Value)(w:World):(Vex (.iface 269 v) 130 271 true).run prog w= .ok (.tuple #[.pointer none,.bool false]) w:=by kernel_rfl
theorem Icv(v:Value)(w:World):(Vex (.iface 269 v) 130 274 true).run prog w= .ok (.tuple #[.pointer none,.bool false]) w:=by kernel_rfl
theorem Icu(v:Value)(w:World):(Vex (.iface 269 v) 130 281 true).run prog w= .ok (.tuple #[.pointer none,.bool false]) w:=by kernel_rfl
theorem Icz(v:Value)(w:World):(Vex (.iface 271 v) 130 257 true).run prog w= .ok (.tuple #[.pointer none,.bool false]) w:=by kernel_rfl
theorem IcA(v:Value)(w:World):(Vex (.iface 271 v) 130 263 true).run prog w= .ok (.tuple #[.pointer none,.bool false]) w:=by kernel_rfl
theorem Icw(v:Value)(w:World):(Vex (.iface 271 v) 130 266 true).run prog w= .ok (.tuple #[.pointer none,.bool false]) w:=by kernel_rfl
theorem Icx(v:Value)(w:World):(Vex (.iface 271 v) 130 269 true).run prog w= .ok (.tuple #[.pointer none,.bool false]) w:=by kernel_rfl
theorem Icy(v:Value)(w:World):(Vex (.iface 271 v) 130 271 true).run prog w= .ok (.tuple #[v,.bool true]) w:=by kernel_rfl
theorem IcC(v:Value)(w:World):(Vex (.iface 271 v) 130 274 true).run prog w= .ok (.tuple #[.pointer none,.bool false]) w:=by kernel_rfl
theorem IcB(v:Value)(w:World):(Vex (.iface 271 v) 130 281 true).run prog w= .ok (.tuple #[.pointer none,.bool false]) w:=by kernel_rfl
theorem Ic4(v:Value)(w:World):(Vex (.iface 274 v) 130 257 true).run prog w= .ok (.tuple #[.pointer none,.bool false]) w:=by kernel_rfl
theorem Ic5(v:Value)(w:World):(Vex (.iface 274 v) 130 263 true).run prog w= .ok (.tuple #[.pointer none,.bool false]) w:=by kernel_rfl
theorem Ic1(v:Value)(w:World):(Vex (.iface 274 v) 130 266 true).run prog w= .ok (.tuple #[.pointer none,.bool false]) w:=by kernel_rfl
theorem Ic2(v:Value)(w:World):(Vex (.iface 274 v) 130 269 true).run prog w= .ok (.tuple #[.pointer none,.bool false]) w:=by kernel_rfl
theorem Ic3(v:Value)(w:World):(Vex (.iface 274 v) 130 271 true).run prog w= .ok (.tuple #[.pointer none,.bool false]) w:=by kernel_rfl
theorem Ic7(v:Value)(w:World):(Vex (.iface 274 v) 130 274 true).run prog w= .ok (.tuple #[v,.bool true]) w:=by kernel_rfl
theorem Ic0(v:Value)(w:World):(Vex (.iface 274 v) 130 276 true).run prog w= .ok (.tuple #[.pointer none,.bool false]) w:=by kernel_rfl
theorem Ic6(v:Value)(w:World):(Vex (.iface 274 v) 130 281 true).run prog w= .ok (.tuple #[.pointer none,.bool false]) w:=by kernel_rfl
theorem Ice(v:Value)(w:World):(Vex (.iface 276 v) 130 257 true).run prog w= .ok (.tuple #[.pointer none,.bool false]) w:=by kernel_rfl
theorem Icf(v:Value)(w:World):(Vex (.iface 276 v) 130 263 true).run prog w= .ok (.tuple #[.pointer none,.bool false]) w:=by kernel_rfl
theorem Icb(v:Value)(w:World):(Vex (.iface 276 v) 130 266 true).run prog w= .ok (.tuple #[.pointer none,.bool false]) w:=by kernel_rfl
theorem Icc(v:Value)(w:World):(Vex (.iface 276 v) 130 269 true).run prog w= .ok (.tuple #[.pointer none,.bool false]) w:=by kernel_rfl
theorem Icd(v:Value)(w:World):(Vex (.iface 276 v) 130 271 true).run prog w= .ok (.tuple #[.pointer none,.bool false]) w:=by kernel_rfl
theorem Ich(v:Value)(w:World):(Vex (.iface 276 v) 130 274 true).run prog w= .ok (.tuple #[.pointer none,.bool false]) w:=by kernel_rfl
theorem Ica(v:Value)(w:World):(Vex (.iface 276 v) 130 276 true).run prog w= .ok (.tuple #[v,.bool true]) w:=by kernel_rfl
theorem Icg(v:Value)(w:World):(Vex (.iface 276 v) 130 281 true).run prog w= .ok (.tuple #[.pointer none,.bool false]) w:=by kernel_rfl
theorem IcW(v:Value)(w:World):(Vex (.iface 281 v) 130 257 true).run prog w= .ok (.tuple #[.pointer none,.bool false]) w:=by kernel_rfl
theorem IcX(v:Value)(w:World):(Vex (.iface 281 v) 130 263 true).run prog w= .ok (.tuple #[.pointer none,.bool false]) w:=by kernel_rfl
theorem IcT(v:Value)(w:World):(Vex (.iface 281 v) 130 266 true).run prog w= .ok (.tuple #[.pointer none,.bool false]) w:=by kernel_rfl
theorem IcU(v:Value)(w:World):(Vex (.iface 281 v) 130 269 true).run prog w= .ok (.tuple #[.pointer none,.bool false]) w:=by kernel_rfl
theorem IcV(v:Value)(w:World):(Vex (.iface 281 v) 130 271 true).run prog w= .ok (.tuple #[.pointer none,.bool false]) w:=by kernel_rfl
theorem IcZ(v:Value)(w:World):(Vex (.iface 281 v) 130 274 true).run prog w= .ok (.tuple #[.pointer none,.bool false]) w:=by kernel_rfl
theorem IcS(v:Value)(w:World):(Vex (.iface 281 v) 130 276 true).run prog w= .ok (.tuple #[.pointer none,.bool false]) w:=by kernel_rfl
theorem IcY(v:Value)(w:World):(Vex (.iface 281 v) 130 281 true).run prog w= .ok (.tuple #[v,.bool true]) w:=by kernel_rfl
variable {w':World}
theorem KB.xk{x:Value}(h:KB B b w w')(E:BW 187 w B b x bs):XKeep w w':=fun k G e f D d=>by
 refine h.oth k G e f (fun z=> ?_) (fun z=> ?_) d
 .obtain⟨_,p,v,_,I,_⟩:=E;rw[z,I]at d;simp only[Vaa,VaT]at d;rw[<-d.2.1]at D;exact absurd D (by decide)
 .rw[z]at D;exact absurd D (by decide)
theorem BW.alloc{x:Value}(h:BW H w B b x bs)(o:Obj):BW H (w.alloc o) B b x bs:=by
 have k:=(Kp.refl (fun _=>False) w).alloc o;obtain⟨G,p,v,d,I,D,E⟩:=h;exact⟨G,p,v,d,k.blk I (fun z=>z),Jbp (P:=fun _=>True) (fun b _ J=>k.block b J (fun z=>z)) (fun _ _=>trivial) D,E⟩
theorem wtok(h:BW 187 w B b (.string last) bs)(ts:List BA)(I:bs.length+(ts.map fun t=>t.size+1).sum<=100000000)(d:ts.length<=1000000):
  Calls prog 135 #[.pointer (some ⟨b,0,none⟩),.slice (some ⟨w.heap.size,0,none⟩) ts.length ts.length] (w.alloc (.cells (ts.map Value.string).toArray 9)) fun e w'=>e= .returned (.tuple #[])/\BW 187 w' B b (.string (lst last ts)) (bs++Vet (em last ts))/\KB B b w w':=by
 refine(JkV B b w.heap.size ts.length ts _ last bs (h.alloc _) (Vag _ _) I d).mono ?_
 rintro e w' ⟨E,D,G⟩;exact⟨E,D,(KB.alloc B b w _).trans G⟩
def SWX(x:X):Prop:=∀(v:Value) (w:World) (P:Nat->Prop) (B b:Nat) (last:BA) (bs:List Value),PX w P x v->BW 187 w B b (.string last) bs->bs.length+tw x+1<=10000000->
 Calls prog 100 #[.pointer (some ⟨b,0,none⟩),v] w fun e w'=>e= .returned (.tuple #[])/\∃d,opn d=false/\BW 187 w' B b (.string d) (bs++Vet (pre last++txt x))/\KB B b w w'
variable {a:BA}
theorem JaD{b:BA}(h:a.data.toList≠b.data.toList):a≠b:=fun e=>h (by rw[e])
theorem PX.wf(h:PX w P x v):WF x:=by
 induction h with
 |name n loc b I G h=>exact .leaf _ _ _ (.inl rfl)
 |num n loc b I G h=>exact .leaf _ _ _ (.inr rfl)
 |fn n x loc b p I G h _ d=>exact .fn _ _ _ d
 |ite x y z loc b p q r G h _ _ _ d E O=>exact .ite _ _ _ _ d E O
 |lt n x y loc b p q I G h _ _ d E=>
  refine .lt _ _ _ _ (.inl rfl) rfl (by simp) ?_
  intro a D;simp only[VaW,Vbr,VcA]at D
  rcases D with rfl|rfl
  .exact d
  .exact E
 |app x y loc b p q G h _ _ d E=>exact .app _ _ _ d E
 |pair x y loc b p q G h _ _ d E=>exact .pair _ _ _ d E
 |rc names kids y loc b U V q ps T I G h hn Z Y W M L _ _ i j=>
  refine .lt _ _ _ _ (.inr rfl) (by simp[L]) T ?_
  intro a D
  rcases Vbd.1 D with D|D
  .obtain⟨k,J,rfl⟩:=Vbk D;exact i k _ ps[k] (by simp[J]) (by simp[M,J])
  .simp only[VaW,Vbr,VcA]at D;rw[D];exact j
theorem JcW(n:BA)(loc:Nat):txt (.mk ⟨#[110,97,109,101]⟩ [n] [] loc)=n:=by
 rw[txt];rw[Vaq (JaD (by decide)),Vaq (JaD (by decide)),Vaq (JaD (by decide)),Vaq (JaD (by decide)),Vaq (JaD (by decide)),Vaq (JaD (by decide))];rfl
theorem JhO(n:BA)(loc:Nat):txt (.mk ⟨#[110,117,109]⟩ [n] [] loc)=n:=by
 rw[txt];rw[Vaq (JaD (by decide)),Vaq (JaD (by decide)),Vaq (JaD (by decide)),Vaq (JaD (by decide)),Vaq (JaD (by decide)),Vaq (JaD (by decide))];rfl
theorem JiE(n:BA)(x:X)(loc:Nat):txt (.mk ⟨#[102,117,110]⟩ [n] [x] loc)=⟨#[102,117,110,32]⟩++n++⟨#[32,45,62,32]⟩++txt x:=by
 rw[txt];rw[Vat rfl];simp[txts]
theorem Jea(x y:X)(loc:Nat):txt (.mk ⟨#[112,97,105,114]⟩ [] [x,y] loc)=⟨#[40]⟩++txt x++⟨#[44,32]⟩++txt y++⟨#[41]⟩:=by
 rw[txt];rw[Vaq (JaD (by decide)),Vat rfl];simp[txts]
theorem JhN(x y z:X)(loc:Nat):txt (.mk ⟨#[105,102]⟩ [] [x,y,z] loc)=⟨#[105,102,32]⟩++txt x++⟨#[32,116,104,101,110,32]⟩++txt y++⟨#[32,101,108,115,101,32]⟩++txt z:=by
 rw[txt];rw[Vaq (JaD (by decide)),Vaq (JaD (by decide)),Vat rfl];simp[txts]
theorem JhM(x y:X)(loc:Nat):txt (.mk ⟨#[97,112,112]⟩ [] [x,y] loc)=brk (JbR x.op) (txt x)++⟨#[32]⟩++brk (JbL y.op) (txt y):=by
 rw[txt];rw[Vaq (JaD (by decide)),Vaq (JaD (by decide)),Vaq (JaD (by decide)),Vat rfl];simp[txts]
theorem JeU(n:BA)(x y:X)(loc:Nat):txt (.mk ⟨#[108,101,116]⟩ [n] [x,y] loc)=⟨#[108,101,116,32]⟩++(n++⟨#[32,61,32]⟩++txt x)++⟨#[32,105,110,32]⟩++txt y:=by
 rw[txt];rw[Vaq (JaD (by decide)),Vaq (JaD (by decide)),Vaq (JaD (by decide)),Vaq (JaD (by decide)),Vat rfl];simp[txts,letT]
theorem JaA{b:BA}(h:a.data.toList=b.data.toList):a=b:=Vbf (VbF.1 h)
theorem JaE(a b:BA):(a++b).data.toList=a.data.toList++b.data.toList:=by simp
theorem Jqk(h:BW 187 w B b (.string last) bs)(t:BA)(d:bs.length+(t.size+1)<=100000000):
  Calls prog 135 #[.pointer (some ⟨b,0,none⟩),.slice (some ⟨w.heap.size,0,none⟩) 1 1] (w.alloc (.cells #[.string t] 9)) fun e w'=>e= .returned (.tuple #[])/\BW 187 w' B b (.string t) (bs++Vet (sep last t++t))/\KB B b w w':=by
 have h:=wtok h [t] (by simpa using d) (by simp);rw[JjG]at h;exact h
theorem JnR(l t u:BA):em l [t,u]=sep l t++t++(sep t u++u):=by
 show sep l t++t++em t [u]=_;rw[JjG]
theorem JlW(l t u v:BA):em l [t,u,v]=sep l t++t++(sep t u++u++(sep u v++v)):=by
 show sep l t++t++em t [u,v]=_;rw[JnR]
theorem wtok2(h:BW 187 w B b (.string last) bs)(t u:BA)(d:bs.length+(t.size+1+(u.size+1))<=100000000):
  Calls prog 135 #[.pointer (some ⟨b,0,none⟩),.slice (some ⟨w.heap.size,0,none⟩) 2 2] (w.alloc (.cells #[.string t,.string u] 9)) fun e w'=>e= .returned (.tuple #[])/\BW 187 w' B b (.string u) (bs++Vet (sep last t++t++(sep t u++u)))/\KB B b w w':=by
 have h:=wtok h [t,u] (by simpa using d) (by simp);rw[JnR]at h;exact h
theorem wtok3(h:BW 187 w B b (.string last) bs)(t u v:BA)(d:bs.length+(t.size+1+(u.size+1+(v.size+1)))<=100000000):
  Calls prog 135 #[.pointer (some ⟨b,0,none⟩),.slice (some ⟨w.heap.size,0,none⟩) 3 3] (w.alloc (.cells #[.string t,.string u,.string v] 9)) fun e w'=>e= .returned (.tuple #[])/\BW 187 w' B b (.string v) (bs++Vet (sep last t++t++(sep t u++u++(sep u v++v))))/\KB B b w w':=by
 have h:=wtok h [t,u,v] (by simpa using d) (by simp);rw[JlW]at h;exact h
theorem JfC(bs:List Value)(a:BA):(bs++Vet a).length=bs.length+a.size:=by rw[Vap,Vew]
theorem JmM(l:BA):(pre l).size<=1:=by
 unfold pre
 split<;>decide
theorem PX.sz(h:PX w P x v)(l:BA):(pre l++txt x).size<=tw x+1:=by
 have:=JiF x h.wf;have:=JmM l;rw[Var];omega
theorem Jax(bs:List Value)(a c:BA):bs++Vet a++Vet c=bs++Vet (a++c):=by rw[JgR,Val]
theorem tk1(h:BW 187 w B b (.string last) bs)(t:BA)(k:Nat)(E:t.size+1<=k)(G:bs.length+k<=100000000):
  Calls prog 135 #[.pointer (some ⟨b,0,none⟩),.slice (some ⟨w.heap.size,0,none⟩) 1 1] (w.alloc (.cells #[.string t] 9)) fun e w'=>e= .returned (.tuple #[])/\∃bs',Hid (bs'=bs++Vet (sep last t++t))/\bs'.length<=bs.length+k/\BW 187 w' B b (.string t) bs'/\KB B b w w':=by
 refine(Jqk h t (by omega)).mono ?_
 rintro e w' ⟨rfl,d,D⟩;refine⟨rfl,_,rfl,?_,d,D⟩
 have:=Jci last t;rw[JfC,Var];omega
theorem tk2(h:BW 187 w B b (.string last) bs)(t u:BA)(k:Nat)(E:t.size+1+(u.size+1)<=k)(G:bs.length+k<=100000000):
  Calls prog 135 #[.pointer (some ⟨b,0,none⟩),.slice (some ⟨w.heap.size,0,none⟩) 2 2] (w.alloc (.cells #[.string t,.string u] 9)) fun e w'=>e= .returned (.tuple #[])/\∃bs',Hid (bs'=bs++Vet (sep last t++t++(sep t u++u)))/\bs'.length<=bs.length+k/\BW 187 w' B b (.string u) bs'/\KB B b w w':=by
 refine(wtok2 h t u (by omega)).mono ?_
 rintro e w' ⟨rfl,d,D⟩;refine⟨rfl,_,rfl,?_,d,D⟩
 have:=Jci last t;have:=Jci t u;rw[JfC,Var,Var,Var];omega
theorem tk3(h:BW 187 w B b (.string last) bs)(t u v:BA)(k:Nat)(E:t.size+1+(u.size+1+(v.size+1))<=k)(G:bs.length+k<=100000000):
  Calls prog 135 #[.pointer (some ⟨b,0,none⟩),.slice (some ⟨w.heap.size,0,none⟩) 3 3] (w.alloc (.cells #[.string t,.string u,.string v] 9)) fun e w'=>e= .returned (.tuple #[])/\∃bs',Hid (bs'=bs++Vet (sep last t++t++(sep t u++u++(sep u v++v))))/\bs'.length<=bs.length+k/\BW 187 w' B b (.string v) bs'/\KB B b w w':=by
 refine(wtok3 h t u v (by omega)).mono ?_
 rintro e w' ⟨rfl,d,D⟩;refine⟨rfl,_,rfl,?_,d,D⟩
 have:=Jci last t;have:=Jci t u;have:=Jci u v;rw[JfC,Var,Var,Var,Var,Var];omega
theorem xg(G:SWX x)(D:PX w P x v)(d:BW 187 w B b (.string last) bs)(J:bs.length+tw x+1<=10000000):
  Calls prog 100 #[.pointer (some ⟨b,0,none⟩),v] w fun e w'=>e= .returned (.tuple #[])/\∃h bs',opn h=false/\Hid (bs'=bs++Vet (pre last++txt x))/\bs'.length<=bs.length+tw x+1/\BW 187 w' B b (.string h) bs'/\KB B b w w':=by
 refine(G v w P B b last bs D d J).mono ?_
 rintro e w' ⟨rfl,l,E,d,I⟩;refine⟨rfl,l,_,E,rfl,?_,d,I⟩
 have:=D.sz last;rw[JfC];omega
end Go.Proofs.YtleenphlgbklmaaGreatDoor
