import Derived.Test.YtleenphlgbklmaaGreatDoorACTokBase
set_option linter.unusedVariables false
set_option linter.unusedSimpArgs false
set_option maxRecDepth 100000
set_option maxHeartbeats 8000000
namespace Go.Proofs.YtleenphlgbklmaaGreatDoor
open Go.RowKit
variable {nm:BA}{g:Bool}
inductive Kd where
 |vr|ls|pr|ar
inductive TR where
 |int|bool|nd (k:Kd) (i:Nat)
inductive NK where
 |vr (nm:BA) (g:Bool)|ls (x:TR)|pr (x y:TR)|ar (x y:TR)
structure Nd where
 k:NK
 s:Option TR
abbrev St:=List Nd
def NK.kd:NK->Kd
 | .vr _ _=> .vr
 | .ls _=> .ls
 | .pr _ _=> .pr
 | .ar _ _=> .ar
def Kd.eqb:Kd->Kd->Bool
 | .vr,.vr=>true
 | .ls,.ls=>true
 | .pr,.pr=>true
 | .ar,.ar=>true
 |_,_=>false
def TR.eqb:TR->TR->Bool
 | .int,.int=>true
 | .bool,.bool=>true
 | .nd k i,.nd l j=>k.eqb l&&i==j
 |_,_=>false
theorem Kd.eqb_iff{a b:Kd}:a.eqb b=true<->a=b:=by cases a<;>cases b<;>simp[Kd.eqb]
variable {a b:TR}
theorem TR.eqb_iff:a.eqb b=true<->a=b:=by cases a<;>cases b<;>simp[TR.eqb,Kd.eqb_iff]
theorem TR.eqb_ff:a.eqb b=false<->a≠b:=by
 rw[<-Vc5,TR.eqb_iff]
inductive Rp(σ:St):TR->TR->Prop
 |int:Rp σ .int .int
 |bool:Rp σ .bool .bool
 |root (i:Nat) (nk:NK):σ[i]? =some ⟨nk,none⟩->Rp σ (.nd nk.kd i) (.nd nk.kd i)
 |step (i:Nat) (nk:NK) (r r0:TR):σ[i]? =some ⟨nk,some r⟩->Rp σ r r0->Rp σ (.nd nk.kd i) r0
theorem Rp.det{σ:St}{r:TR}(h:Rp σ r a)(g:Rp σ r b):a=b:=by
 induction h with
 |int=>cases g;rfl
 |bool=>cases g;rfl
 |root i nk D=>
  generalize d:TR.nd nk.kd i=x at g
  cases g with
  |int=>cases d
  |bool=>cases d
  |root j mk E=>rfl
  |step j mk r r0 E _=>
   simp only[TR.nd.injEq]at d;rw[d.2,E]at D;simp at D
 |step i nk r r0 D _ I=>
  generalize d:TR.nd nk.kd i=x at g
  cases g with
  |int=>cases d
  |bool=>cases d
  |root j mk E=>
   simp only[TR.nd.injEq]at d;rw[d.2,E]at D;simp at D
  |step j mk J L E G=>
   simp only[TR.nd.injEq]at d;rw[d.2,E]at D;simp at D;rw[D.2]at G;exact I G
variable {r0:TR}
theorem Rp.root_of{σ:St}{r:TR}(h:Rp σ r r0):Rp σ r0 r0:=by
 induction h with
 |int=>exact .int
 |bool=>exact .bool
 |root i nk h=>exact .root i nk h
 |step i nk r r0 _ _ d=>exact d
variable {k:Kd}
theorem Rp.rt{σ:St}{r:TR}{i:Nat}(h:Rp σ r (.nd k i)):∃nk,nk.kd=k/\σ[i]? =some ⟨nk,none⟩:=by
 generalize d:TR.nd k i=x at h
 induction h with
 |int=>cases d
 |bool=>cases d
 |root j nk D=>
  simp only[TR.nd.injEq]at d;rw[d.1,d.2];exact⟨nk,rfl,D⟩
 |step _ _ _ _ _ _ E=>exact E d
structure Ev(σ τ:St):Prop where
 len:τ.length=σ.length
 kk:∀(i:Nat) (nk:NK) (s:Option TR),σ[i]? =some ⟨nk,s⟩->∃s':Option TR,τ[i]? =some ⟨nk,s'⟩/\s'.isSome=s.isSome
 rp:∀r r0,Rp σ r r0->Rp τ r r0
theorem Ev.refl(σ:St):Ev σ σ:=⟨rfl,fun _ _ s h=>⟨s,h,rfl⟩,fun _ _ h=>h⟩
variable {c:St}
theorem Ev.trans{a b:St}(h:Ev a b)(g:Ev b c):Ev a c:=⟨g.len.trans h.len,fun i nk s q=>by
  obtain⟨d,E,J⟩:=h.kk i nk s q;obtain⟨D,I,G⟩:=g.kk i nk d E;exact⟨D,I,G.trans J⟩,fun r r0 q=>g.rp _ _ (h.rp _ _ q)⟩
variable {τ:St}
theorem Ev.root{σ:St}(h:Ev σ τ){i:Nat}{nk:NK}(q:σ[i]? =some ⟨nk,none⟩):τ[i]? =some ⟨nk,none⟩:=by
 obtain⟨s,D,d⟩:=h.kk i nk none q
 cases s with
 |none=>exact D
 |some _=>simp at d
theorem Rp.short{i:Nat}{nk:NK}{r:TR}(h:τ[i]? =some ⟨nk,some r⟩)(I:Rp τ r r0):Ev τ (τ.set i ⟨nk,some r0⟩):=by
 have E:=(Vae.1 h).1
 have G:∀(j:Nat) (mk:NK),τ[j]? =some ⟨mk,none⟩->(τ.set i ⟨nk,some r0⟩)[j]? =some ⟨mk,none⟩:=fun j mk d=>by
  rw[VaC (fun e=>by rw[e,d]at h;simp at h)];exact d
 have J:Rp (τ.set i ⟨nk,some r0⟩) r0 r0:=by
  cases r0 with
  |int=>exact .int
  |bool=>exact .bool
  |nd k j=>
   obtain⟨mk,rfl,d⟩:=I.rt;exact .root j mk (G j mk d)
 refine⟨by simp,?_,?_⟩
 .intro j mk s d
  by_cases e:i=j
  .subst e;rw[h]at d;simp at d;obtain⟨rfl,rfl⟩:=d;exact⟨some r0,by simp[E],rfl⟩
  .exact⟨s,by rw[VaC e];exact d,rfl⟩
 .intro a b D
  induction D with
  |int=>exact .int
  |bool=>exact .bool
  |root j mk d=>exact .root j mk (G j mk d)
  |step j mk a b d D L=>
   by_cases e:i=j
   .subst e;rw[h]at d;simp at d;obtain⟨rfl,rfl⟩:=d;rw[D.det I];exact .step i nk r0 r0 (by simp[E]) J
   .exact .step j mk a b (by rw[VaC e];exact d) L
variable {x:Nd}
theorem Jdb{σ:St}{n:Nd}{i:Nat}(h:σ[i]? =some x):(σ++ [n])[i]? =some x:=by
 rw[Vak (Vae.1 h).1];exact h
theorem Rp.up{σ:St}{r:TR}(h:Rp σ r r0)(u:St):Rp (σ++u) r r0:=by
 have g:∀(i:Nat) (x:Nd),σ[i]? =some x->(σ++u)[i]? =some x:=fun i x h=>by
  rw[Vak (Vae.1 h).1];exact h
 induction h with
 |int=>exact .int
 |bool=>exact .bool
 |root i nk d=>exact .root i nk (g _ _ d)
 |step i nk r r0 d _ D=>exact .step i nk r r0 (g _ _ d) D
def fuN:Nat:=10^1000
inductive Oc(α:Type) where
 |ok (a:α)|er (j:Nat)
def repF:Nat->St->TR->Option TR
 |0,_,_=>none
 |_+1,_,.int=>some .int
 |_+1,_,.bool=>some .bool
 |n+1,σ,.nd k i=>match σ[i]? with
  |some ⟨nk,none⟩=>if k.eqb nk.kd then some (.nd k i)else none
  |some ⟨nk,some r⟩=>if k.eqb nk.kd then repF n σ r else none
  |none=>none
theorem Jcg:∀(n:Nat) {σ:St} {r r0:TR},repF n σ r=some r0->Rp σ r r0:=by
 intro n
 induction n with
 |zero=>intro σ r r0 h;simp[repF]at h
 |succ n E=>
  intro σ r r0 h
  cases r with
  |int=>simp[repF]at h;subst h;exact .int
  |bool=>simp[repF]at h;subst h;exact .bool
  |nd k i=>
   simp only[repF]at h
   split at h
   .rename_i nk D
    split at h
    .rename_i d;simp only[Vaa]at h;have d:=Kd.eqb_iff.1 d;subst d;subst h;exact .root i nk D
    .simp at h
   .rename_i nk r D
    split at h
    .rename_i d;have d:=Kd.eqb_iff.1 d;subst d;exact .step i nk r r0 D (E h)
    .simp at h
   .simp at h
def Jap(σ:St):TR->Option (List TR)
 | .nd _ i=>match σ[i]? with
  |some ⟨.vr _ _,none⟩=>some []
  |some ⟨.ls x,none⟩=>some [x]
  |some ⟨.pr x y,none⟩=>some [x,y]
  |some ⟨.ar x y,none⟩=>some [x,y]
  |_=>none
 |_=>some []
def Jc1:Nat->St->TR->Int->Option Int
 |0,_,_,_=>none
 |n+1,σ,r,d=>
  (repF fuN σ r).bind fun r0=>(Jap σ r0).bind fun h=>
  match h with
  | []=>some (d-1)
  | [x]=>if d-1<0 then some (d-1)else Jc1 n σ x (d-1)
  | [x,y]=>if d-1<0 then some (d-1)else(Jc1 n σ x (d-1)).bind fun a=>if a<0 then some a else Jc1 n σ y a
  |_=>none
def memT(r:TR):List TR->Bool
 | []=>false
 |x::l=>r.eqb x||memT r l
def JaL:Nat->St->TR->List TR->Option (List TR)
 |0,_,_,_=>none
 |n+1,σ,r,l=>
  (repF fuN σ r).bind fun r0=>if memT r0 l then some l else(Jap σ r0).bind fun d=>
  match d with
  | []=>some (l++ [r0])
  | [x]=>JaL n σ x (l++ [r0])
  | [x,y]=>(JaL n σ x (l++ [r0])).bind fun l1=>JaL n σ y l1
  |_=>none
def JgN(σ:St):TR->Bool
 | .nd k j=>match σ[j]? with
  |some ⟨nk,none⟩=>k.eqb nk.kd
  |_=>false
 |_=>true
theorem JmZ{σ:St}{r:TR}(h:JgN σ r=true):Rp σ r r:=by
 cases r with
 |int=>exact .int
 |bool=>exact .bool
 |nd k j=>
  simp only[JgN]at h
  split at h
  .rename_i nk d;have:=Kd.eqb_iff.1 h;subst this;exact .root j nk d
  .simp at h
def stF(σ:St)(i:Nat)(r:TR):Option St:=match σ[i]? with
 |some ⟨nk,none⟩=>if JgN σ r&& !(TR.nd nk.kd i).eqb r then some (σ.set i ⟨nk,some r⟩)else none
 |_=>none
theorem JiA{σ:St}{i:Nat}{r:TR}(h:stF σ i r=some τ):∃nk,σ[i]? =some ⟨nk,none⟩/\Rp σ r r/\TR.nd nk.kd i≠r/\τ=σ.set i ⟨nk,some r⟩:=by
 simp only[stF]at h
 split at h
 .rename_i nk D
  split at h
  .rename_i d;simp only[Vaz,Bool.not_eq_true']at d;simp only[Vaa]at h;exact⟨nk,D,JmZ d.1,TR.eqb_ff.1 d.2,h.symm⟩
  .simp at h
 .simp at h
theorem rp_nd{σ:St}{i:Nat}(h:Rp σ (.nd k i) b):∃nk s,nk.kd=k/\σ[i]? =some ⟨nk,s⟩:=by
 generalize d:TR.nd k i=x at h
 cases h with
 |int=>cases d
 |bool=>cases d
 |root j nk h=>
  simp only[TR.nd.injEq]at d;obtain⟨rfl,rfl⟩:=d;exact⟨nk,none,rfl,h⟩
 |step j nk r r0 h _=>
  simp only[TR.nd.injEq]at d;obtain⟨rfl,rfl⟩:=d;exact⟨nk,some r,rfl,h⟩
section
variable {σ:St}{i:Nat}{nk:NK}{r:TR}
theorem JfN(D:Rp σ r r)(h:TR.nd nk.kd i≠r)(E:σ[i]? =some ⟨nk,none⟩):Rp (σ.set i ⟨nk,some r⟩) r r:=by
 cases r with
 |int=>exact .int
 |bool=>exact .bool
 |nd k j=>
  obtain⟨mk,rfl,d⟩:=D.rt;refine .root j mk ?_
  rw[VaC (fun e=>by subst e;rw[E]at d;simp at d;subst d;exact h rfl)];exact d
theorem Jrt(D:σ[i]? =some ⟨nk,none⟩)(J:Rp σ r r)(G:TR.nd nk.kd i≠r){c:TR}(h:Rp σ a c):Rp (σ.set i ⟨nk,some r⟩) a (if c.eqb (.nd nk.kd i)then r else c):=by
 have E:=(Vae.1 D).1;have I:=JfN J G D
 induction h with
 |int=>exact .int
 |bool=>exact .bool
 |root j mk d=>
  by_cases e:i=j
  .subst e;rw[D]at d;simp only[Vaa,Nd.mk.injEq,Vbo]at d;subst d;rw[Vat (TR.eqb_iff.2 rfl)];exact .step i nk r r (by simp[E]) I
  .rw[Vaq (by rw[Vc5,TR.eqb_ff];intro z;simp only[TR.nd.injEq]at z;exact e z.2.symm)];exact .root j mk (by rw[VaC e];exact d)
 |step j mk a b d _ L=>
  have e:i≠j:=fun e=>by subst e;rw[D]at d;simp at d
  exact .step j mk a _ (by rw[VaC e];exact d) L
theorem Jm1(D:σ[i]? =some ⟨nk,none⟩)(M:Rp σ r r)(O:TR.nd nk.kd i≠r)(h:Rp (σ.set i ⟨nk,some r⟩) a b):∃c,Rp σ a c/\b=(if c.eqb (.nd nk.kd i)then r else c):=by
 have E:=(Vae.1 D).1;have L:=JfN M O D
 induction h with
 |int=>exact⟨.int,.int,rfl⟩
 |bool=>exact⟨.bool,.bool,rfl⟩
 |root j mk d=>
  by_cases e:i=j
  .subst e;simp[E]at d
  .rw[VaC e]at d;exact⟨_,.root j mk d,by rw[Vaq (by rw[Vc5,TR.eqb_ff];intro z;simp only[TR.nd.injEq]at z;exact e z.2.symm)]⟩
 |step j mk a b d J T=>
  by_cases e:i=j
  .subst e;simp only[Vba E,Vaa,Nd.mk.injEq]at d;obtain⟨rfl,rfl⟩:=d;exact⟨_,.root i nk D,by rw[Vat (TR.eqb_iff.2 rfl)];exact J.det L⟩
  .rw[VaC e]at d;obtain⟨c,G,I⟩:=T;exact⟨c,.step j mk a c d G,I⟩
theorem Ev.set(h:Ev σ τ)(D:σ[i]? =some ⟨nk,none⟩)(I:Rp σ r r)(G:TR.nd nk.kd i≠r):Ev (σ.set i ⟨nk,some r⟩) (τ.set i ⟨nk,some r⟩):=by
 have E:=(Vae.1 D).1;have M:i<τ.length:=by rw[h.len];exact E
 refine⟨by simp[h.len],?_,?_⟩
 .intro j mk s d
  by_cases e:i=j
  .subst e;rw[Vba E]at d;simp only[Vaa,Nd.mk.injEq]at d;obtain⟨rfl,rfl⟩:=d;exact⟨some r,by rw[Vba M],rfl⟩
  .rw[VaC e]at d;rw[VaC e];exact h.kk j mk s d
 .intro a b L;obtain⟨c,J,rfl⟩:=Jm1 D I G L;exact Jrt (h.root D) (h.rp _ _ I) G (h.rp _ _ J)
variable {nk':NK}
theorem Jlc(G:nk'.kd=nk.kd){σ:St}{i:Nat}(D:σ[i]? =some ⟨nk,none⟩)(h:Rp σ a b):Rp (σ.set i ⟨nk',none⟩) a b:=by
 have E:=(Vae.1 D).1
 induction h with
 |int=>exact .int
 |bool=>exact .bool
 |root j mk d=>
  by_cases e:i=j
  .subst e;rw[D]at d;simp only[Vaa,Nd.mk.injEq,Vbo]at d;subst d;rw[<-G];exact .root i nk' (by rw[Vba E])
  .exact .root j mk (by rw[VaC e];exact d)
 |step j mk a b d _ I=>
  have e:i≠j:=fun e=>by subst e;rw[D]at d;simp at d
  exact .step j mk a _ (by rw[VaC e];exact d) I
theorem Jnb{σ:St}{i:Nat}{y:Nd}(d:σ[i]? =some x):(σ.set i y).set i x=σ:=by
 apply List.ext_getElem?
 intro j
 by_cases e:i=j
 .subst e;have h:=(Vae.1 d).1;rw[Vba (by simpa using h),d]
 .rw[VaC e,VaC e]
theorem Ev.mark(G:nk'.kd=nk.kd)(h:Ev σ τ)(E:σ[i]? =some ⟨nk,none⟩):Ev (σ.set i ⟨nk',none⟩) (τ.set i ⟨nk',none⟩):=by
 have D:=(Vae.1 E).1;have L:i<τ.length:=by rw[h.len];exact D
 refine⟨by simp[h.len],?_,?_⟩
 .intro j mk s d
  by_cases e:i=j
  .subst e;rw[Vba D]at d;simp only[Vaa,Nd.mk.injEq]at d;obtain⟨rfl,rfl⟩:=d;exact⟨none,by rw[Vba L],rfl⟩
  .rw[VaC e]at d;rw[VaC e];exact h.kk j mk s d
 .intro a b J
  have I:Rp σ a b:=by
   have:=Jlc (nk:=nk') (nk':=nk) G.symm (σ:=σ.set i ⟨nk',none⟩) (i:=i) (by rw[Vba D]) J;rwa[Jnb E]at this
  exact Jlc G (h.root E) (h.rp _ _ I)
end
def becF(σ:St)(i:Nat)(t:TR):Option (Oc St):=
 (JaL fuN σ t []).bind fun l=>if memT (.nd .vr i) l then some (.er 3)else(stF σ i t).bind fun τ=>some (.ok τ)
def isVr:TR->Option Nat
 | .nd .vr i=>some i
 |_=>none
def alkF:TR->TR->Bool
 | .nd k _,.nd l _=>k.eqb l
 |_,_=>false
def belF(f:St->TR->TR->Option (Oc St))(σ:St)(x0 y0:TR):Option (Oc St):=
 if alkF x0 y0 then
  (Jap σ y0).bind fun os=>(Jap σ x0).bind fun h=>
  match h,os with
  | [a],[c]=>f σ a c
  | [a,b],[c,d]=>(f σ a c).bind fun o=>match o with
   | .er j=>some (.er j)
   | .ok σ1=>f σ1 b d
  |_,_=>none
 else some (.er 3)
def eqF:Nat->St->TR->TR->Option (Oc St)
 |0,_,_,_=>none
 |n+1,σ,x,y=>
  (repF fuN σ x).bind fun x0=>(repF fuN σ y).bind fun y0=>
  if x0.eqb y0 then some (.ok σ)
  else match isVr x0 with
  |some i=>becF σ i y0
  |none=>match isVr y0 with
   |some j=>becF σ j x0
   |none=>(belF (fun σ a c=>eqF n σ a c) σ x0 y0).bind fun o=>match o with
    | .er j=>some (.er j)
    | .ok σ1=>match x0 with
     | .nd _ i=>(stF σ1 i y0).bind fun τ=>some (.ok τ)
     |_=>none
def JdZ(σ:St):TR->St
 | .nd .vr i=>match σ[i]? with
  |some ⟨.vr nm _,none⟩=>σ.set i ⟨.vr nm true,none⟩
  |_=>σ
 |_=>σ
def genF:Nat->St->TR->List TR->Option St
 |0,_,_,_=>none
 |n+1,σ,r,bd=>
  (repF fuN σ r).bind fun r0=>if memT r0 bd then some σ else match isVr r0 with
  |some _=>some (JdZ σ r0)
  |none=>(Jap σ r0).bind fun d=>match d with
   | []=>some σ
   | [x]=>genF n σ x bd
   | [x,y]=>(genF n σ x bd).bind fun σ1=>genF n σ1 y bd
   |_=>none
def Jal(i:Nat):List (Nat×Nat)->Option Nat
 | []=>none
 |e::l=>if i==e.1 then some e.2 else Jal i l
def newV:Nd:=⟨.vr ⟨#[]⟩ false,none⟩
def Ja1:Nat->St->TR->List (Nat×Nat)->Option (TR×St×List (Nat×Nat))
 |0,_,_,_=>none
 |n+1,σ,r,m=>
  (repF fuN σ r).bind fun r0=>match r0 with
  | .int=>some (.int,σ,m)
  | .bool=>some (.bool,σ,m)
  | .nd k i=>match σ[i]? with
   |some ⟨.vr _ false,none⟩=>some (.nd k i,σ,m)
   |some ⟨.vr _ true,none⟩=>match Jal i m with
    |some j=>some (.nd .vr j,σ,m)
    |none=>some (.nd .vr σ.length,σ++ [newV],m++ [(i,σ.length)])
   |some ⟨.ls x,none⟩=>(Ja1 n σ x m).bind fun p=>some (.nd .ls p.2.1.length,p.2.1++ [⟨.ls p.1,none⟩],p.2.2)
   |some ⟨.pr x y,none⟩=>(Ja1 n σ x m).bind fun p=>(Ja1 n p.2.1 y p.2.2).bind fun q=>some (.nd .pr q.2.1.length,q.2.1++ [⟨.pr p.1 q.1,none⟩],q.2.2)
   |some ⟨.ar x y,none⟩=>(Ja1 n σ x m).bind fun p=>(Ja1 n p.2.1 y p.2.2).bind fun q=>some (.nd .ar q.2.1.length,q.2.1++ [⟨.ar p.1 q.1,none⟩],q.2.2)
   |_=>none
def Jhu(v w:Nat)(m:List (Nat×Nat)):Bool×List (Nat×Nat):=
 match Jal v m,Jal w m with
 |none,none=>(true,m++ [(v,w),(w,v)])
 |some x,_=>(x==w,m)
 |none,_=>(false,m)
def genB(σ:St)(i:Nat):Option Bool:=match σ[i]? with
 |some ⟨.vr _ g,none⟩=>some g
 |_=>none
def Jch:Nat->St->TR->TR->List (Nat×Nat)->Option (Bool×List (Nat×Nat))
 |0,_,_,_,_=>none
 |n+1,σ,x,y,m=>
  (repF fuN σ x).bind fun x0=>(repF fuN σ y).bind fun y0=>
  if x0.eqb y0 then some (true,m)
  else match isVr x0 with
  |some i=>match isVr y0 with
   |none=>some (false,m)
   |some j=>(genB σ i).bind fun D=>if D then(genB σ j).bind fun h=>if h then some (Jhu i j m)else some (false,m)else some (false,m)
  |none=>
   if alkF x0 y0 then
    (Jap σ y0).bind fun os=>(Jap σ x0).bind fun E=>
    match E,os with
    | [a],[c]=>Jch n σ a c m
    | [a,b],[c,d]=>(Jch n σ a c m).bind fun p=>if p.1 then Jch n σ b d p.2 else some p
    |_,_=>none
   else some (false,m)
def Jba(σ:St):List TR->List TR->Option Bool
 | [],_=>some true
 |a::l,c::k=>(Jch fuN σ a c []).bind fun p=>if p.1 then Jba σ l k else some false
 |_::_,[]=>none
structure Bd where
 name:BA
 ty:TR
 par:Bool
abbrev Gv:=List (BA×TR)
def bq(a b:BA):Bool:=a.data.toList==b.data.toList
theorem Jf8{a b:BA}:bq a b=true<->a=b:=by
 unfold bq;rw[Vbs]
 constructor
 .intro h;exact Vbf (VbF.1 h)
 .intro h;rw[h]
def Jcq(n:BA):Gv->Option TR
 | []=>none
 |e::l=>if bq n e.1 then some e.2 else Jcq n l
def JaJ(n:BA)(gv:Gv):List Bd->Option TR
 | []=>Jcq n gv
 |b::l=>if bq n b.name then some b.ty else JaJ n gv l
def Jbh(σ:St):List Bd->List TR->Option (List TR)
 | [],l=>some l
 |b::d,l=>if b.par then(JaL fuN σ b.ty l).bind fun l1=>Jbh σ d l1 else Jbh σ d l
def bigF(σ:St)(r:TR):Option Bool:=(Jc1 fuN σ r 120).bind fun k=>some (decide (k<0))
def grpF:List BA->List TR->List Bd->List Bd
 |n::h,t::ts,d=>grpF h ts (⟨n,t,false⟩::d)
 |_,_,d=>d
def JdD(σ:St)(bd:List TR):List TR->Option St
 | []=>some σ
 |t::ts=>(genF fuN σ t bd).bind fun σ1=>JdD σ1 bd ts
def anyF:Nat->St->List TR×St
 |0,σ=>([],σ)
 |k+1,σ=>let p:=anyF k (σ++ [⟨.vr ⟨#[]⟩ true,none⟩]);(.nd .vr σ.length::p.1,p.2)
section
variable {ω:Type}(tl:List BA->Nat->List TR->St->ω->Option (Oc Unit×ω))
def Jbg(d:X->St->ω->Option (Oc (TR×St)×ω)):List X->St->ω->Option (Oc (List TR×St)×ω)
 | [],σ,o=>some (.ok ([],σ),o)
 |x::xs,σ,o=>(d x σ o).bind fun r=>match r with
  |(.er j,o)=>some (.er j,o)
  |(.ok p,o)=>(Jbg d xs p.2 o).bind fun r=>match r with
   |(.er j,o)=>some (.er j,o)
   |(.ok q,o)=>some (.ok (p.1::q.1,q.2),o)
def rndF(h:X->List Bd->St->ω->Option (Oc (TR×St)×ω))(names:List BA)(D:List X)(own:List Bd)(fuel:Nat):Nat->Nat->List TR->St->ω->Option (Oc (List TR×St)×ω)
 |0,_,_,_,_=>none
 |k+1,d,ahead,σ,o=>
  (Jbg (fun x=>h x (grpF names ahead own)) D σ o).bind fun r=>match r with
  |(.er j,o)=>some (.er j,o)
  |(.ok p,o)=>(Jbh p.2 own []).bind fun bd=>(JdD p.2 bd p.1).bind fun σ1=>(tl names d p.1 σ1 o).bind fun r=>match r with
   |(.er j,o)=>some (.er j,o)
   |(.ok _,o)=>(Jba σ1 ahead p.1).bind fun b=>if b then some (.ok (p.1,σ1),o)else if d==fuel then some (.er 5,o)else rndF h names D own fuel k (d+1) p.1 σ1 o
def Jc0(gv:Gv)(n:BA)(own:List Bd)(σ:St):Option (Oc (TR×St)):=
 (JaJ n gv own).bind fun s=>(bigF σ s).bind fun b=>if b then some (.er 4)else(Ja1 fuN σ s []).bind fun p=>some (.ok (p.1,p.2.1))
def funF(f:X->List Bd->St->ω->Option (Oc (TR×St)×ω))(m:BA)(b:X)(own:List Bd)(σ:St)(o:ω):Option (Oc (TR×St)×ω):=
 (f b (⟨m,.nd .vr σ.length,true⟩::own) (σ++ [newV]) o).bind fun r=>match r with
 |(.er j,o)=>some (.er j,o)
 |(.ok p,o)=>some (.ok (.nd .ar p.2.length,p.2++ [⟨.ar (.nd .vr σ.length) p.1,none⟩]),o)
def ifF(f:X->List Bd->St->ω->Option (Oc (TR×St)×ω))(x y z:X)(own:List Bd)(σ:St)(o:ω):Option (Oc (TR×St)×ω):=
 (f x own σ o).bind fun r=>match r with
 |(.er j,o)=>some (.er j,o)
 |(.ok p,o)=>(eqF fuN p.2 p.1 .bool).bind fun q=>match q with
  | .er j=>some (.er j,o)
  | .ok σ1=>(f y own σ1 o).bind fun r=>match r with
   |(.er j,o)=>some (.er j,o)
   |(.ok p,o)=>(f z own p.2 o).bind fun r=>match r with
    |(.er j,o)=>some (.er j,o)
    |(.ok d,o)=>(eqF fuN d.2 p.1 d.1).bind fun q=>match q with
     | .er j=>some (.er j,o)
     | .ok σ2=>some (.ok (p.1,σ2),o)
def letF(f:X->List Bd->St->ω->Option (Oc (TR×St)×ω))(m:BA)(x y:X)(own:List Bd)(σ:St)(o:ω):Option (Oc (TR×St)×ω):=
 (f x own σ o).bind fun r=>match r with
 |(.er j,o)=>some (.er j,o)
 |(.ok p,o)=>(Jbh p.2 own []).bind fun bd=>(genF fuN p.2 p.1 bd).bind fun σ1=>f y (⟨m,p.1,false⟩::own) σ1 o
def appF(f:X->List Bd->St->ω->Option (Oc (TR×St)×ω))(x y:X)(own:List Bd)(σ:St)(o:ω):Option (Oc (TR×St)×ω):=
 (f x own σ o).bind fun r=>match r with
 |(.er j,o)=>some (.er j,o)
 |(.ok p,o)=>(f y own (p.2++ [newV]) o).bind fun r=>match r with
  |(.er j,o)=>some (.er j,o)
  |(.ok q,o)=>(eqF fuN (q.2++ [⟨.ar q.1 (.nd .vr p.2.length),none⟩]) p.1 (.nd .ar q.2.length)).bind fun e=>match e with
   | .er j=>some (.er j,o)
   | .ok σ1=>some (.ok (.nd .vr p.2.length,σ1),o)
def twoF(f:X->List Bd->St->ω->Option (Oc (TR×St)×ω))(x y:X)(own:List Bd)(σ:St)(o:ω):Option (Oc (TR×St)×ω):=
 (f x own σ o).bind fun r=>match r with
 |(.er j,o)=>some (.er j,o)
 |(.ok p,o)=>(f y own p.2 o).bind fun r=>match r with
  |(.er j,o)=>some (.er j,o)
  |(.ok q,o)=>some (.ok (.nd .pr q.2.length,q.2++ [⟨.pr p.1 q.1,none⟩]),o)
def recF(f:X->List Bd->St->ω->Option (Oc (TR×St)×ω))(fuel:Nat)(names:List BA)(vs:List X)(y:X)(own:List Bd)(σ:St)(o:ω):Option (Oc (TR×St)×ω):=
 if names.length<=1000000 then(rndF tl f names vs own fuel fuel 1 (anyF names.length σ).1 (anyF names.length σ).2 o).bind fun r=>match r with
 |(.er j,o)=>some (.er j,o)
 |(.ok p,o)=>f y (grpF names p.1 own) p.2 o
 else none
def kndF(d:Bool)(gv:Gv)(fuel:Nat)(f:X->List Bd->St->ω->Option (Oc (TR×St)×ω)):X->List Bd->St->ω->Option (Oc (TR×St)×ω)
 | .mk op names kids _,own,σ,o=>
  if bq op ⟨#[110,97,109,101]⟩then match names with
   | [m]=>(Jc0 gv m own σ).bind fun r=>some (r,o)
   |_=>none
  else if bq op ⟨#[110,117,109]⟩then some (.ok (.int,σ),o)
  else if bq op ⟨#[102,117,110]⟩then match names,kids with
   | [m],[b]=>funF f m b own σ o
   |_,_=>none
  else if bq op ⟨#[105,102]⟩then match kids with
   | [x,y,z]=>ifF f x y z own σ o
   |_=>none
  else if bq op ⟨#[108,101,116]⟩then match names,kids with
   | [m],[x,y]=>letF f m x y own σ o
   |_,_=>none
  else if bq op ⟨#[97,112,112]⟩then match kids with
   | [x,y]=>appF f x y own σ o
   |_=>none
  else if bq op ⟨#[112,97,105,114]⟩then match kids with
   | [x,y]=>twoF f x y own σ o
   |_=>none
  else if d&&bq op ⟨#[114,101,99]⟩then match kids.reverse with
   |y::vs=>recF tl f fuel names vs.reverse y own σ o
   | []=>none
  else none
def typF(d:Bool)(gv:Gv)(fuel:Nat):Nat->X->List Bd->St->ω->Option (Oc (TR×St)×ω)
 |0,_,_,_,_=>none
 |n+1,x,own,σ,o=>
  (kndF tl d gv fuel (fun x own σ o=>typF d gv fuel n x own σ o) x own σ o).bind fun r=>match r with
  |(.er j,o)=>some (.er j,o)
  |(.ok p,o)=>(bigF p.2 p.1).bind fun b=>if b then some (.er 4,o)else some (.ok p,o)
end
def JeT:Nat->St->TR->Option Ty
 |0,_,_=>none
 |n+1,σ,r=>(repF fuN σ r).bind fun r0=>match r0 with
  | .int=>some (.mk ⟨#[105,110,116]⟩ 0 [])
  | .bool=>some (.mk ⟨#[98,111,111,108]⟩ 0 [])
  | .nd _ i=>match σ[i]? with
   |some ⟨.vr _ _,none⟩=>some (.mk ⟨#[]⟩ i [])
   |some ⟨.ls x,none⟩=>(JeT n σ x).bind fun a=>some (.mk ⟨#[108,105,115,116]⟩ 0 [a])
   |some ⟨.pr x y,none⟩=>(JeT n σ x).bind fun a=>(JeT n σ y).bind fun c=>some (.mk ⟨#[112,97,105,114]⟩ 0 [a,c])
   |some ⟨.ar x y,none⟩=>(JeT n σ x).bind fun a=>(JeT n σ y).bind fun c=>some (.mk ⟨#[102,117,110]⟩ 0 [a,c])
   |_=>none
def tlN:List BA->Nat->List TR->St->Unit->Option (Oc Unit×Unit):=fun _ _ _ _ o=>some (.ok (),o)
theorem pig:∀(n H:Nat) (f:Nat->Nat),(∀k,k<H->f k<n)->(∀j k,j<H->k<H->f j=f k->j=k)->H<=n:=by
 intro n
 induction n with
 |zero=>
  intro H f D _
  cases H with
  |zero=>exact Vau _
  |succ H=>exact absurd (D 0 (by omega)) (by omega)
 |succ n J=>
  intro H f D h
  cases H with
  |zero=>omega
  |succ H=>
   have:=J H (fun k=>if f k=n then f H else f k) (fun k I=>by
     by_cases e:f k=n
     .simp only[Vat e];have L:=D H (by omega);have M:f H≠n:=fun z=>by have:=h k H (by omega) (by omega) (by omega);omega
      omega
     .simp only[Vaq e];have:=D k (by omega);omega) (fun j k O I d=>by
     by_cases G:f j=n<;>by_cases E:f k=n
     .exact h j k (by omega) (by omega) (by omega)
     .simp only[Vat G,Vaq E]at d;have:=h H k (by omega) (by omega) d;omega
     .simp only[Vat E,Vaq G]at d;have:=h j H (by omega) (by omega) d;omega
     .simp only[Vaq E,Vaq G]at d;exact h j k (by omega) (by omega) d)
   omega
variable {P:Nat->Nat->Prop}{n:Nat}
theorem Jin(J:∀a b i,P a i->P b i->a=b)(O:∀a i,P a i->i<n)(M:∀a i,P (a+1) i->∃j,P a j){a i:Nat}(h:P a i):a<n:=by
 have L:∀d k,k+d=a->∃j,P k j:=by
  intro d
  induction d with
  |zero=>intro k e;exact⟨i,by rw[show k=a by omega];exact h⟩
  |succ d T=>
   intro k e;obtain⟨j,E⟩:=T (k+1) (by omega);exact M k j E
 have ch:∀k,∃j,k<a+1->P k j:=fun k=>by
  by_cases D:k<a+1
  .obtain⟨j,E⟩:=L (a-k) k (by omega);exact⟨j,fun _=>E⟩
  .exact⟨0,fun z=>absurd z D⟩
 have:=pig n (a+1) (fun k=>Classical.choose (ch k)) (fun k D=>O k _ (VbS (ch k) D)) (fun j k E D e=>by
  have G:=VbS (ch j) E;have I:=VbS (ch k) D;rw[e]at G;exact J j k _ G I)
 omega
inductive Tt where
 |int|bool|v (i:Nat)|l (c:Tt)|p (c d:Tt)|f (c d:Tt)
inductive Tr(σ:St):TR->Tt->Prop
 |int:Tr σ .int .int
 |bool:Tr σ .bool .bool
 |vr (i:Nat) (nm:BA) (g:Bool):σ[i]? =some ⟨.vr nm g,none⟩->Tr σ (.nd .vr i) (.v i)
 |ls (i:Nat) (x:TR) (a:Tt):σ[i]? =some ⟨.ls x,none⟩->Tr σ x a->Tr σ (.nd .ls i) (.l a)
 |pr (i:Nat) (x y:TR) (a b:Tt):σ[i]? =some ⟨.pr x y,none⟩->Tr σ x a->Tr σ y b->Tr σ (.nd .pr i) (.p a b)
 |ar (i:Nat) (x y:TR) (a b:Tt):σ[i]? =some ⟨.ar x y,none⟩->Tr σ x a->Tr σ y b->Tr σ (.nd .ar i) (.f a b)
 |fd (i:Nat) (nk:NK) (r:TR) (t:Tt):σ[i]? =some ⟨nk,some r⟩->Tr σ r t->Tr σ (.nd nk.kd i) t
def Tt.ht:Tt->Nat
 | .l c=>c.ht+1
 | .p c d=>max c.ht d.ht+1
 | .f c d=>max c.ht d.ht+1
 |_=>0
def Tt.sz:Tt->Nat
 | .l c=>c.sz+1
 | .p c d=>c.sz+d.sz+1
 | .f c d=>c.sz+d.sz+1
 |_=>1
def Tt.sub(θ:Nat->Tt):Tt->Tt
 | .v i=>θ i
 | .l c=> .l (c.sub θ)
 | .p c d=> .p (c.sub θ) (d.sub θ)
 | .f c d=> .f (c.sub θ) (d.sub θ)
 | .int=> .int
 | .bool=> .bool
def Tt.has(i:Nat):Tt->Prop
 | .v j=>i=j
 | .l c=>c.has i
 | .p c d=>c.has i\/d.has i
 | .f c d=>c.has i\/d.has i
 |_=>False
inductive Pt:Tt->Tt->Prop
 |refl (t:Tt):Pt t t
 |l {s a:Tt}:Pt s a->Pt s (.l a)
 |pl {s a b:Tt}:Pt s a->Pt s (.p a b)
 |pr {s a b:Tt}:Pt s b->Pt s (.p a b)
 |al {s a b:Tt}:Pt s a->Pt s (.f a b)
 |ar {s a b:Tt}:Pt s b->Pt s (.f a b)
variable {s t:Tt}
theorem Pt.ht(h:Pt s t):s.ht<=t.ht:=by
 induction h with
 |refl=>exact Vau _
 |l _ d=>simp only[Tt.ht];omega
 |pl _ d=>simp only[Tt.ht];omega
 |pr _ d=>simp only[Tt.ht];omega
 |al _ d=>simp only[Tt.ht];omega
 |ar _ d=>simp only[Tt.ht];omega
variable {u:Tt}
theorem Pt.trans(h:Pt s t)(g:Pt t u):Pt s u:=by
 induction g with
 |refl=>exact h
 |l _ d=>exact .l d
 |pl _ d=>exact .pl d
 |pr _ d=>exact .pr d
 |al _ d=>exact .al d
 |ar _ d=>exact .ar d
theorem Pt.sub(h:Pt s t)(θ:Nat->Tt):Pt (s.sub θ) (t.sub θ):=by
 induction h with
 |refl=>exact .refl _
 |l _ d=>exact .l d
 |pl _ d=>exact .pl d
 |pr _ d=>exact .pr d
 |al _ d=>exact .al d
 |ar _ d=>exact .ar d
theorem Tt.sub_sub(θ η:Nat->Tt):∀t:Tt,(t.sub θ).sub η=t.sub fun i=>(θ i).sub η
 | .int=>rfl
 | .bool=>rfl
 | .v _=>rfl
 | .l c=>by simp only[Tt.sub,Tt.sub_sub θ η c]
 | .p c d=>by simp only[Tt.sub,Tt.sub_sub θ η c,Tt.sub_sub θ η d]
 | .f c d=>by simp only[Tt.sub,Tt.sub_sub θ η c,Tt.sub_sub θ η d]
theorem Tt.sub_id{θ:Nat->Tt}:∀{t:Tt},(∀i,t.has i->θ i= .v i)->t.sub θ=t
 | .int,_=>rfl
 | .bool,_=>rfl
 | .v i,h=>h i rfl
 | .l c,h=>by simp only[Tt.sub];rw[Tt.sub_id (t:=c) h]
 | .p c d,h=>by simp only[Tt.sub];rw[Tt.sub_id (t:=c) fun i g=>h i (.inl g),Tt.sub_id (t:=d) fun i g=>h i (.inr g)]
 | .f c d,h=>by simp only[Tt.sub];rw[Tt.sub_id (t:=c) fun i g=>h i (.inl g),Tt.sub_id (t:=d) fun i g=>h i (.inr g)]
theorem Tr.det{σ:St}{r:TR}{a b:Tt}(h:Tr σ r a)(g:Tr σ r b):a=b:=by
 induction h generalizing b with
 |int=>cases g;rfl
 |bool=>cases g;rfl
 |vr i nm V G=>
  generalize E:TR.nd Kd.vr i=x at g
  cases g<;>simp only[TR.nd.injEq,reduceCtorEq,VdP,VbG]at E
  .subst E;rfl
  .rename_i j nk r D _;obtain⟨_,rfl⟩:=E;rw[G]at D;simp at D
 |ls i x a G _ O=>
  generalize E:TR.nd Kd.ls i=z at g
  cases g<;>simp only[TR.nd.injEq,reduceCtorEq,VdP,VbG]at E
  .rename_i j y c D I;subst E;rw[G]at D;simp at D;subst D;rw[O I]
  .rename_i j nk r D _;obtain⟨_,rfl⟩:=E;rw[G]at D;simp at D
 |pr i x y a b G _ _ L M=>
  generalize E:TR.nd Kd.pr i=z at g
  cases g<;>simp only[TR.nd.injEq,reduceCtorEq,VdP,VbG]at E
  .rename_i j U T c d D I J;subst E;rw[G]at D;simp at D;obtain⟨rfl,rfl⟩:=D;rw[L I,M J]
  .rename_i j nk r D _;obtain⟨_,rfl⟩:=E;rw[G]at D;simp at D
 |ar i x y a b G _ _ L M=>
  generalize E:TR.nd Kd.ar i=z at g
  cases g<;>simp only[TR.nd.injEq,reduceCtorEq,VdP,VbG]at E
  .rename_i j U T c d D I J;subst E;rw[G]at D;simp at D;obtain⟨rfl,rfl⟩:=D;rw[L I,M J]
  .rename_i j nk r D _;obtain⟨_,rfl⟩:=E;rw[G]at D;simp at D
 |fd i nk r t G _ O=>
  generalize E:TR.nd nk.kd i=z at g
  cases g<;>simp only[TR.nd.injEq,reduceCtorEq]at E
  .rename_i j nm g D;obtain⟨_,rfl⟩:=E;rw[G]at D;simp at D
  .rename_i j y c D I;obtain⟨_,rfl⟩:=E;rw[G]at D;simp at D
  .rename_i j y c d D I J;obtain⟨_,rfl⟩:=E;rw[G]at D;simp at D
  .rename_i j y c d D I J;obtain⟨_,rfl⟩:=E;rw[G]at D;simp at D
  .rename_i j mk s D I;obtain⟨_,rfl⟩:=E;rw[G]at D;simp at D;obtain⟨_,rfl⟩:=D;exact O I
def Vl(σ:St):TR->Prop
 | .nd k i=>∃nk s,σ[i]? =some ⟨nk,s⟩/\nk.kd=k
 |_=>True
def Gd(σ:St):Prop:=∀r,Vl σ r->∃t,Tr σ r t
inductive Rt(σ:St):TR->Tt->Prop
 |int:Rt σ .int .int
 |bool:Rt σ .bool .bool
 |vr (i:Nat) (nm:BA) (g:Bool):σ[i]? =some ⟨.vr nm g,none⟩->Rt σ (.nd .vr i) (.v i)
 |ls (i:Nat) (x:TR) (a:Tt):σ[i]? =some ⟨.ls x,none⟩->Tr σ x a->Rt σ (.nd .ls i) (.l a)
 |pr (i:Nat) (x y:TR) (a b:Tt):σ[i]? =some ⟨.pr x y,none⟩->Tr σ x a->Tr σ y b->Rt σ (.nd .pr i) (.p a b)
 |ar (i:Nat) (x y:TR) (a b:Tt):σ[i]? =some ⟨.ar x y,none⟩->Tr σ x a->Tr σ y b->Rt σ (.nd .ar i) (.f a b)
theorem Rt.tr{σ:St}{r:TR}(h:Rt σ r t):Tr σ r t:=by
 cases h with
 |int=>exact .int
 |bool=>exact .bool
 |vr i nm g h=>exact .vr i nm g h
 |ls i x a h d=>exact .ls i x a h d
 |pr i x y a b h d D=>exact .pr i x y a b h d D
 |ar i x y a b h d D=>exact .ar i x y a b h d D
theorem Rt.root{σ:St}{r:TR}(h:Rt σ r t):Rp σ r r:=by
 cases h with
 |int=>exact .int
 |bool=>exact .bool
 |vr i nm g h=>exact .root i _ h
 |ls i x a h d=>exact .root i _ h
 |pr i x y a b h d D=>exact .root i _ h
 |ar i x y a b h d D=>exact .root i _ h
theorem Tr.rt{σ:St}{r:TR}(h:Tr σ r t):∃r0,Rp σ r r0/\Rt σ r0 t:=by
 induction h with
 |int=>exact⟨_,.int,.int⟩
 |bool=>exact⟨_,.bool,.bool⟩
 |vr i nm g h=>exact⟨_,.root i _ h,.vr i nm g h⟩
 |ls i x a h d _=>exact⟨_,.root i _ h,.ls i x a h d⟩
 |pr i x y a b h d D _ _=>exact⟨_,.root i _ h,.pr i x y a b h d D⟩
 |ar i x y a b h d D _ _=>exact⟨_,.root i _ h,.ar i x y a b h d D⟩
 |fd i nk r t h _ E=>
  obtain⟨r0,d,D⟩:=E;exact⟨r0,.step i nk r r0 h d,D⟩
theorem Rp.tr{σ:St}{r:TR}(h:Rp σ r r0)(g:Tr σ r0 t):Tr σ r t:=by
 induction h with
 |int=>exact g
 |bool=>exact g
 |root i nk _=>exact g
 |step i nk r r0 h _ d=>exact .fd i nk r t h (d g)
theorem Tr.vl{σ:St}{r:TR}(h:Tr σ r t):Vl σ r:=by
 cases h with
 |int=>trivial
 |bool=>trivial
 |vr i nm g h=>exact⟨_,_,h,rfl⟩
 |ls i x a h _=>exact⟨_,_,h,rfl⟩
 |pr i x y a b h _ _=>exact⟨_,_,h,rfl⟩
 |ar i x y a b h _ _=>exact⟨_,_,h,rfl⟩
 |fd i nk r t h _=>exact⟨_,_,h,rfl⟩
inductive RpN(σ:St):Nat->TR->TR->Prop
 |int:RpN σ 0 .int .int
 |bool:RpN σ 0 .bool .bool
 |root (i:Nat) (nk:NK):σ[i]? =some ⟨nk,none⟩->RpN σ 1 (.nd nk.kd i) (.nd nk.kd i)
 |step (n i:Nat) (nk:NK) (r r0:TR):σ[i]? =some ⟨nk,some r⟩->RpN σ n r r0->RpN σ (n+1) (.nd nk.kd i) r0
theorem Rp.num{σ:St}{r:TR}(h:Rp σ r r0):∃n,RpN σ n r r0:=by
 induction h with
 |int=>exact⟨_,.int⟩
 |bool=>exact⟨_,.bool⟩
 |root i nk h=>exact⟨_,.root i nk h⟩
 |step i nk r r0 h _ D=>
  obtain⟨n,d⟩:=D;exact⟨_,.step n i nk r r0 h d⟩
theorem RpN.run{σ:St}{a:Nat}{r:TR}(h:RpN σ a r r0):∀n,a<n->repF n σ r=some r0:=by
 induction h with
 |int=>
  intro n d
  cases n with
  |zero=>omega
  |succ n=>rfl
 |bool=>
  intro n d
  cases n with
  |zero=>omega
  |succ n=>rfl
 |root i nk h=>
  intro n d
  cases n with
  |zero=>omega
  |succ n=>
   simp only[repF,h];rw[Vat (Kd.eqb_iff.2 rfl)]
 |step m i nk r r0 h _ D=>
  intro n d
  cases n with
  |zero=>omega
  |succ n=>
   simp only[repF,h];rw[Vat (Kd.eqb_iff.2 rfl)];exact D n (by omega)
theorem RpN.det{σ:St}{a:Nat}{r:TR}(h:RpN σ a r r0):∀{b:Nat} {s:TR},RpN σ b r s->a=b:=by
 induction h with
 |int=>intro b s g;cases g;rfl
 |bool=>intro b s g;cases g;rfl
 |root i nk D=>
  intro b s g;generalize d:TR.nd nk.kd i=x at g
  cases g with
  |int=>cases d
  |bool=>cases d
  |root j mk E=>rfl
  |step n j mk r r0 E _=>
   simp only[TR.nd.injEq]at d;rw[d.2,E]at D;simp at D
 |step m i nk r r0 D _ I=>
  intro b s g;generalize d:TR.nd nk.kd i=x at g
  cases g with
  |int=>cases d
  |bool=>cases d
  |root j mk E=>
   simp only[TR.nd.injEq]at d;rw[d.2,E]at D;simp at D
  |step n j mk J L E G=>
   simp only[TR.nd.injEq]at d;rw[d.2,E]at D;simp at D;rw[D.2]at G;rw[I G]
theorem RpN.at{σ:St}{a:Nat}{i:Nat}(h:RpN σ a (.nd k i) r0):∃nk s,σ[i]? =some ⟨nk,s⟩/\nk.kd=k:=by
 generalize d:TR.nd k i=x at h
 cases h with
 |int=>cases d
 |bool=>cases d
 |root j nk h=>simp only[TR.nd.injEq]at d;obtain⟨rfl,rfl⟩:=d;exact⟨_,_,h,rfl⟩
 |step n j nk r r0 h _=>simp only[TR.nd.injEq]at d;obtain⟨rfl,rfl⟩:=d;exact⟨_,_,h,rfl⟩
theorem RpN.le{σ:St}{a:Nat}{r:TR}(h:RpN σ a r r0):a<=σ.length:=by
 cases a with
 |zero=>omega
 |succ a=>
  refine Jin (P:=fun a i=>∃k r0,RpN σ (a+1) (.nd k i) r0) ?_ ?_ ?_ (a:=a) (i:=match r with| .nd _ i=>i|_=>0) ?_
  .rintro a b i ⟨k,x,d⟩ ⟨l,y,D⟩;obtain⟨nk,s,I,rfl⟩:=d.at;obtain⟨mk,u,G,rfl⟩:=D.at;rw[I]at G;simp only[Vaa,Nd.mk.injEq]at G;obtain⟨rfl,_⟩:=G;have:=d.det D;omega
  .rintro a i ⟨k,x,d⟩;obtain⟨nk,s,I,_⟩:=d.at;exact(Vae.1 I).1
  .rintro a i ⟨k,x,d⟩
   cases d with
   |step n j nk r r0 D E=>
    cases r with
    |int=>cases E
    |bool=>cases E
    |nd l j=>exact⟨j,l,x,E⟩
  .cases h with
   |root i nk h=>exact⟨_,_,.root i nk h⟩
   |step _ i nk r r0 d D=>exact⟨_,_,.step _ i nk r r0 d D⟩
theorem JaK{σ:St}{r:TR}(h:Rp σ r r0)(D:σ.length<n):repF n σ r=some r0:=by
 obtain⟨a,d⟩:=h.num;exact d.run n (by have:=d.le;omega)
theorem Tr.ht_le{σ:St}{r:TR}(h:Tr σ r t):t.ht<=σ.length:=by
 have key:∀a i,(∃nk t,σ[i]? =some ⟨nk,none⟩/\Tr σ (.nd nk.kd i) t/\t.ht=a+1)->a<σ.length:=by
  intro a i W;refine Jin (P:=fun a i=>∃nk t,σ[i]? =some ⟨nk,none⟩/\Tr σ (.nd nk.kd i) t/\t.ht=a+1) ?_ ?_ ?_ W
  .rintro a b i ⟨nk,t,T,E,G⟩ ⟨mk,u,U,M,Y⟩;rw[T]at U;simp only[Vaa,Nd.mk.injEq,Vbo]at U;subst U;rw[E.det M]at G;omega
  .rintro a i ⟨nk,t,T,_⟩;exact(Vae.1 T).1
  .rintro a i ⟨nk,t,T,E,G⟩
   have L:∀x c,Tr σ x c->c.ht=a+1->∃j,∃nk t,σ[j]? =some ⟨nk,none⟩/\Tr σ (.nd nk.kd j) t/\t.ht=a+1:=by
    intro x c V J;obtain⟨r0,_,O⟩:=V.rt
    cases O with
    |int=>simp[Tt.ht]at J
    |bool=>simp[Tt.ht]at J
    |vr i nm g h=>simp[Tt.ht]at J
    |ls i x a h E=>exact⟨i,_,_,h,.ls i x a h E,J⟩
    |pr i x y a b h E M=>exact⟨i,_,_,h,.pr i x y a b h E M,J⟩
    |ar i x y a b h E M=>exact⟨i,_,_,h,.ar i x y a b h E M,J⟩
   obtain⟨r0,_,O⟩:=E.rt
   cases O with
   |int=>simp[Tt.ht]at G
   |bool=>simp[Tt.ht]at G
   |vr i nm g h=>simp[Tt.ht]at G
   |ls i x c h D=>exact L x c D (by simp only[Tt.ht]at G;omega)
   |pr i x y c d h D I=>
    simp only[Tt.ht]at G
    by_cases e:c.ht=a+1
    .exact L x c D e
    .exact L y d I (by omega)
   |ar i x y c d h D I=>
    simp only[Tt.ht]at G
    by_cases e:c.ht=a+1
    .exact L x c D e
    .exact L y d I (by omega)
 obtain⟨r0,_,O⟩:=h.rt
 cases O with
 |int=>simp[Tt.ht]
 |bool=>simp[Tt.ht]
 |vr i nm g k=>simp[Tt.ht]
 |ls i x a k D=>
  have:=key a.ht i ⟨_,_,k,.ls i x a k D,rfl⟩;simp only[Tt.ht];omega
 |pr i x y a b k D I=>
  have:=key (max a.ht b.ht) i ⟨_,_,k,.pr i x y a b k D I,rfl⟩;simp only[Tt.ht];omega
 |ar i x y a b k D I=>
  have:=key (max a.ht b.ht) i ⟨_,_,k,.ar i x y a b k D I,rfl⟩;simp only[Tt.ht];omega
def Tt.rm:Tt->Int->Int
 | .l c,h=>if h-1<0 then h-1 else c.rm (h-1)
 | .p c d,h=>if h-1<0 then h-1 else if c.rm (h-1)<0 then c.rm (h-1)else d.rm (c.rm (h-1))
 | .f c d,h=>if h-1<0 then h-1 else if c.rm (h-1)<0 then c.rm (h-1)else d.rm (c.rm (h-1))
 |_,h=>h-1
theorem Tt.rm_sz:∀(t:Tt) (D:Int),0<=D->(t.sz<=D->t.rm D=D-t.sz)/\(D<t.sz->t.rm D<0)
 | .int,D,h=>⟨fun _=>rfl,fun g=>by simp only[Tt.sz,Tt.rm]at*;omega⟩
 | .bool,D,h=>⟨fun _=>rfl,fun g=>by simp only[Tt.sz,Tt.rm]at*;omega⟩
 | .v i,D,h=>⟨fun _=>rfl,fun g=>by simp only[Tt.sz,Tt.rm]at*;omega⟩
 | .l c,D,h=>by
  simp only[Tt.sz,Tt.rm]
  by_cases e:D-1<0
  .rw[Vat e];exact⟨fun g=>by omega,fun _=>e⟩
  .rw[Vaq e];have:=c.rm_sz (D-1) (by omega);exact⟨fun g=>by rw[this.1 (by omega)];omega,fun g=>this.2 (by omega)⟩
 | .p c d,D,h=>by
  simp only[Tt.sz,Tt.rm]
  by_cases e:D-1<0
  .rw[Vat e];exact⟨fun g=>by omega,fun _=>e⟩
  .rw[Vaq e];have I:=c.rm_sz (D-1) (by omega)
   by_cases J:c.sz<=D-1
   .have E:=I.1 J;rw[Vaq (by omega)];have G:=d.rm_sz (c.rm (D-1)) (by omega);exact⟨fun g=>by rw[G.1 (by omega)];omega,fun g=>G.2 (by omega)⟩
   .have E:=I.2 (by omega);rw[Vat E];exact⟨fun g=>by omega,fun _=>E⟩
 | .f c d,D,h=>by
  simp only[Tt.sz,Tt.rm]
  by_cases e:D-1<0
  .rw[Vat e];exact⟨fun g=>by omega,fun _=>e⟩
  .rw[Vaq e];have I:=c.rm_sz (D-1) (by omega)
   by_cases J:c.sz<=D-1
   .have E:=I.1 J;rw[Vaq (by omega)];have G:=d.rm_sz (c.rm (D-1)) (by omega);exact⟨fun g=>by rw[G.1 (by omega)];omega,fun g=>G.2 (by omega)⟩
   .have E:=I.2 (by omega);rw[Vat E];exact⟨fun g=>by omega,fun _=>E⟩
theorem JmW{σ:St}(J:σ.length<fuN):∀(n:Nat) {r:TR} {t:Tt} (D:Int),Tr σ r t->t.ht<n->Jc1 n σ r D=some (t.rm D):=by
 intro n
 induction n with
 |zero=>intro r t D _ h;omega
 |succ n d=>
  intro r t D h E;obtain⟨r0,I,L⟩:=h.rt;simp only[Jc1,JaK I J,Vad]
  cases L with
  |int=>rfl
  |bool=>rfl
  |vr i nm g e=>simp only[Jap,e,Vad,Tt.rm]
  |ls i x a e k=>
   simp only[Tt.ht]at E;simp only[Jap,e,Vad,Tt.rm]
   split
   .rfl
   .exact d _ k (by omega)
  |pr i x y a b e k G=>
   simp only[Tt.ht]at E;simp only[Jap,e,Vad,Tt.rm]
   split
   .rfl
   .rw[d _ k (by omega),Vad]
    split
    .rfl
    .exact d _ G (by omega)
  |ar i x y a b e k G=>
   simp only[Tt.ht]at E;simp only[Jap,e,Vad,Tt.rm]
   split
   .rfl
   .rw[d _ k (by omega),Vad]
    split
    .rfl
    .exact d _ G (by omega)
theorem Jee{σ:St}(d:σ.length<fuN){r:TR}(h:Tr σ r t):bigF σ r=some (decide (120<t.sz)):=by
 have D:=h.ht_le;simp only[bigF,JmW d fuN 120 h (by omega),Vad,Vaa];have:=t.rm_sz 120 (by omega)
 by_cases e:(t.sz:Int)<=120
 .rw[this.1 e,VdQ (by omega),VdQ (by omega)]
 .rw[decide_eq_true (this.2 (by omega)),decide_eq_true (by omega)]
theorem Jd8{r:TR}:∀{l:List TR},memT r l=true<->r∈l
 | []=>by simp[memT]
 |x::l=>by simp only[memT,VcQ,TR.eqb_iff,Jd8 (l:=l),VaW]
def Cl(σ:St)(l:List TR)(e:TR):Prop:=∀h,Jap σ e=some h->∀k,k∈h->∃d,Rp σ k d/\d∈l
variable {l l':List TR}{e:TR}
theorem Cl.mono{σ:St}(h:Cl σ l e)(g:∀e,e∈l->e∈l'):Cl σ l' e:=fun G d k E=>by
 obtain⟨D,a,b⟩:=h G d k E;exact⟨D,a,g _ b⟩
theorem Jex{σ:St}(hL:σ.length<fuN):∀(n:Nat) {r:TR} {t:Tt} (l:List TR),Tr σ r t->t.ht<n->∃l',JaL n σ r l=some l'/\(∀e,e∈l->e∈l')/\(∃r0,Rp σ r r0/\r0∈l')/\∀e,e∈l'->e∈l\/Cl σ l' e:=by
 intro n
 induction n with
 |zero=>intro r t l _ h;omega
 |succ n T=>
  intro r t l h M;obtain⟨r0,I,h2⟩:=h.rt;simp only[JaL,JaK I hL,Vad]
  by_cases V:memT r0 l=true
  .rw[Vat V];exact⟨l,rfl,fun _ h=>h,⟨r0,I,Jd8.1 V⟩,fun e h=> .inl h⟩
  .rw[Vaq V]
   have W:∀(d:Jap σ r0=some []),∃l',some (l++ [r0])=some l'/\(∀e,e∈l->e∈l')/\(∃r0,Rp σ r r0/\r0∈l')/\∀e,e∈l'->e∈l\/Cl σ l' e:=fun d=>by
    refine⟨_,rfl,fun e h=>by simp[h],⟨r0,I,by simp⟩,fun e h=> ?_⟩
    rcases Vbd.1 h with h|h
    .exact .inl h
    .rw[Va4]at h;subst h;exact .inr fun ks D k E=>by rw[d]at D;cases D;cases E
   have two:∀(x y:TR) (a b:Tt),Jap σ r0=some [x,y]->Tr σ x a->Tr σ y b->a.ht<n->b.ht<n->∃l',((JaL n σ x (l++ [r0])).bind fun l1=>JaL n σ y l1)=some l'/\(∀e,e∈l->e∈l')/\(∃r0,Rp σ r r0/\r0∈l')/\∀e,e∈l'->e∈l\/Cl σ l' e:=fun x y a b d k G ha hb=>by
    obtain⟨l1,U,J,⟨x0,Z,Y⟩,O⟩:=T (l++ [r0]) k ha;obtain⟨l2,e2,L,⟨y0,p1,p2⟩,c2⟩:=T l1 G hb;rw[U,Vad];refine⟨l2,e2,fun e h=>L _ (J _ (by simp[h])),⟨r0,I,L _ (J _ (by simp))⟩,fun e h=> ?_⟩
    rcases c2 e h with h|h
    .rcases O e h with h|h
     .rcases Vbd.1 h with h|h
      .exact .inl h
      .rw[Va4]at h;subst h;refine .inr fun ks D z E=> ?_
       rw[d]at D
       cases D
       simp only[VaW,Vbr,VcA]at E
       rcases E with rfl|rfl
       .exact⟨x0,Z,L _ Y⟩
       .exact⟨y0,p1,p2⟩
     .exact .inr (h.mono L)
    .exact .inr h
   cases h2 with
   |int=>exact W rfl
   |bool=>exact W rfl
   |vr i nm g e=>
    simp only[Jap,e,Vad];exact W (by simp only[Jap,e])
   |ls i x a e k=>
    simp only[Tt.ht]at M;have d:Jap σ (.nd .ls i)=some [x]:=by simp only[Jap,e]
    rw[d,Vad];obtain⟨l1,U,J,⟨x0,Z,Y⟩,O⟩:=T (l++ [.nd .ls i]) k (by omega);refine⟨l1,U,fun e h=>J _ (by simp[h]),⟨_,I,J _ (by simp)⟩,fun e h=> ?_⟩
    rcases O e h with h|h
    .rcases Vbd.1 h with h|h
     .exact .inl h
     .rw[Va4]at h;subst h;refine .inr fun ks D z E=> ?_
      rw[d]at D
      cases D
      rw[Va4]at E;subst E;exact⟨x0,Z,Y⟩
    .exact .inr h
   |pr i x y a b e k G=>
    simp only[Tt.ht]at M;have d:Jap σ (.nd .pr i)=some [x,y]:=by simp only[Jap,e]
    rw[d,Vad];exact two x y a b d k G (by omega) (by omega)
   |ar i x y a b e k G=>
    simp only[Tt.ht]at M;have d:Jap σ (.nd .ar i)=some [x,y]:=by simp only[Jap,e]
    rw[d,Vad];exact two x y a b d k G (by omega) (by omega)
theorem JbE{σ:St}{l:List TR}(E:∀e,e∈l->Cl σ l e){i:Nat}:∀{t:Tt} {r0:TR},Rt σ r0 t->r0∈l->t.has i->TR.nd .vr i∈l
 | .int,_,_,_,h=>h.elim
 | .bool,_,_,_,h=>h.elim
 | .v j,r0,M,L,h=>by
  cases M with
  |vr j nm g e=>simp only[Tt.has]at h;rw[h];exact L
 | .l c,r0,M,L,h=>by
  cases M with
  |ls j x a e k=>
   obtain⟨O,I,D⟩:=E _ L [x] (by simp only[Jap,e]) x (by simp);obtain⟨T,J,G⟩:=k.rt;rw[I.det J]at D;exact JbE E G D h
 | .p c d,r0,M,L,h=>by
  cases M with
  |pr j x y a b e k U=>
   rcases h with h|h
   .obtain⟨O,I,D⟩:=E _ L [x,y] (by simp only[Jap,e]) x (by simp);obtain⟨T,J,G⟩:=k.rt;rw[I.det J]at D;exact JbE E G D h
   .obtain⟨O,I,D⟩:=E _ L [x,y] (by simp only[Jap,e]) y (by simp);obtain⟨T,J,G⟩:=U.rt;rw[I.det J]at D;exact JbE E G D h
 | .f c d,r0,M,L,h=>by
  cases M with
  |ar j x y a b e k U=>
   rcases h with h|h
   .obtain⟨O,I,D⟩:=E _ L [x,y] (by simp only[Jap,e]) x (by simp);obtain⟨T,J,G⟩:=k.rt;rw[I.det J]at D;exact JbE E G D h
   .obtain⟨O,I,D⟩:=E _ L [x,y] (by simp only[Jap,e]) y (by simp);obtain⟨T,J,G⟩:=U.rt;rw[I.det J]at D;exact JbE E G D h
def Nd.free:Nd->Nat
 |⟨.vr _ _,none⟩=>1
 |_=>0
def vc:St->Nat
 | []=>0
 |n::σ=>n.free+vc σ
theorem JlC:∀(σ:St) (i:Nat) (a b:Nd),σ[i]? =some a->vc (σ.set i b)+a.free=vc σ+b.free
 | [],i,a,b,h=>by simp at h
 |n::σ,0,a,b,h=>by
  simp only[List.getElem?_cons_zero,Vaa]at h;subst h;simp only[Vam,vc];omega
 |n::σ,i+1,a,b,h=>by
  simp only[List.getElem?_cons_succ]at h;have:=JlC σ i a b h;simp only[Van,vc];omega
theorem JrI:∀σ:St,vc σ<=σ.length
 | []=>Vau _
 |⟨k,s⟩::σ=>by
  have:=JrI σ;have:Nd.free ⟨k,s⟩<=1:=by cases k<;>cases s<;>simp[Nd.free]
  simp only[vc,VaY];omega
def bnd(i:Nat)(t:Tt):Nat->Tt:=fun j=>if j=i then t else .v j
variable {j:Nat}
theorem Jav{σ:St}{i:Nat}(h:i≠j):(σ.set i x)[j]? =σ[j]? :=VaC h
theorem Jfk{σ:St}{i:Nat}{y:Nd}(h:σ[i]? =some y):(σ.set i x)[i]? =some x:=by
 rw[Vba (Vae.1 h).1]
theorem Tr.away{σ:St}{i:Nat}(D:σ[i]? =some ⟨.vr nm g,none⟩){r:TR}(h:Tr σ r u): ¬u.has i->Tr (σ.set i x) r u:=by
 induction h with
 |int=>exact fun _=> .int
 |bool=>exact fun _=> .bool
 |vr j L J e=>exact fun d=> .vr j L J ((Jav fun z=>d z).trans e)
 |ls j y a e _ I=>exact fun d=> .ls j y a ((Jav fun z=>by subst z;rw[D]at e;simp at e).trans e) (I d)
 |pr j y z a b e _ _ E G=>exact fun d=> .pr j y z a b ((Jav fun q=>by subst q;rw[D]at e;simp at e).trans e) (E fun q=>d (.inl q)) (G fun q=>d (.inr q))
 |ar j y z a b e _ _ E G=>exact fun d=> .ar j y z a b ((Jav fun q=>by subst q;rw[D]at e;simp at e).trans e) (E fun q=>d (.inl q)) (G fun q=>d (.inr q))
 |fd j nk r t e _ I=>exact fun d=> .fd j nk r t ((Jav fun q=>by subst q;rw[D]at e;simp at e).trans e) (I d)
variable {tt:Tt}
theorem Tr.bind{σ:St}{i:Nat}{t:TR}(d:σ[i]? =some ⟨.vr nm g,none⟩)(ht:Tr σ t tt)(J: ¬tt.has i){r:TR}(h:Tr σ r u):Tr (σ.set i ⟨.vr nm g,some t⟩) r (u.sub (bnd i tt)):=by
 have M:=ht.away (x:=⟨.vr nm g,some t⟩) d J
 induction h with
 |int=>exact .int
 |bool=>exact .bool
 |vr j L I e=>
  simp only[Tt.sub,bnd]
  by_cases z:j=i
  .subst z;rw[Vat rfl];exact .fd j (.vr nm g) t tt (Jfk d) M
  .rw[Vaq z];exact .vr j L I ((Jav fun q=>z q.symm).trans e)
 |ls j y a e _ G=>exact .ls j y _ ((Jav fun z=>by subst z;rw[d]at e;simp at e).trans e) G
 |pr j y z a b e _ _ D E=>exact .pr j y z _ _ ((Jav fun q=>by subst q;rw[d]at e;simp at e).trans e) D E
 |ar j y z a b e _ _ D E=>exact .ar j y z _ _ ((Jav fun q=>by subst q;rw[d]at e;simp at e).trans e) D E
 |fd j nk r t e _ G=>exact .fd j nk r _ ((Jav fun q=>by subst q;rw[d]at e;simp at e).trans e) G
theorem Tr.low{σ:St}{i:Nat}{nk:NK}(L:σ[i]? =some ⟨nk,none⟩)(ht:Tr σ (.nd nk.kd i) t){r:TR}(h:Tr σ r u):u.ht<t.ht->Tr (σ.set i x) r u:=by
 have no:∀{j:Nat} {mk:NK} {w:Tt},σ[j]? =some ⟨mk,none⟩->Tr σ (.nd mk.kd j) w->w.ht<t.ht->i≠j:=fun{j mk w} e q O z=>by
  subst z;rw[L]at e;simp only[Vaa,Nd.mk.injEq,Vbo]at e;subst e;rw[ht.det q]at O;omega
 induction h with
 |int=>exact fun _=> .int
 |bool=>exact fun _=> .bool
 |vr j M J e=>exact fun d=> .vr j M J ((Jav (no e (.vr j M J e) d)).trans e)
 |ls j y a e k I=>exact fun d=> .ls j y a ((Jav (no e (.ls j y a e k) d)).trans e) (I (by simp only[Tt.ht]at d;omega))
 |pr j y z a b e k G D E=>exact fun d=> .pr j y z a b ((Jav (no e (.pr j y z a b e k G) d)).trans e) (D (by simp only[Tt.ht]at d;omega)) (E (by simp only[Tt.ht]at d;omega))
 |ar j y z a b e k G D E=>exact fun d=> .ar j y z a b ((Jav (no e (.ar j y z a b e k G) d)).trans e) (D (by simp only[Tt.ht]at d;omega)) (E (by simp only[Tt.ht]at d;omega))
 |fd j mk r t e _ I=>exact fun d=> .fd j mk r t ((Jav fun q=>by subst q;rw[L]at e;simp at e).trans e) (I d)
variable {y0:TR}
theorem Tr.merge{σ:St}{i:Nat}{nk:NK}(d:σ[i]? =some ⟨nk,none⟩)(ht:Tr σ (.nd nk.kd i) t)(M:Rt σ y0 t)(T:TR.nd nk.kd i≠y0){r:TR}(h:Tr σ r u):Tr (σ.set i ⟨nk,some y0⟩) r u:=by
 have O:Tr (σ.set i ⟨nk,some y0⟩) y0 t:=by
  have no:∀{j:Nat} {mk:NK},y0= .nd mk.kd j->σ[j]? =some ⟨mk,none⟩->i≠j:=fun{j mk} L e z=>by
   subst z;rw[d]at e;simp only[Vaa,Nd.mk.injEq,Vbo]at e;subst e;exact T L.symm
  cases M with
  |int=>exact .int
  |bool=>exact .bool
  |vr j nm g e=>exact .vr j nm g ((Jav (no (mk:= .vr nm g) rfl e)).trans e)
  |ls j y a e k=>exact .ls j y a ((Jav (no (mk:= .ls y) rfl e)).trans e) (Tr.low d ht k (by simp only[Tt.ht];omega))
  |pr j y z a b e k D=>exact .pr j y z a b ((Jav (no (mk:= .pr y z) rfl e)).trans e) (Tr.low d ht k (by simp only[Tt.ht];omega)) (Tr.low d ht D (by simp only[Tt.ht];omega))
  |ar j y z a b e k D=>exact .ar j y z a b ((Jav (no (mk:= .ar y z) rfl e)).trans e) (Tr.low d ht k (by simp only[Tt.ht];omega)) (Tr.low d ht D (by simp only[Tt.ht];omega))
 have E:∀{j:Nat} {mk:NK} {w:Tt},σ[j]? =some ⟨mk,none⟩->Tr σ (.nd mk.kd j) w->(i≠j->Tr (σ.set i ⟨nk,some y0⟩) (.nd mk.kd j) w)->Tr (σ.set i ⟨nk,some y0⟩) (.nd mk.kd j) w:=fun{j mk w} e q f=>by
  by_cases z:i=j
  .subst z;rw[d]at e;simp only[Vaa,Nd.mk.injEq,Vbo]at e;subst e;rw[<-ht.det q];exact .fd i nk y0 t (Jfk d) O
  .exact f z
 induction h with
 |int=>exact .int
 |bool=>exact .bool
 |vr j nm g e=>exact E (mk:= .vr nm g) e (.vr j nm g e) fun z=> .vr j nm g ((Jav z).trans e)
 |ls j y a e k J=>exact E (mk:= .ls y) e (.ls j y a e k) fun z=> .ls j y a ((Jav z).trans e) J
 |pr j y z a b e k D G I=>exact E (mk:= .pr y z) e (.pr j y z a b e k D) fun q=> .pr j y z a b ((Jav q).trans e) G I
 |ar j y z a b e k D G I=>exact E (mk:= .ar y z) e (.ar j y z a b e k D) fun q=> .ar j y z a b ((Jav q).trans e) G I
 |fd j mk r t e _ J=>exact .fd j mk r t ((Jav fun q=>by subst q;rw[d]at e;simp at e).trans e) J
structure Ex(σ σ':St):Prop where
 len:σ'.length=σ.length
 kk:∀(i:Nat) (nk:NK) (s:Option TR),σ[i]? =some ⟨nk,s⟩->∃s',σ'[i]? =some ⟨nk,s'⟩/\(s≠none->s'=s)
 tr:∃θ,(∀r t,Tr σ r t->Tr σ' r (t.sub θ))/\(vc σ'<vc σ\/vc σ'=vc σ/\∀r t,Tr σ r t->Tr σ' r t)
theorem Ex.refl(σ:St):Ex σ σ:=⟨rfl,fun _ _ s h=>⟨s,h,fun _=>rfl⟩,.v,fun _ t h=>by rw[Tt.sub_id fun _ _=>rfl];exact h,.inr ⟨rfl,fun _ _ h=>h⟩⟩
theorem Ex.trans{a b:St}(h:Ex a b)(g:Ex b c):Ex a c:=by
 obtain⟨θ,M,D⟩:=h.tr;obtain⟨η,V,d⟩:=g.tr;refine⟨g.len.trans h.len,fun i nk s q=> ?_,fun i=>(θ i).sub η,fun r t q=>by rw[<-Tt.sub_sub];exact V _ _ (M _ _ q),?_⟩
 .obtain⟨J,O,E⟩:=h.kk i nk s q;obtain⟨L,U,T⟩:=g.kk i nk J O;exact⟨L,U,fun z=>by rw[T (by rw[E z];exact z),E z]⟩
 .rcases D with D|⟨D,G⟩
  .rcases d with d|⟨d,_⟩
   .exact .inl (by omega)
   .exact .inl (by omega)
  .rcases d with d|⟨d,I⟩
   .exact .inl (by omega)
   .exact .inr ⟨by omega,fun r t q=>I _ _ (G _ _ q)⟩
variable {σ':St}
theorem Ex.vl{σ:St}(h:Ex σ σ'){r:TR}(g:Vl σ r):Vl σ' r:=by
 cases r with
 |int=>trivial
 |bool=>trivial
 |nd k i=>
  obtain⟨nk,s,e,q⟩:=g;obtain⟨d,D,_⟩:=h.kk i nk s e;exact⟨nk,d,D,q⟩
theorem Ex.lv{σ:St}(h:Ex σ σ'){r:TR}(g:Vl σ' r):Vl σ r:=by
 cases r with
 |int=>trivial
 |bool=>trivial
 |nd k i=>
  obtain⟨nk,s,e,q⟩:=g;have d:=(Vae.1 e).1;rw[h.len]at d;obtain⟨E,D,_⟩:=h.kk i _ _ (Vav d);rw[e]at D;simp only[Vaa,Nd.mk.injEq]at D;exact⟨_,_,Vav d,by rw[<-D.1];exact q⟩
theorem Ex.gd{σ:St}(h:Ex σ σ')(g:Gd σ):Gd σ':=fun r d=>by
 obtain⟨t,ht⟩:=g r (h.lv d);obtain⟨θ,D,_⟩:=h.tr;exact⟨_,D r t ht⟩
structure Eqd(σ σ':St)(x y:TR):Prop where
 ex:Ex σ σ'
 eq:∃c,Tr σ' x c/\Tr σ' y c/\∀i nk r,σ[i]? =some ⟨nk,none⟩->σ'[i]? =some ⟨nk,some r⟩->∃u,Tr σ' (.nd nk.kd i) u/\Pt u c
variable {y:TR}
theorem Eqd.symm{σ:St}{x:TR}(h:Eqd σ σ' x y):Eqd σ σ' y x:=by
 obtain⟨G,c,D,E,d⟩:=h;exact⟨G,c,E,D,d⟩
variable {x0:TR}
theorem Eqd.of{σ:St}{x:TR}{a b:Tt}(h:Eqd σ σ' x0 y0)(E:Tr σ x a)(D:Tr σ x0 a)(M:Tr σ y b)(I:Tr σ y0 b):Eqd σ σ' x y:=by
 obtain⟨d,c,J,L,G⟩:=h;obtain⟨θ,q,_⟩:=d.tr;refine⟨d,c,?_,?_,G⟩
 .rw[J.det (q _ _ D)];exact q _ _ E
 .rw[L.det (q _ _ I)];exact q _ _ M
theorem Eqd.same{σ:St}{x:TR}{a:Tt}(D:Tr σ x a)(E:Tr σ y a):Eqd σ σ x y:=⟨Ex.refl σ,a,D,E,fun i nk r h d=>by rw[h]at d;simp at d⟩
theorem JmY{σ:St}{r:TR}(h:Rp σ r r):JgN σ r=true:=by
 cases r with
 |int=>rfl
 |bool=>rfl
 |nd k j=>
  obtain⟨nk,rfl,d⟩:=h.rt;simp only[JgN,d];exact Kd.eqb_iff.2 rfl
theorem JfS{σ:St}{i:Nat}{nk:NK}{r:TR}(D:σ[i]? =some ⟨nk,none⟩)(d:Rp σ r r)(h:TR.nd nk.kd i≠r):stF σ i r=some (σ.set i ⟨nk,some r⟩):=by
 simp only[stF,D,JmY d,TR.eqb_ff.2 h];rfl
variable {θ:Nat->Tt}
theorem Ex.set{σ:St}{i:Nat}{nk:NK}{r:TR}(h:σ[i]? =some ⟨nk,none⟩)(E:∀x t,Tr σ x t->Tr (σ.set i ⟨nk,some r⟩) x (t.sub θ))(D:vc (σ.set i ⟨nk,some r⟩)<vc σ\/vc (σ.set i ⟨nk,some r⟩)=vc σ/\∀x t,Tr σ x t->Tr (σ.set i ⟨nk,some r⟩) x t):Ex σ (σ.set i ⟨nk,some r⟩):=by
 refine⟨by simp,fun j mk s d=> ?_,θ,E,D⟩
 by_cases e:i=j
 .subst e;rw[h]at d;simp only[Vaa,Nd.mk.injEq]at d;obtain⟨rfl,rfl⟩:=d;exact⟨some r,Jfk h,fun z=>absurd rfl z⟩
 .exact⟨s,(Jav e).trans d,fun _=>rfl⟩
theorem Jju{σ:St}(J:σ.length<fuN){i:Nat}{t:TR}(d:σ[i]? =some ⟨.vr nm g,none⟩)(ht:Rt σ t tt)(W:TR.nd .vr i≠t):becF σ i t=some (.er 3)\/∃σ',becF σ i t=some (.ok σ')/\Eqd σ σ' (.nd .vr i) t:=by
 have Y:=ht.tr.ht_le;obtain⟨l,O,_,⟨r0,L,T⟩,M⟩:=Jex J fuN [] ht.tr (by omega);have V:=L.det ht.root;subst V;simp only[becF,O,Vad]
 by_cases G:memT (.nd .vr i) l=true
 .rw[Vat G];exact .inl rfl
 .rw[Vaq G,JfS d ht.root W,Vad];have E: ¬tt.has i:=fun z=>G (Jd8.2 (JbE (fun e U=>(M e U).resolve_left (by simp)) ht T z))
  refine .inr ⟨_,rfl,Ex.set d (θ:=bnd i tt) (fun x u h=>Tr.bind d ht.tr E h) (.inl ?_),tt,?_,ht.tr.away d E,?_⟩
  .have:=JlC σ i ⟨.vr nm g,none⟩ ⟨.vr nm g,some r0⟩ d;simp only[Nd.free]at this;omega
  .have:=Tr.bind d ht.tr E (.vr i nm g d);simpa only[Tt.sub,bnd,Va0]using this
  .intro j mk r D I
   by_cases e:i=j
   .subst e;rw[d]at D;simp only[Vaa,Nd.mk.injEq,Vbo]at D;subst D;have:=Tr.bind d ht.tr E (.vr i nm g d);simp only[Tt.sub,bnd,Va0]at this;exact⟨tt,this,.refl _⟩
   .rw[Jav e,D]at I;simp at I
variable {σ1 σ2:St}{mk:NK}{A B a1 a2 b1 b2:Tt}{x1 x2 y1 y2:TR}
theorem JjL{σ:St}{i:Nat}{nk:NK}(hi:σ[i]? =some ⟨nk,none⟩)(hj:σ[j]? =some ⟨mk,none⟩)(hA:Tr σ (.nd nk.kd i) A)(hB:Tr σ (.nd mk.kd j) B)(af:Tr σ x1 a1)(an:Tr σ x2 a2)(aj:Tr σ y1 b1)(ak:Tr σ y2 b2)
 (ac:∀s,Nd.free ⟨nk,s⟩=0)(p1:∀θ,Pt (a1.sub θ) (A.sub θ)/\(a1.sub θ).ht<(A.sub θ).ht)(p2:∀θ,Pt (a2.sub θ) (A.sub θ)/\(a2.sub θ).ht<(A.sub θ).ht)(al:∀θ,a1.sub θ=b1.sub θ->a2.sub θ=b2.sub θ->A.sub θ=B.sub θ)
 (ah:TR.nd nk.kd i≠ .nd mk.kd j)(e1:Eqd σ σ1 x1 y1)(e2:Eqd σ1 σ2 x2 y2):stF σ2 i (.nd mk.kd j)=some (σ2.set i ⟨nk,some (.nd mk.kd j)⟩)/\Eqd σ (σ2.set i ⟨nk,some (.nd mk.kd j)⟩) (.nd nk.kd i) (.nd mk.kd j):=by
 obtain⟨Z,c1,k1,k2,n1⟩:=e1;obtain⟨E2,c2,k3,k4,n2⟩:=e2;obtain⟨G,t1,_⟩:=Z.tr;obtain⟨D,U,_⟩:=E2.tr;have T:∀r t,Tr σ r t->Tr σ2 r (t.sub fun i=>(G i).sub D):=fun r t h=>by rw[<-Tt.sub_sub];exact U _ _ (t1 _ _ h)
 have aa:c1.sub D=a1.sub fun i=>(G i).sub D:=(U _ _ k1).det (T _ _ af)
 have ae:c2=a2.sub fun i=>(G i).sub D:=k3.det (T _ _ an)
 have ao:=(T _ _ af).det (aa▸U _ _ k1);have q1:(a1.sub fun i=>(G i).sub D)=b1.sub fun i=>(G i).sub D:=by rw[<-aa];exact(U _ _ k2).det (T _ _ aj)
 have q2:(a2.sub fun i=>(G i).sub D)=b2.sub fun i=>(G i).sub D:=by rw[<-ae];exact k4.det (T _ _ ak)
 have hW:=al _ q1 q2;have X:=T _ _ hA;have Y:=T _ _ hB;rw[<-hW]at Y;have P1:=p1 fun i=>(G i).sub D
 have P2:=p2 fun i=>(G i).sub D
 rw[<-aa]at P1;rw[<-ae]at P2;generalize(A.sub fun i=>(G i).sub D)=W at*
 have ag:∀k d r,σ[k]? =some ⟨d,none⟩->σ2[k]? =some ⟨d,some r⟩->∃u,Tr σ2 (.nd d.kd k) u/\Pt u W/\u.ht<W.ht:=fun k d r E J=>by
  obtain⟨s1,O,_⟩:=Z.kk k d none E
  cases s1 with
  |some r1=>
   obtain⟨u,I,L⟩:=n1 k d r1 E O;have g6:=(L.sub D).trans P1.1;exact⟨_,U _ _ I,g6,by have:=(L.sub D).ht;omega⟩
  |none=>
   obtain⟨u,I,L⟩:=n2 k d r O J;exact⟨u,I,L.trans P2.1,by have:=L.ht;omega⟩
 have root:∀k d,σ[k]? =some ⟨d,none⟩->Tr σ2 (.nd d.kd k) W->σ2[k]? =some ⟨d,none⟩:=fun k d E J=>by
  obtain⟨s1,O,_⟩:=Z.kk k d none E;obtain⟨s2,I,_⟩:=E2.kk k d s1 O
  cases s2 with
  |none=>exact I
  |some r=>
   obtain⟨u,L,_,g6⟩:=ag k d r E I;rw[L.det J]at g6;omega
 have V:=root i nk hi X;have ai:=root j mk hj Y
 have am:Rt σ2 (.nd mk.kd j) W:=by
  obtain⟨r0,E,J⟩:=Y.rt;rw[(Rp.root j mk ai).det E];exact J
 have M:∀r t,Tr σ2 r t->Tr (σ2.set i ⟨nk,some (.nd mk.kd j)⟩) r t:=fun r t h=>Tr.merge V X am ah h
 refine⟨JfS V (.root j mk ai) ah,(Z.trans E2).trans (Ex.set V (θ:= .v) (fun x t h=>by rw[Tt.sub_id fun _ _=>rfl];exact M x t h) (.inr ⟨?_,M⟩)),W,M _ _ X,M _ _ Y,?_⟩
 .have:=JlC σ2 i ⟨nk,none⟩ ⟨nk,some (.nd mk.kd j)⟩ V;rw[ac,ac]at this;omega
 .intro k d r E J
  by_cases e:i=k
  .subst e;rw[hi]at E;simp only[Vaa,Nd.mk.injEq,Vbo]at E;subst E;exact⟨W,M _ _ X,.refl _⟩
  .rw[Jav e]at J;obtain⟨u,O,I,_⟩:=ag k d r E J;exact⟨u,M _ _ O,I⟩
theorem JqN:∀(n:Nat) {σ:St} {x y:TR} {a b:Tt},σ.length<fuN->Tr σ x a->Tr σ y b->vc σ*(σ.length+2)+a.ht+1<=n->eqF n σ x y=some (.er 3)\/∃σ',eqF n σ x y=some (.ok σ')/\Eqd σ σ' x y:=by
 intro n
 induction n with
 |zero=>intro σ x y a b _ _ _ af;omega
 |succ n ih=>
  intro σ x y a b L hx hy hn;obtain⟨x0,ai,ac⟩:=hx.rt;obtain⟨y0,ag,I⟩:=hy.rt;have up:∀σ',Eqd σ σ' x0 y0->Eqd σ σ' x y:=fun σ' af=>af.of hx ac.tr hy I.tr
  simp only[eqF,JaK ai L,JaK ag L,Vad]
  by_cases Y:x0.eqb y0=true
  .rw[Vat Y];have:=TR.eqb_iff.1 Y;subst this;have:=ac.tr.det I.tr;subst this;exact .inr ⟨σ,rfl,.same hx hy⟩
  .rw[Vaq Y];have ae:x0≠y0:=TR.eqb_ff.1 (by simpa using Y);clear Y
   have two:∀{i j:Nat} {nk mk:NK} {A B a1 a2 b1 b2:Tt} {x1 x2 y1 y2:TR},x0= .nd nk.kd i->y0= .nd mk.kd j->a=A->σ[i]? =some ⟨nk,none⟩->σ[j]? =some ⟨mk,none⟩->Tr σ x0 A->Tr σ y0 B->Tr σ x1 a1->Tr σ x2 a2->Tr σ y1 b1->Tr σ y2 b2->(∀s,Nd.free ⟨nk,s⟩=0)->(∀θ,Pt (a1.sub θ) (A.sub θ)/\(a1.sub θ).ht<(A.sub θ).ht)->(∀θ,Pt (a2.sub θ) (A.sub θ)/\(a2.sub θ).ht<(A.sub θ).ht)->(∀θ,a1.sub θ=b1.sub θ->a2.sub θ=b2.sub θ->A.sub θ=B.sub θ)->
     (((eqF n σ x1 y1).bind fun o=>match o with| .er j=>some (.er j)| .ok σ1=>eqF n σ1 x2 y2).bind fun o=>match o with| .er j=>some (Oc.er j)| .ok σ1=>(stF σ1 i y0).bind fun τ=>some (.ok τ))=some (.er 3)\/∃σ',(((eqF n σ x1 y1).bind fun o=>match o with| .er j=>some (.er j)| .ok σ1=>eqF n σ1 x2 y2).bind fun o=>match o with| .er j=>some (Oc.er j)| .ok σ1=>(stF σ1 i y0).bind fun τ=>some (.ok τ))=some (.ok σ')/\Eqd σ σ' x0 y0:=by
    intro i j nk mk A B a1 a2 b1 b2 x1 x2 y1 y2 ex ey eA V hj hA hB k1 G k3 k4 ah p1 J aj;subst ex ey eA
    have M:a1.ht<a.ht:=by
     have:=(p1 .v).2;rwa[Tt.sub_id fun _ _=>rfl,Tt.sub_id fun _ _=>rfl]at this
    have h2:a2.ht<a.ht:=by
     have:=(J .v).2;rwa[Tt.sub_id fun _ _=>rfl,Tt.sub_id fun _ _=>rfl]at this
    rcases ih L k1 k3 (by omega)with e|⟨σ1,e,O⟩
    .rw[e];exact .inl rfl
    .rw[e];simp only[Vad];obtain⟨θ,t1,W⟩:=O.ex.tr;have hl:=O.ex.len
     have:eqF n σ1 x2 y2=some (.er 3)\/∃σ',eqF n σ1 x2 y2=some (.ok σ')/\Eqd σ1 σ' x2 y2:=by
      rcases W with W|⟨W,t3⟩
      .have q:=(t1 _ _ G).ht_le;refine ih (by omega) (t1 _ _ G) (t1 _ _ k4) ?_
       have:(vc σ1+1)*(σ.length+2)<=vc σ*(σ.length+2):=Vb9 _ W;rw[Vdr,VdR]at this;rw[hl]at q⊢;omega
      .exact ih (by omega) (t3 _ _ G) (t3 _ _ k4) (by rw[hl,W];omega)
     rcases this with e2|⟨σ2,e2,E2⟩
     .rw[e2];exact .inl rfl
     .rw[e2];simp only[Vad];obtain⟨U,g2⟩:=JjL V hj hA hB k1 G k3 k4 ah p1 J aj ae O E2;rw[U];exact .inr ⟨_,rfl,g2⟩
   have ak:∀{i:Nat} {nm:BA} {g:Bool},x0= .nd .vr i->σ[i]? =some ⟨.vr nm g,none⟩->becF σ i y0=some (.er 3)\/∃σ',becF σ i y0=some (.ok σ')/\Eqd σ σ' x y:=fun{i nm g} ex V=>by
    subst ex
    rcases Jju L V I ae with e|⟨σ',e,E⟩
    .exact .inl e
    .exact .inr ⟨σ',e,up _ E⟩
   have T:∀{i:Nat} {nm:BA} {g:Bool},y0= .nd .vr i->σ[i]? =some ⟨.vr nm g,none⟩->becF σ i x0=some (.er 3)\/∃σ',becF σ i x0=some (.ok σ')/\Eqd σ σ' x y:=fun{i nm g} ey V=>by
    subst ey
    rcases Jju L V ac (Vdg ae)with e|⟨σ',e,E⟩
    .exact .inl e
    .exact .inr ⟨σ',e,up _ E.symm⟩
   cases ac with
   |vr i nm g e=>exact ak rfl e
   |int=>
    cases I with
    |vr i nm g e=>exact T rfl e
    |_=>exact .inl rfl
   |bool=>
    cases I with
    |vr i nm g e=>exact T rfl e
    |_=>exact .inl rfl
   |ls i p c e k=>
    cases I with
    |vr i nm g e=>exact T rfl e
    |ls j q d h D=>
     simp only[isVr,belF,alkF,Kd.eqb,Va0,Jap,e,h,Vad]
     rcases ih L k D (by simp only[Tt.ht]at hn;omega)with e1|⟨σ1,e1,O⟩
     .rw[e1];exact .inl rfl
     .rw[e1];simp only[Vad];obtain⟨u,u1,u2,_⟩:=O.eq;obtain⟨U,g2⟩:=JjL (nk:= .ls p) (mk:= .ls q) e h (.ls i p c e k) (.ls j q d h D) k k D D (fun s=>by cases s<;>rfl) (fun θ=>⟨.l (.refl _),by simp only[Tt.sub,Tt.ht];omega⟩) (fun θ=>⟨.l (.refl _),by simp only[Tt.sub,Tt.ht];omega⟩) (fun θ M _=>by simp only[Tt.sub,M]) ae O (Eqd.same u1 u2);have U:stF σ1 i (.nd .ls j)=_:=U;rw[U];exact .inr ⟨_,rfl,up _ g2⟩
    |_=>exact .inl rfl
   |pr i p J c c2 e k G=>
    cases I with
    |vr i nm g e=>exact T rfl e
    |pr j q Z d d2 h D aa=>
     have:=two (nk:= .pr p J) (mk:= .pr q Z) rfl rfl rfl e h (.pr i p J c c2 e k G) (.pr j q Z d d2 h D aa) k G D aa (fun s=>by cases s<;>rfl) (fun θ=>⟨.pl (.refl _),by simp only[Tt.sub,Tt.ht];omega⟩) (fun θ=>⟨.pr (.refl _),by simp only[Tt.sub,Tt.ht];omega⟩) (fun θ M h2=>by simp only[Tt.sub,M,h2]);simp only[isVr,belF,alkF,Kd.eqb,Va0,Jap,e,h,Vad]
     rcases this with e|⟨σ',e,E⟩
     .exact .inl e
     .exact .inr ⟨σ',e,up _ E⟩
    |_=>exact .inl rfl
   |ar i p J c c2 e k G=>
    cases I with
    |vr i nm g e=>exact T rfl e
    |ar j q Z d d2 h D aa=>
     have:=two (nk:= .ar p J) (mk:= .ar q Z) rfl rfl rfl e h (.ar i p J c c2 e k G) (.ar j q Z d d2 h D aa) k G D aa (fun s=>by cases s<;>rfl) (fun θ=>⟨.al (.refl _),by simp only[Tt.sub,Tt.ht];omega⟩) (fun θ=>⟨.ar (.refl _),by simp only[Tt.sub,Tt.ht];omega⟩) (fun θ M h2=>by simp only[Tt.sub,M,h2]);simp only[isVr,belF,alkF,Kd.eqb,Va0,Jap,e,h,Vad]
     rcases this with e|⟨σ',e,E⟩
     .exact .inl e
     .exact .inr ⟨σ',e,up _ E⟩
    |_=>exact .inl rfl
end Go.Proofs.YtleenphlgbklmaaGreatDoor
