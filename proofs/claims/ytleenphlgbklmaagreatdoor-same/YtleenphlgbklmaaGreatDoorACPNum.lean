import Derived.Test.YtleenphlgbklmaaGreatDoorACWCanon
import Derived.Test.YtleenphlgbklmaaGreatDoorACPTyB
import Derived.Shelf.Lay
import Derived.Shelf.Strconv.Clone
import Derived.Ground.NamesProg
set_option linter.unusedVariables false
set_option linter.unusedSimpArgs false
set_option maxRecDepth 100000
set_option maxHeartbeats 8000000
open List renaming range → Vet, getD → Veu
namespace Go.Proofs.YtleenphlgbklmaaGreatDoor
open Instr renaming findNow → Vev, lookup → Vew, checkKey → Vex, mapUpdate → Vey, findAsking → Vez, findKey → VeA
open MapKept renaming IsKey → VeB
open Result renaming andThen → VeC
open Tryz
variable {s:BA}{i j k m:Nat}{r x:List UInt8}{kws own:List BA}{ps qs:List (BA×BA)}
def Rs(s:BA)(i:Nat)(x:List UInt8):Prop:=s.data.toList.drop i=x
theorem Rs.cons{b:UInt8}(h:Rs s i (b::r)):i<s.size/\chr s i=(b.toNat:Int)/\Rs s (i+1) r:=by
 unfold Rs at h
 have d:i<s.data.toList.length:=by
  apply VdI
  intro I;rw[Veh I]at h
  cases h
 rw[Vbl d]at h;have D:i<s.size:=by simpa using d
 injection h with E G
 refine⟨D,?_,G⟩
 unfold chr;rw[Vdp D];have:s[i]=b:=by rw[<-E];simp[ByteArray.getElem_eq_getElem_data]
 rw[this]
theorem Rs.nil(h:Rs s i []): ¬i<s.size:=fun d=>by
 unfold Rs at h;have:=List.drop_eq_nil_iff.1 h;simp at this;have e:s.data.size=s.size:=rfl;omega
theorem Rs.app{s:BA}:∀(x:List UInt8) {i:Nat} {r:List UInt8},Rs s i (x++r)->Rs s (i+x.length) r
 | [],i,r,h=>h
 |c::x,i,r,h=>by
  have:=Rs.app x (Rs.cons h).2.2;simpa[Vc2,Nat.add_comm 1]using this
theorem Rs.ext(h:Rs s i (x++r)):s.extract i (i+x.length)=⟨x.toArray⟩:=by
 unfold Rs at h
 have d:(s.extract i (i+x.length)).data.toList=x:=by
  simp only[Vbg,VcJ,Vcc];rw[h];simp
 apply Vbf
 apply VbF.1
 rw[d]
def Stp(p:Int->Bool)(r:List UInt8):Prop:=r= []\/∃c q,r=c::q/\p (c.toNat:Int)=false
theorem JfQ(p:Int->Bool)(s:BA):∀(x:List UInt8) (i:Nat) (r:List UInt8),Rs s i (x++r)->(∀c,c∈x->p (c.toNat:Int)=true)->Stp p r->run p s i=i+x.length
 | [],i,r,h,_,D=>by
  refine Ja8 p s i (fun I=> ?_)
  rcases D with rfl|⟨c,q,rfl,e⟩
  .exact absurd I (Rs.nil h)
  .rw[(Rs.cons h).2.1];exact e
 |c::x,i,r,h,G,D=>by
  have E:=Rs.cons h;rw[Ja7 p s i E.1 (by rw[E.2.1];exact G c (by simp)),JfQ p s x (i+1) r E.2.2 (fun d J=>G d (by simp[J])) D];simp;omega
theorem Jdh(x is:BA)(h:(is.data.toList==(⟨#[110,97,109,101]⟩:BA).data.toList)=false):∀kws:List BA,kws.foldl (Jby x) is=is
 | []=>rfl
 |w::ws=>by
  have e:Jby x is w=is:=by unfold Jby;rw[h];rfl
  rw[VbO,e];exact Jdh x is h ws
theorem Jnq(s:BA)(c:UInt8)(x:List UInt8)(i:Nat)(r:List UInt8)(h:Rs s i ((c::x)++r))(E:lowI (c.toNat:Int)=true)(G:∀d,d∈c::x->lfI (d.toNat:Int)=true)(I:(c::x).length<=8)(M:Stp lfI r)(kws:List BA):
  tok1 s kws i=(⟨kws.foldl (Jby ⟨(c::x).toArray⟩) ⟨#[110,97,109,101]⟩,⟨(c::x).toArray⟩,i⟩,i+(c::x).length):=by
 have D:=Rs.cons (r:=x++r) h
 have J:clsK s i=i+(c::x).length:=by
  unfold clsK;rw[Vat D.1,D.2.1,Vat E];exact JfQ lfI s (c::x) i r h G M
 have L:clsI s i=⟨#[110,97,109,101]⟩:=by
  unfold clsI;rw[Vat D.1,D.2.1,Vat E]
 have O:clsB ⟨#[110,97,109,101]⟩ (i+(c::x).length-i)=⟨#[110,97,109,101]⟩:=by
  unfold clsB;rw[Vaq];simp at I⊢;intro _;omega
 unfold tok1;rw[J,L,O,Rs.ext h]
theorem Jnp(s:BA)(c:UInt8)(i:Nat)(r:List UInt8)(h:Rs s i (c::r))(D:JaW (c.toNat:Int)=true)(kws:List BA):
  tok1 s kws i=(⟨⟨#[c]⟩,⟨#[c]⟩,i⟩,i+1):=by
 have E:=Rs.cons h
 have G:c=61\/c=40\/c=41\/c=44\/c=91\/c=93:=by
  unfold JaW at D;simp only[VcQ,Vbs]at D
  have:∀k:Nat,k<256->(c.toNat:Int)=k->c=UInt8.ofNat k:=fun k J e=>by
   apply VcM.1
   rw[VcT];omega
  rcases D with((((e|e)|e)|e)|e)|e
  .exact .inl (this 61 (by omega) e)
  .exact .inr (.inl (this 40 (by omega) e))
  .exact .inr (.inr (.inl (this 41 (by omega) e)))
  .exact .inr (.inr (.inr (.inl (this 44 (by omega) e))))
  .exact .inr (.inr (.inr (.inr (.inl (this 91 (by omega) e)))))
  .exact .inr (.inr (.inr (.inr (.inr (this 93 (by omega) e)))))
 have d:lowI (c.toNat:Int)=false/\figI (c.toNat:Int)=false/\¬(c.toNat:Int)=45:=by
  rcases G with rfl|rfl|rfl|rfl|rfl|rfl<;>decide
 have I:=Rs.ext (x:= [c]) (r:=r) h;simp only[VaY,Vbp,Vby]at I
 have J:clsK s i=i+1:=by
  unfold clsK;rw[Vat E.1,E.2.1,d.1,d.2.1,D];simp[d.2.2]
 have L:clsI s i=⟨#[c]⟩:=by
  unfold clsI;rw[Vat E.1,E.2.1,d.1,d.2.1,D];simp only[Vao,VaS,d.2.2,VdP,Va0];exact I
 have M:∀n,clsB ⟨#[c]⟩ n=⟨#[c]⟩:=fun n=>by
  unfold clsB isNN
  rcases G with rfl|rfl|rfl|rfl|rfl|rfl<;>rfl
 unfold tok1;rw[J,L,M,I];rw[Jdh]
 rcases G with rfl|rfl|rfl|rfl|rfl|rfl<;>rfl
theorem Jlt(s:BA)(i:Nat)(r:List UInt8)(h:Rs s i (45::62::r))(kws:List BA):tok1 s kws i=(⟨⟨#[45,62]⟩,⟨#[45,62]⟩,i⟩,i+2):=by
 have d:=Rs.cons h;have D:=Rs.cons d.2.2;have G:=Rs.ext (x:= [45,62]) (r:=r) h;simp only[VaY,Vbp]at G;have E:chr s i=45:=d.2.1;have c2:chr s (i+1)=62:=D.2.1
 have I:clsK s i=i+2:=by
  unfold clsK;rw[Vat d.1,E,Vaq (by decide),Vaq (by decide),Vat ⟨rfl,D.1,c2⟩]
 have J:clsI s i=⟨#[45,62]⟩:=by
  unfold clsI;rw[Vat d.1,E,Vaq (by decide),Vaq (by decide),Vat ⟨rfl,D.1,c2⟩]
 have L:∀n,clsB ⟨#[45,62]⟩ n=⟨#[45,62]⟩:=fun n=>rfl
 unfold tok1;rw[I,J,L,G];rw[Jdh _ _ (by rfl)]
inductive Lx(s:BA)(kws:List BA):Nat->List (BA×BA)->Nat->Prop
 |nil (i:Nat):Lx s kws i [] i
 |cons {i j k:Nat} {is x:BA} {ps:List (BA×BA)}:tok1 s kws (run blI s i)=(⟨is,x,run blI s i⟩,j)->Jc3 ⟨is,x,run blI s i⟩=false->Lx s kws j ps k->Lx s kws i ((is,x)::ps) k
theorem Lx.app(h:Lx s kws i ps j)(g:Lx s kws j qs k):Lx s kws i (ps++qs) k:=by
 induction h with
 |nil i=>exact g
 |cons D d _ E=>exact .cons D d (E g)
theorem Lx.bl(E:Rs s i (32::r))(D:ps≠ [])(h:Lx s kws (i+1) ps k):Lx s kws i ps k:=by
 have d:=Rs.cons E;have e:run blI s i=run blI s (i+1):=Ja7 blI s i d.1 (by rw[d.2.1];rfl)
 cases h with
 |nil=>exact absurd rfl D
 |cons a b c=>exact .cons (by rw[e];exact a) (by rw[e];exact b) c
variable {c:UInt8}
theorem JeH(h:Rs s i (c::r))(d:blI (c.toNat:Int)=false):run blI s i=i:=
 Ja8 blI s i (fun _=>by rw[(Rs.cons h).2.1];exact d)
def MatL(L:List Tk)(k:Nat)(ps:List (BA×BA)):Prop:=∀j p,ps[j]? =some p->(tkAt L (k+j)).is=p.1/\(tkAt L (k+j)).s=p.2
variable {L:List Tk}
theorem MatL.app(h:MatL L k (ps++qs)):MatL L k ps/\MatL L (k+ps.length) qs:=by
 refine⟨fun j p d=>h j p ?_,fun j p d=> ?_⟩
 .have:=(Vae.1 d).1;rw[Vak this];exact d
 .have:=h (ps.length+j) p (by rw[VaU (by omega)];simpa using d);rw[Vc2];exact this
variable {p:BA×BA}
theorem MatL.cons(h:MatL L k (p::ps)):(tkAt L k).is=p.1/\(tkAt L k).s=p.2/\MatL L (k+1) ps:=by
 have d:=h 0 p rfl;refine⟨d.1,d.2,fun j q D=> ?_⟩
 have:=h (j+1) q (by simpa using D);rw[show k+1+j=k+(j+1)from by omega];exact this
theorem Lx.le(h:Lx s kws i ps j):i+ps.length<=j:=by
 induction h with
 |nil i=>simp
 | @cons i j k is x ps h1 h2 _ ih=>
  have D:=Jls s kws (run blI s i) (by rw[h1];exact h2);have d:=Jb5 blI s i;have e:(tok1 s kws (run blI s i)).2=j:=by rw[h1]
  have E:(tok1 s kws (run blI s i)).2=clsK s (run blI s i):=rfl;simp only[VaY];omega
theorem Jhp(h:Lx s kws i ps j):∀F,j=s.size->ps.length<F->MatL (Jan s kws F i) 0 ps/\(tkAt (Jan s kws F i) ps.length).is=⟨#[101,110,100]⟩/\(Jan s kws F i).length=ps.length+1:=by
 induction h with
 |nil i=>
  intro F E hF
  cases F with
  |zero=>simp at hF
  |succ F=>
   have O:run blI s i=i:=Ja8 blI s i (fun h=>by omega);have L:clsI s i=⟨#[101,110,100]⟩:=by unfold clsI;rw[Vaq (by omega)]
   have J:clsK s i=i:=by unfold clsK;rw[Vaq (by omega)]
   have ht:(tok1 s kws i).1.is=⟨#[101,110,100]⟩:=by
    unfold tok1;rw[L,J];have:clsB ⟨#[101,110,100]⟩ (i-i)=⟨#[101,110,100]⟩:=rfl;rw[this];exact Jdh _ _ (by rfl) kws
   have D:Jc3 (tok1 s kws i).1=true:=by unfold Jc3;rw[ht];rfl
   rw[Jan,O,Vat D];exact⟨fun j p d=>by simp at d,by simpa[tkAt]using ht,rfl⟩
 | @cons i j k is x ps h1 h2 _ ih=>
  intro F E hF
  cases F with
  |zero=>simp at hF
  |succ F=>
   obtain⟨I,G,M⟩:=ih F E (by simp at hF;omega);have D:Jc3 (tok1 s kws (run blI s i)).1=false:=by rw[h1];exact h2
   have e:Jan s kws (F+1) i=⟨is,x,run blI s i⟩::Jan s kws F j:=by
    rw[Jan,Vaq (by rw[D];simp),h1]
   rw[e];refine⟨fun q p d=> ?_,?_,by simp[M]⟩
   .cases q with
    |zero=>simp at d;subst d;simp[tkAt]
    |succ q=>
     have:=I q p (by simpa using d);rw[Vby]at this⊢;rw[Jbd];exact this
   .simp only[VaY];rw[Jbd];exact G
inductive FO:Ty->Nat->Nat->Prop
 |old (n m:Nat):n<m->FO (.mk ⟨#[]⟩ n []) m m
 |new (m:Nat):FO (.mk ⟨#[]⟩ m []) m (m+1)
 |int (m:Nat):FO (.mk ⟨#[105,110,116]⟩ 0 []) m m
 |bool (m:Nat):FO (.mk ⟨#[98,111,111,108]⟩ 0 []) m m
 |list (a:Ty) (m k:Nat):FO a m k->FO (.mk ⟨#[108,105,115,116]⟩ 0 [a]) m k
 |pair (a b:Ty) (m j k:Nat):FO a m j->FO b j k->FO (.mk ⟨#[112,97,105,114]⟩ 0 [a,b]) m k
 |fn (a b:Ty) (m j k:Nat):FO a m j->FO b j k->FO (.mk ⟨#[102,117,110]⟩ 0 [a,b]) m k
variable {t:Ty}
theorem FO.le(h:FO t m k):m<=k:=by induction h<;>omega
theorem FO.sz(h:FO t m k):k<=m+sz t:=by
 induction h with
 |old n m h=>omega
 |new m=>simp only[Go.Proofs.YtleenphlgbklmaaGreatDoor.sz];omega
 |int m=>omega
 |bool m=>omega
 |list a m k _ d=>simp only[Go.Proofs.YtleenphlgbklmaaGreatDoor.sz,szs];omega
 |pair a b m j k _ _ d D=>simp only[Go.Proofs.YtleenphlgbklmaaGreatDoor.sz,szs];omega
 |fn a b m j k _ _ d D=>simp only[Go.Proofs.YtleenphlgbklmaaGreatDoor.sz,szs];omega
theorem FO.wt(h:FO t m k):WT k t:=by
 induction h with
 |old n m h=>exact .var n h
 |new m=>exact .var m (by omega)
 |int m=>exact .int
 |bool m=>exact .bool
 |list a m k _ d=>exact .list a d
 |pair a b m j k _ D d E=>exact .pair a b (d.up D.le) E
 |fn a b m j k _ D d E=>exact .fn a b (d.up D.le) E
theorem FO.vars(h:FO t m k):Jao t (Vet m)=Vet k:=by
 induction h with
 |old n m h=>rw[JaZ,Vat (by unfold inB;simpa using h)]
 |new m=>rw[JaZ,Vaq (by unfold inB;simp),Vdi]
 |int m=>simp[Jao,Jcb]
 |bool m=>simp[Jao,Jcb]
 |list a m k _ d=>rw[Jbn];exact d
 |pair a b m j k _ _ d D=>rw[Jbo,d];exact D
 |fn a b m j k _ _ d D=>rw[Jcl,d];exact D
structure OwN(m:BA):Prop where
 nz:∃c x,m.data.toList=c::x/\lowI (c.toNat:Int)=true
 lf:∀d,d∈m.data.toList->lfI (d.toNat:Int)=true
 sz:m.data.toList.length<=8
 ni:Jag m ⟨#[105,110,116]⟩=false
 nb:Jag m ⟨#[98,111,111,108]⟩=false
theorem JaC{x:BA}(h:(tkAt L k).is=x)(w:BA):isM L w k (-1)=Jag x w:=by
 unfold isM Jag;rw[h];rfl
theorem Jam{x:BA}(h:(tkAt L k).is=x):Jai L x k (-1)=k+1/\Jab L x k (-1)= -1:=by
 have e:isM L x k (-1)=true:=by rw[JaC h];exact(Jaf x x).2 rfl
 unfold Jai Jab;rw[e];exact⟨rfl,rfl⟩
def RdA(own:List BA)(t:Ty)(m k:Nat)(ps:List (BA×BA)):Prop:=
 ∀(L:List Tk) (n q:Nat),MatL L q ps->Jag (tkAt L (q+ps.length)).is ⟨#[45,62]⟩=false->ps.length+1<=n->Jaq L n (own.take m) q (-1)=some (t,own.take k,q+ps.length,-1)
def RdN(own:List BA)(t:Ty)(m k:Nat)(ps:List (BA×BA)):Prop:=
 ∀(L:List Tk) (n q:Nat),MatL L q ps->ps.length<=n->oneM L n (own.take m) q (-1)=some (t,own.take k,q+ps.length,-1)
theorem RdN.arrow(h:RdN own t m k ps):RdA own t m k ps:=by
 intro L n q d D E
 cases n with
 |zero=>omega
 |succ n=>
  rw[Jaq,h L n q d (by omega)];simp only[Vad];rw[Vaq];rw[JaC rfl,D];simp
def okN(own:List BA):Prop:=own.Nodup/\∀m,m∈own->OwN m
variable {n:Nat}
theorem Jkt(h:own.Nodup)(G:n<m)(I:m<=own.length):(own.take m).findIdx? (fun x=>Jag x (own.getD n ⟨#[]⟩))=some n:=by
 rw[VaZ];refine⟨by simp;omega,?_,fun j E=> ?_⟩
 .have:n<own.length:=by omega
  simp[Veu,this,(Jaf _ _).2]
 .have D:j<own.length:=by omega
  have d:n<own.length:=by omega
  simp only[Vcz,Veu,Vav d,Vcg,Vc5]
  cases e:Jag own[j] own[n]with
  |false=>rfl
  |true=>exact absurd ((Jaf _ _).1 e) ((VaF.1 h) j n D d E)
theorem Jku(h:own.Nodup)(d:m<own.length):(own.take m).findIdx? (fun x=>Jag x (own.getD m ⟨#[]⟩))=none:=by
 rw[Vbv];intro x D;obtain⟨j,E,rfl⟩:=Vcb.1 D;simp at E;simp only[Vcz,Veu,Vav d,Vcg]
 cases e:Jag own[j] own[m]with
 |false=>rfl
 |true=>exact absurd ((Jaf _ _).1 e) ((VaF.1 h) j m (by omega) d (by omega))
theorem Jk2{own:List BA}(h:own.Nodup){n m k:Nat}(O:FO (.mk ⟨#[]⟩ n []) m k)(T:k<=own.length):RdN own (.mk ⟨#[]⟩ n []) m k [(⟨#[110,97,109,101]⟩,own.getD n ⟨#[]⟩)]:=by
 intro L f q J G;obtain⟨d,E,_⟩:=J.cons;have d:(tkAt L q).is=⟨#[110,97,109,101]⟩:=d;have E:(tkAt L q).s=own.getD n ⟨#[]⟩:=E
 cases f with
 |zero=>simp at G
 |succ f=>
  rw[oneM,JaC d,JaC d,JaC d,JaC d];rw[Vaq (by decide),Vaq (by decide),Vaq (by decide),Vaq (by decide),E,(Jam d).1,(Jam d).2];unfold Jcz
  cases O with
  |old _ _ D=>rw[Jkt h D (by omega)];rfl
  |new=>
   have D:n<own.length:=by omega
   have M:own.take (n+1)=own.take n++ [own.getD n ⟨#[]⟩]:=by
    rw[Va9 D];simp[Veu,D]
   have I:(own.take n).length=n:=by simp;omega
   rw[Jku h (by omega),M];simp only[I];rfl
theorem Joi(own:List BA)(m:Nat):RdN own (.mk ⟨#[105,110,116]⟩ 0 []) m m [(⟨#[105,110,116]⟩,⟨#[105,110,116]⟩)]:=by
 intro L f q D d;obtain⟨h,E,_⟩:=D.cons
 cases f with
 |zero=>simp at d
 |succ f=>
  rw[oneM,JaC h,Vat (by decide)];rfl
theorem Jk0(own:List BA)(m:Nat):RdN own (.mk ⟨#[98,111,111,108]⟩ 0 []) m m [(⟨#[98,111,111,108]⟩,⟨#[98,111,111,108]⟩)]:=by
 intro L f q D h;obtain⟨d,E,_⟩:=D.cons
 cases f with
 |zero=>simp at h
 |succ f=>
  rw[oneM,JaC d,JaC d,Vaq (by decide),Vat (by decide)];rfl
variable {a:Ty}
theorem Jk1(h:RdA own a m k ps):RdN own (.mk ⟨#[108,105,115,116]⟩ 0 [a]) m k ((⟨#[91]⟩,⟨#[91]⟩)::(ps++ [(⟨#[93]⟩,⟨#[93]⟩)])):=by
 intro L f q I E;obtain⟨D,O,J⟩:=I.cons;obtain⟨M,G⟩:=J.app;obtain⟨d,_,_⟩:=G.cons
 cases f with
 |zero=>simp at E
 |succ f=>
  simp at E;rw[oneM,JaC D,JaC D,JaC D,Vaq (by decide),Vaq (by decide),Vat (by decide)];rw[h L f (q+1) M (by rw[d];decide) (by omega)];simp only[Vad];rw[(Jam d).1,(Jam d).2];simp;omega
theorem Jrp(h:RdA own a m k ps):RdN own a m k ((⟨#[40]⟩,⟨#[40]⟩)::(ps++ [(⟨#[41]⟩,⟨#[41]⟩)])):=by
 intro L f q I E;obtain⟨D,O,J⟩:=I.cons;obtain⟨M,G⟩:=J.app;obtain⟨d,_,_⟩:=G.cons
 cases f with
 |zero=>simp at E
 |succ f=>
  simp at E;rw[oneM,JaC D,JaC D,JaC D,JaC D,Vaq (by decide),Vaq (by decide),Vaq (by decide),Vat (by decide)];rw[h L f (q+1) M (by rw[d];decide) (by omega)];simp only[Vad];rw[Vaq (by rw[JaC d];decide),(Jam d).1,(Jam d).2];simp;omega
variable {b:Ty}
theorem Jk3(h:RdA own a m j ps)(g:RdA own b j k qs):RdN own (.mk ⟨#[112,97,105,114]⟩ 0 [a,b]) m k ((⟨#[40]⟩,⟨#[40]⟩)::(ps++(⟨#[44]⟩,⟨#[44]⟩)::(qs++ [(⟨#[41]⟩,⟨#[41]⟩)]))):=by
 intro L f q M G;obtain⟨d,W,T⟩:=M.cons;obtain⟨V,I⟩:=T.app;obtain⟨E,_,O⟩:=I.cons;obtain⟨J,U⟩:=O.app;obtain⟨D,_,_⟩:=U.cons
 cases f with
 |zero=>simp at G
 |succ f=>
  simp at G;rw[oneM,JaC d,JaC d,JaC d,JaC d,Vaq (by decide),Vaq (by decide),Vaq (by decide),Vat (by decide)];rw[h L f (q+1) V (by rw[E];decide) (by omega)];simp only[Vad];rw[Vat (by rw[JaC E];decide)];rw[g L f _ J (by rw[D];decide) (by omega)];simp only[Vad];rw[(Jam D).1,(Jam D).2];simp;omega
theorem Jrq(h:RdN own a m j ps)(g:RdA own b j k qs):RdA own (.mk ⟨#[102,117,110]⟩ 0 [a,b]) m k (ps++(⟨#[45,62]⟩,⟨#[45,62]⟩)::qs):=by
 intro L f q J D d;obtain⟨M,G⟩:=J.app;obtain⟨E,_,I⟩:=G.cons;have e:q+(ps++(⟨#[45,62]⟩,⟨#[45,62]⟩)::qs).length=q+ps.length+1+qs.length:=by simp;omega
 rw[e]at D
 cases f with
 |zero=>simp at d
 |succ f=>
  simp at d;rw[Jaq,h L f q M (by omega)];simp only[Vad];rw[Vat (by rw[JaC E];decide)];rw[g L f _ I D (by omega)];simp only[Vad,e]
def bsL(b:BA):List UInt8:=b.data.toList
theorem Jah(a b:BA):bsL (a++b)=bsL a++bsL b:=by unfold bsL;simp
theorem Jg9(a:BA):(bsL a).length=a.size:=by unfold bsL;simp
theorem Jjx{a:BA}:(⟨(bsL a).toArray⟩:BA)=a:=by unfold bsL;rfl
def LxK(kws:List BA)(x:List UInt8)(ps:List (BA×BA)):Prop:=∀(s:BA) (i:Nat) (r:List UInt8),Rs s i (x++r)->Stp lfI r->Lx s kws i ps (i+x.length)
abbrev LxA:=LxK Jdg
theorem JdJ(c:UInt8)(J:JaW (c.toNat:Int)=true)(I:blI (c.toNat:Int)=false)(s:BA)(i:Nat)(r:List UInt8)(h:Rs s i (c::r)):Lx s kws i [(⟨#[c]⟩,⟨#[c]⟩)] (i+1):=by
 have E:=JeH h I;have G:=Jnp s c i r h J kws;refine .cons (j:=i+1) (by rw[E];exact G) ?_ (.nil _)
 unfold Jc3;rw[E];have d:(⟨#[c]⟩:BA).data.toList.length=1:=rfl
 cases e:((⟨#[c]⟩:BA).data.toList==(⟨#[110,111,110,101]⟩:BA).data.toList)with
 |true=>rw[Vbs]at e;rw[e]at d;exact absurd d (by decide)
 |false=>
  cases D:((⟨#[c]⟩:BA).data.toList==(⟨#[101,110,100]⟩:BA).data.toList)with
  |true=>rw[Vbs]at D;rw[D]at d;exact absurd d (by decide)
  |false=>rfl
theorem Jra{c:Int}(h:lowI c=true):blI c=false:=by
 unfold lowI at h;unfold blI;simp only[Vaz,Va1]at h;simp only[VbT,VbL];omega
theorem Jes(m is:BA)(L:∃c x,m.data.toList=c::x/\lowI (c.toNat:Int)=true)(G:∀d,d∈m.data.toList->lfI (d.toNat:Int)=true)(D:m.data.toList.length<=8)(J:kws.foldl (Jby m) ⟨#[110,97,109,101]⟩=is)(M:Jc3 ⟨is,m,0⟩=false):LxK kws (bsL m) [(is,m)]:=by
 intro s i r h U;obtain⟨c,x,e,I⟩:=L;have E:bsL m=c::x:=e;rw[E]at h⊢;rw[e]at G D;have O:(⟨(c::x).toArray⟩:BA)=m:=by rw[<-E];exact Jjx
 have ht:=Jnq s c x i r h I G D U kws;rw[O,J]at ht;have T:=JeH (r:=x++r) h (Jra I);refine .cons (j:=i+(c::x).length) (by rw[T];exact ht) ?_ (.nil _)
 exact M
theorem Jn9{m:BA}(h:OwN m):LxA (bsL m) [(⟨#[110,97,109,101]⟩,m)]:=by
 refine Jes m _ h.nz h.lf h.sz ?_ (by rfl)
 have D:Jag m ⟨#[105,110,116]⟩=false:=h.ni;have d:Jag m ⟨#[98,111,111,108]⟩=false:=h.nb;unfold Jag at D d;simp only[Jdg,VbO,List.foldl_nil,Jby,D,d];rfl
theorem Jrc:LxA (bsL ⟨#[105,110,116]⟩) [(⟨#[105,110,116]⟩,⟨#[105,110,116]⟩)]:=Jes _ _ ⟨105,[110,116],rfl,by decide⟩ (by decide) (by decide) (by rfl) (by rfl)
theorem Jpb:LxA (bsL ⟨#[98,111,111,108]⟩) [(⟨#[98,111,111,108]⟩,⟨#[98,111,111,108]⟩)]:=Jes _ _ ⟨98,[111,111,108],rfl,by decide⟩ (by decide) (by decide) (by rfl) (by rfl)
theorem Jln(h:lfI (c.toNat:Int)=false)(r:List UInt8):Stp lfI (c::r):= .inr ⟨c,r,rfl,h⟩
theorem Jki(c d:UInt8)(T:JaW (c.toNat:Int)=true)(M:blI (c.toNat:Int)=false)(O:JaW (d.toNat:Int)=true)(U:blI (d.toNat:Int)=false)(L:lfI (d.toNat:Int)=false)(h:LxK kws x ps):LxK kws (c::(x++ [d])) ((⟨#[c]⟩,⟨#[c]⟩)::(ps++ [(⟨#[d]⟩,⟨#[d]⟩)])):=by
 intro s i r D V;have D:Rs s i (c::(x++d::r)):=by simpa using D
 have I:=JdJ (kws:=kws) c T M s i _ D;have E:=(Rs.cons D).2.2;have J:=h s (i+1) (d::r) E (Jln L r);have G:=JdJ (kws:=kws) d O U s _ r (Rs.app x E);have:=I.app (J.app G);have e:i+(c::(x++ [d])).length=i+1+x.length+1:=by simp;omega
 rw[e];exact this
variable {y:List UInt8}
theorem Jkj(h:LxK kws x ps)(g:LxK kws y qs)(O:qs≠ []):LxK kws (40::(x++44::32::(y++ [41]))) ((⟨#[40]⟩,⟨#[40]⟩)::(ps++(⟨#[44]⟩,⟨#[44]⟩)::(qs++ [(⟨#[41]⟩,⟨#[41]⟩)]))):=by
 intro s i r d V;have d:Rs s i (40::(x++44::32::(y++41::r))):=by simpa using d
 have M:=JdJ (kws:=kws) 40 (by decide) (by decide) s i _ d;have G:=(Rs.cons d).2.2;have T:=h s (i+1) _ G (Jln (by decide) _);have E:=Rs.app x G;have J:=JdJ (kws:=kws) 44 (by decide) (by decide) s _ _ E;have D:=(Rs.cons E).2.2;have I:=(Rs.cons D).2.2;have L:=Lx.bl D O (g s _ _ I (Jln (by decide) _));have U:=JdJ (kws:=kws) 41 (by decide) (by decide) s _ r (Rs.app y I);have:=M.app (T.app (J.app (L.app U)));have e:i+(40::(x++44::32::(y++ [41]))).length=i+1+x.length+1+1+y.length+1:=by simp;omega
 rw[e];exact this
theorem Jrb(h:LxA x ps)(g:LxA y qs)(L:qs≠ []):LxA (x++32::45::62::32::y) (ps++(⟨#[45,62]⟩,⟨#[45,62]⟩)::qs):=by
 intro s i r d T;have d:Rs s i (x++32::45::62::32::(y++r)):=by simpa using d
 have O:=h s i _ d (Jln (by decide) _);have E:=Rs.app x d;have D:=(Rs.cons E).2.2;have G:=(Rs.cons (Rs.cons D).2.2).2.2;have M:=(Rs.cons G).2.2
 have J:Lx s Jdg (i+x.length+1) [(⟨#[45,62]⟩,⟨#[45,62]⟩)] (i+x.length+1+2):=by
  have U:=JeH D (by decide);exact .cons (by rw[U];exact Jlt s _ _ D Jdg) (by rfl) (.nil _)
 have I:=Lx.bl G L (g s _ r M T);have:=O.app (Lx.bl E (by simp) (J.app I));have e:i+(x++32::45::62::32::y).length=i+x.length+1+2+1+y.length:=by simp;omega
 rw[e];exact this
theorem Jry(own:List BA)(L:okN own)(h:FO t m k)(G:k<=own.length):∃ps,ps≠ []/\RdA own t m k ps/\(Jag t.kind ⟨#[102,117,110]⟩=false->RdN own t m k ps)/\LxA (bsL (Ide own t)) ps:=by
 induction h with
 |old n m hn=>
  have I:=Jk2 L.1 (.old n m hn) G;refine⟨_,by simp,I.arrow,fun _=>I,?_⟩
  rw[Jbb];exact Jn9 (L.2 _ (by simp[Veu,show n<own.length from by omega]))
 |new m=>
  have I:=Jk2 L.1 (.new m) G;refine⟨_,by simp,I.arrow,fun _=>I,?_⟩
  rw[Jbb];exact Jn9 (L.2 _ (by simp[Veu,show m<own.length from by omega]))
 |int m=>exact⟨_,by simp,(Joi own m).arrow,fun _=>Joi own m,by rw[JbV];exact Jrc⟩
 |bool m=>exact⟨_,by simp,(Jk0 own m).arrow,fun _=>Jk0 own m,by rw[Jbq];exact Jpb⟩
 |list a m k _ J=>
  obtain⟨ps,Z,d,T,D⟩:=J G;refine⟨_,by simp,(Jk1 d).arrow,fun _=>Jk1 d,?_⟩
  rw[JbU,Jah,Jah];exact Jki 91 93 (by decide) (by decide) (by decide) (by decide) (by decide) D
 |pair a b m j k _ V J Y=>
  obtain⟨ps,Z,d,T,D⟩:=J (by have:=V.le;omega);obtain⟨qs,M,E,g3,O⟩:=Y G;refine⟨_,by simp,(Jk3 d E).arrow,fun _=>Jk3 d E,?_⟩
  rw[JbC,Jah,Jah,Jah,Jah];have:=Jkj D O M
  have e:bsL ⟨#[40]⟩++bsL (Ide own a)++bsL ⟨#[44,32]⟩++bsL (Ide own b)++bsL ⟨#[41]⟩=40::(bsL (Ide own a)++44::32::(bsL (Ide own b)++ [41])):=by
   simp[bsL]
  rw[e];exact this
 |fn a b m j k _ V J Y=>
  obtain⟨ps,Z,d,T,D⟩:=J (by have:=V.le;omega);obtain⟨qs,M,E,g3,O⟩:=Y G
  cases W:Jag a.kind ⟨#[102,117,110]⟩with
  |false=>
   refine⟨_,by simp,Jrq (T W) E,fun h=>absurd (show Jag (⟨#[102,117,110]⟩:BA) ⟨#[102,117,110]⟩=false from h) (by decide),?_⟩
   rw[Jdt,Jah,Jah];have U:(a.kind.data.toList==(⟨#[102,117,110]⟩:BA).data.toList)=false:=W;rw[U]
   have e:bsL (brkT false (Ide own a))++bsL ⟨#[32,45,62,32]⟩++bsL (Ide own b)=bsL (Ide own a)++32::45::62::32::bsL (Ide own b):=by
    simp[bsL,brkT]
   rw[e];exact Jrb D O M
  |true=>
   refine⟨_,by simp,Jrq (Jrp d) E,fun h=>absurd (show Jag (⟨#[102,117,110]⟩:BA) ⟨#[102,117,110]⟩=false from h) (by decide),?_⟩
   rw[Jdt,Jah,Jah];have U:(a.kind.data.toList==(⟨#[102,117,110]⟩:BA).data.toList)=true:=W;rw[U]
   have e:bsL (brkT true (Ide own a))++bsL ⟨#[32,45,62,32]⟩++bsL (Ide own b)=(40::(bsL (Ide own a)++ [41]))++32::45::62::32::bsL (Ide own b):=by
    simp[bsL,brkT]
   rw[e];exact Jrb (Jki 40 41 (by decide) (by decide) (by decide) (by decide) (by decide) D) O M
open Go.RowKit
def kAt(kv:List (BA×BA))(j:Nat):BA×BA:=kv.getD j (⟨#[]⟩,⟨#[]⟩)
def tEnt(kv:List (BA×BA))(j:Nat):MapEntry:={key:= .string (kAt kv j).1,val:= .agg #[.string (kAt kv j).2],born:=j}
def tEs(kv:List (BA×BA)):Array MapEntry:=((Vet kv.length).map (tEnt kv)).toArray
structure SM(w:World)(mb:Nat)(kv:List (BA×BA)):Prop where
 mp:w.heap[mb]? =some (.map (tEs kv) kv.length)
 nd:(kv.map Prod.fst).Nodup
theorem Jni(kv:List (BA×BA))(nm x:BA):(tEs kv).push {key:= .string nm,val:= .agg #[.string x],born:=kv.length}=tEs (kv++ [(nm,x)]):=by
 unfold tEs;rw[Vap,VaG,Vdi,Vbu]
 have h:(Vet kv.length).map (tEnt kv)=(Vet kv.length).map (tEnt (kv++ [(nm,x)])):=by
  apply VcP
  intro j d;have d:j<kv.length:=VcC.1 d;simp[tEnt,kAt,Veu,Vak d]
 have D:tEnt (kv++ [(nm,x)]) kv.length={key:= .string nm,val:= .agg #[.string x],born:=kv.length}:=by
  simp[tEnt,kAt,Veu]
 rw[h];simp[D]
theorem Jp4(kv:List (BA×BA))(j:Nat):(tEs kv).toList[j]? =if j<kv.length then some (tEnt kv j)else none:=by
 simp only[tEs]
 by_cases h:j<kv.length
 .simp[h]
 .simp[h]
theorem Jhi(kv:List (BA×BA))(nm:BA)(L:(kv.map Prod.fst).Nodup):Vev .string (.string nm) (tEs kv).toList 0=some ((kv.findIdx? (fun x=>Jag x.1 nm)).map fun j=>(j,.agg #[.string (kAt kv j).2])):=by
 have J:VeB .string (.string nm):=by simp[VeB]
 have O:∀x,x∈(tEs kv).toList->VeB .string x.key:=fun x E=>by
  simp only[tEs,Vbj]at E;obtain⟨j,_,rfl⟩:=E;simp[tEnt,VeB]
 have gd:∀j (h:j<kv.length),kAt kv j=kv[j]:=fun j h=>by simp[kAt,Veu,h]
 rcases Veq J (tEs kv).toList 0 O with⟨I,D⟩|⟨j,e,I,D,G⟩
 .have:kv.findIdx? (fun x=>Jag x.1 nm)=none:=by
   rw[Vbv];intro x E;obtain⟨j,d,rfl⟩:=Vbk E;rw[Vbm];intro q;have q:=(Jaf _ _).1 q
   have T:tEnt kv j∈(tEs kv).toList:=by
    simp only[tEs,Vbj];exact⟨j,by simpa using d,rfl⟩
   refine D _ T ?_
   simp only[tEnt];rw[gd j d,q]
  rw[I,this];rfl
 .rw[Jp4]at D
  by_cases d:j<kv.length
  .rw[Vat d]at D;obtain rfl:=VbN D
   have q:kv[j].1=nm:=by
    simp only[tEnt]at G;rw[gd j d]at G
    injection G
   have:kv.findIdx? (fun x=>Jag x.1 nm)=some j:=by
    rw[VaZ];refine⟨d,(Jaf _ _).2 q,?_⟩
    intro i M z;have z:=(Jaf _ _).1 z;have:=(VaF.1 L) i j (by simp;omega) (by simpa using d) M;simp at this;exact this (z.trans q.symm)
   rw[I,this];simp[tEnt]
  .rw[Vaq d]at D
   cases D
theorem Ida(w:World):(zeroValue 102).run prog w= .ok (.agg #[.string ⟨#[]⟩]) w:=by kernel_rfl
theorem JeI(M:TypeId)(D:prog.underlying M=some (.map 9 102))(w:World)(mb:Nat)(kv:List (BA×BA))(nm:BA)(h:SM w mb kv):
  (Vew M (.map (some mb)) (.string nm) true).run prog w= .ok (match kv.findIdx? (fun x=>Jag x.1 nm)with|some j=> .tuple #[.agg #[.string (kAt kv j).2],.bool true]|none=> .tuple #[.agg #[.string ⟨#[]⟩],.bool false]) w:=by
 have G:=Jhi kv nm h.nd;have E:∀e,(Vex e 10000 9 (.string nm)).run prog w= .ok () w:=fun e=>Vbz VaR (by simp[VeB]) e 9999
 have d:=Ida w;simp only[Vew,Va8,VaM D,VaQ h.mp,VeC,VbW,E,VbC VaR G]
 cases kv.findIdx? (fun x=>Jag x.1 nm)with
 |none=>simp[d,VeC]
 |some j=>simp
theorem Jfh(M:TypeId)(D:prog.underlying M=some (.map 9 102))(w:World)(mb:Nat)(kv:List (BA×BA))(nm:BA)(h:SM w mb kv):
  (Vew M (.map (some mb)) (.string nm) false).run prog w= .ok (match kv.findIdx? (fun x=>Jag x.1 nm)with|some j=> .agg #[.string (kAt kv j).2]|none=> .agg #[.string ⟨#[]⟩]) w:=by
 have G:=Jhi kv nm h.nd;have E:∀e,(Vex e 10000 9 (.string nm)).run prog w= .ok () w:=fun e=>Vbz VaR (by simp[VeB]) e 9999
 have d:=Ida w;simp only[Vew,Va8,VaM D,VaQ h.mp,VeC,VbW,E,VbC VaR G]
 cases kv.findIdx? (fun x=>Jag x.1 nm)with
 |none=>simp[d,VeC]
 |some j=>simp
theorem Jiw(M:TypeId)(E:prog.underlying M=some (.map 9 102))(w:World)(mb:Nat)(kv:List (BA×BA))(nm x:BA)(h:SM w mb kv)(D:kv.findIdx? (fun x=>Jag x.1 nm)=none):
  (Vey M (.map (some mb)) (.string nm) (.agg #[.string x])).run prog w= .ok () (Idd w mb (.map (tEs (kv++ [(nm,x)])) (kv.length+1))):=by
 have d:=Jhi kv nm h.nd;rw[D]at d;have d:Vev .string (.string nm) (tEs kv).toList 0=some none:=d;have G:(Vex false 10000 9 (.string nm)).run prog w= .ok () w:=Vbz VaR (by simp[VeB]) false 9999;rw[<-Jni kv];simp[Idd,Vey,VaM E,VaQ h.mp,G,VbC VaR d,VbB _ h.mp,VeC]
variable {w:World}{mb:Nat}{kv:List (BA×BA)}
theorem SM.put(h:SM w mb kv)(nm x:BA)(D:kv.findIdx? (fun x=>Jag x.1 nm)=none):SM (Idd w mb (.map (tEs (kv++ [(nm,x)])) (kv.length+1))) mb (kv++ [(nm,x)]):=by
 refine⟨?_,?_⟩
 .rw[JaV _ _ _ (Vah h.mp)];simp
 .rw[Vbu,VbU];refine⟨h.nd,by simp,?_⟩
  intro a E b d;simp at d;subst d;rw[Vbv]at D;obtain⟨y,G,rfl⟩:=Vbj.1 E;intro z;have:=D y G;rw[Vbm]at this;exact this ((Jaf _ _).2 z)
variable {w':World}{P:Nat->Prop}
theorem SM.kp(h:SM w mb kv)(D:Kp P w w')(d: ¬P mb):SM w' mb kv:=⟨D.blk h.mp d,h.nd⟩
shelf_lay LaysM.n316 Nm 316 at Tryz as laysM316
theorem Jfj(s:BA)(w:World)(E:s.size<=1000000):Calls prog 149 #[.string s] w fun e w'=>e= .returned (.string s)/\Below w.heap.size w w':=by
 have d:Hid (Calls prog 188 #[.string s] w fun e w'=>e= .returned (.string s)/\Below w.heap.size w w'):=Any.stringslite_Clone laysM316 s w (by omega)
 go_enter func149,ntmps149
 go_wp2_with fail
 refine Vac d.out ?_
 rintro e D ⟨rfl,h⟩
 go_wp2
 go_ret
 exact⟨rfl,h⟩
theorem JlR(w:World)(mb:Nat)(kv:List (BA×BA))(nm x:BA)(h:SM w mb kv)(j:Nat)(E:kv.findIdx? (fun y=>Jag y.1 nm)=some j):
  Calls prog 115 #[.map (some mb),.string nm,.string x] w fun e w'=>e= .returned (.bool (Jag (kAt kv j).2 x))/\Kp (fun _=>False) w w':=by
 have d:=JeI 163 Vd0 w mb kv nm h;rw[E]at d;simp only at d;have D:Kp (fun _=>False) w (w.alloc (.cells #[.string (kAt kv j).2] 102)):=(Kp.refl _ w).alloc _;have G:Hid _:=D;clear h E D
 go_enter func115,ntmps115
 go_wp2
 go_ret
 exact⟨by simp[Jag,VaL],G.out⟩
theorem JlQ(w:World)(mb:Nat)(kv:List (BA×BA))(nm x:BA)(h:SM w mb kv)(M:kv.findIdx? (fun y=>Jag y.1 nm)=none)(V:nm.size<=1000000):
  Calls prog 115 #[.map (some mb),.string nm,.string x] w fun e w'=>e= .returned (.bool true)/\SM w' mb (kv++ [(nm,x)])/\Kp (·=mb) w w':=by
 have E:=JeI 163 Vd0 w mb kv nm h;rw[M]at E;simp only at E;have I:Hid _:=M;have T:Hid _:=h;have U:Hid (∀w,Calls prog 149 #[.string nm] w fun e w'=>e= .returned (.string nm)/\Below w.heap.size w w'):=fun w=>Jfj nm w V
 clear h M
 go_enter func115,ntmps115
 go_wp2_with fail
 refine Vac (U.out _) ?_
 rintro e G ⟨rfl,D⟩
 have J:Kp (fun _=>False) w G:=by
  have d:Kp (fun _=>False) w (w.alloc (.cells #[.string ⟨#[]⟩] 102)):=(Kp.refl _ w).alloc _;exact⟨D.os.trans d.os,D.tape.trans d.tape,D.output.trans d.output,Vas d.size D.size,fun q O z=>(D.block q (Va6 O d.size)).trans (d.block q O z)⟩
 have L:=T.out.kp J (fun z=>z);have Z:=Jiw 163 Vd0 G mb kv nm x L I.out;have Y:Hid _:=L.put nm x I.out;have W:Hid (Kp (·=mb) w (Idd G mb (.map (tEs (kv++ [(nm,x)])) (kv.length+1)))):=(J.mono (fun _ _ z=>z.elim)).trans (Jet _ _ _);clear L J D U T I E
 go_wp2
 go_ret
 exact⟨rfl,Y.out,W.out⟩
theorem Jhw(n:Nat)(d:n<10)(w:World):Calls prog 148 #[.int .i64 n] w fun e w'=>e= .returned (.string (JaG [48+n]))/\w'=w:=by
 have h:n=0\/n=1\/n=2\/n=3\/n=4\/n=5\/n=6\/n=7\/n=8\/n=9:=by omega
 rcases h with rfl|rfl|rfl|rfl|rfl|rfl|rfl|rfl|rfl|rfl
 all_goals
  go_enter func148,ntmps148
  go_wp2
  go_ret
  exact⟨VbH (fun x=>Ending.returned (.string x)) (Vbf (by decide)),rfl⟩
def Jif:BA:=⟨#[97,98,99,100,101,102,103,104,105,106,107,108,109,110,111,112,113,114,115,116,117,118,119,120,121,122]⟩
theorem Jho:∀k:Fin 26,(Jif.extract k.val (k.val+1)).data=(JaG [97+k.val]).data:=by decide
theorem Jhn(k:Nat)(h:k<26):Jif.extract k (k+1)=JaG [97+k]:=Vbf (Jho ⟨k,h⟩)
theorem Jfe(n:Nat)(Z:n<260)(w:World):Calls prog 114 #[.int .i64 n] w fun e w'=>e= .returned (.string (letM n))/\w'=w:=by
 have G:=Jhn (n%26) (Vd8 _ (by decide))
 have d:Hid (letM n=if n<26 then JaG [97+n%26]else JaG [97+n%26]++JaG [48+n/26]):=by
  show _=_;unfold letM
  split
  .rename_i h;rw[VdH h]
  .rfl
 have L:Hid (∀w,Calls prog 148 #[.int .i64 ((n/26:Nat):Int)] w fun e w'=>e= .returned (.string (JaG [48+n/26]))/\w'=w):=fun w=>Jhw (n/26) (by omega) w
 have J:(n:Int)%26=((n%26:Nat):Int):=by omega
 have ae:n%26<26:=Vd8 _ (by decide)
 have ac:(Instr.slice 9 (.string ⟨#[97,98,99,100,101,102,103,104,105,106,107,108,109,110,111,112,113,114,115,116,117,118,119,120,121,122]⟩) (some (.int .i64 ((n:Int)%26))) (some (.int .i64 ((n:Int)%26+1))) none).run prog w= .ok (.string (JaG [97+n%26])) w:=by
  rw[run_slice_string_if w 9 _ .i64 .i64 _ _ VaR,<-G];rw[J];have T:((⟨#[97,98,99,100,101,102,103,104,105,106,107,108,109,110,111,112,113,114,115,116,117,118,119,120,121,122]⟩:BA).size:Int)=26:=rfl;rw[Vat (by rw[T];omega),Vat (by omega)];have U:(((n%26:Nat):Int)).toNat=n%26:=by omega
  have Y:(((n%26:Nat):Int)+1).toNat=n%26+1:=by omega
  rw[U,Y];rfl
 have D:(n:Int)/26=((n/26:Nat):Int):=by omega
 have O:Hid (∀w,Calls prog 148 #[.int .i64 ((n:Int)/26)] w fun e w'=>e= .returned (.string (JaG [48+n/26]))/\w'=w):=fun w=>by rw[D];exact L.out w
 have af:(JaG [97+n%26]).size=1:=rfl;have aa:(JaG [48+n/26]).size=1:=rfl;clear J G L D
 by_cases I:n<26
 .have E:Hid (letM n=JaG [97+n%26]):=by show _=_;rw[d.out,Vat I]
  have V: ¬(0:Int)<(n:Int)/26:=by omega
  have W:decide ((0:Int)<(n:Int)/26)=false:=by simp;omega
  clear d;generalize JaG [97+n%26]=r at*
  go_enter func114,ntmps114
  go_wp2
  go_ret
  exact⟨by rw[E.out];rfl,rfl⟩
 .have E:Hid (letM n=JaG [97+n%26]++JaG [48+n/26]):=by show _=_;rw[d.out,Vaq I]
  have V:(0:Int)<(n:Int)/26:=by omega
  have W:decide ((0:Int)<(n:Int)/26)=true:=by simp;omega
  clear d;generalize JaG [97+n%26]=r at*;generalize JaG [48+n/26]=r2 at*
  go_enter func114,ntmps114
  go_wp2_with (go_at_call 148;refine Vac (O.out _) ?_;rintro e w' ⟨rfl,M⟩;rw[M];clear M w')
  go_ret
  exact⟨by rw[E.out];rfl,rfl⟩
def Jbt:List Nat->Nat->List MapEntry
 | [],_=> []
 |b::d,i=>{key:= .pointer (some ⟨b,0,none⟩),val:= .int .i64 i,born:=i}::Jbt d (i+1)
theorem JiY(l:List Nat)(b:Nat):∀i,Jbt (l++ [b]) i=Jbt l i++ [{key:= .pointer (some ⟨b,0,none⟩),val:= .int .i64 ((i+l.length:Nat):Int),born:=i+l.length}]:=by
 induction l with
 |nil=>intro i;simp[Jbt]
 |cons c l d=>
  intro i;have e:i+1+l.length=i+(l.length+1):=by omega
  simp[Jbt,d,e]
theorem JdW(l:List Nat):∀i,(Jbt l i).length=l.length:=by
 induction l with
 |nil=>intro i;rfl
 |cons c l d=>intro i;simp[Jbt,d]
def VBk(w:World)(b:Nat):Prop:=∃d,w.heap[b]? =some (.cells d 221 (0,0))
def VBlk(w:World)(b:Nat):Prop:=∃s,w.heap[b]? =some (.cells #[.nilIface,.string s,.bool false] 221 (0,0))
theorem IbD:(prog.info? 221).map (·.size)=some 3:=by kernel_rfl
theorem Jhe(w:World)(b c:Nat)(D:VBk w b)(E:VBk w c):(Op.equal 216 (.pointer (some ⟨b,0,none⟩)) (.pointer (some ⟨c,0,none⟩))).run prog w= .ok (b==c) w:=by
 obtain⟨j,G,I⟩:=Va5.1 IbD;obtain⟨s,D⟩:=D;obtain⟨L,E⟩:=E
 have h:∀d:Nat,(Op.equalIn (d+1) 216 (.pointer (some ⟨b,0,none⟩)) (.pointer (some ⟨c,0,none⟩))).run prog w= .ok (b==c) w:=fun d=>by
  by_cases e:b=c
  .subst e;simp[Op.equalIn,VaM VbV,sizeOf,typeInfo,G,I,run_sameAddr_same]
  .have J:=run_sameAddr_other (P:=prog) (w:=w) (a:=⟨b,0,none⟩) (b:=⟨c,0,none⟩) (fun q=>e (VbH Addr.block q)) D E;simp[Op.equalIn,VaM VbV,sizeOf,typeInfo,G,I,J,e]
 simp[Op.equal,Op.maxDepth,h 9999]
theorem JlO(w:World)(b:Nat)(G:VBk w b)(l:List Nat):∀(i:Nat),(∀c,c∈l->VBk w c)->(Vez 216 (.pointer (some ⟨b,0,none⟩)) (Jbt l i) i).run prog w= .ok ((l.findIdx? (fun x=>b==x)).map fun j=>(i+j,.int .i64 ((i+j:Nat):Int))) w:=by
 induction l with
 |nil=>intro i _;rfl
 |cons c l I=>
  intro i h;have E:=Jhe w b c G (h c (by simp));have D:=I (i+1) (fun x d=>h x (by simp[d]));simp only[Jbt,Vez,Va8,E,VeC,List.findIdx?_cons]
  cases J:b==c with
  |true=>simp
  |false=>
   simp only[Vao,VaS,D]
   cases l.findIdx? (fun x=>b==x)with
   |none=>rfl
   |some j=>
    have e:i+1+j=i+(j+1):=by omega
    show Result.ok (some (i+1+j,Value.int .i64 ((i+1+j:Nat):Int))) w=Result.ok (some (i+(j+1),Value.int .i64 ((i+(j+1):Nat):Int))) w;rw[e]
theorem Jic(w:World)(b:Nat)(E:VBk w b)(l:List Nat)(h:∀c,c∈l->VBk w c):(VeA 216 (.pointer (some ⟨b,0,none⟩)) (Jbt l 0)).run prog w= .ok ((l.findIdx? (fun x=>b==x)).map fun j=>(j,.int .i64 (j:Int))) w:=by
 have d:=JlO w b E l 0 h;simp only[Vby]at d
 cases l with
 |nil=>simp[VeA,VaM VbV,Jbt,Vev]
 |cons c l=>
  have D:Vev (.pointer 221) (.pointer (some ⟨b,0,none⟩)) (Jbt (c::l) 0) 0=none:=by simp[Jbt,Vev,Instr.sameNow]
  simp only[VeA,Va8,VaM VbV,VeC,D];exact d
theorem Jgc(e:Bool)(n b:Nat)(w:World):(Vex e (n+1) 216 (.pointer (some ⟨b,0,none⟩))).run prog w= .ok () w:=by simp[Vex,VaM VbV]
structure NM(w:World)(mb:Nat)(l:List Nat):Prop where
 mp:w.heap[mb]? =some (.map (Jbt l 0).toArray l.length)
 vr:∀c,c∈l->VBk w c
theorem JgP(w:World)(mb b:Nat)(l:List Nat)(h:NM w mb l)(D:VBk w b):
  (Vew 215 (.map (some mb)) (.pointer (some ⟨b,0,none⟩)) true).run prog w= .ok (match l.findIdx? (fun x=>b==x)with|some j=> .tuple #[.int .i64 j,.bool true]|none=> .tuple #[.int .i64 0,.bool false]) w:=by
 have G:=Jic w b D l h.vr;have E:∀e,(Vex e 10000 216 (.pointer (some ⟨b,0,none⟩))).run prog w= .ok () w:=fun e=>Jgc e 9999 b w
 have d:(zeroValue 3).run prog w= .ok (.int .i64 0) w:=by kernel_rfl
 simp only[Vew,Va8,VaM VdZ,VaQ h.mp,VeC,VbW,E,G]
 cases l.findIdx? (fun x=>b==x)with
 |none=>simp[d,VeC]
 |some j=>simp
theorem Jm3(w:World)(mb b:Nat)(l:List Nat)(h:NM w mb l)(E:VBk w b)(D:l.findIdx? (fun x=>b==x)=none):
  (Vey 215 (.map (some mb)) (.pointer (some ⟨b,0,none⟩)) (.int .i64 (l.length:Int))).run prog w= .ok () (Idd w mb (.map (Jbt (l++ [b]) 0).toArray (l.length+1))):=by
 have d:=Jic w b E l h.vr;rw[D]at d;have G:(Vex false 10000 216 (.pointer (some ⟨b,0,none⟩))).run prog w= .ok () w:=Jgc false 9999 b w
 have e:(Jbt l 0).toArray.push {key:= .pointer (some ⟨b,0,none⟩),val:= .int .i64 (l.length:Int),born:=l.length}=(Jbt (l++ [b]) 0).toArray:=by
  rw[JiY];simp
 rw[<-e];simp[Vey,VaM VdZ,VaQ h.mp,G,d,VbB _ h.mp,VeC,Idd]
end Go.Proofs.YtleenphlgbklmaaGreatDoor
