import Derived.Test.YtleenphlgbklmaaGreatDoorACTokList
import Derived.Deep.DeepCutAuto
import Derived.Deep.LoopGhost
import Derived.Deep.CutBlock
import Derived.Lib.SlBytesConst
import Derived.Laws.DeepStrings4
set_option linter.unusedVariables false
set_option linter.unusedSimpArgs false
set_option maxRecDepth 100000
set_option maxHeartbeats 8000000
namespace Go.Proofs.YtleenphlgbklmaaGreatDoor
open Go.RowKit
variable {names:List BA}{k m n:Nat}{s:BA}{bad:Int}
inductive Ty where
 |mk (kind:BA) (num:Nat) (kids:List Ty)
def Jag(m n:BA):Bool:=m.data.toList==n.data.toList
def Jcz(names:List BA)(nm:BA):Ty×List BA:=
 match names.findIdx? (fun m=>Jag m nm)with
 |some j=>(.mk ⟨#[]⟩ j [],names)
 |none=>(.mk ⟨#[]⟩ names.length [],names++ [nm])
mutual
def Jaq(l:List Tk):Nat->List BA->Nat->Int->Option (Ty×List BA×Nat×Int)
 |0,_,_,_=>none
 |n+1,names,k,bad=>
  (oneM l n names k bad).bind fun r=>
   if isM l ⟨#[45,62]⟩ r.2.2.1 r.2.2.2 then
    (Jaq l n r.2.1 (r.2.2.1+1) r.2.2.2).bind fun s=>some (.mk ⟨#[102,117,110]⟩ 0 [r.1,s.1],s.2.1,s.2.2.1,s.2.2.2)
   else some (r.1,r.2.1,r.2.2.1,r.2.2.2)
def oneM(l:List Tk):Nat->List BA->Nat->Int->Option (Ty×List BA×Nat×Int)
 |0,_,_,_=>none
 |n+1,names,k,bad=>
  if isM l ⟨#[105,110,116]⟩ k bad then some (.mk ⟨#[105,110,116]⟩ 0 [],names,k+1,bad)
  else if isM l ⟨#[98,111,111,108]⟩ k bad then some (.mk ⟨#[98,111,111,108]⟩ 0 [],names,k+1,bad)
  else if isM l ⟨#[91]⟩ k bad then
   (Jaq l n names (k+1) bad).bind fun r=>
    some (.mk ⟨#[108,105,115,116]⟩ 0 [r.1],r.2.1,Jai l ⟨#[93]⟩ r.2.2.1 r.2.2.2,Jab l ⟨#[93]⟩ r.2.2.1 r.2.2.2)
  else if isM l ⟨#[40]⟩ k bad then
   (Jaq l n names (k+1) bad).bind fun r=>
    if isM l ⟨#[44]⟩ r.2.2.1 r.2.2.2 then
     (Jaq l n r.2.1 (r.2.2.1+1) r.2.2.2).bind fun s=>
      some (.mk ⟨#[112,97,105,114]⟩ 0 [r.1,s.1],s.2.1,Jai l ⟨#[41]⟩ s.2.2.1 s.2.2.2,Jab l ⟨#[41]⟩ s.2.2.1 s.2.2.2)
    else some (r.1,r.2.1,Jai l ⟨#[41]⟩ r.2.2.1 r.2.2.2,Jab l ⟨#[41]⟩ r.2.2.1 r.2.2.2)
  else some ((Jcz names (tkAt l k).s).1,(Jcz names (tkAt l k).s).2,Jai l ⟨#[110,97,109,101]⟩ k bad,Jab l ⟨#[110,97,109,101]⟩ k bad)
end
theorem Jaf(m n:BA):Jag m n=true<->m=n:=by
 unfold Jag;rw[Vbs]
 constructor
 .intro h
  cases m;cases n
  simp at h;rw[h]
 .intro h;rw[h]
structure NmOk(l:List Tk)(names:List BA):Prop where
 nd:names.Nodup
 of:∀m,m∈names->∃k,k<l.length/\(tkAt l k).s=m
theorem JcC{G:Type}[DecidableEq G]:∀(xs d:List G),xs.Nodup->(∀x,x∈xs->x∈d)->xs.length<=d.length
 | [],d,_,_=>VaN _
 |x::xs,d,D,E=>by
  have h:=E x (by simp)
  have J:=JcC xs (d.erase x) (Vdj.1 D).2 (fun y I=>by
   have L:y≠x:=fun e=>(Vdj.1 D).1 (e▸I)
   exact(List.mem_erase_of_ne L).2 (E y (by simp[I])))
  rw[List.length_erase_of_mem h]at J;have:=List.length_pos_of_mem h;simp;omega
variable {l:List Tk}
theorem NmOk.len(h:NmOk l names):names.length<=l.length:=by
 have:=JcC names (l.map Tk.s) h.nd (fun m D=>by
  obtain⟨k,d,e⟩:=h.of m D;simp only[tkAt,VbQ,Vav d,Vcg]at e;exact Vbj.2 ⟨l[k],Vbw d,e⟩)
 simpa using this
theorem NmOk.nil(l:List Tk):NmOk l []:=⟨VcB,fun _ h=>nomatch h⟩
theorem NmOk.name(h:NmOk l names)(E:k<l.length):NmOk l (Jcz names (tkAt l k).s).2:=by
 unfold Jcz
 split
 .exact h
 .rename_i e;rw[Vbv]at e;refine⟨?_,?_⟩
  .refine VbU.2 ⟨h.nd,by simp,?_⟩
   intro a G b D;simp at D;subst D;intro q;have:=e a G;rw[(Jaf a _).2 q]at this;simp at this
  .intro m d;simp at d
   rcases d with d|rfl
   .exact h.of m d
   .exact⟨k,E,rfl⟩
theorem Jcj(l:List Tk)(D:Good l):∀n,(∀names k bad t O L U,Jaq l n names k bad=some (t,O,L,U)->k<l.length->NmOk l names->L<l.length/\NmOk l O)/\
  (∀names k bad t O L U,oneM l n names k bad=some (t,O,L,U)->k<l.length->NmOk l names->L<l.length/\NmOk l O):=by
 intro n
 induction n with
 |zero=>exact⟨fun _ _ _ _ _ _ _ h=>by simp[Jaq]at h,fun _ _ _ _ _ _ _ h=>by simp[oneM]at h⟩
 |succ n T=>
  refine⟨?_,?_⟩
  .intro names k bad t O L U h G I;simp only[Jaq]at h;obtain⟨⟨x,n1,k1,b1⟩,V,d⟩:=Vab.1 h;obtain⟨J,M⟩:=T.2 _ _ _ _ _ _ _ V G I;simp only at d
   split at d
   .rename_i E;obtain⟨⟨y,n2,k2,b2⟩,Y,W⟩:=Vab.1 d;obtain⟨Z,aa⟩:=T.1 _ _ _ _ _ _ _ Y (Jar D J E (by decide) (by decide)) M;simp only[Vaa,Vaf]at W;obtain⟨_,rfl,rfl,_⟩:=W;exact⟨Z,aa⟩
   .simp only[Vaa,Vaf]at d;obtain⟨_,rfl,rfl,_⟩:=d;exact⟨J,M⟩
  .intro names k bad t O L U h G I;simp only[oneM]at h
   split at h
   .rename_i E;simp only[Vaa,Vaf]at h;obtain⟨_,rfl,rfl,_⟩:=h;exact⟨Jar D G E (by decide) (by decide),I⟩
   .split at h
    .rename_i E;simp only[Vaa,Vaf]at h;obtain⟨_,rfl,rfl,_⟩:=h;exact⟨Jar D G E (by decide) (by decide),I⟩
    .split at h
     .rename_i E;obtain⟨⟨x,n1,k1,b1⟩,V,d⟩:=Vab.1 h;obtain⟨J,M⟩:=T.1 _ _ _ _ _ _ _ V (Jar D G E (by decide) (by decide)) I;simp only[Vaa,Vaf]at d;obtain⟨_,rfl,rfl,_⟩:=d;exact⟨Jdv D J (by decide) (by decide),M⟩
     .split at h
      .rename_i E;obtain⟨⟨x,n1,k1,b1⟩,V,d⟩:=Vab.1 h;obtain⟨J,M⟩:=T.1 _ _ _ _ _ _ _ V (Jar D G E (by decide) (by decide)) I;simp only at d
       split at d
       .rename_i ac;obtain⟨⟨y,n2,k2,b2⟩,Y,W⟩:=Vab.1 d;obtain⟨Z,aa⟩:=T.1 _ _ _ _ _ _ _ Y (Jar D J ac (by decide) (by decide)) M;simp only[Vaa,Vaf]at W;obtain⟨_,rfl,rfl,_⟩:=W;exact⟨Jdv D Z (by decide) (by decide),aa⟩
       .simp only[Vaa,Vaf]at d;obtain⟨_,rfl,rfl,_⟩:=d;exact⟨Jdv D J (by decide) (by decide),M⟩
      .simp only[Vaa,Vaf]at h;obtain⟨_,rfl,rfl,_⟩:=h;exact⟨Jdv D G (by decide) (by decide),I.name G⟩
structure Nm(w:World)(nb B:Nat)(names:List BA):Prop where
 ex:∃nv,w.heap[nb]? =some (.cells #[nv] 34 (0,0))/\w.ownsRow B 9 1 nv names.length (names.map Value.string)
 low:B<=nb
theorem JcP(h:0<=bad):isM l s k bad=false:=by
 have: ¬bad<0:=by omega
 simp[isM,this]
theorem JcF(h:0<=bad):Jai l s k bad=k:=by simp[Jai,JcP h]
theorem JbQ(h:0<=bad):Jab l s k bad=bad:=by
 have: ¬bad<0:=by omega
 simp[Jab,this]
theorem Jbr:k<=Jai l s k bad:=by unfold Jai;split<;>omega
theorem Jkw(d:bad<0):(isM l s k bad=true/\Jai l s k bad=k+1/\Jab l s k bad=bad)\/(0<=Jab l s k bad/\Jai l s k bad=k):=by
 cases h:isM l s k bad
 .right;refine⟨?_,by simp[Jai,h]⟩
  simp[Jab,h,d]
 .left;exact⟨rfl,by simp[Jai,h],by simp[Jab,h]⟩
variable {loc:Nat}
theorem JoG:dupB names s loc bad=bad\/0<=dupB names s loc bad:=by
 unfold dupB;split
 .right;omega
 .left;rfl
theorem Jdm(l:List Tk)(n:Nat):
  (∀k bad r,expM l n k bad=some r->expM l (n+1) k bad=some r)/\(∀nm kd k bad r,Jaz l n nm kd k bad=some r->Jaz l (n+1) nm kd k bad=some r)/\
  (∀nm kd k bad r,andM l n nm kd k bad=some r->andM l (n+1) nm kd k bad=some r)/\(∀k bad r,Ja0 l n k bad=some r->Ja0 l (n+1) k bad=some r)/\
  (∀x k bad r,appM l n x k bad=some r->appM l (n+1) x k bad=some r):=by
 induction n with
 |zero=>simp[expM,Jaz,andM,Ja0,appM]
 |succ n T=>
  obtain⟨E,J,L,O,M⟩:=T;refine⟨?_,?_,?_,?_,?_⟩
  .intro k bad r h;rw[expM]at h⊢
   split at h
   .rename_i c;rw[Vat c];exact h
   .rename_i c;rw[Vaq c]
    split at h
    .rename_i c;rw[Vat c];obtain⟨y,D,d⟩:=Vab.1 h;rw[E _ _ _ D];exact d
    .rename_i c;rw[Vaq c]
     split at h
     .rename_i c;rw[Vat c];obtain⟨y,D,d⟩:=Vab.1 h;obtain⟨z,I,d⟩:=Vab.1 d;obtain⟨u,G,d⟩:=Vab.1 d;rw[E _ _ _ D,Vad,E _ _ _ I,Vad,E _ _ _ G];exact d
     .rename_i c;rw[Vaq c]
      split at h
      .rename_i c;rw[Vat c]
       split at h
       .rename_i c;rw[Vat c];obtain⟨y,D,d⟩:=Vab.1 h;obtain⟨z,I,d⟩:=Vab.1 d;obtain⟨u,G,d⟩:=Vab.1 d;rw[J _ _ _ _ _ D,Vad,L _ _ _ _ _ I,Vad,E _ _ _ G];exact d
       .rename_i c;rw[Vaq c];obtain⟨y,D,d⟩:=Vab.1 h;obtain⟨u,G,d⟩:=Vab.1 d;rw[J _ _ _ _ _ D,Vad,E _ _ _ G];exact d
      .rename_i c;rw[Vaq c];obtain⟨y,D,d⟩:=Vab.1 h;rw[O _ _ _ D];exact M _ _ _ _ d
  .intro nm kd k bad r h;rw[Jaz]at h⊢;obtain⟨y,D,d⟩:=Vab.1 h;rw[E _ _ _ D];exact d
  .intro nm kd k bad r h;rw[andM]at h⊢
   split at h
   .rename_i c;rw[Vat c];obtain⟨y,D,d⟩:=Vab.1 h;rw[J _ _ _ _ _ D];exact L _ _ _ _ _ d
   .rename_i c;rw[Vaq c];exact h
  .intro k bad r h;rw[Ja0]at h⊢
   split at h
   .rename_i c;rw[Vat c];exact h
   .rename_i c;rw[Vaq c];obtain⟨y,D,d⟩:=Vab.1 h;rw[E _ _ _ D,Vad]
    split at d
    .rename_i c;rw[Vat c];obtain⟨z,I,d⟩:=Vab.1 d;rw[E _ _ _ I];exact d
    .rename_i c;rw[Vaq c];exact d
  .intro x k bad r h;rw[appM]at h⊢
   split at h
   .rename_i c;rw[Vat c];obtain⟨y,D,d⟩:=Vab.1 h;rw[O _ _ _ D];exact M _ _ _ _ d
   .rename_i c;rw[Vaq c];exact h
mutual
theorem X.ind{P:X->Prop}(h:∀op names kids loc,(∀y,y∈kids->P y)->P (.mk op names kids loc)):∀x,P x
 | .mk op names kids loc=>h op names kids loc (X.indL h kids)
theorem X.indL{P:X->Prop}(h:∀op names kids loc,(∀y,y∈kids->P y)->P (.mk op names kids loc)):∀(xs:List X) y,y∈xs->P y
 | [],y,d=>nomatch d
 |x::xs,y,d=>by
  rcases VaW.1 d with e|e
  .rw[e];exact X.ind h x
  .exact X.indL h xs y e
end
mutual
def dp:X->Nat
 | .mk _ _ kids _=>dps kids+1
def dps:List X->Nat
 | []=>0
 |x::xs=>max (dp x) (dps xs)
end
theorem Jb1(xs:List X)(y:X):dps (xs++ [y])=max (dps xs) (dp y):=by
 induction xs with
 |nil=>simp[dps]
 |cons x xs d=>simp only[VaV,dps,d];omega
variable {xs:List X}{y:X}
theorem JjE(h:y∈xs):dp y<=dps xs:=by
 induction xs with
 |nil=>cases h
 |cons x xs d=>
  simp only[dps]
  rcases VaW.1 h with e|e
  .rw[e];omega
  .have:=d e;omega
theorem Jel(xs:List X)(q:Nat):dps (xs.take q)<=dps xs:=by
 induction xs generalizing q with
 |nil=>simp
 |cons x xs d=>
  cases q with
  |zero=>simp[dps]
  |succ q=>simp only[Vds,dps];have:=d q;omega
def X.none:X:= .mk ⟨#[]⟩ [] [] 0
variable {w:World}{B:Nat}{e:TypeId}{v:Value}{ps:List Value}
theorem Jdp(h:w.ownsRow B e 1 v ps.length ps):
  ∃d cap,v= .slice d ps.length cap/\∀i,i<ps.length->∃g,d=some ⟨g,0,none⟩/\w.cell? ⟨g,i,none⟩=ps[i]? :=by
 rcases h.2 with⟨rfl,e⟩|⟨g,cap,G,rfl,I,E⟩
 .exact⟨none,0,by rw[e],fun i D=>by omega⟩
 .exact⟨some ⟨g,0,none⟩,cap,rfl,fun i D=>⟨g,rfl,h.cellAt i (by omega)⟩⟩
def JbR(o:BA):Bool:=o.data.toList==(⟨#[102,117,110]⟩:BA).data.toList||o.data.toList==(⟨#[105,102]⟩:BA).data.toList||o.data.toList==(⟨#[108,101,116]⟩:BA).data.toList||o.data.toList==(⟨#[114,101,99]⟩:BA).data.toList
def JbL(o:BA):Bool:= !(o.data.toList==(⟨#[110,97,109,101]⟩:BA).data.toList)&& !(o.data.toList==(⟨#[110,117,109]⟩:BA).data.toList)&& !(o.data.toList==(⟨#[112,97,105,114]⟩:BA).data.toList)
def brk(b:Bool)(s:BA):BA:=if b then⟨#[40]⟩++s++⟨#[41]⟩else s
def letT(d:BA)(names ts:List BA):Nat->BA
 |0=>d
 |q+1=>(if 0<q then letT d names ts q++⟨#[32,97,110,100,32]⟩else letT d names ts q)++(names.getD q ⟨#[]⟩++⟨#[32,61,32]⟩++ts.getD q ⟨#[]⟩)
mutual
def txt:X->BA
 | .mk op names kids _=>
  if op=⟨#[102,117,110]⟩then⟨#[102,117,110,32]⟩++names.getD 0 ⟨#[]⟩++⟨#[32,45,62,32]⟩++(txts kids).getD 0 ⟨#[]⟩
  else if op=⟨#[112,97,105,114]⟩then⟨#[40]⟩++(txts kids).getD 0 ⟨#[]⟩++⟨#[44,32]⟩++(txts kids).getD 1 ⟨#[]⟩++⟨#[41]⟩
  else if op=⟨#[105,102]⟩then⟨#[105,102,32]⟩++(txts kids).getD 0 ⟨#[]⟩++⟨#[32,116,104,101,110,32]⟩++(txts kids).getD 1 ⟨#[]⟩++⟨#[32,101,108,115,101,32]⟩++(txts kids).getD 2 ⟨#[]⟩
  else if op=⟨#[97,112,112]⟩then brk (JbR (kids.getD 0 X.none).op) ((txts kids).getD 0 ⟨#[]⟩)++⟨#[32]⟩++brk (JbL (kids.getD 1 X.none).op) ((txts kids).getD 1 ⟨#[]⟩)
  else if op=⟨#[108,101,116]⟩then letT ⟨#[108,101,116,32]⟩ names (txts kids) names.length++⟨#[32,105,110,32]⟩++(txts kids).getD names.length ⟨#[]⟩
  else if op=⟨#[114,101,99]⟩then letT (⟨#[108,101,116,32]⟩++⟨#[114,101,99,32]⟩) names (txts kids) names.length++⟨#[32,105,110,32]⟩++(txts kids).getD names.length ⟨#[]⟩
  else names.getD 0 ⟨#[]⟩
def txts:List X->List BA
 | []=> []
 |x::xs=>txt x::txts xs
end
theorem JcX(xs:List X)(q:Nat)(h:q<xs.length):(txts xs).getD q ⟨#[]⟩=txt (xs.getD q X.none):=by
 induction xs generalizing q with
 |nil=>simp at h
 |cons x xs d=>
  cases q with
  |zero=>simp[txts]
  |succ q=>simpa[txts]using d q (by simpa using h)
inductive WF:X->Prop
 |leaf (op n:BA) (loc:Nat) (h:op=⟨#[110,97,109,101]⟩\/op=⟨#[110,117,109]⟩):WF (.mk op [n] [] loc)
 |fn (n:BA) (a:X) (loc:Nat):WF a->WF (.mk ⟨#[102,117,110]⟩ [n] [a] loc)
 |pair (a b:X) (loc:Nat):WF a->WF b->WF (.mk ⟨#[112,97,105,114]⟩ [] [a,b] loc)
 |ite (a b c:X) (loc:Nat):WF a->WF b->WF c->WF (.mk ⟨#[105,102]⟩ [] [a,b,c] loc)
 |app (a b:X) (loc:Nat):WF a->WF b->WF (.mk ⟨#[97,112,112]⟩ [] [a,b] loc)
 |lt (op:BA) (names:List BA) (kids:List X) (loc:Nat) (h:op=⟨#[108,101,116]⟩\/op=⟨#[114,101,99]⟩) (hl:kids.length=names.length+1) (h1:names≠ []):(∀a,a∈kids->WF a)->WF (.mk op names kids loc)
mutual
def tw:X->Nat
 | .mk _ names kids _=>(names.map fun s=>s.size+16).sum+tws kids+16
def tws:List X->Nat
 | []=>0
 |x::xs=>tw x+16+tws xs
end
theorem Jqc(h:y∈xs):tw y<=tws xs:=by
 induction xs with
 |nil=>cases h
 |cons x xs d=>
  simp only[tws]
  rcases VaW.1 h with e|e
  .rw[e];omega
  .have:=d e;omega
theorem Ja4(h:isM l s k bad=true):(tkAt l k).is=s:=by
 simp only[isM,Vaz,Vbs]at h
 cases D:(tkAt l k).is with
 |mk d=>
  cases s with
  |mk E=>
   rw[D]at h;have:=h.2;simp only at this;rw[show d=E from Array.ext' this]
theorem Jak(h:Jab l s k bad<0):isM l s k bad=true/\Jab l s k bad=bad/\Jai l s k bad=k+1/\bad<0:=by
 by_cases d:bad<0
 .rcases Jkw (l:=l) (s:=s) (k:=k) d with⟨D,E,G⟩|⟨D,E⟩
  .exact⟨D,G,E,d⟩
  .omega
 .rw[JbQ (by omega)]at h;exact absurd h d
theorem JhZ(h:dupB names s loc bad<0):dupB names s loc bad=bad:=by
 rcases JoG (names:=names) (s:=s) (loc:=loc) (bad:=bad)with e|e
 .exact e
 .omega
structure Made(l:List Tk)(n:Nat):Prop where
 e:∀k bad x k' b',expM l n k bad=some (x,k',b')->b'<0->b'=bad/\WF x/\k<k'/\tw x+56<=400*(k'-k)
 b:∀nm kd k bad nm' kd' k' b',Jaz l n nm kd k bad=some (nm',kd',k',b')->b'<0->b'=bad/\k<k'/\∃s y,nm'=nm++ [s]/\kd'=kd++ [y]/\WF y/\(s.size+16)+(tw y+16)+56<=400*(k'-k)
 nn:∀nm kd k bad nm' kd' k' b',andM l n nm kd k bad=some (nm',kd',k',b')->b'<0->b'=bad/\k<=k'/\∃ns ys,nm'=nm++ns/\kd'=kd++ys/\ns.length=ys.length/\(∀y,y∈ys->WF y)/\(ns.map fun s=>s.size+16).sum+tws ys<=400*(k'-k)
 a:∀k bad x k' b',Ja0 l n k bad=some (x,k',b')->b'<0->b'=bad/\WF x/\k<k'/\tw x+56<=400*(k'-k)
 p:∀x k bad x' k' b',appM l n x k bad=some (x',k',b')->b'<0->b'=bad/\k<=k'/\(WF x->WF x')/\tw x'<=tw x+400*(k'-k)
theorem Jlx(xs d:List X):tws (xs++d)=tws xs+tws d:=by
 induction xs with
 |nil=>simp[tws]
 |cons x xs h=>simp only[VaV,tws,h];omega
theorem Jkl(hs:∀k,(tkAt l k).s.size<=300)(n:Nat)(L:Made l n):Made l (n+1):=by
 refine⟨?_,?_,?_,?_,?_⟩
 .intro k bad x k' b' h D;rw[expM]at h
  split at h
  .rename_i c;simp only[Vaa,Vaf]at h;omega
  .split at h
   .rename_i c;obtain⟨⟨y,k1,b1⟩,G,d⟩:=Vab.1 h;simp only[Vaa,Vaf]at d;obtain⟨rfl,rfl,rfl⟩:=d;obtain⟨I,M,O,T⟩:=L.e _ _ _ _ _ G D;rw[I]at D;obtain⟨m1,V,U,E⟩:=Jak D;obtain⟨q1,q2,Z,q4⟩:=Jak E;rw[U,Z]at O T;have:=hs (k+1);refine⟨by rw[I,V,q2],.fn _ _ _ M,by omega,?_⟩
    simp only[tw,tws,VaP,Vbb,VbY,Vcq];omega
   .split at h
    .rename_i c;obtain⟨⟨y1,k1,b1⟩,h1,d⟩:=Vab.1 h;obtain⟨⟨y2,k2,b2⟩,h2,d⟩:=Vab.1 d;obtain⟨⟨y3,k3,b3⟩,h3,d⟩:=Vab.1 d;simp only[Vaa,Vaf]at d;obtain⟨rfl,rfl,rfl⟩:=d;obtain⟨e3,w3,g3,t3⟩:=L.e _ _ _ _ _ h3 D;rw[e3]at D;obtain⟨m1,V,U,E⟩:=Jak D;obtain⟨J,w2,Y,W⟩:=L.e _ _ _ _ _ h2 E;simp only at E J;rw[J]at E;obtain⟨q1,q2,Z,q4⟩:=Jak E;obtain⟨I,M,O,T⟩:=L.e _ _ _ _ _ h1 q4;simp only at O Y g3 T W t3 U Z;rw[U]at g3 t3;rw[Z]at Y W;refine⟨by rw[e3,V];simp only;rw[J,q2];exact I,.ite _ _ _ _ M w2 w3,by omega,?_⟩
     simp only[tw,tws,Vbb,Vcq];omega
    .split at h
     .rename_i c
      split at h
      .rename_i c2;obtain⟨⟨n1,d1,k1,b1⟩,h1,d⟩:=Vab.1 h;obtain⟨⟨n2,d2,k2,b2⟩,h2,d⟩:=Vab.1 d;obtain⟨⟨y3,k3,b3⟩,h3,d⟩:=Vab.1 d;simp only[Vaa,Vaf]at d;obtain⟨rfl,rfl,rfl⟩:=d;obtain⟨e3,w3,g3,t3⟩:=L.e _ _ _ _ _ h3 D;rw[e3]at D;obtain⟨m1,V,U,E⟩:=Jak D;obtain⟨J,Y,ns,ys,rfl,rfl,hl,hw,W⟩:=L.nn _ _ _ _ _ _ _ _ h2 E;simp only at E J;rw[J]at E;obtain⟨I,O,s1,y1,rfl,rfl,M,T⟩:=L.b _ _ _ _ _ _ _ _ h1 E;simp only at O Y g3 T W t3 U;rw[U]at g3 t3;refine⟨by rw[e3,V];simp only;rw[J];exact I,.lt _ _ _ _ (Or.inr rfl) (by simp[hl]) (by simp) ?_,by omega,?_⟩
       .intro y G;simp only[VaK,Vbd,VaW,Vbr,VcA]at G
        rcases G with(rfl|G)|rfl
        .exact M
        .exact hw y G
        .exact w3
       .simp only[tw,Jlx,tws,Vbu,VcN,VaP,Vbb,VbY,Vcq,VaK];omega
      .obtain⟨⟨n1,d1,k1,b1⟩,h1,d⟩:=Vab.1 h;obtain⟨⟨y3,k3,b3⟩,h3,d⟩:=Vab.1 d;simp only[Vaa,Vaf]at d;obtain⟨rfl,rfl,rfl⟩:=d;obtain⟨e3,w3,g3,t3⟩:=L.e _ _ _ _ _ h3 D;rw[e3]at D;obtain⟨m1,V,U,E⟩:=Jak D;obtain⟨I,O,s1,y1,rfl,rfl,M,T⟩:=L.b _ _ _ _ _ _ _ _ h1 E;simp only at O g3 T t3 U;rw[U]at g3 t3;refine⟨by rw[e3,V];exact I,.lt _ _ _ _ (Or.inl rfl) (by simp) (by simp) ?_,by omega,?_⟩
       .intro y G;simp only[VaK,Vbd,VaW,Vbr,VcA]at G
        rcases G with rfl|rfl
        .exact M
        .exact w3
       .simp only[tw,Jlx,tws,Vbu,VcN,VaP,Vbb,VbY,Vcq,VaK];omega
     .obtain⟨⟨y,k1,b1⟩,G,d⟩:=Vab.1 h;obtain⟨J,Y,w2,W⟩:=L.p _ _ _ _ _ _ d D;simp only at J Y w2 W;rw[J]at D;obtain⟨I,M,O,T⟩:=L.a _ _ _ _ _ G D;exact⟨by rw[J,I],w2 M,by omega,by omega⟩
 .intro nm kd k bad aa ac k' b' h D;rw[Jaz]at h;obtain⟨⟨y,k1,b1⟩,G,d⟩:=Vab.1 h;simp only[Vaa,Vaf]at d;obtain⟨rfl,rfl,rfl,rfl⟩:=d;obtain⟨I,M,O,T⟩:=L.e _ _ _ _ _ G D;rw[I]at D;obtain⟨m1,V,U,E⟩:=Jak D;have m5:=JhZ E;rw[m5]at E;obtain⟨q1,q2,Z,q4⟩:=Jak E;rw[U,Z]at O T;have:=hs k;exact⟨by rw[I,V,m5,q2],by omega,_,_,rfl,rfl,M,by omega⟩
 .intro nm kd k bad aa ac k' b' h D;rw[andM]at h
  split at h
  .obtain⟨⟨n1,d1,k1,b1⟩,h1,d⟩:=Vab.1 h;obtain⟨J,Y,ns,ys,hn,hd,hl,hw,W⟩:=L.nn _ _ _ _ _ _ _ _ d D;simp only at J Y hn hd W;rw[J]at D;obtain⟨I,O,s1,y1,rfl,rfl,M,T⟩:=L.b _ _ _ _ _ _ _ _ h1 D;refine⟨by rw[J,I],by omega,s1::ns,y1::ys,by rw[hn];simp,by rw[hd];simp,by simp[hl],?_,?_⟩
   .intro y G
    rcases VaW.1 G with rfl|G
    .exact M
    .exact hw y G
   .simp only[tws,VaP,VbY];omega
  .simp only[Vaa,Vaf]at h;obtain⟨rfl,rfl,rfl,rfl⟩:=h;exact⟨rfl,Vau _,[],[],by simp,by simp,rfl,fun y G=>(nomatch G),by simp[tws]⟩
 .intro k bad x k' b' h D;rw[Ja0]at h
  split at h
  .rename_i c;simp only[Vaa,Vaf]at h;obtain⟨rfl,rfl,rfl⟩:=h;have:=hs k;refine⟨rfl,.leaf _ _ _ ?_,by omega,?_⟩
   .rcases Vdt.1 c with c|c
    .exact Or.inl (Ja4 c)
    .exact Or.inr (Ja4 c)
   .simp only[tw,tws,VaP,Vbb,VbY,Vcq];omega
  .obtain⟨⟨y,k1,b1⟩,G,d⟩:=Vab.1 h;simp only at d
   split at d
   .rename_i c;obtain⟨⟨z,k2,b2⟩,hz,d⟩:=Vab.1 d;simp only[Vaa,Vaf]at d;obtain⟨rfl,rfl,rfl⟩:=d;obtain⟨m1,V,U,E⟩:=Jak D;obtain⟨J,w2,Y,W⟩:=L.e _ _ _ _ _ hz E;rw[J]at E;obtain⟨I,M,O,T⟩:=L.e _ _ _ _ _ G E;rw[I]at E;obtain⟨q1,q2,Z,q4⟩:=Jak E;rw[Z]at O T;rw[U];refine⟨by rw[V,J,I,q2],.pair _ _ _ M w2,by omega,?_⟩
    simp only[tw,tws,Vbb,Vcq];omega
   .simp only[Vaa,Vaf]at d;obtain⟨rfl,rfl,rfl⟩:=d;obtain⟨m1,V,U,E⟩:=Jak D;obtain⟨I,M,O,T⟩:=L.e _ _ _ _ _ G E;rw[I]at E;obtain⟨q1,q2,Z,q4⟩:=Jak E;rw[Z]at O T;rw[U];exact⟨by rw[V,I,q2],M,by omega,by omega⟩
 .intro x k bad x' k' b' h D;rw[appM]at h
  split at h
  .obtain⟨⟨y,k1,b1⟩,G,d⟩:=Vab.1 h;obtain⟨J,Y,w2,W⟩:=L.p _ _ _ _ _ _ d D;simp only at J Y w2 W;rw[J]at D;obtain⟨I,M,O,T⟩:=L.a _ _ _ _ _ G D;refine⟨by rw[J,I],by omega,fun hx=>w2 (.app _ _ _ hx M),?_⟩
   simp only[tw,tws,Vbb,Vcq]at W;omega
  .simp only[Vaa,Vaf]at h;obtain⟨rfl,rfl,rfl⟩:=h;exact⟨rfl,Vau _,id,by omega⟩
theorem made(l:List Tk)(d:∀k,(tkAt l k).s.size<=300)(n:Nat):Made l n:=by
 induction n with
 |zero=>exact⟨fun _ _ _ _ _ h=>by simp[expM]at h,fun _ _ _ _ _ _ _ _ h=>by simp[Jaz]at h,fun _ _ _ _ _ _ _ _ h=>by simp[andM]at h,fun _ _ _ _ _ h=>by simp[Ja0]at h,fun _ _ _ _ _ _ h=>by simp[appM]at h⟩
 |succ n D=>exact Jkl d n D
theorem Jfa{r:X×Nat×Int}(h:expM l m k bad=some r)(d:m<=n):expM l n k bad=some r:=by
 induction d with
 |refl=>exact h
 |step _ D=>exact(Jdm l _).1 _ _ _ D
variable {nm:List BA}{kd:List X}{r:List BA×List X×Nat×Int}
theorem Jn6(h:Jaz l m nm kd k bad=some r)(d:m<=n):Jaz l n nm kd k bad=some r:=by
 induction d with
 |refl=>exact h
 |step _ D=>exact(Jdm l _).2.1 _ _ _ _ _ D
theorem Jn7(h:andM l m nm kd k bad=some r)(d:m<=n):andM l n nm kd k bad=some r:=by
 induction d with
 |refl=>exact h
 |step _ D=>exact(Jdm l _).2.2.1 _ _ _ _ _ D
theorem Jq9{r:X×Nat×Int}(h:Ja0 l m k bad=some r)(d:m<=n):Ja0 l n k bad=some r:=by
 induction d with
 |refl=>exact h
 |step _ D=>exact(Jdm l _).2.2.2.1 _ _ _ D
variable {x:X}
theorem Jn8{r:X×Nat×Int}(h:appM l m x k bad=some r)(d:m<=n):appM l n x k bad=some r:=by
 induction d with
 |refl=>exact h
 |step _ D=>exact(Jdm l _).2.2.2.2 _ _ _ _ D
structure Tot(l:List Tk)(r:Nat):Prop where
 e:∀k bad,k<l.length->l.length-k<=r->∃x k' b',expM l (4*r+4) k bad=some (x,k',b')/\k<=k'/\k'<l.length
 b:∀nm kd k bad,k<l.length->l.length-k<=r->∃nm' kd' k' b',Jaz l (4*r+5) nm kd k bad=some (nm',kd',k',b')/\k<=k'/\k'<l.length
 n:∀nm kd k bad,k<l.length->l.length-k<=r->∃nm' kd' k' b',andM l (4*r+2) nm kd k bad=some (nm',kd',k',b')/\k<=k'/\k'<l.length
 a:∀k bad,k<l.length->l.length-k<=r->∃x k' b',Ja0 l (4*r+1) k bad=some (x,k',b')/\k<=k'/\k'<l.length/\(b'<0->k<k')
 p:∀x k bad,k<l.length->l.length-k<=r->∃x' k' b',appM l (4*r+2) x k bad=some (x',k',b')/\k<=k'/\k'<l.length
theorem Jfy(l:List Tk)(n k:Nat)(bad:Int)(h:0<=bad):expM l (n+1) k bad=some (.mk ⟨#[]⟩ [] [] (tkAt l k).loc,k,bad):=by rw[expM,Vat h]
theorem Jnr(V:Good l)(r:Nat)(J:Tot l r):Tot l (r+1):=by
 have kd:∀{s:BA} (_:s.data.toList≠(⟨#[101,110,100]⟩:BA).data.toList) (_:s.data.toList≠(⟨#[110,111,110,101]⟩:BA).data.toList) {k:Nat} {bad:Int} (_:k<l.length),Jai l s k bad<l.length:=by
  intro s W h2 k bad h;exact Jdv V h W h2
 have A:∀k bad,k<l.length->l.length-k<=r+1->∃x I Y,Ja0 l (4*(r+1)+1) k bad=some (x,I,Y)/\k<=I/\I<l.length/\(Y<0->k<I):=by
  intro k bad h hr;rw[show 4*(r+1)+1=(4*r+4)+1 from by omega,Ja0]
  split
  .rename_i c
   have:k+1<l.length:=by
    rcases Vdt.1 c with c|c
    .exact Jar V h c (by decide) (by decide)
    .exact Jar V h c (by decide) (by decide)
   exact⟨_,_,_,rfl,by omega,this,fun _=>by omega⟩
  .by_cases hb:bad<0
   .rcases Jkw (l:=l) (s:=⟨#[40]⟩) (k:=k) hb with⟨W,h2,h3⟩|⟨W,h2⟩
    .have T:=Jar V h W (by decide) (by decide);obtain⟨x,E,d,U,ac,L⟩:=J.e (k+1) bad T (by omega);rw[h2,h3,U,Vad]
     dsimp only
     split
     .rename_i c;have ag:=Jar V L c (by decide) (by decide);obtain⟨y,G,D,M,aa,O⟩:=J.e (E+1) d ag (by omega);rw[M];have:=Jbr (l:=l) (s:=⟨#[41]⟩) (k:=G) (bad:=D);exact⟨_,Jai l ⟨#[41]⟩ G D,Jab l ⟨#[41]⟩ G D,rfl,by omega,kd (by decide) (by decide) O,fun _=>by omega⟩
     .have:=Jbr (l:=l) (s:=⟨#[41]⟩) (k:=E) (bad:=d);exact⟨_,Jai l ⟨#[41]⟩ E d,Jab l ⟨#[41]⟩ E d,rfl,by omega,kd (by decide) (by decide) L,fun _=>by omega⟩
    .rw[h2,Jfy l (4*r+3) k _ W,Vad]
     dsimp only
     rw[JcP W,JcF W,JbQ W];exact⟨_,_,_,rfl,Vau _,h,fun ao=>by omega⟩
   .have Z:0<=bad:=by omega
    rw[JcF Z,JbQ Z,Jfy l (4*r+3) k _ Z,Vad]
    dsimp only
    rw[JcP Z,JcF Z,JbQ Z];exact⟨_,_,_,rfl,Vau _,h,fun ao=>by omega⟩
 have P:∀x k bad,k<l.length->l.length-k<=r+1->∃x' I Y,appM l (4*(r+1)+2) x k bad=some (x',I,Y)/\k<=I/\I<l.length:=by
  intro x k bad h hr;rw[show 4*(r+1)+2=(4*(r+1)+1)+1 from by omega,appM]
  split
  .obtain⟨y,E,d,U,ac,L,al⟩:=A k bad h hr;rw[U,Vad]
   dsimp only
   by_cases hb:d<0
   .have:=al hb;obtain⟨x',G,D,M,aa,O⟩:=J.p (.mk ⟨#[97,112,112]⟩ [] [x,y] x.loc) E d L (by omega);exact⟨x',G,D,Jn8 M (by omega),by omega,O⟩
   .have Z:0<=d:=by omega
    rw[show 4*(r+1)+1=(4*r+4)+1 from by omega,appM];simp only[JcP Z,Vel,VaS,Vao];exact⟨_,_,_,rfl,ac,L⟩
  .exact⟨_,_,_,rfl,Vau _,h⟩
 have Nn:∀nm kd k bad,k<l.length->l.length-k<=r+1->∃an au I Y,andM l (4*(r+1)+2) nm kd k bad=some (an,au,I,Y)/\k<=I/\I<l.length:=by
  intro nm aj k bad h hr;rw[show 4*(r+1)+2=(4*r+5)+1 from by omega,andM]
  split
  .rename_i c;have T:=Jar V h c (by decide) (by decide);obtain⟨n1,d1,E,d,U,ac,L⟩:=J.b nm aj (k+1) bad T (by omega);obtain⟨n2,d2,G,D,M,aa,O⟩:=J.n n1 d1 E d L (by omega);rw[U,Vad];exact⟨n2,d2,G,D,Jn7 M (by omega),by omega,O⟩
  .exact⟨_,_,_,_,rfl,Vau _,h⟩
 have ak:∀k bad,k<l.length->l.length-k<=r+1->∃x I Y,expM l (4*(r+1)+4) k bad=some (x,I,Y)/\k<=I/\I<l.length:=by
  intro k bad h hr
  by_cases hb:0<=bad
  .rw[show 4*(r+1)+4=(4*r+7)+1 from by omega,Jfy l _ k bad hb];exact⟨_,_,_,rfl,Vau _,h⟩
  rw[show 4*(r+1)+4=(4*r+7)+1 from by omega,expM,Vaq hb]
  split
  .rename_i c;have T:=Jar V h c (by decide) (by decide);have g1:=Jbr (l:=l) (s:=⟨#[110,97,109,101]⟩) (k:=k+1) (bad:=bad);have g2:=Jbr (l:=l) (s:=⟨#[45,62]⟩) (k:=Jai l ⟨#[110,97,109,101]⟩ (k+1) bad) (bad:=Jab l ⟨#[110,97,109,101]⟩ (k+1) bad);obtain⟨x,E,d,U,ac,L⟩:=J.e _ (Jab l ⟨#[45,62]⟩ (Jai l ⟨#[110,97,109,101]⟩ (k+1) bad) (Jab l ⟨#[110,97,109,101]⟩ (k+1) bad)) (kd (s:=⟨#[45,62]⟩) (by decide) (by decide) (bad:=Jab l ⟨#[110,97,109,101]⟩ (k+1) bad) (kd (s:=⟨#[110,97,109,101]⟩) (by decide) (by decide) (bad:=bad) T)) (by omega);rw[Jfa U (by omega),Vad];exact⟨_,E,d,rfl,by omega,L⟩
  .split
   .rename_i c;have T:=Jar V h c (by decide) (by decide);obtain⟨x1,E,d,ah,aq,ai⟩:=J.e (k+1) bad T (by omega);have g1:=Jbr (l:=l) (s:=⟨#[116,104,101,110]⟩) (k:=E) (bad:=d);obtain⟨x2,G,D,M,aa,O⟩:=J.e _ (Jab l ⟨#[116,104,101,110]⟩ E d) (kd (s:=⟨#[116,104,101,110]⟩) (by decide) (by decide) (bad:=d) ai) (by omega);have g2:=Jbr (l:=l) (s:=⟨#[101,108,115,101]⟩) (k:=G) (bad:=D);obtain⟨x3,k3,b3,af,am,ae⟩:=J.e _ (Jab l ⟨#[101,108,115,101]⟩ G D) (kd (s:=⟨#[101,108,115,101]⟩) (by decide) (by decide) (bad:=D) O) (by omega);rw[Jfa ah (by omega),Vad]
    dsimp only
    rw[Jfa M (by omega),Vad]
    dsimp only
    rw[Jfa af (by omega),Vad];exact⟨_,k3,b3,rfl,by omega,ae⟩
   .split
    .rename_i c;have T:=Jar V h c (by decide) (by decide)
     split
     .rename_i c2;have ag:=Jar V T c2 (by decide) (by decide);obtain⟨n1,d1,E,d,ah,aq,ai⟩:=J.b [] [] (k+2) bad ag (by omega);obtain⟨n2,d2,G,D,M,aa,O⟩:=J.n n1 d1 E d ai (by omega);have g2:=Jbr (l:=l) (s:=⟨#[105,110]⟩) (k:=G) (bad:=D);obtain⟨x3,k3,b3,af,am,ae⟩:=J.e _ (Jab l ⟨#[105,110]⟩ G D) (kd (s:=⟨#[105,110]⟩) (by decide) (by decide) (bad:=D) O) (by omega);rw[Jn6 ah (by omega),Vad]
      dsimp only
      rw[Jn7 M (by omega),Vad]
      dsimp only
      rw[Jfa af (by omega),Vad];exact⟨_,k3,b3,rfl,by omega,ae⟩
     .obtain⟨n2,d2,G,D,M,aa,O⟩:=J.b [] [] (k+1) bad T (by omega);have g2:=Jbr (l:=l) (s:=⟨#[105,110]⟩) (k:=G) (bad:=D);obtain⟨x3,k3,b3,af,am,ae⟩:=J.e _ (Jab l ⟨#[105,110]⟩ G D) (kd (s:=⟨#[105,110]⟩) (by decide) (by decide) (bad:=D) O) (by omega);rw[Jn6 M (by omega),Vad]
      dsimp only
      rw[Jfa af (by omega),Vad];exact⟨_,k3,b3,rfl,by omega,ae⟩
    .obtain⟨y,E,d,U,ac,L,al⟩:=A k bad h hr;rw[Jq9 U (by omega),Vad]
     dsimp only
     obtain⟨x',G,D,M,aa,O⟩:=P y E d L (by omega);exact⟨x',G,D,Jn8 M (by omega),by omega,O⟩
 refine⟨ak,?_,Nn,A,P⟩
 intro nm aj k bad h hr;rw[show 4*(r+1)+5=(4*(r+1)+4)+1 from by omega,Jaz];have T:=kd (s:=⟨#[110,97,109,101]⟩) (by decide) (by decide) (bad:=bad) h;have g1:=Jbr (l:=l) (s:=⟨#[110,97,109,101]⟩) (k:=k) (bad:=bad);have g2:=Jbr (l:=l) (s:=⟨#[61]⟩) (k:=Jai l ⟨#[110,97,109,101]⟩ k bad) (bad:=dupB nm (tkAt l k).s (tkAt l k).loc (Jab l ⟨#[110,97,109,101]⟩ k bad));obtain⟨x,E,d,U,ac,L⟩:=ak _ (Jab l ⟨#[61]⟩ (Jai l ⟨#[110,97,109,101]⟩ k bad) (dupB nm (tkAt l k).s (tkAt l k).loc (Jab l ⟨#[110,97,109,101]⟩ k bad))) (kd (s:=⟨#[61]⟩) (by decide) (by decide) (bad:=dupB nm (tkAt l k).s (tkAt l k).loc (Jab l ⟨#[110,97,109,101]⟩ k bad)) T) (by omega);rw[U,Vad];exact⟨_,_,E,d,rfl,by omega,L⟩
theorem tot(l:List Tk)(D:Good l)(r:Nat):Tot l r:=by
 induction r with
 |zero=>exact⟨fun k bad h d=>by omega,fun nm kd k bad h d=>by omega,fun nm kd k bad h d=>by omega,fun k bad h d=>by omega,fun x k bad h d=>by omega⟩
 |succ r E=>exact Jnr D r E
theorem IaK:(Tryz.prog.info? 151).map (fun i=>(i.zero,i.size,i.bytes))=some (some (.agg #[.string ⟨#[]⟩,.string ⟨#[]⟩,.int .i64 0]),3,40):=by kernel_rfl
end Go.Proofs.YtleenphlgbklmaaGreatDoor
