import Derived.Deep.RegionHeld3
import Derived.Deep.RegionWith
import Derived.Test.YtleenphlgbklmaaGreatDoorACTokBase
set_option linter.unusedVariables false
set_option linter.unusedSimpArgs false
set_option maxRecDepth 100000
set_option maxHeartbeats 8000000
namespace Go.Proofs.YtleenphlgbklmaaGreatDoor
open Go.RowKit
open Tryz
variable {s:BA}{k:Nat}{bad:Int}
theorem IaP:(prog.info? 9).map (fun i=>(i.zero,i.size,i.bytes))=some (some (.string ⟨#[]⟩),1,16):=by kernel_rfl
theorem IaL:(prog.info? 26).map (fun i=>(i.zero,i.size,i.bytes))=some (some (.pointer none),1,8):=by kernel_rfl
variable {l:List Tk}
theorem Ja5(h:0<=bad):Jab l s k bad=bad:=by
 unfold Jab;rw[Vaq (by simp;omega)]
theorem JfB(h:0<=bad):isM l s k bad=false:=by
 unfold isM;have:decide (bad<0)=false:=by simp;omega
 rw[this];rfl
theorem Jdu:k<=Jai l s k bad:=by
 unfold Jai;split<;>omega
theorem JiD(l:List Tk):∀n,(∀names k bad t L D E,Jaq l n names k bad=some (t,L,D,E)->k<=D/\(k<D\/0<=E))/\
  (∀names k bad t L D E,oneM l n names k bad=some (t,L,D,E)->k<=D/\(k<D\/0<=E)):=by
 intro n
 induction n with
 |zero=>exact⟨fun _ _ _ _ _ _ _ h=>by simp[Jaq]at h,fun _ _ _ _ _ _ _ h=>by simp[oneM]at h⟩
 |succ n G=>
  refine⟨?_,?_⟩
  .intro names k bad t L D E h;simp only[Jaq]at h;obtain⟨⟨x,V,O,M⟩,I,d⟩:=Vab.1 h;have U:=G.2 _ _ _ _ _ _ _ I;simp only at d
   split at d
   .obtain⟨⟨y,n2,k2,Z⟩,T,J⟩:=Vab.1 d;have g2:=G.1 _ _ _ _ _ _ _ T;simp only[Vaa,Vaf]at J;obtain⟨_,_,rfl,rfl⟩:=J;exact⟨by omega,Or.inl (by omega)⟩
   .simp only[Vaa,Vaf]at d;obtain⟨_,_,rfl,rfl⟩:=d;exact U
  .intro names k bad t L D E h;simp only[oneM]at h
   split at h
   .simp only[Vaa,Vaf]at h;obtain⟨_,_,rfl,rfl⟩:=h;exact⟨by omega,Or.inl (by omega)⟩
   .split at h
    .simp only[Vaa,Vaf]at h;obtain⟨_,_,rfl,rfl⟩:=h;exact⟨by omega,Or.inl (by omega)⟩
    .split at h
     .obtain⟨⟨x,V,O,M⟩,I,d⟩:=Vab.1 h;have U:=G.1 _ _ _ _ _ _ _ I;simp only[Vaa,Vaf]at d;obtain⟨_,_,rfl,rfl⟩:=d;have:=Jdu (l:=l) (s:=⟨#[93]⟩) (k:=O) (bad:=M);exact⟨by omega,Or.inl (by omega)⟩
     .split at h
      .obtain⟨⟨x,V,O,M⟩,I,d⟩:=Vab.1 h;have U:=G.1 _ _ _ _ _ _ _ I;simp only at d
       split at d
       .obtain⟨⟨y,n2,k2,Z⟩,T,J⟩:=Vab.1 d;have g2:=G.1 _ _ _ _ _ _ _ T;simp only[Vaa,Vaf]at J;obtain⟨_,_,rfl,rfl⟩:=J;have:=Jdu (l:=l) (s:=⟨#[41]⟩) (k:=k2) (bad:=Z);exact⟨by omega,Or.inl (by omega)⟩
       .simp only[Vaa,Vaf]at d;obtain⟨_,_,rfl,rfl⟩:=d;have:=Jdu (l:=l) (s:=⟨#[41]⟩) (k:=O) (bad:=M);exact⟨by omega,Or.inl (by omega)⟩
      .simp only[Vaa,Vaf]at h;obtain⟨_,_,rfl,rfl⟩:=h;refine⟨Jdu,?_⟩
       by_cases W:0<=bad
       .exact Or.inr (by rw[Ja5 W];exact W)
       .by_cases Y:isM l ⟨#[110,97,109,101]⟩ k bad=true
        .exact Or.inl (by unfold Jai;rw[Vat Y];omega)
        .refine Or.inr ?_
         unfold Jab;rw[Vat (by simp[Y];omega)];omega
theorem JeS(l:List Tk)(I:Good l):∀m,(∀names k bad n,k<l.length->l.length-k<=m->2*m+2<=n->∃r,Jaq l n names k bad=some r)/\
  (∀names k bad n,k<l.length->l.length-k<=m->2*m+1<=n->∃r,oneM l n names k bad=some r):=by
 intro m
 induction m with
 |zero=>exact⟨fun _ k _ _ G h=>by omega,fun _ k _ _ G h=>by omega⟩
 |succ m J=>
  have one:∀names k bad n,k<l.length->l.length-k<=m+1->2*(m+1)+1<=n->∃r,oneM l n names k bad=some r:=by
   intro names k bad n G Z hn;obtain⟨n,rfl⟩:∃j,n=j+1:=⟨n-1,by omega⟩
   simp only[oneM]
   split
   .exact⟨_,rfl⟩
   .split
    .exact⟨_,rfl⟩
    .split
     .rename_i W;have T:=Jar I G W (by decide) (by decide);obtain⟨r,E⟩:=J.1 names (k+1) bad n T (by omega) (by omega);rw[E];exact⟨_,rfl⟩
     .split
      .rename_i W;have T:=Jar I G W (by decide) (by decide);obtain⟨⟨x,U,d,M⟩,E⟩:=J.1 names (k+1) bad n T (by omega) (by omega);rw[E];simp only[Vad]
       split
       .rename_i D;have aa:=((JiD l n).1 _ _ _ _ _ _ _ E).1
        have Y:d<l.length:=by
         rcases Nat.lt_or_ge d l.length with h|h
         .exact h
         .simp only[isM,Vaz]at D;have:tkAt l d=Tk.no:=by simp[tkAt,VbQ,Vbq h]
          rw[this]at D;have V:=D.2;simp[Tk.no]at V
        have O:=Jar I Y D (by decide) (by decide);obtain⟨r2,L⟩:=J.1 U (d+1) M n O (by omega) (by omega);rw[L];exact⟨_,rfl⟩
       .exact⟨_,rfl⟩
      .exact⟨_,rfl⟩
  refine⟨?_,one⟩
  intro names k bad n G Z hn;obtain⟨n,rfl⟩:∃j,n=j+1:=⟨n-1,by omega⟩
  simp only[Jaq];obtain⟨⟨x,U,d,M⟩,E⟩:=one names k bad n G Z (by omega);rw[E];simp only[Vad]
  split
  .rename_i D;have aa:=((JiD l n).2 _ _ _ _ _ _ _ E).1
   have Y:d<l.length:=by
    rcases Nat.lt_or_ge d l.length with h|h
    .exact h
    .simp only[isM,Vaz]at D;have:tkAt l d=Tk.no:=by simp[tkAt,VbQ,Vbq h]
     rw[this]at D;have V:=D.2;simp[Tk.no]at V
   have O:=Jar I Y D (by decide) (by decide);obtain⟨r2,L⟩:=J.1 U (d+1) M n O (by omega) (by omega);rw[L];exact⟨_,rfl⟩
  .exact⟨_,rfl⟩
mutual
theorem Ty.ind{P:Ty->Prop}(h:∀kd n kids,(∀y,y∈kids->P y)->P (.mk kd n kids)):∀x,P x
 | .mk kd n kids=>h kd n kids (Ty.indL h kids)
theorem Ty.indL{P:Ty->Prop}(h:∀kd n kids,(∀y,y∈kids->P y)->P (.mk kd n kids)):∀(xs:List Ty) y,y∈xs->P y
 | [],y,d=>nomatch d
 |x::xs,y,d=>by
  rcases VaW.1 d with e|e
  .rw[e];exact Ty.ind h x
  .exact Ty.indL h xs y e
end
mutual
def sz:Ty->Nat
 | .mk _ _ kids=>szs kids+1
def szs:List Ty->Nat
 | []=>0
 |x::xs=>sz x+szs xs
end
def Ty.no:Ty:= .mk ⟨#[]⟩ 0 []
inductive WT(m:Nat):Ty->Prop
 |var (n:Nat):n<m->WT m (.mk ⟨#[]⟩ n [])
 |int:WT m (.mk ⟨#[105,110,116]⟩ 0 [])
 |bool:WT m (.mk ⟨#[98,111,111,108]⟩ 0 [])
 |list (a:Ty):WT m a->WT m (.mk ⟨#[108,105,115,116]⟩ 0 [a])
 |pair (a b:Ty):WT m a->WT m b->WT m (.mk ⟨#[112,97,105,114]⟩ 0 [a,b])
 |fn (a b:Ty):WT m a->WT m b->WT m (.mk ⟨#[102,117,110]⟩ 0 [a,b])
variable {m m':Nat}{t:Ty}
theorem WT.up(I:m<=m')(h:WT m t):WT m' t:=by
 induction h with
 |var n G=>exact .var n (by omega)
 |int=>exact .int
 |bool=>exact .bool
 |list a _ E=>exact .list a E
 |pair a b _ _ D d=>exact .pair a b D d
 |fn a b _ _ D d=>exact .fn a b D d
theorem Jb4(h:Jab l s k bad<0):bad<0/\isM l s k bad=true/\Jab l s k bad=bad:=by
 by_cases D:0<=bad
 .rw[Ja5 D]at h;omega
 .by_cases d:isM l s k bad=true
  .exact⟨by omega,d,by unfold Jab;rw[Vaq (by simp[d])]⟩
  .exfalso;unfold Jab at h;rw[Vat (by simp[d];omega)]at h;omega
theorem Ji2(names:List BA)(s:BA):(∃u,(Jcz names s).2=names++u)/\WT (Jcz names s).2.length (Jcz names s).1/\sz (Jcz names s).1=1:=by
 unfold Jcz
 split
 .rename_i j e
  have d:j<names.length:=by
   rw[VaZ]at e;exact e.1
  exact⟨⟨[],by simp⟩,.var j d,by simp[sz,szs]⟩
 .exact⟨⟨[s],rfl⟩,.var _ (by simp),by simp[sz,szs]⟩
theorem Jji(l:List Tk):∀n,(∀names k bad t E J L,Jaq l n names k bad=some (t,E,J,L)->L<0->bad<0/\sz t+k<=J/\(∃u,E=names++u)/\WT E.length t)/\
  (∀names k bad t E J L,oneM l n names k bad=some (t,E,J,L)->L<0->bad<0/\sz t+k<=J/\(∃u,E=names++u)/\WT E.length t):=by
 intro n
 induction n with
 |zero=>exact⟨fun _ _ _ _ _ _ _ h=>by simp[Jaq]at h,fun _ _ _ _ _ _ _ h=>by simp[oneM]at h⟩
 |succ n I=>
  refine⟨?_,?_⟩
  .intro names k bad t E J L h D;simp only[Jaq]at h;obtain⟨⟨x,n1,k1,b1⟩,M,d⟩:=Vab.1 h;simp only at d
   split at d
   .obtain⟨⟨y,n2,k2,b2⟩,W,V⟩:=Vab.1 d;simp only[Vaa,Vaf]at V;obtain⟨rfl,rfl,rfl,rfl⟩:=V;obtain⟨U,i2,⟨u,rfl⟩,G⟩:=I.1 _ _ _ _ _ _ _ W D;obtain⟨j1,j2,⟨v,rfl⟩,Z⟩:=I.2 _ _ _ _ _ _ _ M U;refine⟨j1,?_,⟨v++u,by simp⟩,.fn x y (Z.up (by simp)) G⟩
    simp only[sz,szs];omega
   .simp only[Vaa,Vaf]at d;obtain⟨rfl,rfl,rfl,rfl⟩:=d;exact I.2 _ _ _ _ _ _ _ M D
  .intro names k bad t E J L h D;simp only[oneM]at h
   split at h
   .rename_i hM;simp only[Vaa,Vaf]at h;obtain⟨rfl,rfl,rfl,rfl⟩:=h;exact⟨D,by simp[sz,szs];omega,⟨[],by simp⟩,.int⟩
   .split at h
    .simp only[Vaa,Vaf]at h;obtain⟨rfl,rfl,rfl,rfl⟩:=h;exact⟨D,by simp[sz,szs];omega,⟨[],by simp⟩,.bool⟩
    .split at h
     .obtain⟨⟨x,n1,k1,b1⟩,M,d⟩:=Vab.1 h;simp only[Vaa,Vaf]at d;obtain⟨rfl,rfl,rfl,rfl⟩:=d;obtain⟨T,O,Y⟩:=Jb4 D;obtain⟨U,i2,i3,G⟩:=I.1 _ _ _ _ _ _ _ M T;refine⟨U,?_,i3,.list x G⟩
      unfold Jai;rw[Vat O];simp only[sz,szs];omega
     .split at h
      .obtain⟨⟨x,n1,k1,b1⟩,M,d⟩:=Vab.1 h;simp only at d
       split at d
       .obtain⟨⟨y,n2,k2,b2⟩,W,V⟩:=Vab.1 d;simp only[Vaa,Vaf]at V;obtain⟨rfl,rfl,rfl,rfl⟩:=V;obtain⟨T,O,Y⟩:=Jb4 D;obtain⟨U,i2,⟨u,rfl⟩,G⟩:=I.1 _ _ _ _ _ _ _ W T;obtain⟨j1,j2,⟨v,rfl⟩,Z⟩:=I.1 _ _ _ _ _ _ _ M U;refine⟨j1,?_,⟨v++u,by simp⟩,.pair x y (Z.up (by simp)) G⟩
        unfold Jai;rw[Vat O];simp only[sz,szs];omega
       .simp only[Vaa,Vaf]at d;obtain⟨rfl,rfl,rfl,rfl⟩:=d;obtain⟨T,O,Y⟩:=Jb4 D;obtain⟨U,i2,i3,G⟩:=I.1 _ _ _ _ _ _ _ M T;refine⟨U,?_,i3,G⟩
        unfold Jai;rw[Vat O];omega
      .simp only[Vaa,Vaf]at h;obtain⟨rfl,rfl,rfl,rfl⟩:=h;obtain⟨T,O,Y⟩:=Jb4 D;obtain⟨g1,g2,g3⟩:=Ji2 names (tkAt l k).s;refine⟨T,?_,g1,g2⟩
       unfold Jai;rw[Vat O,g3];omega
def Jdg:List BA:= [⟨#[105,110,116]⟩,⟨#[98,111,111,108]⟩]
def lexT(s:BA):List Tk:=Jan s Jdg (s.size+1) 0
def Ty.kind:Ty->BA| .mk k _ _=>k
def brkT(b:Bool)(a:BA):BA:=if b then⟨#[40]⟩++a++⟨#[41]⟩else a
mutual
def Ide(names:List BA):Ty->BA
 | .mk kd n kids=>
  if kd.data.toList== []then names.getD n ⟨#[]⟩
  else if kd.data.toList==(⟨#[108,105,115,116]⟩:BA).data.toList then⟨#[91]⟩++(shTs names kids).getD 0 ⟨#[]⟩++⟨#[93]⟩
  else if kd.data.toList==(⟨#[112,97,105,114]⟩:BA).data.toList then⟨#[40]⟩++(shTs names kids).getD 0 ⟨#[]⟩++⟨#[44,32]⟩++(shTs names kids).getD 1 ⟨#[]⟩++⟨#[41]⟩
  else if kd.data.toList==(⟨#[102,117,110]⟩:BA).data.toList then brkT ((kids.getD 0 Ty.no).kind.data.toList==(⟨#[102,117,110]⟩:BA).data.toList) ((shTs names kids).getD 0 ⟨#[]⟩)++⟨#[32,45,62,32]⟩++(shTs names kids).getD 1 ⟨#[]⟩
  else kd
def shTs(names:List BA):List Ty->List BA
 | []=> []
 |t::ts=>Ide names t::shTs names ts
end
section
variable (names:List BA)(a b:Ty)
theorem Jbb(n:Nat):Ide names (.mk ⟨#[]⟩ n [])=names.getD n ⟨#[]⟩:=by simp[Ide]
theorem JbV:Ide names (.mk ⟨#[105,110,116]⟩ 0 [])=⟨#[105,110,116]⟩:=by simp[Ide]
theorem Jbq:Ide names (.mk ⟨#[98,111,111,108]⟩ 0 [])=⟨#[98,111,111,108]⟩:=by simp[Ide]
theorem JbU:Ide names (.mk ⟨#[108,105,115,116]⟩ 0 [a])=⟨#[91]⟩++Ide names a++⟨#[93]⟩:=by simp[Ide,shTs]
theorem JbC:Ide names (.mk ⟨#[112,97,105,114]⟩ 0 [a,b])=⟨#[40]⟩++Ide names a++⟨#[44,32]⟩++Ide names b++⟨#[41]⟩:=by simp[Ide,shTs]
theorem Jdt:Ide names (.mk ⟨#[102,117,110]⟩ 0 [a,b])=brkT (a.kind.data.toList==(⟨#[102,117,110]⟩:BA).data.toList) (Ide names a)++⟨#[32,45,62,32]⟩++Ide names b:=by simp[Ide,shTs]
end
theorem Jf9(b:Bool)(a:BA):(brkT b a).size<=a.size+2:=by
 unfold brkT
 split
 .simp only[Var];have h:(⟨#[40]⟩:BA).size=1:=rfl;have d:(⟨#[41]⟩:BA).size=1:=rfl;omega
 .omega
theorem Jnd(names:List BA)(M:Nat)(O:4<=M)(E:∀m,m∈names->m.size<=M)(h:WT names.length t):(Ide names t).size<=(M+6)*sz t:=by
 induction h with
 |var n I=>
  rw[Jbb];have:names.getD n ⟨#[]⟩∈names:=by simp[List.getD,I]
  have:=E _ this;simp only[sz,szs];omega
 |int=>rw[JbV];have:(⟨#[105,110,116]⟩:BA).size=3:=rfl;simp only[sz,szs];omega
 |bool=>rw[Jbq];have:(⟨#[98,111,111,108]⟩:BA).size=4:=rfl;simp only[sz,szs];omega
 |list a _ D=>
  rw[JbU];simp only[Var,sz,szs,Vcj];have d:(⟨#[91]⟩:BA).size=1:=rfl;have G:(⟨#[93]⟩:BA).size=1:=rfl;omega
 |pair a b _ _ D J=>
  rw[JbC];simp only[Var,sz,szs,Vcj];have d:(⟨#[40]⟩:BA).size=1:=rfl;have G:(⟨#[41]⟩:BA).size=1:=rfl;have L:(⟨#[44,32]⟩:BA).size=2:=rfl;omega
 |fn a b _ _ D J=>
  rw[Jdt];generalize(a.kind.data.toList==(⟨#[102,117,110]⟩:BA).data.toList)=q;have:=Jf9 q (Ide names a);simp only[Var,sz,szs,Vcj];have d:(⟨#[32,45,62,32]⟩:BA).size=4:=rfl;omega
def inB(d:List Nat)(n:Nat):Bool:=d.contains n
mutual
def Jao:Ty->List Nat->List Nat
 | .mk kd n kids,l=>if kd.data.toList== []then(if inB l n then l else l++ [n])else Jcb kids l
def Jcb:List Ty->List Nat->List Nat
 | [],l=>l
 |t::ts,l=>Jcb ts (Jao t l)
end
mutual
theorem Jg3:∀(t:Ty) (l:List Nat),l.length<=(Jao t l).length/\(Jao t l).length<=l.length+sz t
 | .mk kd n kids,l=>by
  have:=Jfq kids l;simp only[Jao,sz]
  split
  .split<;>simp<;>omega
  .omega
theorem Jfq:∀(ts:List Ty) (l:List Nat),l.length<=(Jcb ts l).length/\(Jcb ts l).length<=l.length+szs ts
 | [],l=>by simp[Jcb,szs]
 |t::ts,l=>by
  have h:=Jg3 t l;have d:=Jfq ts (Jao t l);simp only[Jcb,szs];omega
end
theorem IaM:(prog.info? 3).map (fun i=>(i.zero,i.size,i.bytes))=some (some (.int .i64 0),1,8):=by kernel_rfl
def JaG(l:List Nat):BA:=⟨(l.map (fun n=>UInt8.ofNat n)).toArray⟩
def letM(n:Nat):BA:=if n<26 then JaG [97+n]else JaG [97+n%26]++JaG [48+n/26]
theorem Jdi(n:Nat):(letM n).size<=2:=by
 unfold letM
 split
 .have:(JaG [97+n]).size=1:=rfl;omega
 .have h:(JaG [97+n%26]).size=1:=rfl;have d:(JaG [48+n/26]).size=1:=rfl;rw[Var];omega
end Go.Proofs.YtleenphlgbklmaaGreatDoor
