import Derived.Test.YtleenphlgbklmaaGreatDoorACBase
import Derived.Deep.QuietTactic
import Derived.BigQuiet
import Derived.WalkSmall
import Derived.Laws.OwnMore
import Derived.Deep.RegionLawGrows
set_option linter.unusedVariables false
set_option linter.unusedSimpArgs false
set_option maxRecDepth 100000
set_option maxHeartbeats 8000000
namespace Go.Proofs.YtleenphlgbklmaaGreatDoor
variable {S:Nat->Prop}{a b:World}{v:Value}
structure Tk where
 is:BA
 s:BA
 loc:Nat
def Tk.no:Tk:=⟨⟨#[]⟩,⟨#[]⟩,0⟩
def tkAt(l:List Tk)(k:Nat):Tk:=l.getD k Tk.no
def isM(l:List Tk)(w:BA)(k:Nat)(bad:Int):Bool:=decide (bad<0)&&((tkAt l k).is.data.toList==w.data.toList)
def Jai(l:List Tk)(w:BA)(k:Nat)(bad:Int):Nat:=if isM l w k bad then k+1 else k
def Jab(l:List Tk)(w:BA)(k:Nat)(bad:Int):Int:=if !isM l w k bad&&decide (bad<0)then((tkAt l k).loc:Int)else bad
def dupB(names:List BA)(s:BA)(loc:Nat)(bad:Int):Int:=if names.any (fun m=>m.data.toList==s.data.toList)&&decide (bad<0)then(loc:Int)else bad
def chr(s:BA)(i:Nat):Int:=if h:i<s.size then((s[i]'h).toNat:Int)else 0
theorem JbZ(s:BA)(i:Nat)(h:i<s.size):((s[i]'h).toNat:Int)=chr s i:=by simp[chr,h]
def lowI(c:Int):Bool:=decide (97<=c)&&decide (c<=122)
def figI(c:Int):Bool:=decide (48<=c)&&decide (c<=57)
def lfI(c:Int):Bool:=lowI c||figI c
def blI(c:Int):Bool:=(c==32)||(c==10)
def runF(p:Int->Bool)(s:BA):Nat->Nat->Nat
 |0,i=>i
 |f+1,i=>if i<s.size/\p (chr s i)=true then runF p s f (i+1)else i
def run(p:Int->Bool)(s:BA)(i:Nat):Nat:=runF p s (s.size-i) i
theorem Ja7(p:Int->Bool)(s:BA)(i:Nat)(h:i<s.size)(d:p (chr s i)=true):run p s i=run p s (i+1):=by
 unfold run;have:s.size-i=(s.size-(i+1))+1:=by omega
 rw[this,runF,Vat ⟨h,d⟩]
theorem Ja8(p:Int->Bool)(s:BA)(i:Nat)(h:i<s.size->p (chr s i)=false):run p s i=i:=by
 unfold run
 cases e:s.size-i with
 |zero=>rfl
 |succ f=>
  rw[runF,Vaq];rintro⟨D,d⟩;rw[h D]at d
  cases d
theorem Jld(p:Int->Bool)(s:BA):∀f i,i<=runF p s f i
 |0,i=>Vau _
 |f+1,i=>by
  rw[runF]
  split
  .have:=Jld p s f (i+1);omega
  .omega
theorem Jle(p:Int->Bool)(s:BA):∀f i,i<=s.size->runF p s f i<=s.size
 |0,i,h=>h
 |f+1,i,h=>by
  rw[runF]
  split
  .rename_i d;exact Jle p s f (i+1) (by omega)
  .exact h
theorem Jb5(p:Int->Bool)(s:BA)(i:Nat):i<=run p s i:=Jld p s _ i
theorem Jbi(p:Int->Bool)(s:BA)(i:Nat)(h:i<=s.size):run p s i<=s.size:=Jle p s _ i h
def JaW(c:Int):Bool:=c==61||c==40||c==41||c==44||c==91||c==93
def clsI(s:BA)(i:Nat):BA:=
 if i<s.size then
  if lowI (chr s i)then⟨#[110,97,109,101]⟩
  else if figI (chr s i)then⟨#[110,117,109]⟩
  else if chr s i=45/\i+1<s.size/\chr s (i+1)=62 then⟨#[45,62]⟩
  else if JaW (chr s i)then s.extract i (i+1)
  else⟨#[110,111,110,101]⟩
 else⟨#[101,110,100]⟩
def clsK(s:BA)(i:Nat):Nat:=
 if i<s.size then
  if lowI (chr s i)then run lfI s i
  else if figI (chr s i)then run figI s i
  else if chr s i=45/\i+1<s.size/\chr s (i+1)=62 then i+2
  else if JaW (chr s i)then i+1
  else i
 else i
def isNN(a:BA):Bool:=a.data.toList==(⟨#[110,97,109,101]⟩:BA).data.toList||a.data.toList==(⟨#[110,117,109]⟩:BA).data.toList
def clsB(a:BA)(n:Nat):BA:=if(isNN a&&decide (8<n))=true then⟨#[110,111,110,101]⟩else a
def Jby(x is w:BA):BA:=if(is.data.toList==(⟨#[110,97,109,101]⟩:BA).data.toList&&x.data.toList==w.data.toList)=true then w else is
def tok1(s:BA)(kws:List BA)(i:Nat):Tk×Nat:=
 (⟨kws.foldl (Jby (s.extract i (clsK s i))) (clsB (clsI s i) (clsK s i-i)),s.extract i (clsK s i),i⟩,clsK s i)
def Jc3(t:Tk):Bool:=t.is.data.toList==(⟨#[110,111,110,101]⟩:BA).data.toList||t.is.data.toList==(⟨#[101,110,100]⟩:BA).data.toList
def Jan(s:BA)(kws:List BA):Nat->Nat->List Tk
 |0,_=> []
 |n+1,i=>if Jc3 (tok1 s kws (run blI s i)).1 then[(tok1 s kws (run blI s i)).1]else(tok1 s kws (run blI s i)).1::Jan s kws n (tok1 s kws (run blI s i)).2
theorem JiT(x a w:BA)(h:(a.data.toList==(⟨#[110,97,109,101]⟩:BA).data.toList)=false):Jby x a w=a:=by
 unfold Jby;rw[h];simp
theorem JaI(x a:BA)(kws:List BA)(h:(a.data.toList==(⟨#[110,97,109,101]⟩:BA).data.toList)=false):kws.foldl (Jby x) a=a:=by
 induction kws with
 |nil=>rfl
 |cons w kws d=>rw[VbO,JiT x a w h];exact d
theorem JcN(a:BA)(n:Nat)(h:isNN a=false):clsB a n=a:=by simp[clsB,h]
theorem Jdq(p:Int->Bool)(s:BA)(i:Nat)(h:i<s.size)(d:p (chr s i)=true):i<run p s i:=by
 rw[Ja7 p s i h d];have:=Jb5 p s (i+1);omega
theorem Jls(s:BA)(kws:List BA)(i:Nat)(h:Jc3 (tok1 s kws i).1=false):i<clsK s i:=by
 by_cases d:i<s.size
 .by_cases D:lowI (chr s i)=true
  .rw[clsK,Vat d,Vat D];exact Jdq lfI s i d (by simp[lfI,D])
  .by_cases E:figI (chr s i)=true
   .rw[clsK,Vat d,Vaq D,Vat E];exact Jdq figI s i d E
   .by_cases G:chr s i=45/\i+1<s.size/\chr s (i+1)=62
    .rw[clsK,Vat d,Vaq D,Vaq E,Vat G];omega
    .by_cases I:JaW (chr s i)=true
     .rw[clsK,Vat d,Vaq D,Vaq E,Vaq G,Vat I];omega
     .have e:clsI s i=⟨#[110,111,110,101]⟩:=by rw[clsI,Vat d,Vaq D,Vaq E,Vaq G,Vaq I]
      have:(tok1 s kws i).1.is=⟨#[110,111,110,101]⟩:=by
       simp only[tok1,e];rw[JcN _ _ (by decide)];exact JaI _ _ _ (by decide)
      simp only[Jc3,this]at h;exact absurd h (by decide)
 .have e:clsI s i=⟨#[101,110,100]⟩:=by rw[clsI,Vaq d]
  have:(tok1 s kws i).1.is=⟨#[101,110,100]⟩:=by
   simp only[tok1,e];rw[JcN _ _ (by decide)];exact JaI _ _ _ (by decide)
  simp only[Jc3,this]at h;exact absurd h (by decide)
open Go.RowKit
structure Kp(S:Nat->Prop)(w w':World):Prop where
 os:w'.os=w.os
 tape:w'.tape=w.tape
 output:w'.output=w.output
 size:w.heap.size<=w'.heap.size
 block:∀k,k<w.heap.size->¬S k->w'.heap[k]? =w.heap[k]?
theorem Kp.refl(S:Nat->Prop)(w:World):Kp S w w:=⟨rfl,rfl,rfl,Vau _,fun _ _ _=>rfl⟩
theorem Kp.trans{c:World}(h:Kp S a b)(k:Kp S b c):Kp S a c:=
 ⟨k.os.trans h.os,k.tape.trans h.tape,k.output.trans h.output,Vas h.size k.size,fun q D d=>(k.block q (Va6 D h.size) d).trans (h.block q D d)⟩
variable {S':Nat->Prop}
theorem Kp.mono(h:Kp S a b)(E:∀k,k<a.heap.size->S k->S' k):Kp S' a b:=
 ⟨h.os,h.tape,h.output,h.size,fun q d D=>h.block q d (fun x=>D (E q d x))⟩
theorem Kp.drew(h:Kp S a b):Kp S a b.drew:=⟨h.os,h.tape,h.output,h.size,h.block⟩
theorem Kp.alloc(h:Kp S a b)(o:Obj):Kp S a (b.alloc o):=
 ⟨h.os,h.tape,h.output,by simp;have:=h.size;omega,fun q d D=>(VaA b o q (Va6 d h.size)).trans (h.block q d D)⟩
theorem Kp.setCell(h:Kp S a b)(p:Addr)(v:Value)(E:p.block<a.heap.size->S p.block):Kp S a (b.setCell p v):=
 ⟨h.os,h.tape,h.output,by simp;exact h.size,fun q d D=>(Vaj b p v q (fun e=>D (by subst e;exact E d))).trans (h.block q d D)⟩
variable {row:Option Nat}
theorem Kp.grown{c:World}(h:Kp S a b)(g:b.grownBy c row)(E:∀k,row=some k->k<a.heap.size->S k):Kp S a c:=
 ⟨g.os.trans h.os,g.tape.trans h.tape,g.output.trans h.output,Vas h.size g.size,fun q d D=>(g.block q (Va6 d h.size) (fun e=>D (E q e.symm d))).trans (h.block q d D)⟩
variable {p:Addr}
theorem Kp.cell(h:Kp S a b)(d:a.cell? p=some v)(D: ¬S p.block):b.cell? p=some v:=
 (VaH (h.block p.block (Vaw _ _ d) D)).trans d
variable {o:Obj}
theorem Kp.blk(h:Kp S a b){k:Nat}(d:a.heap[k]? =some o)(D: ¬S k):b.heap[k]? =some o:=
 (h.block k (Vah d) D).trans d
section
variable {w w':World}{rb tb c:Nat}{l:List Tk}{k:Nat}{bad:Int}
end
theorem JcE{P:Program}(w:World)(T:Nat)(t ty e:TypeId)(i:TypeInfo)(z:Value)(d bytes:Nat)(ht:P.underlying t=some (.slice e))(M:P.info? e=some i)(W:i.zero=some z)
 (J:i.size=d)(ac:i.bytes=bytes)(Y:z.cells.size=d)(ae:0<d)
 (v:Value)(n:Nat)(xs:List Value)(I:w.ownsRow T e d v n xs)
 (a:Addr)(m c:Nat)(h:List Value)(E:h.length=m*d)(L:∀j u,h[j]? =some u->w.cell? (a.add j)=some u)(Z:∀u∈h,u.oneCell'=true)
 (V:n+m<=maxLen)(aa:(n+m)*bytes<=140737488355328)(ai:T<=w.heap.size)(hm:0<m):
  ∃g cap w',(Builtin.append_ #[t,t] ty #[v,.slice (some a) m c]).run P w= .ok (.slice (some ⟨g,0,none⟩) (n+m) cap) w'/\w'.ownsRow T e d (.slice (some ⟨g,0,none⟩) (n+m) cap) (n+m) (xs++h)/\w.grownBy w' v.ownBlock/\
   (some g=v.ownBlock\/w.heap.size<=g):=by
 obtain⟨v',w',O,ho,hg,hn⟩:=run_append_own (P:=P) w T t ty e i z d bytes ht M W J ac Y ae v n xs I a m c h E L Z V aa ai
 rcases ho.2 with⟨e1,e2⟩|⟨g,cap,an,e1,_⟩
 .omega
 subst e1;refine⟨g,cap,w',O,ho,hg,?_⟩
 rcases I.2 with⟨rfl,rfl⟩|⟨g0,U,ag,rfl,ao,aj,am,au,ah,aq⟩
 .right;obtain rfl:xs= []:=VdL (by simpa using I.1);obtain⟨v2,w2,D,al,_,_⟩:=run_append_own (P:=P) w w.heap.size t ty e i z d bytes ht M W J ac Y ae (.slice none 0 0) 0 [] (VbI w _ e d) a m c h E L Z V aa (Vau _);rw[O]at D
  injection D with G q2
  subst G;exact(al.lt g rfl).1
 .by_cases af:n+m<=U
  .left;subst J;have ak:n*i.size+h.length<=ag.size:=by rw[E,ah,<-Vdr];exact Vb9 _ af
   have D:=run_append_room (P:=P) w t ty e i ht M g0 n U ag aj a m c h E L Z af ak;rw[O]at D
   injection D with G q2
   injection G with q3
   injection q3 with q4
   injection q4 with q5
   simp[Value.ownBlock,q5]
  .right;obtain⟨v2,w2,D,r1,_⟩:=run_append_arg_grows (P:=P) w t ty e i z d bytes ht M W J ac Y ae ⟨g0,0,none⟩ n U xs I.1 (I.cells (g:=g0) rfl) a m c h E L (by omega) V aa;rw[O]at D
   injection D with G q2
   subst G;exact(r1.lt g rfl).1
theorem Jd0{P:Program}{G:Array Oper}{o:Oper}{a:Act}{w:World}{K:Act->World->Prop}{Q:Exit->Act->World->Prop}{E:Prop}
 (U:o.guard=none)(s x:Operand)(t:TypeId)(ag:o.op=Op.call {callee:=Callee.builtin Builtin.append,args:= #[s,x],argTypes:= #[t,t]})
 (D:Nat)(e:TypeId)(i:TypeInfo)(z:Value)(d bytes:Nat)(ht:P.underlying t=some (.slice e))(Z:P.info? e=some i)(V:i.zero=some z)
 (M:i.size=d)(af:i.bytes=bytes)(aa:z.cells.size=d)(ah:0<d)
 (v:Value)(n:Nat)(xs:List Value)(hs:a.eval s=v)(ai:w.ownsRow D e d v n xs)
 (ad:Addr)(m c:Nat)(h:List Value)(hx:a.eval x= .slice (some ad) m c)(J:h.length=m*d)(W:∀j u,h[j]? =some u->w.cell? (ad.add j)=some u)(h1:∀u∈h,u.oneCell'=true)
 (O:n+m<=maxLen)(ac:(n+m)*bytes<=140737488355328)(ae:D<=w.heap.size)(hm:0<m)
 (Y:∀g cap w',w'.ownsRow D e d (.slice (some ⟨g,0,none⟩) (n+m) cap) (n+m) (xs++h)->w.grownBy w' v.ownBlock->(some g=v.ownBlock\/w.heap.size<=g)->K (a.put o.dst (.slice (some ⟨g,0,none⟩) (n+m) cap)) w'):
  if Region.wanted o (yielded G a.tmps)=true then Oper.wp P o a w K Q else E:=by
 have L:Region.wanted o (yielded G a.tmps)=true:=by simp[Region.wanted,U]
 rw[Vat L];obtain⟨g,cap,w',I,r1,r2,T⟩:=JcE (P:=P) w D t o.type e i z d bytes ht Z V M af aa ah v n xs ai ad m c h J W h1 O ac ae hm;unfold Oper.wp;simp only[execOp,ag,resolve,invoke,builtin,Va8,VbW,Result.andThen_ok,List.map_toArray,VaP,Vbb,hs,hx,I];exact Y g cap w' r1 r2 T
theorem Jat{P:Program}(w:World){G:Array Oper}{E:List Oper}{o:Oper}{a:Act}{Q:Exit->Act->World->Prop}(J:o.guard=none)(s x:Operand)(t:TypeId)
 (M:o.op= .call {callee:= .builtin .append,args:= #[s,x],argTypes:= #[t,t]})
 (D:Nat)(e:TypeId)(i:TypeInfo)(z:Value)(d bytes:Nat)(ht:P.underlying t=some (.slice e))(Z:P.info? e=some i)(V:i.zero=some z)
 (O:i.size=d)(ag:i.bytes=bytes)(aa:z.cells.size=d)(ah:0<d)
 (v:Value)(n:Nat)(xs:List Value)(hs:a.eval s=v)(ai:w.ownsRow D e d v n xs)
 (ad:Addr)(m c:Nat)(h:List Value)(hx:a.eval x= .slice (some ad) m c)(L:h.length=m*d)(W:∀j u,h[j]? =some u->w.cell? (ad.add j)=some u)(h1:∀u∈h,u.oneCell'=true)
 (T:n+m<=maxLen)(ae:(n+m)*bytes<=140737488355328)(af:D<=w.heap.size)(hm:0<m)
 (ac:∀g cap w',w'.ownsRow D e d (.slice (some ⟨g,0,none⟩) (n+m) cap) (n+m) (xs++h)->w.grownBy w' v.ownBlock->(some g=v.ownBlock\/w.heap.size<=g)->wpList P G Q E (a.put o.dst (.slice (some ⟨g,0,none⟩) (n+m) cap)) w'):wpList P G Q (o::E) a w:=by
 refine wpList_plain J fun K Y=> ?_
 obtain⟨g,cap,w',I,r1,r2,U⟩:=JcE (P:=P) w D t o.type e i z d bytes ht Z V O ag aa ah v n xs ai ad m c h L W h1 T ae af hm;unfold Oper.wp execOp;simp only[M,resolve,invoke,builtin,Va8,VbW,Result.andThen_ok,List.map_toArray,VaP,Vbb,hs,hx,I];exact Y _ _ (ac g cap w' r1 r2 U)
inductive X where
 |mk (op:BA) (names:List BA) (kids:List X) (loc:Nat)
def X.loc:X->Nat| .mk _ _ _ a=>a
def X.op:X->BA| .mk o _ _ _=>o
variable {b' z n:Nat}{e:TypeId}{xs:List Value}
theorem Jbu{w:World}{b:Nat}(h:w.ownsRow b e z v n xs)(I:b'<=b):w.ownsRow b' e z v n xs:=by
 refine⟨h.1,?_⟩
 rcases h.2 with h|⟨g,cap,E,D,G,d⟩
 .exact .inl h
 .exact .inr ⟨g,cap,E,D,by omega,d⟩
theorem JaM{w w':World}{b:Nat}(h:w.ownsRow b e z v n xs)(I:∀k,v.ownBlock=some k->w'.heap[k]? =w.heap[k]?):w'.ownsRow b e z v n xs:=by
 refine⟨h.1,?_⟩
 rcases h.2 with h|⟨g,cap,J,E,G,d,D⟩
 .exact .inl h
 .subst E;exact .inr ⟨g,cap,J,rfl,G,(I g rfl).trans d,D⟩
section
variable {w w':World}{B xb:Nat}{op:BA}{names:List BA}{kids:List X}{loc:Nat}{nv lv:Value}{ps:List Value}{fk:List Nat}
end
section
variable {w w':World}{B xb rb:Nat}{op:BA}{names:List BA}{kids:List X}{loc:Nat}{nv lv:Value}{ps:List Value}{fk:List Nat}
end
mutual
def expM(l:List Tk):Nat->Nat->Int->Option (X×Nat×Int)
 |0,_,_=>none
 |n+1,k,bad=>
  if 0<=bad then some (.mk ⟨#[]⟩ [] [] (tkAt l k).loc,k,bad)
  else if isM l ⟨#[102,117,110]⟩ k bad then
   (expM l n (Jai l ⟨#[45,62]⟩ (Jai l ⟨#[110,97,109,101]⟩ (k+1) bad) (Jab l ⟨#[110,97,109,101]⟩ (k+1) bad)) (Jab l ⟨#[45,62]⟩ (Jai l ⟨#[110,97,109,101]⟩ (k+1) bad) (Jab l ⟨#[110,97,109,101]⟩ (k+1) bad))).bind fun r=>
    some (.mk ⟨#[102,117,110]⟩ [(tkAt l (k+1)).s] [r.1] (tkAt l k).loc,r.2.1,r.2.2)
  else if isM l ⟨#[105,102]⟩ k bad then
   (expM l n (k+1) bad).bind fun r=>
   (expM l n (Jai l ⟨#[116,104,101,110]⟩ r.2.1 r.2.2) (Jab l ⟨#[116,104,101,110]⟩ r.2.1 r.2.2)).bind fun s=>
   (expM l n (Jai l ⟨#[101,108,115,101]⟩ s.2.1 s.2.2) (Jab l ⟨#[101,108,115,101]⟩ s.2.1 s.2.2)).bind fun t=>
    some (.mk ⟨#[105,102]⟩ [] [r.1,s.1,t.1] (tkAt l k).loc,t.2.1,t.2.2)
  else if isM l ⟨#[108,101,116]⟩ k bad then
   if isM l ⟨#[114,101,99]⟩ (k+1) bad then
    (Jaz l n [] [] (k+2) bad).bind fun r=>
    (andM l n r.1 r.2.1 r.2.2.1 r.2.2.2).bind fun s=>
    (expM l n (Jai l ⟨#[105,110]⟩ s.2.2.1 s.2.2.2) (Jab l ⟨#[105,110]⟩ s.2.2.1 s.2.2.2)).bind fun t=>
     some (.mk ⟨#[114,101,99]⟩ s.1 (s.2.1++ [t.1]) (tkAt l k).loc,t.2.1,t.2.2)
   else
    (Jaz l n [] [] (k+1) bad).bind fun s=>
    (expM l n (Jai l ⟨#[105,110]⟩ s.2.2.1 s.2.2.2) (Jab l ⟨#[105,110]⟩ s.2.2.1 s.2.2.2)).bind fun t=>
     some (.mk ⟨#[108,101,116]⟩ s.1 (s.2.1++ [t.1]) (tkAt l k).loc,t.2.1,t.2.2)
  else
   (Ja0 l n k bad).bind fun r=>appM l n r.1 r.2.1 r.2.2
def Jaz(l:List Tk):Nat->List BA->List X->Nat->Int->Option (List BA×List X×Nat×Int)
 |0,_,_,_,_=>none
 |n+1,names,kids,k,bad=>
  let d:=dupB names (tkAt l k).s (tkAt l k).loc (Jab l ⟨#[110,97,109,101]⟩ k bad)
  (expM l n (Jai l ⟨#[61]⟩ (Jai l ⟨#[110,97,109,101]⟩ k bad) d) (Jab l ⟨#[61]⟩ (Jai l ⟨#[110,97,109,101]⟩ k bad) d)).bind fun r=>
   some (names++ [(tkAt l k).s],kids++ [r.1],r.2.1,r.2.2)
def andM(l:List Tk):Nat->List BA->List X->Nat->Int->Option (List BA×List X×Nat×Int)
 |0,_,_,_,_=>none
 |n+1,names,kids,k,bad=>
  if isM l ⟨#[97,110,100]⟩ k bad then
   (Jaz l n names kids (k+1) bad).bind fun r=>andM l n r.1 r.2.1 r.2.2.1 r.2.2.2
  else some (names,kids,k,bad)
def Ja0(l:List Tk):Nat->Nat->Int->Option (X×Nat×Int)
 |0,_,_=>none
 |n+1,k,bad=>
  if isM l ⟨#[110,97,109,101]⟩ k bad||isM l ⟨#[110,117,109]⟩ k bad then some (.mk (tkAt l k).is [(tkAt l k).s] [] (tkAt l k).loc,k+1,bad)
  else
   (expM l n (Jai l ⟨#[40]⟩ k bad) (Jab l ⟨#[40]⟩ k bad)).bind fun r=>
   if isM l ⟨#[44]⟩ r.2.1 r.2.2 then
    (expM l n (r.2.1+1) r.2.2).bind fun s=>
     some (.mk ⟨#[112,97,105,114]⟩ [] [r.1,s.1] (tkAt l k).loc,Jai l ⟨#[41]⟩ s.2.1 s.2.2,Jab l ⟨#[41]⟩ s.2.1 s.2.2)
   else some (r.1,Jai l ⟨#[41]⟩ r.2.1 r.2.2,Jab l ⟨#[41]⟩ r.2.1 r.2.2)
def appM(l:List Tk):Nat->X->Nat->Int->Option (X×Nat×Int)
 |0,_,_,_=>none
 |n+1,x,k,bad=>
  if isM l ⟨#[110,97,109,101]⟩ k bad||isM l ⟨#[110,117,109]⟩ k bad||isM l ⟨#[40]⟩ k bad then
   (Ja0 l n k bad).bind fun r=>appM l n (.mk ⟨#[97,112,112]⟩ [] [x,r.1] x.loc) r.2.1 r.2.2
  else some (x,k,bad)
end
def Good(l:List Tk):Prop:=∀k,k<l.length->∀s:BA,s.data.toList≠(⟨#[101,110,100]⟩:BA).data.toList->s.data.toList≠(⟨#[110,111,110,101]⟩:BA).data.toList->((tkAt l k).is.data.toList==s.data.toList)=true->k+1<l.length
variable {s:BA}
theorem Jar{l:List Tk}{k:Nat}{bad:Int}(G:Good l)(D:k<l.length)(h:isM l s k bad=true)(d:s.data.toList≠(⟨#[101,110,100]⟩:BA).data.toList)(E:s.data.toList≠(⟨#[110,111,110,101]⟩:BA).data.toList):k+1<l.length:=by
 simp only[isM,Vaz]at h;exact G k D s d E h.2
theorem Jdv{l:List Tk}{k:Nat}{bad:Int}(D:Good l)(d:k<l.length)(E:s.data.toList≠(⟨#[101,110,100]⟩:BA).data.toList)(h:s.data.toList≠(⟨#[110,111,110,101]⟩:BA).data.toList):Jai l s k bad<l.length:=by
 unfold Jai
 split
 .exact Jar D d (by assumption) E h
 .exact d
theorem Jfv(s:BA)(i:Nat)(h:i<=s.size):i<=clsK s i/\clsK s i<=s.size:=by
 unfold clsK
 split
 .split
  .exact⟨Jb5 _ _ _,Jbi _ _ _ h⟩
  .split
   .exact⟨Jb5 _ _ _,Jbi _ _ _ h⟩
   .split
    .rename_i d;omega
    .split<;>omega
 .omega
theorem JcV(s:BA)(kws:List BA):∀n i,(Jan s kws n i).length<=n
 |0,i=>by simp[Jan]
 |n+1,i=>by
  rw[Jan]
  split
  .simp
  .simp only[VaY];have:=JcV s kws n (tok1 s kws (run blI s i)).2;omega
theorem JbN(t:Tk)(l:List Tk):tkAt (t::l) 0=t:=by simp[tkAt]
theorem Jbd(t:Tk)(l:List Tk)(k:Nat):tkAt (t::l) (k+1)=tkAt l k:=by simp[tkAt]
theorem JgZ(s:BA)(kws:List BA):∀n i,i<=s.size->s.size+1<=i+n->∀k,k<(Jan s kws n i).length->Jc3 (tkAt (Jan s kws n i) k)=false->k+1<(Jan s kws n i).length
 |0,i,D,J,k,h,d=>by omega
 |n+1,i,D,J,k,h,d=>by
  rw[Jan]at h d⊢
  split at h
  .rename_i c;rw[Vat c]at d;simp only[VaY,Vbp]at h;have:k=0:=by omega
   subst this;rw[JbN,c]at d
   cases d
  .rename_i c;rw[Vaq c]at d⊢;have L:Jc3 (tok1 s kws (run blI s i)).1=false:=by simpa using c
   have T:=Jls s kws _ L;have O:=Jb5 blI s i;have G:=Jbi blI s i D;have M:=(Jfv s _ G).2;have E:(tok1 s kws (run blI s i)).2=clsK s (run blI s i):=rfl;have I:=JgZ s kws n (tok1 s kws (run blI s i)).2 (by rw[E];exact M) (by rw[E];omega)
   cases k with
   |zero=>
    have:0<(Jan s kws n (tok1 s kws (run blI s i)).2).length:=by
     cases n with
     |zero=>omega
     |succ n=>rw[Jan];split<;>simp
    simp only[VaY];omega
   |succ k=>
    simp only[VaY]at h⊢;rw[Jbd]at d;have:=I k (by omega) d;omega
theorem JgY(s:BA)(kws:List BA):Good (Jan s kws (s.size+1) 0):=by
 intro k E w D h d;refine JgZ s kws (s.size+1) 0 (by omega) (by omega) k E ?_
 simp only[Vbs]at d;simp only[Jc3,d,VbT,VbL];exact⟨h,D⟩
theorem JfX(s:BA)(kws:List BA):0<(Jan s kws (s.size+1) 0).length:=by
 rw[Jan];split<;>simp
theorem Jdw(s:BA)(kws:List BA):∀n i k,(tkAt (Jan s kws n i) k).s.size<=s.size
 |0,i,k=>by
  have:tkAt (Jan s kws 0 i) k=Tk.no:=by simp[tkAt,Jan]
  rw[this];exact VaN _
 |n+1,i,k=>by
  have ht:(tok1 s kws (run blI s i)).1.s.size<=s.size:=by
   show(s.extract _ _).size<=s.size;rw[Va2];omega
  rw[Jan]
  split
  .cases k with
   |zero=>rw[JbN];exact ht
   |succ k=>rw[Jbd];exact VaN _
  .cases k with
   |zero=>rw[JbN];exact ht
   |succ k=>rw[Jbd];exact Jdw s kws n _ k
end Go.Proofs.YtleenphlgbklmaaGreatDoor
