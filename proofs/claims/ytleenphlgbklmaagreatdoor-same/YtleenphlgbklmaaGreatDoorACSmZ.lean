import Derived.Sort.Walk0
import Derived.Test.YtleenphlgbklmaaGreatDoorACPTb
import Derived.Test.YtleenphlgbklmaaGreatDoorACPHc
set_option linter.unusedVariables false
set_option linter.unusedSimpArgs false
set_option maxRecDepth 100000
set_option maxHeartbeats 8000000
open List renaming replicate → Vet, getD → Veu
open Prod renaming fst → Vev
namespace Go.Proofs.YtleenphlgbklmaaGreatDoor
open Go.RowKit
open Go.Sort
open Tryz
variable {names own:List BA}
section
variable {A:Nat->Addr}{s z:BA}{w:World}
def Two(w0:World)(tg ts:Ty)(names own:List BA)(v x:Value)(w:World):Prop:=Kept w0 w/\∃d vs G I D E,PTyR w d G I tg v/\NB w d names/\PTyR w vs D E ts x/\NB w vs own/\vs.Nodup
variable {tg ts:Ty}{w0:World}
theorem Jnu(U:Glb A w0)(h1:∀W,Glb A W->Calls prog 80 #[.string s] W (TOut A (.good tg names) W))(h2:∀W,Glb A W->Calls prog 80 #[.string z] W (TOut A (.good ts own) W)):
  Hid (Calls prog 80 #[.string s] w0 fun e w'=>∃T u,e= .returned (.tuple #[.iface T u,.nilIface])/\Hid ((fun v d=>Kept w0 d/\∃D G E,PTyR d D G E tg v/\NB d D names) (.iface T u) w'))/\
  Hid (∀d v,Hid ((fun v d=>Kept w0 d/\∃D G E,PTyR d D G E tg v/\NB d D names) v d)->Calls prog 80 #[.string z] d fun e w'=>∃T u,e= .returned (.tuple #[.iface T u,.nilIface])/\Hid (Two w0 tg ts names own v (.iface T u) w')):=by
 refine⟨(h1 w0 U).mono (fun e w' h=> ?_),fun d v Y=> ?_⟩
 .obtain⟨hk,T,u,vb,I,L,M,J⟩:=h;exact⟨T,u,I,hk,vb,_,_,L,J⟩
 .obtain⟨O,D,G,E,q1,V⟩:=Y.out;refine(h2 d (U.kept O)).mono (fun e w' h=> ?_)
  obtain⟨hk,T,u,vb,I,L,M,J⟩:=h;exact⟨T,u,I,O.trans hk,D,vb,G,E,_,_,q1.keep (PKeep.kept hk),⟨V.1,fun j Z=>hk.blk (V.2 j Z)⟩,L,J,M⟩
theorem Jlw(g1:(RdO.good tg names).ok)(W:(RdO.good ts own).ok)(d:World)(v x:Value)(h:Two w0 tg ts names own v x d):
  Calls prog 86 #[.map (some d.heap.size),v,x] (d.alloc (.map #[] 0)) fun e w'=>∃E,e= .returned (.bool (matM tg ts (Vet names.length none)).2)/\SM w' d.heap.size E/\((matM tg ts (Vet names.length none)).2=true->MG names own E (matM tg ts (Vet names.length none)).1)/\Kept w0 w':=by
 obtain⟨hk,vg,vs,Y,hi,af,aa,q1,O,q3,L,q5⟩:=h;obtain⟨a1,a2,a3,a4,a5,a6⟩:=g1;obtain⟨U,b2,V,M,b5,b6⟩:=W;have G:Kept d (d.alloc (.map #[] 0)):=Kept.alloc _ _;have ac:SM (d.alloc (.map #[] 0)) d.heap.size []:=⟨by have:=Vag d (.map #[] 0);simpa[tEs]using this,by simp⟩
 have ae:MG names own [] (Vet names.length none):=⟨by simp,(fun n t D=>by
  have:(Vet names.length (none:Option Ty)).getD n none=none:=by
   simp only[Veu,Vef]
   split<;>rfl
  rw[this]at D
  cases D),(fun n D _=>rfl),(fun y hy=>by simp at hy)⟩
 have T:MC names own:=⟨a3.nd,fun n D=>by have:=(a4 n D).2;omega,V,fun n D=>⟨(M n D).1,by have:=(M n D).2;omega⟩⟩
 refine(Jrg names own T a2 (d.alloc (.map #[] 0)) d.heap.size vg vs [] _ Y hi af aa ts v x ⟨⟨O.1,fun j J=>G.blk (O.2 j J)⟩,⟨L.1,fun j J=>G.blk (L.2 j J)⟩,q5,ac,ae⟩ (q1.keep (PKeep.kept G)) (q3.keep (PKeep.kept G)) U).mono ?_
 rintro e w' ⟨E,e1,e2,e3,I⟩;refine⟨E,e1,e2,e3,hk.trans ⟨I.os,I.output,by have:=I.size;simp at this;omega,fun q Z=> ?_⟩⟩
 rw[I.block q (by simp;omega) (fun z=>by have z:q=d.heap.size:=z;omega)];exact VaA _ _ _ Z
theorem Ji9(hG:Glb A w)(h1:∀W,Glb A W->Calls prog 80 #[.string s] W (TOut A (.good tg names) W))(h2:∀W,Glb A W->Calls prog 80 #[.string z] W (TOut A (.good ts own) W))(J:(RdO.good tg names).ok)(g2:(RdO.good ts own).ok)(T:(matM tg ts (Vet names.length none)).2=true):
  Calls prog 21 #[.string s,.string z] w fun e w'=>∃(a b:Value) (kv:List (BA×BA)) (d:List (List UInt8)),e= .returned (.tuple #[a,b,.bool false,Jaa 0 0 ⟨#[]⟩])/\MG names own kv (matM tg ts (Vet names.length none)).1/\(kv.map Vev).Nodup/\d.Perm (kv.map fun y=>y.1.data.toList)/\d.Pairwise (fun x y=>decide (x<=y)=true)/\w'.ownsRow 0 9 1 a d.length (d.map encStr)/\w'.ownsRow 0 9 1 b d.length (d.map (keyV kv))/\Kept w w':=by
 have ac:Kept w (w.alloc (.cells #[.int .i64 0,.int .i64 0,.string ⟨#[]⟩,.int .i64 0,.int .i64 0] 23)):=Kept.alloc _ _;generalize hW:w.alloc (.cells #[.int .i64 0,.int .i64 0,.string ⟨#[]⟩,.int .i64 0,.int .i64 0] 23)=W at*;have aa:=hG.kept ac;obtain⟨r1,r2⟩:=Jnu (w0:=W) aa h1 h2
 have h3:=Jl9 s z W _ _ (fun I w'=>Kept W w'/\∃kv,SM w' I kv/\MG names own kv (matM tg ts (Vet names.length none)).1) r1 r2 (fun w2 v x hq=>(Jlw J g2 w2 v x hq.out).mono (fun e w' h=>by
  obtain⟨ae,E,D,L,O⟩:=h;rw[T]at E;exact⟨E,O,ae,D,L T⟩))
 have V:=Ji8 s z w (fun kv=>MG names own kv (matM tg ts (Vet names.length none)).1/\(kv.map Vev).Nodup);rw[hW]at V;refine(V (h3.mono (fun e w' h=> ?_))).mono ?_
 .obtain⟨I,E,hR⟩:=h;obtain⟨hk,kv,M,Y⟩:=hR.out
  have U:∀y,y∈kv->y.1∈names:=fun y G=>by
   obtain⟨n,hn,D,_⟩:=Y.key y G;rw[D];simp[Veu,hn]
  have af:kv.length<=names.length:=by
   have:=JcC (kv.map Vev) names M.nd (fun x hx=>by
    obtain⟨y,G,rfl⟩:=Vbj.1 hx;exact U y G)
   simpa using this
  refine⟨I,kv,E,hk,M,⟨Y,M.nd⟩,by have:=J.2.2.2.2.2;omega,fun y G=> ?_⟩
  have:=(J.2.2.2.1 _ (U y G)).2;unfold maxLen;omega
 .rintro e w' ⟨a,b,kv,d,E,D,_,L,O,Z,e6,e7⟩;exact⟨a,b,kv,d,E,D.1,D.2,L,O,Z,e6,e7⟩
end
def SRow(w:World)(d:Option Addr)(n:Nat)(f:Nat->BA):Prop:=∃g,∀q,q<n->d=some ⟨g,0,none⟩/\w.cell? ⟨g,q,none⟩=some (.string (f q))
variable {B n:Nat}{v:Value}{vs:List Value}{f:Nat->BA}
theorem Jlm{w:World}(h:w.ownsRow B 9 1 v n vs)(I:∀q,q<n->vs[q]? =some (.string (f q))):∃D cap,v= .slice D n cap/\SRow w D n f:=by
 rcases h.2 with⟨rfl,q⟩|⟨g,cap,J,rfl,_,L,_⟩
 .subst q;exact⟨none,0,rfl,0,fun q d=>by omega⟩
 .refine⟨_,_,rfl,g,fun q d=>⟨rfl,?_⟩⟩
  have E:=VcL h (g:=g) rfl q (.string (f q)) (I q d);have G:((⟨g,0,none⟩:Addr).add q)=⟨g,q,none⟩:=by unfold Addr.add;split<;>simp_all
  rw[G]at E;exact E
def InP(d:Nat)(ks tx nm sh:Nat->BA):Prop:=(∀k q,k<d->q<d->ks q=nm k->tx q=sh k)/\(∀q,q+1<d->Op.bytesLess (ks q).toList (ks (q+1)).toList=true)/\(∀k,k<d->∃q,q<d/\ks q=nm k)
variable {kv:List (BA×BA)}{gs:List (Option Ty)}{sk:List (List UInt8)}
theorem Jl7(ae:names.Nodup)(E:MG names own kv gs)(hk:(kv.map Vev).Nodup)(U:∀i,i<names.length->gs.getD i none≠none)(hp:sk.Perm (kv.map fun y=>y.1.data.toList))(hs:sk.Pairwise (fun x y=>decide (x<=y)=true)):
  sk.length=names.length/\InP names.length (fun q=>⟨(sk.getD q []).toArray⟩) (fun q=>keyT kv (sk.getD q [])) (fun k=>names.getD k ⟨#[]⟩) (fun k=>match gs.getD k none with|some t=>Ide own t|none=>⟨#[]⟩):=by
 have O:∀n,n<names.length->names.getD n ⟨#[]⟩∈kv.map Vev:=fun n L=>by
  obtain⟨t,ht⟩:=Vd3.1 (U n L);obtain⟨j,M,_⟩:=E.got n t ht;obtain⟨D,d,_⟩:=VaZ.1 M;have e:=(Jaf _ _).1 d;rw[<-e];exact Vbj.2 ⟨_,Vbw D,rfl⟩
 have ac:kv.length=names.length:=by
  have D:=JcC (kv.map Vev) names hk (fun x J=>by
   obtain⟨y,I,rfl⟩:=Vbj.1 J;obtain⟨n,L,e,_⟩:=E.key y I;rw[e];simp[Veu,L])
  have d:=JcC names (kv.map Vev) ae (fun x J=>by
   obtain⟨i,T,rfl⟩:=Vcb.1 J;have:=O i T;simpa[Veu,T]using this)
  simp at D d;omega
 have aa:sk.length=names.length:=by rw[hp.length_eq];simpa using ac
 have Z:sk.Nodup:=by
  rw[hp.nodup_iff];have e:(kv.map fun y=>y.1.data.toList)=(kv.map Vev).map (fun(b:BA)=>b.data.toList):=by simp
  rw[e];exact List.Pairwise.map _ (fun a b Y e=>Y ((Jaf a b).1 (by simp[Jag,e]))) hk
 refine⟨aa,fun k q hk G e=> ?_,fun q G=> ?_,fun k hk=> ?_⟩
 .obtain⟨t,ht⟩:=Vd3.1 (U k hk);obtain⟨j,M,d,_⟩:=E.got k t ht;simp only at e⊢;rw[ht];simp only;unfold keyT;rw[e,M];exact d
 .have D:q<sk.length:=by omega
  have d:q+1<sk.length:=by omega
  have V:=(VaF.1 hs) q (q+1) D d (by omega);have W:=(VaF.1 Z) q (q+1) D d (by omega);simp only[Va1]at V;rw[bytesLess_eq,Lib.toList_data,Lib.toList_data];simp only[Veu,Vav D,Vav d,Vcg,Va1]
  rcases List.le_iff_lt_or_eq.1 V with h|h
  .exact h
  .exact absurd h W
 .have D:=O k hk;obtain⟨y,I,e⟩:=Vbj.1 D;have d:y.1.data.toList∈sk:=hp.mem_iff.2 (Vbj.2 ⟨y,I,rfl⟩);obtain⟨q,G,e2⟩:=Vcb.1 d;refine⟨q,by omega,?_⟩
  simp only[<-e];simp only[Veu,Vav G,Vcg,e2]
variable {t:Ty}{k K:Nat}
theorem Jnc(h:WT k t)(D:k<=K):Ide (lets K) t=Ide (lets k) t:=JgT h _ _ (fun n d=>by rw[Jd6 (by omega),Jd6 d])
def sLR:BA:=⟨#[40,108,44,32,114,41]⟩
def JbS:BA:=⟨#[108]⟩
def JbT:BA:=⟨#[114]⟩
theorem rd_lr:rdO sLR= .good (.mk ⟨#[112,97,105,114]⟩ 0 [.mk ⟨#[]⟩ 0 [],.mk ⟨#[]⟩ 1 []]) [JbS,JbT]:=by kernel_rfl
theorem JfE(x y:Ty):matM (.mk ⟨#[112,97,105,114]⟩ 0 [.mk ⟨#[]⟩ 0 [],.mk ⟨#[]⟩ 1 []]) (.mk ⟨#[112,97,105,114]⟩ 0 [x,y]) (Vet 2 none)=([some x,some y],true):=by
 rw[Jdk _ (by decide),Jdl];have G:(Vet 2 (none:Option Ty)).getD 0 none=none:=rfl;rw[G];have D:(Vet 2 (none:Option Ty)).set 0 (some x)= [some x,none]:=rfl;simp only[Va0,D];rw[Jdl];have d:([some x,none]:List (Option Ty)).getD 1 none=none:=rfl;rw[d];have E:([some x,none]:List (Option Ty)).set 1 (some y)= [some x,some y]:=rfl;simp only[Va0,E]
variable {la ta:Option Addr}{ks tx sh:Nat->BA}{y:BA}
theorem Jo9{w:World}{x:BA}(r1:SRow w la 2 ks)(G:SRow w ta 2 tx)(hP:InP 2 ks tx (fun k=> [JbS,JbT].getD k ⟨#[]⟩) sh)(h0:sh 0=x)(h1:sh 1=y):
  ∃D,ta=some ⟨D,0,none⟩/\w.cell? ⟨D,0,none⟩=some (.string x)/\w.cell? ⟨D,1,none⟩=some (.string y):=by
 obtain⟨W,Z,L⟩:=hP;obtain⟨D,G⟩:=G;have Y:([JbS,JbT]:List BA).getD 0 ⟨#[]⟩=JbS:=rfl;have eq:([JbS,JbT]:List BA).getD 1 ⟨#[]⟩=JbT:=rfl;obtain⟨M,ac,d⟩:=L 0 (by omega);obtain⟨V,aa,E⟩:=L 1 (by omega);simp only[Y]at d;simp only[eq]at E;have I:=Z 0 (by omega);have hb:Op.bytesLess JbT.toList JbS.toList=false:=by rw[VaL,VaL];rfl
 have J:JbS≠JbT:=by decide
 have U:ks 0=JbS/\ks 1=JbT:=by
  have c0:M=0\/M=1:=by omega
  have c1:V=0\/V=1:=by omega
  rcases c0 with rfl|rfl<;>rcases c1 with rfl|rfl
  .exact absurd (d.symm.trans E) J
  .exact⟨d,E⟩
  .simp only[Vby]at I;rw[E,d,hb]at I
   cases I
  .exact absurd (d.symm.trans E) J
 have t0:=W 0 0 (by omega) (by omega) (by simp only[Y];exact U.1);have t1:=W 1 1 (by omega) (by omega) (by simp only[eq];exact U.2);obtain⟨m1,O⟩:=G 0 (by omega);have T:=(G 1 (by omega)).2;rw[t0,h0]at O;rw[t1,h1]at T;exact⟨D,m1,O,T⟩
variable {a b:Ty}
theorem JoY{A:Nat->Addr}{w:World}(hG:Glb A w){z:BA}(hz:z.size<=9223372036854775807)(h:rdO z= .good (.mk ⟨#[112,97,105,114]⟩ 0 [a,b]) own):
  Calls prog 21 #[.string sLR,.string z] w fun e w'=>∃la E d I,e= .returned (.tuple #[.slice la 2 E,.slice (some ⟨d,0,none⟩) 2 I,.bool false,Jaa 0 0 ⟨#[]⟩])/\Kept w w'/\w'.cell? ⟨d,0,none⟩=some (.string (Ide own a))/\w'.cell? ⟨d,1,none⟩=some (.string (Ide own b)):=by
 obtain⟨U,G⟩:=Jk4 (A:=A) sLR (by decide);obtain⟨L,J⟩:=Jk4 (A:=A) z hz;rw[rd_lr]at U G;rw[h]at L J
 have M:(matM (.mk ⟨#[112,97,105,114]⟩ 0 [.mk ⟨#[]⟩ 0 [],.mk ⟨#[]⟩ 1 []]) (.mk ⟨#[112,97,105,114]⟩ 0 [a,b]) (Vet [JbS,JbT].length none)).2=true:=by
  rw[show[JbS,JbT].length=2 from rfl,JfE]
 refine(Ji9 hG U L G J M).mono ?_
 rintro e w' ⟨a0,b0,kv,D,e1,e2,e3,e4,W,T,O,e8⟩;obtain⟨a1,a2,Z,a4,a5,a6⟩:=G;obtain⟨b1,b2,b3,b4,b5,b6⟩:=J;have aa:∀i,i< [JbS,JbT].length->(matM (.mk ⟨#[112,97,105,114]⟩ 0 [.mk ⟨#[]⟩ 0 [],.mk ⟨#[]⟩ 1 []]) (.mk ⟨#[112,97,105,114]⟩ 0 [a,b]) (Vet [JbS,JbT].length none)).1.getD i none≠none:=fun i V=>Jmm a2 own.length _ b2 _ i M (a5 i V) (by simpa using V)
 obtain⟨hl,hP⟩:=Jl7 Z.nd e2 e3 aa e4 W;rw[hl]at T O;obtain⟨la,E,rfl,r1⟩:=Jlm T (f:=fun q=>⟨(D.getD q []).toArray⟩) (fun q Y=>by simp[Veu,show q<D.length from by omega,encStr]);obtain⟨ta,I,rfl,r2⟩:=Jlm O (f:=fun q=>keyT kv (D.getD q [])) (fun q Y=>by simp[Veu,show q<D.length from by omega,keyV]);obtain⟨d,rfl,c0,c1⟩:=Jo9 r1 r2 hP (x:=Ide own a) (y:=Ide own b) (by simp only[show[JbS,JbT].length=2 from rfl,JfE];rfl) (by simp only[show[JbS,JbT].length=2 from rfl,JfE];rfl);exact⟨la,E,d,I,e1,e8,c0,c1⟩
structure IR where
 t:BA
 what:Int
 loc:Int
 s:BA
def badR(what loc:Int):IR:=⟨⟨#[]⟩,what,loc,⟨#[]⟩⟩
def infR(s:BA):IR:=match pxO s with
 | .long=>badR 1 0
 | .syn l=>badR 2 l
 | .deep=>badR 3 0
 | .good _=>match Je7 true 6 s envS with
  |some o=>⟨o.t,o.what,o.loc,o.s⟩
  |none=>badR 0 0
def shwR(s:BA):IR:=match pxO s with
 | .long=>badR 1 0
 | .syn l=>badR 2 l
 | .deep=>badR 3 0
 | .good x=>⟨txt x,0,0,⟨#[]⟩⟩
theorem Jog{s:BA}(I:s.size<=300):∃x K B,expM (Jan s Jad (s.size+1) 0) 2000 0 (-1)=some (x,K,B):=by
 have E:=JgY s Jad;have hp:=JfX s Jad;have G:=JcV s Jad (s.size+1) 0;obtain⟨x,D,d,e,_⟩:=(tot _ E 499).e 0 (-1) hp (by omega);exact⟨x,D,d,e⟩
theorem Joe{s:BA}(d:s.size<=300):PEnv s Jad (Jan s Jad (s.size+1) 0):=⟨d,Jc6,rfl⟩
theorem Jfd{A:Nat->Addr}(s:BA)(w:World)(G:Glb A w)(I:s.size<=9223372036854775807):Calls prog 14 #[.string s] w fun e w'=>e= .returned (.tuple #[.string (shwR s).t,Jaa (shwR s).what (shwR s).loc ⟨#[]⟩])/\Kept w w':=by
 by_cases E:300<s.size
 .have e:shwR s=badR 1 0:=by unfold shwR pxO;rw[Vat E]
  rw[e];exact Jhz s w G E I
 .obtain⟨x,K,B,D⟩:=Jog (s:=s) (by omega)
  have O:Jab (Jan s Jad (s.size+1) 0) ⟨#[101,110,100]⟩ K B<0->tw x<=1000000:=fun h=>by
   obtain⟨M,q2,Y,J⟩:=Jak h
   have W:K<(Jan s Jad (s.size+1) 0).length:=by
    apply VdI
    intro V
    have e:(tkAt (Jan s Jad (s.size+1) 0) K)=Tk.no:=by
     unfold tkAt;rw[VbQ,Vbq V];rfl
    have:=Ja4 M;rw[e]at this;exact absurd this (Jac (by decide))
   have Z:=JcV s Jad (s.size+1) 0;have:=((made _ (fun k=>by have:=Jdw s Jad (s.size+1) 0 k;omega) _).e _ _ _ _ _ D J).2.2;omega
  refine(Jja (Joe (by omega)) w G 2000 x K B D O).mono ?_
  rintro e w' ⟨hk,T,L,U⟩;refine⟨?_,hk⟩
  unfold shwR pxO;rw[Vaq E,D];simp only
  by_cases hF:0<=Jab (Jan s Jad (s.size+1) 0) ⟨#[101,110,100]⟩ K B
  .rw[Vat hF];exact T hF
  .rw[Vaq hF]
   by_cases d:40<dp x
   .rw[Vat d];exact L (by omega) d
   .rw[Vaq d];exact U (by omega) (by omega)
theorem JbF{A:Nat->Addr}(s:BA)(w:World)(D:Glb A w)(Y:s.size<=9223372036854775807):Calls prog 35 #[.string s] w fun e w'=>e= .returned (.tuple #[.string (infR s).t,Jaa (infR s).what (infR s).loc (infR s).s])/\Kept w w':=by
 by_cases G:300<s.size
 .have e:infR s=badR 1 0:=by unfold infR pxO;rw[Vat G]
  rw[e];exact Jdf (what:=1) (loc:=0) (ss:=⟨#[]⟩) (Jj8 (j:=0) D (by omega) fun W E=>JeB s W E G Y)
 .have G:s.size<=300:=by omega
  obtain⟨x,K,B,J⟩:=Jog G;have V:=fun W (D:Glb A W)=>JdN (Joe G) W D 2000 x K B J
  by_cases hF:0<=Jab (Jan s Jad (s.size+1) 0) ⟨#[101,110,100]⟩ K B
  .obtain⟨l,O⟩:∃l:Nat,Jab (Jan s Jad (s.size+1) 0) ⟨#[101,110,100]⟩ K B=l:=⟨_,(Int.toNat_of_nonneg hF).symm⟩
   have e:infR s=badR 2 l:=by
    unfold infR pxO;rw[Vaq (by omega),J];simp only;rw[Vat hF,O]
   rw[e];refine Jdf (what:=2) (loc:=l) (ss:=⟨#[]⟩) (JqW D fun W E=>(V W E).mono fun e w' hp=> ?_)
   rcases hp.2 with⟨b,T,I,d,M⟩|⟨I,_⟩|⟨I,_⟩
   .rw[O]at I;have:l=T:=by omega
    subst this;exact⟨b,d,hp.1,M⟩
   .omega
   .omega
  .by_cases L:40<dp x
   .have e:infR s=badR 3 0:=by
     unfold infR pxO;rw[Vaq (by omega),J];simp only;rw[Vaq hF,Vat L]
    rw[e];refine Jdf (what:=3) (loc:=0) (ss:=⟨#[]⟩) (Jj8 (j:=1) D (by omega) fun W E=>(V W E).mono fun e w' hp=> ?_)
    rcases hp.2 with⟨b,T,I,d,M⟩|⟨_,_,d⟩|⟨_,d,_⟩
    .omega
    .exact⟨d,hp.1⟩
    .omega
   .have e:pxO s= .good x:=by
     unfold pxO;rw[Vaq (by omega),J];simp only;rw[Vaq hF,Vaq L]
    obtain⟨o,U,h2⟩:=Jj9 (Jhf.2 e)
    have d:infR s=⟨o.t,o.what,o.loc,o.s⟩:=by
     unfold infR;rw[e,U]
    rw[d]
    have hg:o.good:=by
     cases h2 with
     |unb q _=>trivial
     |sen j _ hj _=>show j<8;omega
     |txt t σ τ _ _ _ _ _ _=>trivial
    exact Jdf (ki_hi w D U hg (fun _=>Jrv) (fun _ B gv f Z=>Jrw (by omega) f Z))
variable {x:X}
theorem Jdd{s:BA}(h:pxO s= .good x):∃o,Out x o/\infR s=⟨o.t,o.what,o.loc,o.s⟩:=by
 obtain⟨o,d,D⟩:=Jj9 (Jhf.2 h);refine⟨o,D,?_⟩
 unfold infR;rw[h,d]
def tLet(t:BA):BA:=⟨#[108,101,116,32,122,32,61,32]⟩++t++⟨#[32,105,110,32,122]⟩
def tId(t:BA):BA:=⟨#[40,102,117,110,32,122,32,45,62,32,122,41,32,40]⟩++t++⟨#[41]⟩
def tPr(t:BA):BA:=⟨#[108,101,116,32,122,32,61,32]⟩++t++⟨#[32,105,110,32,40,122,44,32,122,41]⟩
theorem JiJ:OwE zN:=⟨⟨122,[],rfl,by decide⟩,by decide,by decide,by rfl⟩
theorem wl_z:WLx xZ:= .nam _ _ JiJ
theorem wl_id:WLx xId:= .fn _ _ _ JiJ wl_z
theorem Jof(h:WLx x)(d:(tLet (txt x)).size<=300):∃y,er y=er (xLet x)/\pxO (tLet (txt x))=if 40<dp (xLet x)then .deep else .good y:=by
 obtain⟨ps,R⟩:=JeF (WLx.lt zN x xZ 0 JiJ h wl_z);refine JmS (ps:=ps) ?_ R.rd d
 have e:bsL (tLet (txt x))=bsL (txt (.mk ⟨#[108,101,116]⟩ [zN] [x,xZ] 0)):=by
  rw[JeU,tLet,Jah,Jah,Jah,Jah,Jah,Jah,Jah,show txt xZ=zN from JcW zN 0];simp only[Val];rfl
 rw[e];exact R.lx
theorem px_pr(h:WLx x)(d:(tPr (txt x)).size<=300):∃y,er y=er (xPr x)/\pxO (tPr (txt x))=if 40<dp (xPr x)then .deep else .good y:=by
 obtain⟨ps,R⟩:=JeF (WLx.lt zN x (.mk ⟨#[112,97,105,114]⟩ [] [xZ,xZ] 0) 0 JiJ h (.pair _ _ _ wl_z wl_z));refine JmS (ps:=ps) ?_ R.rd d
 have e:bsL (tPr (txt x))=bsL (txt (.mk ⟨#[108,101,116]⟩ [zN] [x,.mk ⟨#[112,97,105,114]⟩ [] [xZ,xZ] 0] 0)):=by
  rw[JeU,Jea,tPr,Jah,Jah,Jah,Jah,Jah,Jah,Jah,show txt xZ=zN from JcW zN 0];simp only[Val];rfl
 rw[e];exact R.lx
theorem Jrn(h:WLx x)(d:(tId (txt x)).size<=300):∃y,er y=er (xApp x)/\pxO (tId (txt x))=if 40<dp (xApp x)then .deep else .good y:=by
 obtain⟨ps,R⟩:=JeF h;obtain⟨pf,F⟩:=JeF wl_id;have r:=(Jk5 0 (JfM F.rd).head (JfM R.rd)).exp;refine JmS (x:=xApp x) ?_ r d
 have:=JaR (Jig F.lx) (Jig R.lx) (by simp)
 have e:bsL (tId (txt x))=bsL (⟨#[40]⟩++txt xId++⟨#[41]⟩)++32::bsL (⟨#[40]⟩++txt x++⟨#[41]⟩):=by
  rw[tId,Jah,Jah,Jah,Jah,Jah,Jah,show txt xId=⟨#[102,117,110,32]⟩++zN++⟨#[32,45,62,32]⟩++zN from(JiE zN xZ 0).trans (by rw[show txt xZ=zN from JcW zN 0])];simp only[Val];rfl
 rw[e];exact this
theorem JnY:∀(xs:List X) (q:Nat),((ers xs).getD q X.none).op=(xs.getD q X.none).op
 | [],q=>by simp[ers]
 | .mk op names kids loc::xs,0=>rfl
 |x::xs,q+1=>by
  simp only[ers,List.getD_cons_succ];exact JnY xs q
mutual
theorem Jly:∀x:X,txt (er x)=txt x
 | .mk op names kids loc=>by
  simp only[er,txt,Jlz kids,JnY]
theorem Jlz:∀xs:List X,txts (ers xs)=txts xs
 | []=>rfl
 |x::xs=>by simp only[ers,txts,Jly x,Jlz xs]
end
theorem Jnv{y:X}(h:er y=er x):txt y=txt x:=by rw[<-Jly y,h,Jly]
theorem Jrr(I:okN own)(h:FO t 0 own.length)(Z:(Ide own t).size<=300):rdO (Ide own t)=if 120<sz t then .bad 8 0 else .good t own:=by
 obtain⟨ps,W,J,Y,L⟩:=Jry own I h (Vau _);generalize U:Ide own t=T at*;have E:=L T 0 [] (by unfold Rs bsL;simp) (.inl rfl);rw[Jg9,Vby]at E;have V:=E.le;obtain⟨G,d,M⟩:=Jhp E (T.size+1) rfl (by omega);have O:Jan T Jdg (T.size+1) 0=lexT T:=rfl;rw[O]at G d M;have D:=J (lexT T) (2*(lexT T).length+2) 0 G (by rw[Vby,d];decide) (by omega);simp only[List.take_zero,Vby]at D;rw[VbA]at D;unfold rdO;rw[Vaq (by omega),D];simp only;rw[(Jam d).2,Vaq (by decide)]
variable {τ:Tt}{ρ ρ':Nat->Nat}{p:BA}
theorem JkB(U:∀i j,τ.has i->τ.has j->ρ i=ρ j->i=j)(L:∀i j,τ.has i->τ.has j->ρ' i=ρ' j->i=j)(Z:∀i j,τ.has i->τ.has j->ρ i≠ρ' j)(hz:τ.sz+τ.sz+1<=120)(hp:p=canT (Tt.p (τ.sub fun i=> .v (ρ i)) (τ.sub fun i=> .v (ρ' i))).ty)(I:p.size<=300):
  ∃(a b:Ty) (own:List BA),rdO p= .good (.mk ⟨#[112,97,105,114]⟩ 0 [a,b]) own/\COut (rdO (Ide own a))= .tuple #[.string (canT τ.ty),Jaa 0 0 ⟨#[]⟩]/\COut (rdO (Ide own b))= .tuple #[.string (canT τ.ty),Jaa 0 0 ⟨#[]⟩]/\(Ide own a).size<=300/\(Ide own b).size<=300:=by
 obtain⟨a,b,k,d,M,T,O,G,c2,Y⟩:=Jmw U L Z;rw[c2]at hp;have hk:k<=0+sz a:=d.sz;have hP:FO (.mk ⟨#[112,97,105,114]⟩ 0 [a,b]) 0 (k+k):= .pair a b 0 k (k+k) d M
 have aa:sz (.mk ⟨#[112,97,105,114]⟩ 0 [a,b])=τ.sz+τ.sz+1:=by
  simp only[sz,szs,T,O];omega
 have J:=I;rw[hp,JbC]at J;simp only[Var]at J;have E:(Ide (lets (k+k)) a).size<=300:=by omega
 have D:(Ide (lets (k+k)) b).size<=300:=by omega
 refine⟨a,b,lets (k+k),?_,?_,?_,E,D⟩
 .rw[hp];rw[Jrs hP (by omega) (by rw[<-hp];exact I),Vaq (by omega)]
 .have e:=Jnc d.wt (K:=k+k) (by omega);rw[e]at E⊢;rw[Jrs d (by omega) E,Vaq (by omega)];show Value.tuple #[.string (canT a),Jaa 0 0 ⟨#[]⟩]=_;rw[Jgb d,<-G]
 .rw[Y]at D⊢;have W:((lets (k+k)).drop k).length=k:=by simp[Jdj]
  have V:okN ((lets (k+k)).drop k):=by
   have:=Jkg (k:=k+k) (by omega);exact⟨this.1.sublist (List.drop_sublist _ _),fun m hm=>this.2 m (List.mem_of_mem_drop hm)⟩
  rw[Jrr V (by rw[W];exact d) D,Vaq (by omega)];show Value.tuple #[.string (canT a),Jaa 0 0 ⟨#[]⟩]=_;rw[Jgb d,<-G]
theorem Jne{s:BA}(h:(shwR s).what=0):∃x,pxO s= .good x/\(shwR s).t=txt x:=by
 unfold shwR at h⊢
 cases e:pxO s with
 |long=>rw[e]at h;simp only[badR]at h;omega
 |syn l=>rw[e]at h;simp only[badR]at h;omega
 |deep=>rw[e]at h;simp only[badR]at h;omega
 |good x=>exact⟨x,rfl,rfl⟩
structure SamR(src:BA):Prop where
 bad:(shwR src).what≠0->(infR src).what≠0/\(shwR src).t=⟨#[]⟩/\(infR src).t=⟨#[]⟩
 a:(shwR src).what=0->(shwR src).t.size<=300->(infR (shwR src).t).t=(infR src).t/\((infR (shwR src).t).what=0<->(infR src).what=0)/\(shwR (shwR src).t).what=0/\(shwR (shwR src).t).t=(shwR src).t
 b:(shwR src).what=0->(shwR src).t.size+20<=300->(infR (tLet (shwR src).t)).what≠3->(infR (tId (shwR src).t)).what≠3->(infR src).what≠0->(infR (tLet (shwR src).t)).what≠0/\(infR (tId (shwR src).t)).what≠0/\(infR (tLet (shwR src).t)).t=⟨#[]⟩/\(infR (tId (shwR src).t)).t=⟨#[]⟩
 c:(shwR src).what=0->(shwR src).t.size+20<=300->(infR (tLet (shwR src).t)).what≠3->(infR (tId (shwR src).t)).what≠3->(infR src).what=0->(infR (tLet (shwR src).t)).t=(infR src).t/\(infR (tId (shwR src).t)).t=(infR src).t/\((infR (tPr (shwR src).t)).what≠0->(infR (tPr (shwR src).t)).what=8)/\
  ((infR (tPr (shwR src).t)).what=0->(infR (tPr (shwR src).t)).t.size<=300->∃(a b:Ty) (own:List BA),rdO (infR (tPr (shwR src).t)).t= .good (.mk ⟨#[112,97,105,114]⟩ 0 [a,b]) own/\COut (rdO (Ide own a))= .tuple #[.string (infR src).t,Jaa 0 0 ⟨#[]⟩]/\COut (rdO (Ide own b))= .tuple #[.string (infR src).t,Jaa 0 0 ⟨#[]⟩]/\(Ide own a).size<=300/\(Ide own b).size<=300)
theorem Jm5(M:BA):SamR M:=by
 have bad:(shwR M).what≠0->(infR M).what≠0/\(shwR M).t=⟨#[]⟩/\(infR M).t=⟨#[]⟩:=fun h=>by
  unfold shwR infR at*
  cases e:pxO M with
  |long=>exact⟨by show(1:Int)≠0;decide,rfl,rfl⟩
  |syn l=>exact⟨by show(2:Int)≠0;decide,rfl,rfl⟩
  |deep=>exact⟨by show(3:Int)≠0;decide,rfl,rfl⟩
  |good x=>rw[e]at h;exact absurd rfl h
 by_cases Z:(shwR M).what=0
 .obtain⟨x,hp,ht⟩:=Jne Z;obtain⟨E,T,ak,_⟩:=JiO (Jhf.2 hp);obtain⟨o,G,hI⟩:=Jdd hp
  have aa:∀{s:BA} {Y:X},(∃y,er y=er Y/\pxO s=if 40<dp Y then .deep else .good y)->(infR s).what≠3->dp Y<=40/\∃y J,er y=er Y/\WX y/\Out y J/\infR s=⟨J.t,J.what,J.loc,J.s⟩:=by
   rintro s Y ⟨y,e,d⟩ h3
   by_cases ac:40<dp Y
   .rw[Vat ac]at d;exact absurd (by unfold infR;rw[d];rfl) h3
   .rw[Vaq ac]at d;obtain⟨J,g1,g2⟩:=Jdd d;exact⟨by omega,y,J,e,(JiO (Jhf.2 d)).1.wx,g1,g2⟩
  have am:(tLet (txt x)).size=(txt x).size+13:=by
   simp only[tLet,Var];show 8+(txt x).size+5=_;omega
  have ao:(tId (txt x)).size=(txt x).size+15:=by
   simp only[tId,Var];show 14+(txt x).size+1=_;omega
  have aq:(tPr (txt x)).size=(txt x).size+18:=by
   simp only[tPr,Var];show 8+(txt x).size+10=_;omega
  have dl:dp (xLet x)=max (dp x) 1+1:=by simp only[xLet,xZ,dp,dps];omega
  have da:dp (xPr x)=max (dp x) 2+1:=by simp only[xPr,xZ,dp,dps];omega
  refine⟨bad,fun _ O=> ?_,fun _ O U V D=> ?_,fun _ O U V D=> ?_⟩
  .rw[ht]at O⊢;obtain⟨x',e,d⟩:=Jro E O;rw[Vaq (by omega)]at d;obtain⟨o',ah,ag⟩:=Jdd d;have I:=Jmv E.wx (JiO (Jhf.2 d)).1.wx e G ah;have aj:shwR (txt x)=⟨txt x',0,0,⟨#[]⟩⟩:=by unfold shwR;rw[d]
   rw[hI,ag,aj];refine⟨?_,?_,rfl,Jnv e⟩
   .by_cases L:o.what=0
    .obtain⟨t,rfl⟩:=(JfI G).1 L;rw[I.1 t rfl]
    .show o'.t=o.t;rw[IfO.bad_t L,IfO.bad_t (I.2 L)]
   .constructor
    .intro L;show o.what=0;exact Decidable.byContradiction fun W=>I.2 W L
    .intro L;obtain⟨t,rfl⟩:=(JfI G).1 L;show o'.what=0;rw[I.1 t rfl];rfl
  .rw[ht]at O U V⊢;obtain⟨_,y,oL,e1,w1,O1,I1⟩:=aa (Jof E (by omega)) U;obtain⟨_,y2,oI,e2,w2,O2,I2⟩:=aa (Jrn E (by omega)) V;have I:=JkA E.wx T w1 e1 G O1;have ai:=Jkz E.wx T w2 e2 G O2;rw[hI]at D;have D:o.what≠0:=D;rw[I1,I2];exact⟨I.2 D,ai.2 D,IfO.bad_t (I.2 D),IfO.bad_t (ai.2 D)⟩
  .rw[ht]at O U V⊢;obtain⟨an,y,oL,e1,w1,O1,I1⟩:=aa (Jof E (by omega)) U;obtain⟨_,y2,oI,e2,w2,O2,I2⟩:=aa (Jrn E (by omega)) V;obtain⟨y3,e3,d⟩:=px_pr E (by omega);rw[Vaq (by omega)]at d;obtain⟨oP,O3,I3⟩:=Jdd d;have w3:=(JiO (Jhf.2 d)).1.wx;have I:=JkA E.wx T w1 e1 G O1;have ai:=Jkz E.wx T w2 e2 G O2;rw[hI]at D;have D:o.what=0:=D;obtain⟨t,rfl⟩:=(JfI G).1 D;have ae:=Jrj E.wx T w3 e3 G O3;rw[I1,I2,I3,hI,I.1 t rfl,ai.1 t rfl];refine⟨rfl,rfl,fun W=> ?_,fun W af=> ?_⟩
   .rcases ae with rfl|⟨τ,ρ,ρ',_,rfl,_⟩
    .rfl
    .exact absurd rfl W
   .rcases ae with rfl|⟨τ,ρ,ρ',ha,rfl,g1,g2,g3,g4⟩
    .exact absurd W (by decide)
    .obtain⟨a,b,own,q1,q2,q3,q4,q5⟩:=JkB g1 g2 g3 g4 rfl af;refine⟨a,b,own,q1,?_,?_,q4,q5⟩
     .rw[q2,<-ha];rfl
     .rw[q3,<-ha];rfl
 .exact⟨bad,fun h=>absurd h Z,fun h=>absurd h Z,fun h=>absurd h Z⟩
end Go.Proofs.YtleenphlgbklmaaGreatDoor
