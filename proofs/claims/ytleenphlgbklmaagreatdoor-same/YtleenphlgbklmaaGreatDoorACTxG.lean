import Derived.Test.YtleenphlgbklmaaGreatDoorACTxV
set_option linter.unusedVariables false
set_option linter.unusedSimpArgs false
set_option maxRecDepth 100000
set_option maxHeartbeats 8000000
namespace Go.Proofs.YtleenphlgbklmaaGreatDoor
open Go.RowKit
open World renaming cell? → Vet
open Value renaming ownBlock → Veu
open Instr renaming typeAssert → Vev
open Tryz
variable {m i c:Nat}
theorem Jjp{w:World}{B b pm:Nat}{fv:Value}{sp:List Sp}(h:TL w B b pm fv sp)(aR:B<=w.heap.size)(aH:pm<w.heap.size)(aq:pm≠b)(f t:Nat)(aM:f<=t)(aB:t<=(decS sp).size)(M:(decS sp).size+(t-f)<=2147483647)(hl:sp.length+1<=1000000000):
  Calls prog 183 #[.pointer (some ⟨b,0,none⟩),.agg #[.int .i64 f,.int .i64 t]] w fun e w'=>e= .returned (.tuple #[])/\TL w' B b pm fv (sp++ [.cp f t])/\Kq (ST B) w w'/\w'.heap[pm]? =w.heap[pm]? :=by
 obtain⟨sv,T,ho,af,am⟩:=h.cs;obtain⟨U,hi,ah⟩:=Va5.1 IaQ
 obtain⟨ay,aE,aG⟩:U.zero=some (.agg #[.string ⟨#[]⟩,.int .i64 0,.int .i64 0])/\U.size=3/\U.bytes=32:=by
  have:=ah;simp only[Vaf]at this;exact this
 have c1:w.cell? ⟨b,1,none⟩=some sv:=by simp[Vet,T]
 have ax:=Vah T;have hg:∀k,sv.ownBlock=some k->B<=k/\k<w.heap.size:=fun k I=>ho.lt k I
 have HL:Hid (∀(J:World) (u:Value),J.heap[b]? =some (.cells #[fv,u,.int .i64 (decS sp).size,.map (some pm)] 303 (0,0))->Calls prog 213 #[.pointer (some ⟨b,0,none⟩),.int .i64 ((t:Int)-(f:Int))] J fun e w'=>e= .returned (.tuple #[])/\w'.heap[b]? =some (.cells #[fv,u,.int .i64 (((decS sp).size+(t-f):Nat):Int),.map (some pm)] 303 (0,0))/\Kq (·=b) J w'):=fun J u h4=>by
  have e:((t:Int)-(f:Int))=((t-f:Nat):Int):=by omega
  rw[e];exact JdU J b _ _ fv u _ h4 M
 have H:Hid (TL w B b pm fv sp):=h;have V:Hid (sv.ownBlock≠some b/\sv.ownBlock≠some pm):=⟨af,am⟩
 have HG:Hid _:=hg;have Z:Hid _:=h.hB;clear h af am hg ah;have az:(w.alloc (.cells #[.int .i64 f,.int .i64 t] 306)).heap.size=w.heap.size+1:=by simp
 have av:(w.alloc (.cells #[.int .i64 f,.int .i64 t] 306)).heap[b]? =some (.cells #[fv,sv,.int .i64 (decS sp).size,.map (some pm)] 303 (0,0)):=(VaA _ _ _ ax).trans T;have aO:(w.alloc (.cells #[.int .i64 f,.int .i64 t] 306)).ownsRow B 308 3 sv sp.length (Jbc sp):=ho.alloc _;have Y:(w.alloc (.cells #[.int .i64 f,.int .i64 t] 306)).heap[w.heap.size]? =some (.cells #[.int .i64 f,.int .i64 t] 306 (0,0)):=Vag _ _;have ae:Hid (∀k,sv.ownBlock=some k->B<=k/\k<w.heap.size):=HG;have aK:Hid ((w.alloc (.cells #[.int .i64 f,.int .i64 t] 306)).heap[pm]? =w.heap[pm]?):=VaA _ _ _ aH;have aD:Hid (Kq (ST B) w (w.alloc (.cells #[.int .i64 f,.int .i64 t] 306))):=Kq.of_kept (Kept.alloc _ _);clear c1 ho HG T
 go_enter func183,ntmps183
 go_wp2_with fail
 generalize aU:w.alloc (.cells #[.int .i64 f,.int .i64 t] 306)=E at*;have c1:E.cell? ⟨b,1,none⟩=some sv:=by simp[Vet,av]
 have aT:E.cell? ⟨w.heap.size,0,none⟩=some (.int .i64 f):=by simp[Vet,Y]
 have aP:E.cell? ⟨w.heap.size,1,none⟩=some (.int .i64 t):=by simp[Vet,Y]
 have aA:Hid ((E.drew.alloc (.cells #[.string ⟨#[]⟩,.int .i64 f,.int .i64 t] 308)).heap[w.heap.size+1]? =some (.cells #[.string ⟨#[]⟩,.int .i64 f,.int .i64 t] 308 (0,0))):=by
  show _=_;rw[<-az];exact Vag _ _
 have aw:E.drew.ownsRow B 308 3 sv sp.length (Jbc sp):=aO
 have aC:Hid (∀(q:Nat) (u:Value),[Value.string ⟨#[]⟩,.int .i64 f,.int .i64 t][q]? =some u->(E.drew.alloc (.cells #[.string ⟨#[]⟩,.int .i64 f,.int .i64 t] 308)).cell? ((⟨w.heap.size+1,0,none⟩:Addr).add q)=some u):=fun q u D=>by
  have ac:=aA.out;generalize E.drew.alloc (.cells #[.string ⟨#[]⟩,.int .i64 f,.int .i64 t] 308)=wx at*
  match q,D with
  |0,D=>simp at D;subst D;simp[Addr.add,Vet,ac]
  |1,D=>simp at D;subst D;simp[Addr.add,Vet,ac]
  |2,D=>simp at D;subst D;simp[Addr.add,Vet,ac]
 have HX:Hid (∀d:World,(E.drew.alloc (.cells #[.string ⟨#[]⟩,.int .i64 f,.int .i64 t] 308)).grownBy d sv.ownBlock->d.heap[b]? =some (.cells #[fv,sv,.int .i64 (decS sp).size,.map (some pm)] 303 (0,0))/\d.heap[w.heap.size]? =some (.cells #[.int .i64 f,.int .i64 t] 306 (0,0))/\d.cell? ⟨b,1,none⟩=some sv/\d.frozen? ⟨b,1,none⟩=false):=fun d G=>by
  have O:d.heap[b]? =some (.cells #[fv,sv,.int .i64 (decS sp).size,.map (some pm)] 303 (0,0)):=by
   rw[G.block b (by simp;omega) (fun e=>V.out.1 e.symm),VaA _ _ _ (by show b<E.heap.size;omega)];exact av
  refine⟨O,?_,by simp[Vet,O],by simp[World.frozen?,O]⟩
  rw[G.block w.heap.size (by simp;omega) (fun e=>by have:=ae.out _ e.symm;omega),VaA _ _ _ (by show w.heap.size<E.heap.size;omega)];exact Y
 go_region_law (first
  |(refine Jd0 (by rfl) (.tmp 8) (.tmp 11) 301 (by rfl) B 308 U (.agg #[.string ⟨#[]⟩,.int .i64 0,.int .i64 0]) 3 32 underlying301 hi ay aE aG rfl (by decide) _ _ _ (by rfl) (aw.alloc _) ⟨w.heap.size+1,0,none⟩ 1 1 [.string ⟨#[]⟩,.int .i64 f,.int .i64 t] (by rfl) rfl (fun q u D=>aC.out q u D) (fun u hu=>by simp at hu;rcases hu with rfl|rfl|rfl<;>rfl) (by unfold maxLen;omega) (by omega) (by simp;omega) (by decide) ?_;intro g cap d ag G aj;obtain⟨O,aa,x1,x2⟩:=HX.out d G))
 all_goals
  have W:g≠b/\g≠pm/\B<=g:=by
   rcases aj with e|e
   .exact⟨fun z=>V.out.1 (by rw[<-e,z]),fun z=>V.out.2 (by rw[<-e,z]),(ae.out g e.symm).1⟩
   ·(try simp at e)
    exact⟨by omega,by omega,by omega⟩
  have aL:(d.setCell ⟨b,1,none⟩ (.slice (some ⟨g,0,none⟩) (sp.length+1) cap)).heap[b]? =some (.cells #[fv,.slice (some ⟨g,0,none⟩) (sp.length+1) cap,.int .i64 (decS sp).size,.map (some pm)] 303 (0,0)):=by
   simp[World.setCell,O,Vay]
  have aN:Hid _:=HL.out _ _ aL;have ai:=G.size
  have an:(d.setCell ⟨b,1,none⟩ (.slice (some ⟨g,0,none⟩) (sp.length+1) cap)).heap[pm]? =w.heap[pm]? :=by
   rw[Vaj _ _ _ _ aq,G.block pm (by simp;omega) (fun e=>V.out.2 e.symm)];exact(VaA E.drew _ _ (by show pm<E.heap.size;omega)).trans (aK.out)
  have al:Hid (pm<d.heap.size/\(d.setCell ⟨b,1,none⟩ (.slice (some ⟨g,0,none⟩) (sp.length+1) cap)).heap[pm]? =w.heap[pm]?):=⟨by simp at ai;omega,an⟩
  have aJ:Kq (ST B) w d:=aD.out.trans ⟨G.os,G.output,by simp at ai;omega,fun k I M=>by
   rw[G.block k (by simp;omega) (fun e=>M (ae.out k e.symm).1)];exact VaA E.drew _ _ I⟩
  have aI:Kq (ST B) d (d.setCell ⟨b,1,none⟩ (.slice (some ⟨g,0,none⟩) (sp.length+1) cap)):=⟨rfl,rfl,by simp,fun k I M=>Vaj _ _ _ _ (fun e=>M (by show B<=k;rw[show k=b from e];exact Z.out))⟩
  have ak:(d.setCell ⟨b,1,none⟩ (.slice (some ⟨g,0,none⟩) (sp.length+1) cap)).ownsRow B 308 3 (.slice (some ⟨g,0,none⟩) (sp.length+1) cap) (sp.length+1) (Jbc sp++ [.string ⟨#[]⟩,.int .i64 f,.int .i64 t]):=JaM ag (fun k I=>by
   have:k=g:=by simpa[Veu]using I.symm
   subst this;exact Vaj _ _ _ _ W.1)
  have ao:Hid _:=ak
  have q0:(d.setCell ⟨b,1,none⟩ (.slice (some ⟨g,0,none⟩) (sp.length+1) cap)).cell? ⟨w.heap.size,0,none⟩=some (.int .i64 f):=by
   rw[Vax _ _ _ _ (fun e=>by injection e with e1;omega)];simp[Vet,aa]
  have q1:(d.setCell ⟨b,1,none⟩ (.slice (some ⟨g,0,none⟩) (sp.length+1) cap)).cell? ⟨w.heap.size,1,none⟩=some (.int .i64 t):=by
   rw[Vax _ _ _ _ (fun e=>by injection e with e1;omega)];simp[Vet,aa]
  have aS:(d.setCell ⟨b,1,none⟩ (.slice (some ⟨g,0,none⟩) (sp.length+1) cap)).heap.size=d.heap.size:=by simp
  generalize aQ:d.setCell ⟨b,1,none⟩ (.slice (some ⟨g,0,none⟩) (sp.length+1) cap)=J at*;clear HL ag G aj O aa ak x1 x2 an
  go_wp2_with (go_at_call 213;refine Vac aN.out ?_;rintro e w5 ⟨rfl,aF,L⟩)
  go_end0
  have au:(decS (sp++ [.cp f t])).size=(decS sp).size+(t-f):=by rw[Jb0];simp[Sp.put];omega
  refine⟨rfl,H.out.put (.cp f t) ⟨aM,aB⟩ Z.out _ (by rw[au];exact aF) (JaM ao.out (fun k I=> ?_)) ⟨?_,?_⟩ ⟨by rw[au];exact M,hl⟩,(aJ.trans aI).trans ⟨L.os,L.output,L.size,fun k I D=>L.block k I (fun e=>D (by show B<=k;rw[show k=b from e];exact Z.out))⟩,(L.block pm (by have:=al.out.1;omega) aq).trans al.out.2⟩
  .have:k=g:=by simpa[Veu]using I.symm
   subst this;exact L.block k (VcH ao.out k (by simp[Veu])).2 W.1
  .simpa[Veu]using W.1
  .simpa[Veu]using W.2.1
variable {t:Ty}
theorem Jca(h:WT m t):∀l,l<+:Jao t l:=by
 induction h with
 |var n E=>intro l;rw[JaZ];split;exact Vch _;exact List.prefix_append _ _
 |int=>intro l;rw[JcI];exact Vch _
 |bool=>intro l;rw[Jb9];exact Vch _
 |list a _ d=>intro l;rw[Jbn];exact d l
 |pair a b _ _ d D=>intro l;rw[Jbo];exact(d l).trans (D _)
 |fn a b _ _ d D=>intro l;rw[Jcl];exact(d l).trans (D _)
theorem JhQ(h:WT m t):∀l,l.Nodup->(Jao t l).Nodup:=by
 induction h with
 |var n J=>
  intro l d;rw[JaZ]
  split
  .exact d
  .rename_i e;refine VbU.2 ⟨d,by simp,?_⟩
   intro a I b G;simp at G;subst G;intro q;subst q;exact e (VaX.2 I)
 |int=>intro l d;rw[JcI];exact d
 |bool=>intro l d;rw[Jb9];exact d
 |list a _ D=>intro l d;rw[Jbn];exact D l d
 |pair a b _ _ D E=>intro l d;rw[Jbo];exact E _ (D l d)
 |fn a b _ _ D E=>intro l d;rw[Jcl];exact E _ (D l d)
theorem JoA(d:List Nat)(m:Nat)(D:d.Nodup)(E:∀x,x∈d->x<m):∀q,q<=d.length->∀j,j<q->(cnA d m q).getD (d.getD j 0) ⟨#[]⟩=letM j:=by
 intro q
 induction q with
 |zero=>intro _ j J;omega
 |succ q L=>
  intro O j J;have G:d.getD q 0=d[q]:=by simp[List.getD,show q<d.length by omega]
  have h:d.getD j 0=d[j]:=by simp[List.getD,show j<d.length by omega]
  by_cases e:j=q
  .subst e;have:d.getD j 0<(cnA d m j).length:=by rw[Jhd,h];exact E _ (Vbw _)
   simp[cnA,List.getD,VbJ]at this⊢;simp[this]
  .have I:d.getD q 0≠d.getD j 0:=by
    rw[G,h];intro z;exact(VaF.1 D) j q (by omega) (by omega) (by omega) z.symm
   have M:=L (by omega) j (by omega);rw[<-M];simp only[cnA];generalize d.getD q 0=x at*;generalize d.getD j 0=y at*;simp only[List.getD];rw[VaC I]
inductive Dn(σ:St):TR->Ty->Prop
 |int (r:TR):Rp σ r .int->Dn σ r (.mk ⟨#[105,110,116]⟩ 0 [])
 |bool (r:TR):Rp σ r .bool->Dn σ r (.mk ⟨#[98,111,111,108]⟩ 0 [])
 |var (r:TR) (i:Nat):Rp σ r (.nd .vr i)->Dn σ r (.mk ⟨#[]⟩ i [])
 |list (r:TR) (i:Nat) (x:TR) (a:Ty):Rp σ r (.nd .ls i)->σ[i]? =some ⟨.ls x,none⟩->Dn σ x a->Dn σ r (.mk ⟨#[108,105,115,116]⟩ 0 [a])
 |pair (r:TR) (i:Nat) (x y:TR) (a c:Ty):Rp σ r (.nd .pr i)->σ[i]? =some ⟨.pr x y,none⟩->Dn σ x a->Dn σ y c->Dn σ r (.mk ⟨#[112,97,105,114]⟩ 0 [a,c])
 |fn (r:TR) (i:Nat) (x y:TR) (a c:Ty):Rp σ r (.nd .ar i)->σ[i]? =some ⟨.ar x y,none⟩->Dn σ x a->Dn σ y c->Dn σ r (.mk ⟨#[102,117,110]⟩ 0 [a,c])
variable {r:TR}
theorem Dn.det{σ:St}(h:Dn σ r t):∀{u:Ty},Dn σ r u->t=u:=by
 induction h with
 |int r h=>intro u g;cases g with
  |int _ g=>rfl
  |bool _ g=>cases h.det g
  |var _ i g=>cases h.det g
  |list _ i x a g _ _=>cases h.det g
  |pair _ i x y a c g _ _ _=>cases h.det g
  |fn _ i x y a c g _ _ _=>cases h.det g
 |bool r h=>intro u g;cases g with
  |int _ g=>cases h.det g
  |bool _ g=>rfl
  |var _ i g=>cases h.det g
  |list _ i x a g _ _=>cases h.det g
  |pair _ i x y a c g _ _ _=>cases h.det g
  |fn _ i x y a c g _ _ _=>cases h.det g
 |var r j h=>intro u g;cases g with
  |int _ g=>cases h.det g
  |bool _ g=>cases h.det g
  |var _ i g=>
   have:=h.det g;simp only[TR.nd.injEq,VbG]at this;rw[this]
  |list _ i x a g _ _=>cases h.det g
  |pair _ i x y a c g _ _ _=>cases h.det g
  |fn _ i x y a c g _ _ _=>cases h.det g
 |list r j x a h G L E=>intro u g;cases g with
  |int _ g=>cases h.det g
  |bool _ g=>cases h.det g
  |var _ i g=>cases h.det g
  |list _ i O M g d D=>
   have:=h.det g;simp only[TR.nd.injEq,VbG]at this;rw[<-this,G]at d;simp at d;rw[<-d]at D;rw[E D]
  |pair _ i x y a c g _ _ _=>cases h.det g
  |fn _ i x y a c g _ _ _=>cases h.det g
 |pair r j x y a c h G L U E J=>intro u g;cases g with
  |int _ g=>cases h.det g
  |bool _ g=>cases h.det g
  |var _ i g=>cases h.det g
  |list _ i x a g _ _=>cases h.det g
  |pair _ i O V M T g d D I=>
   have:=h.det g;simp only[TR.nd.injEq,VbG]at this;rw[<-this,G]at d;simp at d;rw[<-d.1]at D;rw[<-d.2]at I;rw[E D,J I]
  |fn _ i x y a c g _ _ _=>cases h.det g
 |fn r j x y a c h G L U E J=>intro u g;cases g with
  |int _ g=>cases h.det g
  |bool _ g=>cases h.det g
  |var _ i g=>cases h.det g
  |list _ i x a g _ _=>cases h.det g
  |pair _ i x y a c g _ _ _=>cases h.det g
  |fn _ i O V M T g d D I=>
   have:=h.det g;simp only[TR.nd.injEq,VbG]at this;rw[<-this,G]at d;simp at d;rw[<-d.1]at D;rw[<-d.2]at I;rw[E D,J I]
theorem Dn.wt{σ:St}(h:Dn σ r t):WT σ.length t:=by
 induction h with
 |int r h=>exact .int
 |bool r h=>exact .bool
 |var r i h=>
  obtain⟨nk,_,h⟩:=h.rt;exact .var i (Vae.1 h).1
 |list r i x a _ _ _ d=>exact .list a d
 |pair r i x y a c _ _ _ _ d D=>exact .pair a c d D
 |fn r i x y a c _ _ _ _ d D=>exact .fn a c d D
def SX(w:World)(ad:List Nat)(σ:St):Prop:=∃τ,SW w ad τ/\Ev σ τ
theorem SX.keep{w w':World}{ad:List Nat}{σ:St}(h:SX w ad σ)(E:∀b o,b∈ad->w.heap[b]? =some o->w'.heap[b]? =some o):SX w' ad σ:=by
 obtain⟨τ,d,D⟩:=h;exact⟨τ,d.keep E,D⟩
variable {r0:TR}
theorem JaU{ad:List Nat}{σ:St}(h:Rp σ r r0)(w:World)(v:Value)(T:SX w ad σ)(I:RV ad r v):
  Calls prog 182 #[v] w fun e w'=>∃d,e= .returned d/\RV ad r0 d/\SX w' ad σ/\Kt ad (fun _=>False) w w':=by
 obtain⟨τ,L,D⟩:=T;refine(Jmc ad (D.rp _ _ h) w v L I).mono ?_
 rintro e w' ⟨d,G,rfl,O,J,M,E⟩;exact⟨d,rfl,O,⟨G,J,D.trans M⟩,E⟩
def pvE(es:List (TR×Nat×Nat)):List (TR×Value):=es.map fun e=>(e.1,.agg #[.int .i64 e.2.1,.int .i64 e.2.2])
structure TX(w:World)(ad:List Nat)(σ:St)(B b pm:Nat)(fv:Value)(F:List BA)(ok:World->List Nat->Prop)(l:List Nat)(sp:List Sp)(es:List (TR×Nat×Nat)):Prop where
 tl:TL w B b pm fv sp
 mp:TMp w pm ad (pvE es)
 st:SX w ad σ
 ns:ok w l
 bs:B<=w.heap.size
 pB:B<=pm
 adB:∀a,a∈ad->a<B
 pcs:∀e,e∈es->∃T,Dn σ e.1 T/\e.2.1<=e.2.2/\e.2.2<=(decS sp).size/\(decS sp).extract e.2.1 e.2.2=Ide F T/\Jao T l=l
def SN(B:Nat)(nm:Nat->Prop)(q:Nat):Prop:=B<=q\/nm q
def OkK(ad:List Nat)(B:Nat)(ok:World->List Nat->Prop):Prop:=∀w w' l,ok w l->Kt ad (ST B) w w'->ok w' l
theorem Jhh(a b:BA)(f t:Nat)(h:t<=a.size):(a++b).extract f t=a.extract f t:=by
 apply Vbf
 simp only[Vbg,Vek,Array.extract_append];have:a.data.size=a.size:=rfl;rw[show t-a.data.size=0 by omega];simp
variable {S:Nat->Prop}
theorem TL.kt{w w':World}{ad:List Nat}{B b pm:Nat}{fv:Value}{sp:List Sp}(h:TL w B b pm fv sp)(k:Kt ad S w w')(E:∀q,S q->q<B):TL w' B b pm fv sp:=by
 obtain⟨U,⟨sv,M,D,W,J⟩,T,I⟩:=h;refine⟨U,⟨sv,k.blk _ _ M (fun z=>by have:=E _ z;omega) ?_,?_,W,J⟩,T,I⟩
 .rintro⟨L,e,f,d,ht⟩;simp only[VaT]at d;obtain⟨_,rfl,_⟩:=d
  rcases ht with e|e|e|e<;>cases e
 .refine⟨D.1,?_⟩
  rcases D.2 with q|⟨g,cap,G,rfl,V,Y,O⟩
  .exact .inl q
  .refine .inr ⟨g,cap,G,rfl,V,k.blk _ _ Y (fun z=>by have:=E _ z;omega) ?_,O⟩
   rintro⟨L,e,f,d,ht⟩;simp only[VaT]at d;obtain⟨_,rfl,_⟩:=d
   rcases ht with e|e|e|e<;>cases e
variable {mb:Nat}
theorem TMp.kt{w w':World}{ad:List Nat}{l:List (TR×Value)}(h:TMp w mb ad l)(k:Kt ad S w w')(D: ¬S mb):TMp w' mb ad l:=
 ⟨k.blk _ _ h.mp D (by rintro⟨E,e,f,d,_⟩;cases d),h.ok⟩
section
variable {w w':World}{ad:List Nat}{σ:St}{B b pm:Nat}{fv:Value}{F:List BA}{ok:World->List Nat->Prop}{l:List Nat}{sp:List Sp}{es:List (TR×Nat×Nat)}
theorem TX.kn(h:TX w ad σ B b pm fv F ok l sp es)(D:OkK ad B ok)(k:Kt ad (fun _=>False) w w')(d:SX w' ad σ):TX w' ad σ B b pm fv F ok l sp es:=
 ⟨h.tl.kt k (fun _ z=>z.elim),h.mp.kt k id,d,D _ _ _ h.ns (k.mono (fun _ _ z=>z.elim)),Vas h.bs k.size,h.pB,h.adB,h.pcs⟩
theorem TX.kept(h:TX w ad σ B b pm fv F ok l sp es)(d:OkK ad B ok)(k:Kept w w'):TX w' ad σ B b pm fv F ok l sp es:=
 h.kn d (Kt.of_kept k) (h.st.keep (fun _ _ _ D=>k.blk D))
theorem TX.more(h:TX w ad σ B b pm fv F ok l sp es)(G:OkK ad B ok)(k:Kq (ST B) w w'){s:Sp}(ht:TL w' B b pm fv (sp++ [s]))(I:w'.heap[pm]? =w.heap[pm]?):TX w' ad σ B b pm fv F ok l (sp++ [s]) es:=by
 refine⟨ht,⟨I.trans h.mp.mp,h.mp.ok⟩,h.st.keep (fun a o J d=>(k.block a (Vah d) (fun z=> ?_)).trans d),G _ _ _ h.ns (Kt.of_kq k),Vas h.bs k.size,h.pB,h.adB,?_⟩
 .have:=h.adB a J;have z:B<=a:=z;omega
 .intro e O;obtain⟨T,U,L,W,M,V⟩:=h.pcs e O
  have E:∃x,decS (sp++ [s])=decS sp++x:=by
   rw[Jb0]
   cases s with
   |tk t=>exact⟨_,rfl⟩
   |cp f t=>exact⟨_,rfl⟩
  obtain⟨x,D⟩:=E;refine⟨T,U,L,by rw[D,Var];omega,?_,V⟩
  rw[D,Jhh _ _ _ _ W];exact M
end
theorem Jlk(names:List BA)(M:Nat)(J:4<=M)(I:∀n,(names.getD n ⟨#[]⟩).size<=M)(h:WT m t):(Ide names t).size<=(M+6)*sz t:=by
 induction h with
 |var n O=>
  rw[Jbb];have:=I n;simp only[sz,szs];omega
 |int=>rw[JbV];have:(⟨#[105,110,116]⟩:BA).size=3:=rfl;simp only[sz,szs];omega
 |bool=>rw[Jbq];have:(⟨#[98,111,111,108]⟩:BA).size=4:=rfl;simp only[sz,szs];omega
 |list a _ d=>
  rw[JbU];simp only[Var,sz,szs,Vcj];have E:(⟨#[91]⟩:BA).size=1:=rfl;have D:(⟨#[93]⟩:BA).size=1:=rfl;omega
 |pair a b _ _ d G=>
  rw[JbC];simp only[Var,sz,szs,Vcj];have E:(⟨#[40]⟩:BA).size=1:=rfl;have D:(⟨#[41]⟩:BA).size=1:=rfl;have L:(⟨#[44,32]⟩:BA).size=2:=rfl;omega
 |fn a b _ _ d G=>
  rw[Jdt];generalize(a.kind.data.toList==(⟨#[102,117,110]⟩:BA).data.toList)=q;simp only[Var,sz,szs,Vcj];have E:=Jf9 q (Ide names a);have D:(⟨#[32,45,62,32]⟩:BA).size=4:=rfl;omega
theorem JdQ(h:WT m t):∀l d,Jao t l<+:d->Jao t d=d:=by
 induction h with
 |var n M=>
  intro l d D
  have J:n∈d:=by
   refine D.subset ?_
   rw[JaZ]
   split
   .rename_i e;exact VaX.1 e
   .simp
  rw[JaZ];have:inB d n=true:=VaX.2 J;rw[this];rfl
 |int=>intro l d D;exact JcI d
 |bool=>intro l d D;exact Jb9 d
 |list a _ E=>intro l d D;rw[Jbn]at D⊢;exact E l d D
 |pair a b L G E I=>
  intro l d D;rw[Jbo]at D⊢;rw[E l d ((Jca G _).trans D)];exact I _ d D
 |fn a b L G E I=>
  intro l d D;rw[Jcl]at D⊢;rw[E l d ((Jca G _).trans D)];exact I _ d D
theorem Jgh(a b:BA):(a++b).extract a.size (a++b).size=b:=by
 apply Vbf
 apply Array.ext'
 rw[Var,Vbg,Vek];have D:a.size=a.data.toList.length:=by rw[Vbx];rfl
 have E:b.size=b.data.toList.length:=by rw[Vbx];rfl
 have d:List.drop a.size a.data.toList= []:=Veh (by omega);have h:List.take b.size b.data.toList=b.data.toList:=Vct (by omega);simp[List.extract,List.drop_append,d,h]
theorem Jok(t:Ty):1<=sz t:=by cases t;simp[sz]
structure WE where
 ad:List Nat
 σ:St
 B:Nat
 b:Nat
 pm:Nat
 fv:Value
 F:List BA
 ok:World->List Nat->Prop
 nm:Nat->Prop
 L:List Nat
def WE.TX(E:WE)(w:World)(l:List Nat)(sp:List Sp)(es:List (TR×Nat×Nat)):Prop:=Go.Proofs.YtleenphlgbklmaaGreatDoor.TX w E.ad E.σ E.B E.b E.pm E.fv E.F E.ok l sp es
structure WE.Ok(E:WE):Prop where
 okk:OkK E.ad E.B E.ok
 nmB:∀q,E.nm q->q<E.B
 short:∀n,(E.F.getD n ⟨#[]⟩).size<=900
def JdY(E:WE)(w w':World)(t:Ty)(l:List Nat)(sp:List Sp)(es:List (TR×Nat×Nat))(txt:BA)(n k:Nat):Prop:=
 ∃d h,E.TX w' (Jao t l) d h/\decS d=decS sp++txt/\(decS d).size<=(decS sp).size+n/\d.length<=sp.length+n/\(∀e,e∈h->e∈es\/∃T,Dn E.σ e.1 T/\sz T<=k)/\Kt E.ad (SN E.B E.nm) w w'
def STyp(E:WE)(r:TR)(t:Ty):Prop:=∀(w:World) (v:Value) (l:List Nat) (sp:List Sp) (es:List (TR×Nat×Nat)),RV E.ad r v->E.TX w l sp es->Jao t l<+:E.L->(decS sp).size+1000*sz t<=2147483647->sp.length+1000*sz t<=1000000000->
 Calls prog 145 #[.pointer (some ⟨E.b,0,none⟩),v] w fun e w'=>e= .returned (.tuple #[])/\JdY E w w' t l sp es (Ide E.F t) (1000*sz t) (sz t)
def SFst(E:WE)(r:TR)(t:Ty):Prop:=∀(w:World) (v:Value) (l:List Nat) (sp:List Sp) (es:List (TR×Nat×Nat)),RV E.ad r v->E.TX w l sp es->Jao t l<+:E.L->(decS sp).size+1000*sz t<=2147483647->sp.length+1000*sz t<=1000000000->
 Calls prog 184 #[.pointer (some ⟨E.b,0,none⟩),v] w fun e w'=>e= .returned (.tuple #[])/\JdY E w w' t l sp es (Ide E.F t) (1000*sz t) (sz t-1)
def SLef(E:WE)(r:TR)(t:Ty):Prop:=∀(w:World) (v:Value) (l:List Nat) (sp:List Sp) (es:List (TR×Nat×Nat)),RV E.ad r v->E.TX w l sp es->Jao t l<+:E.L->(decS sp).size+1000*sz t+2<=2147483647->sp.length+1000*sz t+2<=1000000000->
 Calls prog 215 #[.pointer (some ⟨E.b,0,none⟩),v] w fun e w'=>e= .returned (.tuple #[])/\JdY E w w' t l sp es (brkT (t.kind.data.toList==(⟨#[102,117,110]⟩:BA).data.toList) (Ide E.F t)) (1000*sz t+2) (sz t)
theorem Jjr:∀{l:List (TR×Value)} {i j:Nat} {x:Value},askT r l i=some (j,x)->(r,x)∈l:=by
 intro l
 induction l with
 |nil=>intro i j x h;cases h
 |cons e l d=>
  intro i j x h;simp only[askT]at h
  split at h
  .rename_i q;rw[TR.eqb_iff]at q;simp at h;rw[q,<-h.2];simp
  .exact List.mem_cons_of_mem _ (d h)
theorem Jf4:∀{l:List (TR×Value)} {i:Nat},askT r l i=none<->∀e,e∈l->e.1≠r:=by
 intro l
 induction l with
 |nil=>intro i;simp[askT]
 |cons e l D=>
  intro i;simp only[askT]
  constructor
  .intro h
   split at h
   .cases h
   .rename_i q;intro x d;simp at d
    rcases d with rfl|d
    .exact fun z=>q (TR.eqb_iff.2 z.symm)
    .exact D.1 h x d
  .intro h;have:r.eqb e.1=false:=TR.eqb_ff.2 (fun z=>h e (by simp) z.symm);simp only[this,Vao,VaS];exact D.2 (fun x d=>h x (by simp[d]))
theorem Ic8(w:World):(zeroValue 306).run prog w= .ok (.agg #[.int .i64 0,.int .i64 0]) w:=by kernel_rfl
variable {v:Value}{f:Nat}
theorem TX.piece{w:World}{ad:List Nat}{σ:St}{B b pm:Nat}{fv:Value}{F:List BA}{ok:World->List Nat->Prop}{l:List Nat}{sp:List Sp}{es:List (TR×Nat×Nat)}(h:TX w ad σ B b pm fv F ok l sp es)(Z:OkK ad B ok)(hv:RV ad r v)(L:Dn σ r t)(T:f<=(decS sp).size)(he:(decS sp).extract f (decS sp).size=Ide F t)(V:Jao t l=l)(o:Obj)(U:o= .map (Jb6 ad (pvE es++ [(r,.agg #[.int .i64 f,.int .i64 (decS sp).size])]) 0).toArray ((pvE es).length+1)):
  TX (Idd w pm o) ad σ B b pm fv F ok l sp (es++ [(r,f,(decS sp).size)]):=by
 have J:=h.mp.mp
 have G:Kt ad (ST B) w (Idd w pm o):=⟨rfl,rfl,by simp[Idd],fun q o' M Y _=>by
  rw[Jau _ _ _ _ (fun z=>Y (by rw[z];exact h.pB))];exact M⟩
 have aa:b≠pm:=fun z=>by
  obtain⟨sv,d,_⟩:=h.tl.cs;rw[z,J]at d
  cases d
 refine⟨?_,?_,?_,Z _ _ _ h.ns G,by simpa[Idd]using h.bs,h.pB,h.adB,?_⟩
 .obtain⟨hB,⟨sv,d,E,W,I⟩,O,h6⟩:=h.tl;refine⟨hB,⟨sv,by rw[Jau _ _ _ _ aa];exact d,JaM E (fun k G=>Jau _ _ _ _ (fun z=>I (by rw[G,z]))),W,I⟩,O,h6⟩
 .have:=h.mp.put hv (.agg #[.int .i64 f,.int .i64 (decS sp).size]);rw[U];simpa[pvE]using this
 .obtain⟨τ,d,E⟩:=h.st;exact⟨τ,d.mapSet J o,E⟩
 .intro e D;simp at D
  rcases D with D|rfl
  .exact h.pcs e D
  .exact⟨t,L,T,Vau _,he,V⟩
theorem JrD{w:World}{ad:List Nat}{σ:St}{B b pm:Nat}{fv:Value}{F:List BA}{ok:World->List Nat->Prop}{l:List Nat}{sp:List Sp}{es:List (TR×Nat×Nat)}(h:TX w ad σ B b pm fv F ok l sp es):pm≠b:=fun z=>by
 obtain⟨sv,D,_⟩:=h.tl.cs;have d:=h.mp.mp;rw[z,D]at d
 cases d
variable {j:Nat}
theorem Jqf(E:WE)(J:E.Ok)(hr:Rp E.σ r r0)(M:Dn E.σ r0 t)(w:World)(v:Value)(l:List Nat)(sp:List Sp)(es:List (TR×Nat×Nat))(hv:RV E.ad r v)(h:E.TX w l sp es)(hn:(decS sp).size+1000*sz t<=2147483647)(hl:sp.length+1000*sz t<=1000000000){x:Value}(Y:askT r0 (pvE es) 0=some (j,x)):
  Calls prog 145 #[.pointer (some ⟨E.b,0,none⟩),v] w fun e w'=>e= .returned (.tuple #[])/\JdY E w w' t l sp es (Ide E.F t) (1000*sz t) (sz t):=by
 obtain⟨⟨q,f,u⟩,af,hq⟩:=Vbj.1 (Jjr Y);simp only[Vaf]at hq;obtain⟨rfl,rfl⟩:=hq;obtain⟨T,h1,O,V,G,h5⟩:=h.pcs _ af;have:=h1.det M;subst this;have O:f<=u:=O;have V:u<=(decS sp).size:=V;have G:(decS sp).extract f u=Ide E.F T:=G;have hz:=Jok T
 have ag:u-f<=1000*sz T:=by
  have e1:=Jlk E.F 900 (by decide) J.short M.wt
  have e2:(Ide E.F T).size=u-f:=by
   rw[<-G];simp[Va2];omega
  omega
 have HK:Hid _:=JaU hr w v h.st hv
 have HG:Hid (∀(d:World) (L:Value),RV E.ad q L->SX d E.ad E.σ->Kt E.ad (fun _=>False) w d->d.cell? ⟨E.b,3,none⟩=some (.map (some E.pm))/\(Instr.lookup 300 (.map (some E.pm)) L true).run prog d= .ok (.tuple #[.agg #[.int .i64 f,.int .i64 u],.bool true]) d/\E.TX d l sp es):=by
  intro d L I hs U;have D:=h.kn J.okk U hs;refine⟨D.tl.c.2.2.1,?_,D⟩
  obtain⟨τ,s1,_⟩:=hs;have:=JdO s1 I D.mp 300 306 _ VdX (Ic8 d);rw[Y]at this;exact this
 have HA:Hid (∀(d:World),E.TX d l sp es->Kt E.ad (SN E.B E.nm) w d->Calls prog 183 #[.pointer (some ⟨E.b,0,none⟩),.agg #[.int .i64 f,.int .i64 u]] d fun e w'=>e= .returned (.tuple #[])/\JdY E w w' T l sp es (Ide E.F T) (1000*sz T) (sz T)):=by
  intro d D U;refine(Jjp D.tl D.bs (Vah D.mp.mp) (JrD D) f u O V (by omega) (by omega)).mono ?_
  rintro e w' ⟨rfl,hL,aa,hp⟩;have hx:decS (sp++ [.cp f u])=decS sp++Ide E.F T:=by rw[Jb0,<-G];rfl
  refine⟨rfl,sp++ [.cp f u],es,?_,hx,?_,by simp;omega,fun e he=> .inl he,U.trans ((Kt.of_kq aa).mono (fun _ _ z=> .inl z))⟩
  .rw[h5];exact D.more J.okk aa hL hp
  .rw[hx,Var]
   have e2:(Ide E.F T).size=u-f:=by
    rw[<-G];simp[Va2];omega
   omega
 clear h af h1 G h5 Y M hr hv
 go_enter func145,ntmps145
 go_wp2_with fail
 refine Vac HK.out ?_
 rintro e d ⟨L,rfl,I,ae,Z⟩;obtain⟨T0,u0,rfl⟩:=I.iface;obtain⟨g1,g2,g3⟩:=HG.out d _ I ae Z;have W:Kept d (d.alloc (.cells #[.int .i64 f,.int .i64 u] 306)):=Kept.alloc _ _;have ac:Hid _:=HA.out _ (g3.kept J.okk W) ((Z.mono (fun _ _ z=>z.elim)).trans (Kt.of_kept W));clear HG HA HK ae I g3 W
 go_wp2_with fail
 refine Vac ac.out ?_
 rintro e w2 ⟨rfl,hW⟩;have HW:Hid _:=hW;clear hW ac
 go_wp2
 exact VaI (Va3 results145 _ _ _) rfl ⟨rfl,HW.out⟩
theorem Jny(E:WE)(hE:E.Ok)(hr:Rp E.σ r r0)(Y:Dn E.σ r0 t)(hF:SFst E r0 t)(w:World)(v:Value)(l:List Nat)(sp:List Sp)(es:List (TR×Nat×Nat))(hv:RV E.ad r v)(ag:E.TX w l sp es)(hp:Jao t l<+:E.L)(hn:(decS sp).size+1000*sz t<=2147483647)(hl:sp.length+1000*sz t<=1000000000)(ha:askT r0 (pvE es) 0=none):
  Calls prog 145 #[.pointer (some ⟨E.b,0,none⟩),v] w fun e w'=>e= .returned (.tuple #[])/\JdY E w w' t l sp es (Ide E.F t) (1000*sz t) (sz t):=by
 have hz:=Jok t;have HK:Hid _:=JaU hr w v ag.st hv
 have HG:Hid (∀(h:World) (M:Value),RV E.ad r0 M->SX h E.ad E.σ->Kt E.ad (fun _=>False) w h->h.cell? ⟨E.b,3,none⟩=some (.map (some E.pm))/\h.cell? ⟨E.b,2,none⟩=some (.int .i64 (decS sp).size)/\(Instr.lookup 300 (.map (some E.pm)) M true).run prog h= .ok (.tuple #[.agg #[.int .i64 0,.int .i64 0],.bool false]) h/\E.TX h l sp es):=by
  intro h M J hs hk;have D:=ag.kn hE.okk hk hs;refine⟨D.tl.c.2.2.1,D.tl.c.2.1,?_,D⟩
  obtain⟨τ,s1,_⟩:=hs;have:=JdO s1 J D.mp 300 306 _ VdX (Ic8 h);rw[ha]at this;exact this
 have HP:Hid (∀(d:World) (M:Value) (G:List Sp) (I:List (TR×Nat×Nat)),RV E.ad r0 M->E.TX d (Jao t l) G I->decS G=decS sp++Ide E.F t->(∀e,e∈I->e∈es\/∃T,Dn E.σ e.1 T/\sz T<=sz t-1)->d.cell? ⟨E.b,3,none⟩=some (.map (some E.pm))/\d.cell? ⟨E.b,2,none⟩=some (.int .i64 (decS G).size)/\(Instr.mapUpdate 300 (.map (some E.pm)) M (.agg #[.int .i64 (decS sp).size,.int .i64 (decS G).size])).run prog d= .ok () (Idd d E.pm (.map (Jb6 E.ad (pvE I++ [(r0,.agg #[.int .i64 (decS sp).size,.int .i64 (decS G).size])]) 0).toArray ((pvE I).length+1)))/\E.TX (Idd d E.pm (.map (Jb6 E.ad (pvE I++ [(r0,.agg #[.int .i64 (decS sp).size,.int .i64 (decS G).size])]) 0).toArray ((pvE I).length+1))) (Jao t l) G (I++ [(r0,(decS sp).size,(decS G).size)])/\Kt E.ad (SN E.B E.nm) d (Idd d E.pm (.map (Jb6 E.ad (pvE I++ [(r0,.agg #[.int .i64 (decS sp).size,.int .i64 (decS G).size])]) 0).toArray ((pvE I).length+1)))):=by
  intro d M G I J D O W
  have ai:askT r0 (pvE I) 0=none:=by
   rw[Jf4];intro e U z;obtain⟨e',al,rfl⟩:=Vbj.1 U;have z:e'.1=r0:=z
   rcases W e' al with q|⟨T,Z,q2⟩
   .exact(Jf4.1 ha) _ (VcO q) z
   .rw[z]at Z;have:=Z.det Y;subst this;omega
  refine⟨D.tl.c.2.2.1,D.tl.c.2.1,?_,?_,?_⟩
  .obtain⟨τ,s1,_⟩:=D.st;exact JgQ s1 J D.mp 300 306 _ VdX ai
  .refine TX.piece D hE.okk J Y (by rw[O,Var];omega) ?_ (JdQ Y.wt l _ (Vch _)) _ rfl
   rw[O];exact Jgh _ _
  .refine⟨rfl,rfl,by simp[Idd],fun q o' hq hn _=> ?_⟩
   rw[Jau _ _ _ _ (fun z=>hn (.inl (by rw[z];exact D.pB)))];exact hq
 have HF:Hid _:=hF;clear hr hv hF ag ha
 go_enter func145,ntmps145
 go_wp2_with fail
 refine Vac HK.out ?_
 rintro e h ⟨M,rfl,J,aa,ac⟩;obtain⟨T0,u0,rfl⟩:=J.iface;obtain⟨g1,g2,g3,V⟩:=HG.out h _ J aa ac;clear HG HK aa;have af:Kept h (h.alloc (.cells #[.int .i64 0,.int .i64 0] 306)):=Kept.alloc _ _;have V:=V.kept hE.okk af;have aj:Kt E.ad (SN E.B E.nm) w (h.alloc (.cells #[.int .i64 0,.int .i64 0] 306)):=(ac.mono (fun _ _ z=>z.elim)).trans (Kt.of_kept af);have c2:=V.tl.c.2.1;have ah:Hid _:=HF.out _ _ _ _ _ J V hp hn hl;clear af V HF ac
 go_wp2_with fail
 refine Vac ah.out ?_
 rintro e d ⟨rfl,G,I,D,O,aa,am,W,an⟩;have ae:Kept d d.drew:=⟨rfl,rfl,Vau _,fun _ _=>rfl⟩
 obtain⟨p1,p2,p3,p4,p5⟩:=HP.out d.drew _ G I J (D.kept hE.okk ae) O W;have p1:d.cell? ⟨E.b,3,none⟩=some (.map (some E.pm)):=p1;have p2:d.cell? ⟨E.b,2,none⟩=some (.int .i64 (decS G).size):=p2;have p5:=(Kt.of_kept (ad:=E.ad) (S:=SN E.B E.nm) ae).trans p5;have HX:Hid _:=O;have ak:Hid _:=W;have P4:Hid _:=p4;clear ah HP D O W ae p4
 go_wp2_with fail
 go_region
 go_end0
 refine⟨rfl,G,_,P4.out,HX.out,aa,am,?_,(aj.trans an).trans p5⟩
 intro e U;simp at U
 rcases U with U|rfl
 .rcases ak.out e U with q|⟨T,Z,q2⟩
  .exact .inl q
  .exact .inr ⟨T,Z,by omega⟩
 .exact .inr ⟨t,Y,Vau _⟩
theorem Jfo(E:WE)(D:E.Ok)(L:Rp E.σ r r0)(d:Dn E.σ r0 t)(hF:SFst E r0 t):STyp E r t:=by
 intro w v l sp es G h O M I
 cases J:askT r0 (pvE es) 0 with
 |none=>exact Jny E D L d hF w v l sp es G h O M I J
 |some x=>exact Jqf E D L d w v l sp es G h M I J
theorem IbN(v:Value)(w:World):(Vev (.iface 343 (.agg #[v])) 156 343 true).run prog w= .ok (.tuple #[.agg #[v],.bool true]) w:=by kernel_rfl
theorem Ib3(v:Value)(w:World):(Vev (.iface 216 v) 156 343 true).run prog w= .ok (.tuple #[.agg #[.string ⟨#[]⟩],.bool false]) w:=by kernel_rfl
theorem IbS(v:Value)(w:World):(Vev (.iface 222 v) 156 343 true).run prog w= .ok (.tuple #[.agg #[.string ⟨#[]⟩],.bool false]) w:=by kernel_rfl
theorem IbX(v:Value)(w:World):(Vev (.iface 226 v) 156 343 true).run prog w= .ok (.tuple #[.agg #[.string ⟨#[]⟩],.bool false]) w:=by kernel_rfl
theorem IbI(v:Value)(w:World):(Vev (.iface 230 v) 156 343 true).run prog w= .ok (.tuple #[.agg #[.string ⟨#[]⟩],.bool false]) w:=by kernel_rfl
theorem Ib6(v:Value)(w:World):(Vev (.iface 216 v) 156 216 true).run prog w= .ok (.tuple #[v,.bool true]) w:=by kernel_rfl
theorem Ib4(v:Value)(w:World):(Vev (.iface 216 v) 156 222 true).run prog w= .ok (.tuple #[.pointer none,.bool false]) w:=by kernel_rfl
theorem Ib5(v:Value)(w:World):(Vev (.iface 216 v) 156 226 true).run prog w= .ok (.tuple #[.pointer none,.bool false]) w:=by kernel_rfl
theorem Ib2(v:Value)(w:World):(Vev (.iface 216 v) 156 230 true).run prog w= .ok (.tuple #[.pointer none,.bool false]) w:=by kernel_rfl
theorem IbV(v:Value)(w:World):(Vev (.iface 222 v) 156 216 true).run prog w= .ok (.tuple #[.pointer none,.bool false]) w:=by kernel_rfl
theorem IbT(v:Value)(w:World):(Vev (.iface 222 v) 156 222 true).run prog w= .ok (.tuple #[v,.bool true]) w:=by kernel_rfl
theorem IbU(v:Value)(w:World):(Vev (.iface 222 v) 156 226 true).run prog w= .ok (.tuple #[.pointer none,.bool false]) w:=by kernel_rfl
theorem IbR(v:Value)(w:World):(Vev (.iface 222 v) 156 230 true).run prog w= .ok (.tuple #[.pointer none,.bool false]) w:=by kernel_rfl
theorem Ib0(v:Value)(w:World):(Vev (.iface 226 v) 156 216 true).run prog w= .ok (.tuple #[.pointer none,.bool false]) w:=by kernel_rfl
theorem IbY(v:Value)(w:World):(Vev (.iface 226 v) 156 222 true).run prog w= .ok (.tuple #[.pointer none,.bool false]) w:=by kernel_rfl
theorem IbZ(v:Value)(w:World):(Vev (.iface 226 v) 156 226 true).run prog w= .ok (.tuple #[v,.bool true]) w:=by kernel_rfl
theorem IbW(v:Value)(w:World):(Vev (.iface 226 v) 156 230 true).run prog w= .ok (.tuple #[.pointer none,.bool false]) w:=by kernel_rfl
theorem IbL(v:Value)(w:World):(Vev (.iface 230 v) 156 216 true).run prog w= .ok (.tuple #[.pointer none,.bool false]) w:=by kernel_rfl
theorem IbJ(v:Value)(w:World):(Vev (.iface 230 v) 156 222 true).run prog w= .ok (.tuple #[.pointer none,.bool false]) w:=by kernel_rfl
theorem IbK(v:Value)(w:World):(Vev (.iface 230 v) 156 226 true).run prog w= .ok (.tuple #[.pointer none,.bool false]) w:=by kernel_rfl
theorem IbH(v:Value)(w:World):(Vev (.iface 230 v) 156 230 true).run prog w= .ok (.tuple #[v,.bool true]) w:=by kernel_rfl
theorem IbM(v:Value)(w:World):(Vev (.iface 343 v) 156 230 true).run prog w= .ok (.tuple #[.pointer none,.bool false]) w:=by kernel_rfl
variable {x:TR}
theorem SX.ls{w:World}{ad:List Nat}{σ:St}(h:SX w ad σ)(J:σ[i]? =some ⟨.ls x,none⟩)(I:ad[i]? =some c):∃p,RV ad x p/\w.cell? ⟨c,1,none⟩=some p:=by
 obtain⟨τ,D,d⟩:=h;obtain⟨sv,o,G,L,p,E,rfl⟩:=D.blk i _ _ c (d.root J) I;exact⟨p,E,by simp[Vet,G]⟩
variable {y:TR}
theorem SX.pr{w:World}{ad:List Nat}{σ:St}(h:SX w ad σ)(L:σ[i]? =some ⟨.pr x y,none⟩)(J:ad[i]? =some c):∃p q,RV ad x p/\RV ad y q/\w.cell? ⟨c,1,none⟩=some p/\w.cell? ⟨c,2,none⟩=some q:=by
 obtain⟨τ,G,E⟩:=h;obtain⟨sv,o,d,M,p,q,I,D,rfl⟩:=G.blk i _ _ c (E.root L) J;exact⟨p,q,I,D,by simp[Vet,d],by simp[Vet,d]⟩
theorem SX.ar{w:World}{ad:List Nat}{σ:St}(h:SX w ad σ)(L:σ[i]? =some ⟨.ar x y,none⟩)(J:ad[i]? =some c):∃p q,RV ad x p/\RV ad y q/\w.cell? ⟨c,1,none⟩=some p/\w.cell? ⟨c,2,none⟩=some q:=by
 obtain⟨τ,G,E⟩:=h;obtain⟨sv,o,d,M,p,q,I,D,rfl⟩:=G.blk i _ _ c (E.root L) J;exact⟨p,q,I,D,by simp[Vet,d],by simp[Vet,d]⟩
theorem Kept.drw{w w':World}(h:Kept w w'):Kept w w'.drew:=⟨h.os,h.output,h.size,h.block⟩
theorem Jbe(E:WE)(D:E.Ok)(w:World)(l:List Nat)(sp:List Sp)(es:List (TR×Nat×Nat))(h:E.TX w l sp es)(s:BA)(J:0<s.size)(M:(decS sp).size+s.size<=2147483647)(I:sp.length+1<=1000000000):
  Calls prog 214 #[.pointer (some ⟨E.b,0,none⟩),.string s] w fun e w'=>e= .returned (.tuple #[])/\E.TX w' l (sp++ [.tk s]) es/\Kt E.ad (SN E.B E.nm) w w':=by
 refine(Jp8 h.tl h.bs (Vah h.mp.mp) (JrD h) s J M I).mono ?_
 rintro e w' ⟨rfl,L,d,G⟩;exact⟨rfl,h.more D.okk d L G,(Kt.of_kq d).mono (fun _ _ z=> .inl z)⟩
theorem Jbv(sp:List Sp)(s:BA):decS (sp++ [.tk s])=decS sp++s:=by rw[Jb0];rfl
theorem Jaj(sp:List Sp)(s:BA):(decS (sp++ [.tk s])).size=(decS sp).size+s.size:=by rw[Jbv];simp
theorem Je6(E:WE)(G:E.Ok)(s:BA)(D:s=⟨#[105,110,116]⟩\/s=⟨#[98,111,111,108]⟩)(r:TR)(I:∀v,RV E.ad r v->v= .iface 343 (.agg #[.string s])):SFst E r (.mk s 0 []):=by
 intro w v l sp es M h hp hn Y;have W:sz (.mk s 0 [])=1:=by simp[sz,szs]
 have T:s.size<=4/\0<s.size:=by rcases D with rfl|rfl<;>decide
 have Z:Ide E.F (.mk s 0 [])=s:=by rcases D with rfl|rfl;exact JbV _;exact Jbq _
 have U:Jao (.mk s 0 []) l=l:=by rcases D with rfl|rfl;exact JcI l;exact Jb9 l
 rw[W]at hn Y⊢;have e:=I v M;subst e;have O:Hid (∀w',Kept w w'->Calls prog 214 #[.pointer (some ⟨E.b,0,none⟩),.string s] w' fun e J=>e= .returned (.tuple #[])/\E.TX J l (sp++ [.tk s]) es/\Kt E.ad (SN E.B E.nm) w' J):=fun w' d=>Jbe E G w' l sp es (h.kept G.okk d) s T.2 (by omega) (by omega)
 have ac:=IbN (.string s) w;have L:Kept w (w.alloc (.cells #[.string s] 343)):=Kept.alloc _ _;have aa:Hid _:=O.out _ L;clear h M I O
 go_enter Vda,VcV
 go_wp2_with fail
 refine Vac aa.out ?_
 rintro e w1 ⟨rfl,V,d⟩
 go_wp2
 go_end0
 refine⟨rfl,sp++ [.tk s],es,?_,?_,?_,by simp,fun e he=> .inl he,(Kt.of_kept L).trans d⟩
 .rw[U];exact V
 .rw[Z,Jbv]
 .rw[Jaj];omega
theorem JiP(E:WE)(Z:E.Ok)(i c:Nat)(x:TR)(a:Ty)(hi:E.σ[i]? =some ⟨.ls x,none⟩)(U:E.ad[i]? =some c)(ih:STyp E x a):SFst E (.nd .ls i) (.mk ⟨#[108,105,115,116]⟩ 0 [a]):=by
 intro w v l sp es hv ag L hn hl;have al:sz (.mk ⟨#[108,105,115,116]⟩ 0 [a])=sz a+1:=by simp[sz,szs]
 obtain⟨c',O,rfl⟩:=hv;rw[show Kd.ls.tp=222 from rfl];rw[U]at O;simp at O;subst O;rw[Jbn]at L;rw[al]at hn hl⊢;rw[JbU];have s1:(⟨#[91]⟩:BA).size=1:=rfl;have s2:(⟨#[93]⟩:BA).size=1:=rfl;have H1:Hid _:=Jbe E Z w l sp es ag ⟨#[91]⟩ (by decide) (by omega) (by omega);have HX:Hid (∀d l sp es,E.TX d l sp es->∃p,RV E.ad x p/\d.cell? ⟨c,1,none⟩=some p):=fun d l sp es M=>M.st.ls hi U
 have HI:Hid (∀(d:World) (p:Value),RV E.ad x p->E.TX d l (sp++ [.tk ⟨#[91]⟩]) es->Calls prog 145 #[.pointer (some ⟨E.b,0,none⟩),p] d fun e w'=>e= .returned (.tuple #[])/\JdY E d w' a l (sp++ [.tk ⟨#[91]⟩]) es (Ide E.F a) (1000*sz a) (sz a)):=fun d p ah M=>ih d p l _ es ah M L (by rw[Jaj];omega) (by simp;omega)
 have Y:Hid (∀(I:World) (l2:List Nat) (h:List Sp) (G:List (TR×Nat×Nat)),E.TX I l2 h G->(decS h).size<=(decS (sp++ [.tk ⟨#[91]⟩])).size+1000*sz a->h.length<=(sp++ [Sp.tk ⟨#[91]⟩]).length+1000*sz a->Calls prog 214 #[.pointer (some ⟨E.b,0,none⟩),.string ⟨#[93]⟩] I fun e w'=>e= .returned (.tuple #[])/\E.TX w' l2 (h++ [.tk ⟨#[93]⟩]) G/\Kt E.ad (SN E.B E.nm) I w'):=fun I l2 h G M D J=>Jbe E Z I l2 h G M ⟨#[93]⟩ (by decide) (by rw[Jaj]at D;omega) (by simp at J;omega)
 have t1:=IbS (.pointer (some ⟨c,0,none⟩)) w;have t2:=IbV (.pointer (some ⟨c,0,none⟩)) w;have t3:=IbT (.pointer (some ⟨c,0,none⟩)) w;clear ag ih hi U L
 go_enter Vda,VcV
 go_wp2_with fail
 refine Vac H1.out ?_
 rintro e d ⟨rfl,T,aj⟩;obtain⟨p,L,ao⟩:=HX.out d _ _ _ T;have ae:Hid _:=HI.out d p L T;clear H1 HX HI T;obtain⟨ac,u,rfl⟩:=L.iface
 go_wp2_with fail
 refine Vac ae.out ?_
 rintro e I ⟨rfl,h,G,W,V,D,J,af,ai⟩;have aa:Hid _:=Y.out I _ h G W D J;have HD:Hid _:=V;have ak:Hid _:=af;have Q1:Hid _:=D;have Q2:Hid _:=J;clear Y ae W V af D J
 go_wp2_with fail
 refine Vac aa.out ?_
 rintro e w3 ⟨rfl,am,an⟩;clear aa
 go_wp2
 go_end0
 have D:=Q1.out;have J:=Q2.out;rw[Jaj]at D;simp at J;refine⟨rfl,h++ [.tk ⟨#[93]⟩],G,?_,?_,?_,by simp;omega,?_,(aj.trans ai).trans an⟩
 .rw[Jbn];exact am
 .rw[Jbv,HD.out,Jbv];simp[Vb1]
 .rw[Jaj];omega
 .intro e he
  rcases ak.out e he with q|⟨ac,h1,h2⟩
  .exact .inl q
  .exact .inr ⟨ac,h1,by omega⟩
theorem JiQ(E:WE)(hE:E.Ok)(i c:Nat)(x y:TR)(a d:Ty)(hi:E.σ[i]? =some ⟨.pr x y,none⟩)(hc:E.ad[i]? =some c)(az:∀l,Jao a l<+:Jao d (Jao a l))(ih:STyp E x a)(am:STyp E y d):SFst E (.nd .pr i) (.mk ⟨#[112,97,105,114]⟩ 0 [a,d]):=by
 intro w v l sp es hv an W hn hl;have aA:sz (.mk ⟨#[112,97,105,114]⟩ 0 [a,d])=sz a+sz d+1:=by simp[sz,szs]
 obtain⟨c',ae,rfl⟩:=hv;rw[show Kd.pr.tp=226 from rfl];rw[hc]at ae;simp at ae;subst ae;rw[Jbo]at W;rw[aA]at hn hl⊢;rw[JbC];have s1:(⟨#[40]⟩:BA).size=1:=rfl;have s2:(⟨#[41]⟩:BA).size=1:=rfl;have s3:(⟨#[44,32]⟩:BA).size=2:=rfl;have H1:Hid _:=Jbe E hE w l sp es an ⟨#[40]⟩ (by decide) (by omega) (by omega);have HX:Hid (∀D l sp es,E.TX D l sp es->∃p q,RV E.ad x p/\RV E.ad y q/\D.cell? ⟨c,1,none⟩=some p/\D.cell? ⟨c,2,none⟩=some q):=fun D l sp es L=>L.st.pr hi hc
 have HI:Hid (∀(D:World) (p:Value),RV E.ad x p->E.TX D l (sp++ [.tk ⟨#[40]⟩]) es->Calls prog 145 #[.pointer (some ⟨E.b,0,none⟩),p] D fun e w'=>e= .returned (.tuple #[])/\JdY E D w' a l (sp++ [.tk ⟨#[40]⟩]) es (Ide E.F a) (1000*sz a) (sz a)):=fun D p aH L=>ih D p l _ es aH L ((az l).trans W) (by rw[Jaj];omega) (by simp;omega)
 have HC:Hid (∀(Z:World) (l2:List Nat) (h:List Sp) (G:List (TR×Nat×Nat)),E.TX Z l2 h G->(decS h).size<=(decS (sp++ [.tk ⟨#[40]⟩])).size+1000*sz a->h.length<=(sp++ [Sp.tk ⟨#[40]⟩]).length+1000*sz a->Calls prog 214 #[.pointer (some ⟨E.b,0,none⟩),.string ⟨#[44,32]⟩] Z fun e w'=>e= .returned (.tuple #[])/\E.TX w' l2 (h++ [.tk ⟨#[44,32]⟩]) G/\Kt E.ad (SN E.B E.nm) Z w'):=fun Z l2 h G L J I=>Jbe E hE Z l2 h G L ⟨#[44,32]⟩ (by decide) (by rw[Jaj]at J;omega) (by simp at I;omega)
 have aq:Hid (∀(O:World) (q:Value) (h:List Sp) (G:List (TR×Nat×Nat)),RV E.ad y q->E.TX O (Jao a l) (h++ [.tk ⟨#[44,32]⟩]) G->(decS h).size<=(decS (sp++ [.tk ⟨#[40]⟩])).size+1000*sz a->h.length<=(sp++ [Sp.tk ⟨#[40]⟩]).length+1000*sz a->Calls prog 145 #[.pointer (some ⟨E.b,0,none⟩),q] O fun e w'=>e= .returned (.tuple #[])/\JdY E O w' d (Jao a l) (h++ [.tk ⟨#[44,32]⟩]) G (Ide E.F d) (1000*sz d) (sz d)):=fun O q h G hq L J I=>am O q _ _ G hq L W (by rw[Jaj]at J⊢;omega) (by simp at I⊢;omega)
 have al:Hid (∀(U:World) (l4:List Nat) (h M:List Sp) (V:List (TR×Nat×Nat)),E.TX U l4 M V->(decS h).size<=(decS (sp++ [.tk ⟨#[40]⟩])).size+1000*sz a->h.length<=(sp++ [Sp.tk ⟨#[40]⟩]).length+1000*sz a->(decS M).size<=(decS (h++ [.tk ⟨#[44,32]⟩])).size+1000*sz d->M.length<=(h++ [Sp.tk ⟨#[44,32]⟩]).length+1000*sz d->Calls prog 214 #[.pointer (some ⟨E.b,0,none⟩),.string ⟨#[41]⟩] U fun e w'=>e= .returned (.tuple #[])/\E.TX w' l4 (M++ [.tk ⟨#[41]⟩]) V/\Kt E.ad (SN E.B E.nm) U w'):=fun U l4 h M V L J I T Y=>Jbe E hE U l4 M V L ⟨#[41]⟩ (by decide) (by rw[Jaj]at J T;omega) (by simp at I Y;omega)
 have t1:=IbX (.pointer (some ⟨c,0,none⟩)) w;have t2:=Ib0 (.pointer (some ⟨c,0,none⟩)) w;have t3:=IbY (.pointer (some ⟨c,0,none⟩)) w;have t4:=IbZ (.pointer (some ⟨c,0,none⟩)) w;clear an ih am hi hc W az
 go_enter Vda,VcV
 go_wp2_with fail
 refine Vac H1.out ?_
 rintro e D ⟨rfl,af,aI⟩;obtain⟨p,q,W,hq,aK,_⟩:=HX.out D _ _ _ af;have ai:Hid _:=HI.out D p W af;clear H1 HI af;obtain⟨aa,u,rfl⟩:=W.iface
 go_wp2_with fail
 refine Vac ai.out ?_
 rintro e Z ⟨rfl,h,G,ag,ao,J,I,aw,aC⟩;have ak:Hid _:=HC.out Z _ h G ag J I;have HD:Hid _:=ao;have aJ:Hid _:=aw;have Q1:Hid _:=J;have Q2:Hid _:=I;clear HC ai ag ao aw J I aK
 go_wp2_with fail
 refine Vac ak.out ?_
 rintro e O ⟨rfl,ac,aG⟩;obtain⟨p',q',_,av,_,aM⟩:=HX.out O _ _ _ ac;have au:Hid _:=aq.out O q' h G av ac Q1.out Q2.out;clear ak HX aq ac hq;obtain⟨T2,u2,rfl⟩:=av.iface
 go_wp2_with fail
 refine Vac au.out ?_
 rintro e U ⟨rfl,M,V,ay,ax,T,Y,ah,aL⟩;have aj:Hid _:=al.out U _ h M V ay Q1.out Q2.out T Y;have aB:Hid _:=ax;have aE:Hid _:=ah;have Q3:Hid _:=T;have Q4:Hid _:=Y;clear al au ay ax ah T Y
 go_wp2_with fail
 refine Vac aj.out ?_
 rintro e w5 ⟨rfl,aF,aD⟩;clear aj
 go_wp2
 go_end0
 have J:=Q1.out;have I:=Q2.out;have T:=Q3.out;have Y:=Q4.out;rw[Jaj]at J T;simp at I Y;refine⟨rfl,M++ [.tk ⟨#[41]⟩],V,?_,?_,?_,by simp;omega,?_,(((aI.trans aC).trans aG).trans aL).trans aD⟩
 .rw[Jbo];exact aF
 .rw[Jbv,aB.out,Jbv,HD.out,Jbv];simp[Vb1]
 .rw[Jaj];omega
 .intro e he
  rcases aE.out e he with q|⟨aa,h1,h2⟩
  .rcases aJ.out e q with q|⟨aa,h1,h2⟩
   .exact .inl q
   .exact .inr ⟨aa,h1,by omega⟩
  .exact .inr ⟨aa,h1,by omega⟩
theorem Jeq(E:WE)(hE:E.Ok)(r r0:TR)(t:Ty)(O:Rp E.σ r r0)(W:∀v,RV E.ad r0 v->∀w,(Vev v 156 230 true).run prog w= .ok (.tuple #[.pointer none,.bool false]) w)(D:(t.kind.data.toList==(⟨#[102,117,110]⟩:BA).data.toList)=false)(Z:STyp E r t):SLef E r t:=by
 intro w v l sp es G h hp hn hl;rw[D];have T:Hid _:=JaU O w v h.st G;have HI:Hid (∀d,SX d E.ad E.σ->Kt E.ad (fun _=>False) w d->Calls prog 145 #[.pointer (some ⟨E.b,0,none⟩),v] d fun e w'=>e= .returned (.tuple #[])/\JdY E d w' t l sp es (Ide E.F t) (1000*sz t) (sz t)):=fun d hs D=>Z d v l sp es G (h.kn hE.okk D hs) hp (by omega) (by omega)
 have V:Hid _:=W;clear h Z D W O;obtain⟨ah,u,rfl⟩:=G.iface
 go_enter func215,ntmps215
 go_wp2_with fail
 refine Vac T.out ?_
 rintro e d ⟨v0,rfl,L,M,J⟩;obtain⟨T0,u0,rfl⟩:=L.iface;have t1:=V.out _ L d;have U:Hid _:=HI.out d M J;clear T HI V M
 go_wp2_with fail
 refine Vac U.out ?_
 rintro e w2 ⟨rfl,ac,ag,af,I,q1,q2,Y,aa⟩;have HD:Hid _:=I;have ae:Hid _:=Y;clear U I Y
 go_wp2
 exact VaI (Va3 results215 _ _ _) rfl ⟨rfl,ac,ag,af,HD.out,by omega,by omega,ae.out,(J.mono (fun _ _ z=>z.elim)).trans aa⟩
theorem Jmd(E:WE)(T:E.Ok)(r:TR)(j:Nat)(t:Ty)(hr:Rp E.σ r (.nd .ar j))(M:(t.kind.data.toList==(⟨#[102,117,110]⟩:BA).data.toList)=true)(ih:STyp E r t):SLef E r t:=by
 intro w v l sp es U h hp hn hl;rw[M];have s1:(⟨#[40]⟩:BA).size=1:=rfl;have s2:(⟨#[41]⟩:BA).size=1:=rfl;have HK:Hid _:=JaU hr w v h.st U;have H1:Hid (∀d,SX d E.ad E.σ->Kt E.ad (fun _=>False) w d->Calls prog 214 #[.pointer (some ⟨E.b,0,none⟩),.string ⟨#[40]⟩] d fun e w'=>e= .returned (.tuple #[])/\E.TX w' l (sp++ [.tk ⟨#[40]⟩]) es/\Kt E.ad (SN E.B E.nm) d w'):=fun d hs M=>Jbe E T d l sp es (h.kn T.okk M hs) ⟨#[40]⟩ (by decide) (by omega) (by omega)
 have HI:Hid (∀(d:World),E.TX d l (sp++ [.tk ⟨#[40]⟩]) es->Calls prog 145 #[.pointer (some ⟨E.b,0,none⟩),v] d fun e w'=>e= .returned (.tuple #[])/\JdY E d w' t l (sp++ [.tk ⟨#[40]⟩]) es (Ide E.F t) (1000*sz t) (sz t)):=fun d O=>ih d v l _ es U O hp (by rw[Jaj];omega) (by simp;omega)
 have HC:Hid (∀(J:World) (l2:List Nat) (D:List Sp) (I:List (TR×Nat×Nat)),E.TX J l2 D I->(decS D).size<=(decS (sp++ [.tk ⟨#[40]⟩])).size+1000*sz t->D.length<=(sp++ [Sp.tk ⟨#[40]⟩]).length+1000*sz t->Calls prog 214 #[.pointer (some ⟨E.b,0,none⟩),.string ⟨#[41]⟩] J fun e w'=>e= .returned (.tuple #[])/\E.TX w' l2 (D++ [.tk ⟨#[41]⟩]) I/\Kt E.ad (SN E.B E.nm) J w'):=fun J l2 D I O G L=>Jbe E T J l2 D I O ⟨#[41]⟩ (by decide) (by rw[Jaj]at G;omega) (by simp at L;omega)
 clear h ih M hr;obtain⟨an,u,rfl⟩:=U.iface
 go_enter func215,ntmps215
 go_wp2_with fail
 refine Vac HK.out ?_
 rintro e d ⟨v0,rfl,aj,aa,Y⟩;obtain⟨c,_,rfl⟩:=aj;rw[show Kd.ar.tp=230 from rfl];have t1:=IbH (.pointer (some ⟨c,0,none⟩)) d;have ae:Hid _:=H1.out d aa Y;clear HK H1 aa
 go_wp2_with fail
 refine Vac ae.out ?_
 rintro e J ⟨rfl,Z,ah⟩;have W:Hid _:=HI.out J Z;clear HI ae Z
 go_wp2_with fail
 refine Vac W.out ?_
 rintro e w3 ⟨rfl,D,I,af,V,G,L,ag,am⟩;have ac:Hid _:=HC.out w3 _ D I af G L;have HD:Hid _:=V;have ai:Hid _:=ag;have Q1:Hid _:=G;have Q2:Hid _:=L;clear HC W af V ag G L
 go_wp2_with fail
 refine Vac ac.out ?_
 rintro e w4 ⟨rfl,al,ak⟩;clear ac
 go_wp2
 go_end0
 have G:=Q1.out;have L:=Q2.out;rw[Jaj]at G;simp at L;refine⟨rfl,D++ [.tk ⟨#[41]⟩],I,al,?_,?_,by simp;omega,ai.out,(((Y.mono (fun _ _ z=>z.elim)).trans ah).trans am).trans ak⟩
 .rw[Jbv,HD.out,Jbv];simp[brkT,Vb1]
 .rw[Jaj];omega
theorem JlZ(E:WE)(hE:E.Ok)(i c:Nat)(x y:TR)(a d:Ty)(hi:E.σ[i]? =some ⟨.ar x y,none⟩)(hc:E.ad[i]? =some c)(am:∀l,Jao a l<+:Jao d (Jao a l))(ih:SLef E x a)(al:STyp E y d):SFst E (.nd .ar i) (.mk ⟨#[102,117,110]⟩ 0 [a,d]):=by
 intro w v l sp es hv ac V hn hl;have aA:sz (.mk ⟨#[102,117,110]⟩ 0 [a,d])=sz a+sz d+1:=by simp[sz,szs]
 obtain⟨c',Y,rfl⟩:=hv;rw[show Kd.ar.tp=230 from rfl];rw[hc]at Y;simp at Y;subst Y;rw[Jcl]at V;rw[aA]at hn hl⊢;rw[Jdt];have s3:(⟨#[32,45,62,32]⟩:BA).size=4:=rfl;have HX:Hid (∀O l sp es,E.TX O l sp es->∃p q,RV E.ad x p/\RV E.ad y q/\O.cell? ⟨c,1,none⟩=some p/\O.cell? ⟨c,2,none⟩=some q):=fun O l sp es M=>M.st.ar hi hc
 obtain⟨p,q,ag,av,az,_⟩:=HX.out w _ _ _ ac;have HI:Hid _:=ih w p l sp es ag ac ((am l).trans V) (by omega) (by omega);obtain⟨T,u,rfl⟩:=ag.iface;generalize hg:brkT (a.kind.data.toList==(⟨#[102,117,110]⟩:BA).data.toList) (Ide E.F a)=left at*;have HC:Hid (∀(I:World) (l2:List Nat) (h:List Sp) (D:List (TR×Nat×Nat)),E.TX I l2 h D->(decS h).size<=(decS sp).size+(1000*sz a+2)->h.length<=sp.length+(1000*sz a+2)->Calls prog 214 #[.pointer (some ⟨E.b,0,none⟩),.string ⟨#[32,45,62,32]⟩] I fun e w'=>e= .returned (.tuple #[])/\E.TX w' l2 (h++ [.tk ⟨#[32,45,62,32]⟩]) D/\Kt E.ad (SN E.B E.nm) I w'):=fun I l2 h D M J L=>Jbe E hE I l2 h D M ⟨#[32,45,62,32]⟩ (by decide) (by omega) (by omega)
 have af:Hid (∀(G:World) (q:Value) (h:List Sp) (D:List (TR×Nat×Nat)),RV E.ad y q->E.TX G (Jao a l) (h++ [.tk ⟨#[32,45,62,32]⟩]) D->(decS h).size<=(decS sp).size+(1000*sz a+2)->h.length<=sp.length+(1000*sz a+2)->Calls prog 145 #[.pointer (some ⟨E.b,0,none⟩),q] G fun e w'=>e= .returned (.tuple #[])/\JdY E G w' d (Jao a l) (h++ [.tk ⟨#[32,45,62,32]⟩]) D (Ide E.F d) (1000*sz d) (sz d)):=fun G q h D hq M J L=>al G q _ _ D hq M V (by rw[Jaj];omega) (by simp;omega)
 have t1:=IbI (.pointer (some ⟨c,0,none⟩)) w;have t2:=IbL (.pointer (some ⟨c,0,none⟩)) w;have t3:=IbJ (.pointer (some ⟨c,0,none⟩)) w;have t4:=IbK (.pointer (some ⟨c,0,none⟩)) w;have t5:=IbH (.pointer (some ⟨c,0,none⟩)) w;clear ac ih al hi hc V am av
 go_enter Vda,VcV
 go_wp2_with fail
 refine Vac HI.out ?_
 rintro e I ⟨rfl,h,D,ai,ae,J,L,ao,au⟩;have ah:Hid _:=HC.out I _ h D ai J L;have HD:Hid _:=ae;have aw:Hid _:=ao;have Q1:Hid _:=J;have Q2:Hid _:=L;clear HC HI ai ae ao J L az
 go_wp2_with fail
 refine Vac ah.out ?_
 rintro e G ⟨rfl,aa,aD⟩;obtain⟨p',q',_,an,_,aG⟩:=HX.out G _ _ _ aa;have ak:Hid _:=af.out G q' h D an aa Q1.out Q2.out;clear ah HX af aa;obtain⟨T2,u2,rfl⟩:=an.iface
 go_wp2_with fail
 refine Vac ak.out ?_
 rintro e w4 ⟨rfl,ax,aF,aC,aq,U,W,aj,aB⟩;have aE:Hid _:=aq;have ay:Hid _:=aj;have Q3:Hid _:=U;have Q4:Hid _:=W;clear ak aq aj U W
 go_wp2
 go_end0
 have J:=Q1.out;have L:=Q2.out;have U:=Q3.out;have W:=Q4.out;rw[Jaj]at U;simp at W;refine⟨rfl,ax,aF,?_,?_,by omega,by omega,?_,(au.trans aD).trans aB⟩
 .rw[Jcl];exact aC
 .rw[aE.out,Jbv,HD.out];simp[Vb1]
 .intro e he
  rcases ay.out e he with q|⟨T,Z,h2⟩
  .rcases aw.out e q with q|⟨T,Z,h2⟩
   .exact .inl q
   .exact .inr ⟨T,Z,by omega⟩
  .exact .inr ⟨T,Z,by omega⟩
theorem Jqe(E:WE)(G:E.Ok)(aa:E.ad.length=E.σ.length)(Z:∀(i:Nat) (nm:BA) (g:Bool),E.σ[i]? =some ⟨.vr nm g,none⟩->SFst E (.nd .vr i) (.mk ⟨#[]⟩ i []))(h:Dn E.σ r t):STyp E r t/\SLef E r t:=by
 have U:∀(i:Nat) (nd:Nd),E.σ[i]? =some nd->∃c,E.ad[i]? =some c:=fun i nd J=>⟨E.ad[i]'(by have:=(Vae.1 J).1;omega),by simp⟩
 induction h with
 |int r D=>
  have:=Jfo E G D (.int _ D.root_of) (Je6 E G ⟨#[105,110,116]⟩ (.inl rfl) .int (fun v I=>I));exact⟨this,Jeq E G r _ _ D (fun v I w=>by rw[show v=_ from I];exact IbM _ w) (by decide) this⟩
 |bool r D=>
  have:=Jfo E G D (.bool _ D.root_of) (Je6 E G ⟨#[98,111,111,108]⟩ (.inr rfl) .bool (fun v I=>I));exact⟨this,Jeq E G r _ _ D (fun v I w=>by rw[show v=_ from I];exact IbM _ w) (by decide) this⟩
 |var r i D=>
  have I:∃nm g,E.σ[i]? =some ⟨.vr nm g,none⟩:=by
   obtain⟨nk,V,Y⟩:=D.rt
   cases nk with
   |vr nm g=>exact⟨nm,g,Y⟩
   |ls _=>cases V
   |pr _ _=>cases V
   |ar _ _=>cases V
  obtain⟨nm,g,I⟩:=I;have:=Jfo E G D (.var _ i D.root_of) (Z i nm g I);exact⟨this,Jeq E G r _ _ D (fun v I w=>by obtain⟨c,_,rfl⟩:=I;exact Ib2 _ w) (by simp[Ty.kind]) this⟩
 |list r i x a D J O M=>
  obtain⟨c,T⟩:=U i _ J;have:=Jfo E G D (.list _ i x a D.root_of J O) (JiP E G i c x a J T M.1);exact⟨this,Jeq E G r _ _ D (fun v I w=>by obtain⟨c,_,rfl⟩:=I;exact IbR _ w) (by simp[Ty.kind]) this⟩
 |pair r i x y a d D J O L M W=>
  obtain⟨c,T⟩:=U i _ J;have:=Jfo E G D (.pair _ i x y a d D.root_of J O L) (JiQ E G i c x y a d J T (fun l=>Jca L.wt _) M.1 W.1);exact⟨this,Jeq E G r _ _ D (fun v I w=>by obtain⟨c,_,rfl⟩:=I;exact IbW _ w) (by simp[Ty.kind]) this⟩
 |fn r i x y a d D J O L M W=>
  obtain⟨c,T⟩:=U i _ J;have:=Jfo E G D (.fn _ i x y a d D.root_of J O L) (JlZ E G i c x y a d J T (fun l=>Jca L.wt _) M.2 W.1);exact⟨this,Jmd E G r i _ D (by simp[Ty.kind]) this⟩
end Go.Proofs.YtleenphlgbklmaaGreatDoor
