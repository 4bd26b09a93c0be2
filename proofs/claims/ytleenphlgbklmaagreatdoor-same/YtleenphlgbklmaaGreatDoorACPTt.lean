import Derived.Test.YtleenphlgbklmaaGreatDoorACPPx
import Derived.Deep.RegionHeld2
set_option linter.unusedVariables false
set_option linter.unusedSimpArgs false
set_option maxRecDepth 100000
set_option maxHeartbeats 8000000
namespace Go.Proofs.YtleenphlgbklmaaGreatDoor
open Go.RowKit
open World renaming cell? → Vet
open Instr renaming findNow → Veu, sameNow → Vev, lookup → Vew
open Kept renaming alloc → Vex, drew → Vey
open Tryz
variable {w1 w2:World}{n:BA}{v vx vy:Value}{a b:List Nat}{dpt:Nat}
def SSame(n:Nat):Prop:=∀(σ:St) (x y:TR) (m:List (Nat×Nat)) (p:Bool×List (Nat×Nat)),Jch n σ x y m=some p->∀(w:World) (ad:List Nat) (v u:Value) (mb:Nat),SX w ad σ->RV ad x v->RV ad y u->VV w mb ad σ m->VKv σ m->
 Calls prog 248 #[.map (some mb),v,u] w (PrO w mb ad σ p)
variable {mb:Nat}
theorem PrO.pre{w w':World}{ad:List Nat}{σ:St}{p:Bool×List (Nat×Nat)}{e:Ending}(k:Kt ad (fun q=>q=mb) w w1)(h:PrO w1 mb ad σ p e w'):PrO w mb ad σ p e w':=⟨h.1,h.2.1,h.2.2.1,h.2.2.2.1,k.trans h.2.2.2.2⟩
variable {i:Nat}
theorem Jgo{σ:St}{g:Bool}(h:genB σ i=some g):∃nm,σ[i]? =some ⟨.vr nm g,none⟩:=by
 simp only[genB]at h
 split at h
 .rename_i nm D d;simp only[Vaa]at h;subst h;exact⟨nm,d⟩
 .simp at h
theorem Jp0:∀n,SSame n:=by
 intro n
 induction n with
 |zero=>intro σ x y m p h;simp[Jch]at h
 |succ n ih=>
  rintro σ x y m ⟨pb,W⟩ h w ad v u mb hs hv hu hm ba;simp only[Jch,Vab]at h;obtain⟨x0,hx,y0,hy,h⟩:=h;have hx:=Jcg _ hx;have hy:=Jcg _ hy;have a9:Hid _:=JaU hx w v hs hv;have a4:Hid _:=fun(w1:World) (h1:SX w1 ad σ)=>JaU hy w1 u h1 hu
  have a6:Hid _:=hx.root_of;have be:Hid _:=hy.root_of;have HM:Hid _:=hm;have aK:Hid _:=ba;have aj:Hid _:=ih;obtain⟨bA,z,rfl⟩:=hv.iface;obtain⟨T',z',rfl⟩:=hu.iface;have bj:Hid (∀{w1 w2:World},Kt ad (fun _=>False) w1 w2->Kt ad (fun q=>q=mb) w1 w2):=fun k=>k.mono (fun _ _ z=>z.elim)
  clear hs hv hu hx hy ih hm ba
  go_enter func248,ntmps248
  go_wp2_with fail
  refine Vac a9.out ?_
  rintro e w1 ⟨v0,rfl,a0,bg,bh⟩;have D:Hid _:=a4.out w1 bg;have ae:Hid _:=a0;have aO:Hid _:=bh;obtain⟨T0,z0,rfl⟩:=a0.iface;clear a0 bg bh a9 a4
  go_wp2_with fail
  refine Vac D.out ?_
  rintro e w2 ⟨u0,rfl,aG,aQ,aS⟩;have al:Hid _:=aG;have V:Hid _:=aQ;have aI:Hid _:=bj.out (aO.out.trans aS);have aw:Hid _:=VV.kt HM.out (aO.out.trans aS) id;have bb:=JnW aQ ae.out aG;obtain⟨T1,z1,rfl⟩:=aG.iface;clear aG aQ aS D aO HM
  have HT:Hid (∀b,(pb,W)=(b,m)->PrO w mb ad σ (pb,W) (.returned (.bool b)) w2):=fun b e=>by
   rw[e];exact⟨rfl,V.out,aw.out,aK.out,aI.out⟩
  split at h
  .rename_i E;simp only[Vaa]at h;rw[E]at bb;have d:Hid _:=HT.out true h.symm;clear h
   go_wp2
   go_ret
   exact d.out
  .rename_i E;have E:x0.eqb y0=false:=by simpa using E
   rw[E]at bb
   split at h
   .rename_i i M;obtain⟨b,ac,aA,an,aq⟩:=JgX ae.out M;have aq:=aq w2
    split at h
    .rename_i Z;obtain⟨q,am⟩:=JgW al.out Z;have am:=am w2;simp only[Vaa]at h;have d:Hid _:=HT.out false h.symm;clear h aA an ac M Z E
     go_wp2
     go_ret
     exact d.out
    .rename_i j Z;obtain⟨c,ai,a1,az,am⟩:=JgX al.out Z;have am:=am w2;simp only[Vab]at h;obtain⟨gi,aB,h⟩:=h;obtain⟨nm,av⟩:=Jgo aB;have c1:=SX.vcell V.out av ac
     split at h
     .rename_i U;rw[U]at c1;simp only[Vab]at h;obtain⟨gj,aP,h⟩:=h;obtain⟨bx,aM⟩:=Jgo aP;have c2:=SX.vcell V.out aM ai
      split at h
      .rename_i G;rw[G]at c2;simp only[Vaa]at h
       have a3:i≠j:=fun z=>by
        subst z;rw[an,az]at E;rw[TR.eqb_ff]at E;exact E rfl
       have D:Hid _:=JpC V.out aw.out aK.out av rfl ac aM rfl ai a3;rw[h]at D;clear h aA an ac M Z E a1 az ai av aM aB aP U G a3
       go_wp2_with fail
       refine Vac D.out ?_
       rintro e w3 ⟨rfl,L⟩;have d:Hid (PrO w mb ad σ (pb,W) (.returned (.bool pb)) w3):=PrO.pre aI.out ⟨rfl,L⟩;clear D L
       go_wp2
       go_ret
       exact d.out
      .rename_i G;have G:gj=false:=by simpa using G
       rw[G]at c2;simp only[Vaa]at h;have d:Hid _:=HT.out false h.symm;clear h aA an ac M Z E a1 az ai av aM aB aP U G
       go_wp2
       go_ret
       exact d.out
     .rename_i U;have U:gi=false:=by simpa using U
      rw[U]at c1;simp only[Vaa]at h;have d:Hid _:=HT.out false h.symm;clear h aA an ac M Z E a1 az ai av aB U
      go_wp2
      go_ret
      exact d.out
   .rename_i M;obtain⟨q,aq⟩:=JgW ae.out M;have aq:=aq w2;have HA:Hid _:=JhS ae.out al.out M w2;clear M E
    go_wp2_with fail
    refine Vac HA.out ?_
    rintro e w' ⟨rfl,a7⟩;rw[a7];clear a7 w' HA
    split at h
    .rename_i T;rw[T];simp only[Vab]at h;obtain⟨os,aH,ks,aL,h⟩:=h
     split at h
     .rename_i a c;obtain⟨Ty,uy,fy,bm,T5,u5,ey,aN,aR,ah,I⟩:=Jec V.out be.out al.out aH;simp only[Va7]at ey;obtain⟨rfl,rfl⟩:=ey;have I:Hid _:=I;have aU:Hid _:=ah;have ak:Hid _:=aL;clear aH ah T aL
      go_wp2_with fail
      refine Vac I.out ?_
      rintro e w3 ⟨g,rfl,aD,au,aa⟩;have ao:Hid _:=SX.kept V.out aa;have aJ:Hid _:=aa;clear I aa aN aR aD;obtain⟨Tx,ux,fx,bi,T2,u2,ex,aX,aY,ax,J⟩:=Jec ao.out a6.out ae.out ak.out;simp only[Va7]at ex;obtain⟨rfl,rfl⟩:=ex;have J:Hid _:=J;have aV:Hid _:=ax;have aT:Hid _:=au;clear ax ak au
      go_wp2_with fail
      refine Vac J.out ?_
      rintro e w4 ⟨g2,rfl,G,af,O⟩;have ag:=O.blk aT.out;have Y:=aJ.out.trans O;have D:Hid _:=aj.out σ a c m (pb,W) h w4 ad _ _ mb (SX.kept ao.out O) aV.out aU.out (VV.kt aw.out (Kt.of_kept (ad:=ad) (S:=fun _=>False) Y) id) aK.out;have aZ:Hid _:=aI.out.trans (Kt.of_kept Y);clear J O aX aY G h aj Y;have d0:w4.cell? ⟨g,0,none⟩=some (.iface T5 u5):=by simp[Vet,ag]
      have d1:w4.cell? ⟨g2,0,none⟩=some (.iface T2 u2):=by simp[Vet,af]
      clear ag af
      go_wp2_with fail
      refine VaO 2 ?_
      rw[VaB]
      go_wp2_with fail
      refine Vac D.out ?_
      rintro e w5 ⟨rfl,L⟩;have d:Hid (PrO w mb ad σ (pb,W) (.returned (.bool pb)) w5):=PrO.pre aZ.out ⟨rfl,L⟩;clear D L HT
      cases pb with
      |true=>
       go_wp2
       rw[VaB]
       go_wp2
       go_ret
       exact d.out
      |false=>
       go_wp2
       go_ret
       exact d.out
     .rename_i a b c bk;simp only[Vab]at h;obtain⟨⟨b1,m1⟩,h1,h⟩:=h;obtain⟨Ty,uy,fy,bm,T5,u5,T6,u6,ey,aN,aR,ah,a8,I⟩:=Jed V.out be.out al.out aH;simp only[Va7]at ey;obtain⟨rfl,rfl⟩:=ey;have I:Hid _:=I;have aU:Hid _:=ah;have bu:Hid _:=a8;have ak:Hid _:=aL;have HH:Hid _:=h;have bp:Hid _:=h1;clear aH ah T aL a8 h h1
      go_wp2_with fail
      refine Vac I.out ?_
      rintro e w3 ⟨g,rfl,aD,au,aa⟩;have ao:Hid _:=SX.kept V.out aa;have aJ:Hid _:=aa
      have a5:Hid (mb<w2.heap.size):=by
       obtain⟨l,hl,_⟩:=aw.out;exact Vah hl
      have bw:Hid (¬g=mb):=fun z=>by have:=a5.out;have:=aD;omega
      clear I aa aN aR aD;obtain⟨Tx,ux,fx,bi,T2,u2,T4,u4,ex,aX,aY,ax,a2,J⟩:=Jed ao.out a6.out ae.out ak.out;simp only[Va7]at ex;obtain⟨rfl,rfl⟩:=ex;have J:Hid _:=J;have aV:Hid _:=ax;have bv:Hid _:=a2;have aT:Hid _:=au;clear ax ak au a2
      go_wp2_with fail
      refine Vac J.out ?_
      rintro e w4 ⟨g2,rfl,G,af,O⟩;have ag:=O.blk aT.out;have Y:=aJ.out.trans O;have bn:Hid (¬g2=mb):=fun z=>by have:=a5.out;have:=aJ.out.size;have:=G;omega
      have D:Hid _:=aj.out σ a c m (b1,m1) bp.out w4 ad _ _ mb (SX.kept ao.out O) aV.out aU.out (VV.kt aw.out (Kt.of_kept (ad:=ad) (S:=fun _=>False) Y) id) aK.out;have aZ:Hid _:=aI.out.trans (Kt.of_kept Y);clear J O aX aY G Y;have d0:w4.cell? ⟨g,0,none⟩=some (.iface T5 u5):=by simp[Vet,ag]
      have d1:w4.cell? ⟨g2,0,none⟩=some (.iface T2 u2):=by simp[Vet,af]
      have I:Hid _:=ag;have J:Hid _:=af;clear ag af
      go_wp2_with fail
      refine VaO 3 ?_
      rw[VaB]
      go_wp2_with fail
      refine Vac D.out ?_
      intro e w5 L;obtain⟨rfl,aC,ay,aF,aE⟩:=L;have aW:=aZ.out.trans aE;have br:Hid (PrO w mb ad σ (b1,m1) (.returned (.bool b1)) w5):=⟨rfl,aC,ay,aF,aW⟩
      have bs:Hid _:=aW;have bf:=aE.typs I.out bw.out;have bc:=aE.typs J.out bn.out;have d2:w5.cell? ⟨g,1,none⟩=some (.iface T6 u6):=by simp[Vet,bf]
      have d3:w5.cell? ⟨g2,1,none⟩=some (.iface T4 u4):=by simp[Vet,bc]
      clear D bf bc aE aW
      cases b1 with
      |false=>
       have hh:=HH.out;simp only[Vao,VaS,Vaa]at hh
       have d:Hid (PrO w mb ad σ (pb,W) (.returned (.bool false)) w5):=by
        rw[<-hh];exact br.out
       clear hh aC ay aF
       go_wp2
       go_ret
       exact d.out
      |true=>
       have hh:=HH.out;simp only[Va0]at hh;have D:Hid _:=aj.out σ b bk m1 (pb,W) hh w5 ad _ _ mb aC bv.out bu.out ay aF;clear hh aC ay aF aj
       go_wp2_with fail
       rw[VaB]
       go_wp2_with fail
       refine Vac D.out ?_
       rintro e w6 ⟨rfl,L⟩;have d:Hid (PrO w mb ad σ (pb,W) (.returned (.bool pb)) w6):=PrO.pre bs.out ⟨rfl,L⟩;clear D L HT HH
       cases pb with
       |true=>
        go_wp2
        rw[VaB]
        go_wp2
        go_ret
        exact d.out
       |false=>
        go_wp2
        go_ret
        exact d.out
     .simp at h
    .rename_i T;have T:alkF x0 y0=false:=by simpa using T
     simp only[Vaa]at h;rw[T];have d:Hid _:=HT.out false h.symm;clear h T
     go_wp2
     go_ret
     exact d.out
def gE:List (BA×Value)->Nat->List MapEntry
 | [],_=> []
 |e::l,i=>{key:= .string e.1,val:=e.2,born:=i}::gE l (i+1)
theorem JoR(l:List (BA×Value))(e:BA×Value):∀i,gE (l++ [e]) i=gE l i++ [{key:= .string e.1,val:=e.2,born:=i+l.length}]:=by
 induction l with
 |nil=>intro i;simp[gE]
 |cons c l d=>
  intro i;have e:i+1+l.length=i+(l.length+1):=by omega
  simp[gE,d,e]
def askS(n:BA):List (BA×Value)->Nat->Option (Nat×Value)
 | [],_=>none
 |e::l,i=>if bq n e.1 then some (i,e.2)else askS n l (i+1)
theorem JqB(a b:BA):bq a b=decide (a=b):=by
 by_cases h:a=b
 .simp[h,Jf8.2 rfl]
 .have:bq a b=false:=by rw[Vbm];exact fun z=>h (Jf8.1 z)
  simp[h,this]
theorem Jjs(a b:BA):(a==b)=decide (a=b):=by
 have h:(a==b)=(a.data==b.data):=rfl;rw[h]
 by_cases e:a=b
 .subst e;simp
 .have:a.data≠b.data:=fun z=>e (Vbf z)
  simp[e,this]
theorem JjS(n:BA)(l:List (BA×Value)):∀i,Veu .string (.string n) (gE l i) i=some (askS n l i):=by
 induction l with
 |nil=>intro i;rfl
 |cons c l D=>
  intro i;have h:=D (i+1)
  by_cases e:n=c.1
  .have d:(n==c.1)=true:=by rw[Jjs];simp[e]
   simp only[gE,Veu,Vev,askS,JqB,d];simp[e]
  .have d:(n==c.1)=false:=by rw[Jjs];simp[e]
   simp only[gE,Veu,Vev,askS,JqB,d,h];simp[e]
def GB(ad:List Nat):Gv->List (BA×Value)->Prop
 | [],[]=>True
 |e::g,c::l=>e.1=c.1/\RV ad e.2 c.2/\GB ad g l
 |_,_=>False
theorem GB.up{ad:List Nat}(u:List Nat):∀{g:Gv} {l:List (BA×Value)},GB ad g l->GB (ad++u) g l
 | [],[],_=>trivial
 |e::g,c::l,h=>⟨h.1,h.2.1.up u,h.2.2.up u⟩
 | [],_::_,h=>h.elim
 |_::_,[],h=>h.elim
theorem GB.snoc{ad:List Nat}{n:BA}{r:TR}{v:Value}(d:RV ad r v):∀{g:Gv} {l:List (BA×Value)},GB ad g l->GB ad (g++ [(n,r)]) (l++ [(n,v)])
 | [],[],_=>⟨rfl,d,trivial⟩
 |e::g,c::l,h=>⟨h.1,h.2.1,GB.snoc d h.2.2⟩
 | [],_::_,h=>h.elim
 |_::_,[],h=>h.elim
theorem GB.look{ad:List Nat}{n:BA}:∀{g:Gv} {l:List (BA×Value)} (k:Nat),GB ad g l->(∀r,Jcq n g=some r->∃p v,askS n l k=some (p,v)/\RV ad r v)/\(Jcq n g=none->askS n l k=none)
 | [],[],k,_=>⟨fun r h=>by simp[Jcq]at h,fun _=>rfl⟩
 |e::g,c::l,k,h=>by
  have D:=GB.look (n:=n) (k+1) h.2.2;simp only[Jcq,askS,h.1]
  split
  .exact⟨fun r d=>by
    simp only[Vaa]at d;subst d;exact⟨_,_,rfl,h.2.1⟩,fun z=>by simp at z⟩
  .exact D
 | [],_::_,_,h=>h.elim
 |_::_,[],_,h=>h.elim
def GM(w:World)(gm:Nat)(ad:List Nat)(g:Gv):Prop:=∃l,w.heap[gm]? =some (.map (gE l 0).toArray l.length)/\GB ad g l
variable {ad2:List Nat}{g:Gv}{S:Nat->Prop}
theorem GM.kt{w w':World}{gm:Nat}{ad:List Nat}(h:GM w gm ad g)(k:Kt ad2 S w w')(E: ¬S gm):GM w' gm ad g:=by
 obtain⟨l,G,D⟩:=h;exact⟨l,k.blk _ _ G E (by rintro⟨cs,e,f,d,_⟩;cases d),D⟩
theorem GM.up{w:World}{gm:Nat}{ad:List Nat}(h:GM w gm ad g)(u:List Nat):GM w gm (ad++u) g:=by
 obtain⟨l,d,D⟩:=h;exact⟨l,d,D.up u⟩
theorem JdI{w:World}{gm:Nat}{ad:List Nat}(h:GM w gm ad g)(n:BA):
  (∀r,Jcq n g=some r->∃v,RV ad r v/\(Vew 242 (.map (some gm)) (.string n) true).run prog w= .ok (.tuple #[v,.bool true]) w)/\(Jcq n g=none->(Vew 242 (.map (some gm)) (.string n) true).run prog w= .ok (.tuple #[.nilIface,.bool false]) w):=by
 obtain⟨l,J,G⟩:=h;have d:=JjS n l 0;have M:∀e,(Instr.checkKey e 10000 9 (.string n)).run prog w= .ok () w:=fun e=>Vbz VaR (by simp[MapKept.IsKey]) e 9999
 have U:(zeroValue 156).run prog w= .ok .nilIface w:=by kernel_rfl
 have key:(Vew 242 (.map (some gm)) (.string n) true).run prog w= .ok (match askS n l 0 with|some x=> .tuple #[x.2,.bool true]|none=> .tuple #[.nilIface,.bool false]) w:=by
  simp only[Vew,Va8,VaM underlying242,VaQ J,Result.andThen,VbW,M,VbC VaR d]
  cases askS n l 0 with
  |none=>simp[U,Result.andThen]
  |some j=>simp
 obtain⟨L,E⟩:=G.look (n:=n) 0;refine⟨fun r I=> ?_,fun T=> ?_⟩
 .obtain⟨p,v,D,O⟩:=L r I;rw[D]at key;exact⟨v,O,key⟩
 .rw[E T]at key;exact key
def CH(w:World)(R:TR->Value->Prop):List Bd->Value->Prop
 | [],v=>v= .pointer none
 |b::h,v=>∃q tv d,v= .pointer (some ⟨q,0,none⟩)/\w.heap[q]? =some (.cells #[.string b.name,tv,.bool b.par,d] 359 (0,0))/\R b.ty tv/\CH w R h d
theorem CH.keep{w w':World}{R:TR->Value->Prop}(d:∀(q:Nat) (cs:Array Value) (f:Nat×Nat),w.heap[q]? =some (.cells cs 359 f)->w'.heap[q]? =some (.cells cs 359 f)):∀{l:List Bd} {v:Value},CH w R l v->CH w' R l v
 | [],_,h=>h
 |b::L,v,⟨q,tv,J,G,D,I,E⟩=>⟨q,tv,J,G,d _ _ _ D,I,CH.keep d E⟩
theorem CH.mono{w:World}{R R':TR->Value->Prop}(d:∀r v,R r v->R' r v):∀{l:List Bd} {v:Value},CH w R l v->CH w R' l v
 | [],_,h=>h
 |b::L,v,⟨q,tv,J,G,D,I,E⟩=>⟨q,tv,J,G,D,d _ _ I,CH.mono d E⟩
variable {f:Nat×Nat}
theorem Kt.binds{w w':World}{ad:List Nat}(h:Kt ad S w w'){g:Nat}{cs:Array Value}(D:w.heap[g]? =some (.cells cs 359 f))(E: ¬S g):w'.heap[g]? =some (.cells cs 359 f):=h.blk g _ D E (by
 rintro⟨G,e,f',d,ht⟩;simp only[VaT]at d;obtain⟨_,rfl,_⟩:=d
 rcases ht with e|e|e|e<;>cases e)
variable {R:TR->Value->Prop}{l:List Bd}
theorem CH.ptr{w:World}(h:CH w R l v):∃p,v= .pointer p:=by
 cases l with
 |nil=>exact⟨none,h⟩
 |cons b l=>obtain⟨q,tv,D,d,_⟩:=h;exact⟨_,d⟩
theorem JlF(w:World)(p:Option Addr)(gm:Nat)(n:BA)(T:TypeId)(u:Value):Calls prog 202 #[.agg #[.pointer p,.map (some gm)],.string n,.iface T u] w fun e w'=>∃q,e= .returned (.agg #[.pointer (some ⟨q,0,none⟩),.map (some gm)])/\w'.heap[q]? =some (.cells #[.string n,.iface T u,.bool true,.pointer p] 359 (0,0))/\Kept w w':=by
 go_enter func202,ntmps202
 go_wp2_with fail
 generalize D:w.alloc (.cells #[.pointer p,.map (some gm)] 244)=W;have M:Kept w W:=by rw[<-D];exact Vex _ _
 have E:W.heap.size=w.heap.size+1:=by rw[<-D];simp
 generalize h:W.alloc (.cells #[.pointer (some ⟨w.heap.size+1+1,0,none⟩),.map (some gm)] 244)=V;have L:Kept W V:=by rw[<-h];exact Vex _ _
 have d:V.heap[w.heap.size+1]? =some (.cells #[.pointer (some ⟨w.heap.size+1+1,0,none⟩),.map (some gm)] 244 (0,0)):=by rw[<-h,<-E];exact Vag _ _
 have U:V.heap.size=w.heap.size+1+1:=by rw[<-h,<-E];simp
 have I:Kept V (V.alloc (.cells #[.string n,.iface T u,.bool true,.pointer p] 359)):=Vex _ _;have G:=Vag V (.cells #[.string n,.iface T u,.bool true,.pointer p] 359);rw[U]at G;have d:=I.blk d;generalize V.alloc (.cells #[.string n,.iface T u,.bool true,.pointer p] 359)=Z at*;have J:Z.cell? ⟨w.heap.size+1,0,none⟩=some (.pointer (some ⟨w.heap.size+1+1,0,none⟩)):=by simp[Vet,d]
 have O:Z.cell? ⟨w.heap.size+1,1,none⟩=some (.map (some gm)):=by simp[Vet,d]
 exact VaI (v:= .agg #[.pointer (some ⟨w.heap.size+1+1,0,none⟩),.map (some gm)]) (by simp[results,results202,go_sem,J,O]) rfl ⟨_,rfl,G,(M.trans L).trans I⟩
theorem JiI(w:World)(p:Option Addr)(gm:Nat)(n:BA)(T:TypeId)(u:Value):Calls prog 166 #[.agg #[.pointer p,.map (some gm)],.string n,.iface T u] w fun e w'=>∃q,e= .returned (.agg #[.pointer (some ⟨q,0,none⟩),.map (some gm)])/\w'.heap[q]? =some (.cells #[.string n,.iface T u,.bool false,.pointer p] 359 (0,0))/\Kept w w':=by
 go_enter func166,ntmps166
 go_wp2_with fail
 generalize D:w.alloc (.cells #[.pointer p,.map (some gm)] 244)=W;have M:Kept w W:=by rw[<-D];exact Vex _ _
 have E:W.heap.size=w.heap.size+1:=by rw[<-D];simp
 generalize h:W.alloc (.cells #[.pointer (some ⟨w.heap.size+1+1,0,none⟩),.map (some gm)] 244)=V;have L:Kept W V:=by rw[<-h];exact Vex _ _
 have d:V.heap[w.heap.size+1]? =some (.cells #[.pointer (some ⟨w.heap.size+1+1,0,none⟩),.map (some gm)] 244 (0,0)):=by rw[<-h,<-E];exact Vag _ _
 have U:V.heap.size=w.heap.size+1+1:=by rw[<-h,<-E];simp
 have I:Kept V (V.alloc (.cells #[.string n,.iface T u,.bool false,.pointer p] 359)):=Vex _ _;have G:=Vag V (.cells #[.string n,.iface T u,.bool false,.pointer p] 359);rw[U]at G;have d:=I.blk d;generalize V.alloc (.cells #[.string n,.iface T u,.bool false,.pointer p] 359)=Z at*;have J:Z.cell? ⟨w.heap.size+1,0,none⟩=some (.pointer (some ⟨w.heap.size+1+1,0,none⟩)):=by simp[Vet,d]
 have O:Z.cell? ⟨w.heap.size+1,1,none⟩=some (.map (some gm)):=by simp[Vet,d]
 exact VaI (v:= .agg #[.pointer (some ⟨w.heap.size+1+1,0,none⟩),.map (some gm)]) (by simp[results,results166,go_sem,J,O]) rfl ⟨_,rfl,G,(M.trans L).trans I⟩
theorem Jon(a b:BA):(a.toList==b.toList)=bq b a:=by
 rw[VaL,VaL,Vb7,Jf8,Vbs];exact⟨fun h=>(Vbf (VbF.1 h)).symm,fun h=>by rw[h]⟩
def Jcs(n:BA):List Bd->Option TR
 | []=>none
 |b::l=>if bq n b.name then some b.ty else Jcs n l
theorem Jem(n:BA)(gv:Gv):∀l,JaJ n gv l=match Jcs n l with|some r=>some r|none=>Jcq n gv
 | []=>rfl
 |b::l=>by
  simp only[JaJ,Jcs]
  split
  .rfl
  .exact Jem n gv l
theorem Jd5{w:World}{own:List Bd}{p:Option Addr}{gm:Nat}{x y:Value}(Y:CH w R own (.pointer p))(Z:∀W,Kept w W->(Vew 242 (.map (some gm)) (.string n) true).run prog W= .ok (.tuple #[x,y]) W):
  Calls prog 165 #[.agg #[.pointer p,.map (some gm)],.string n] w fun e w'=>Kept w w'/\(∀r,Jcs n own=some r->∃v,e= .returned (.tuple #[v,.bool true])/\R r v)/\(Jcs n own=none->e= .returned (.tuple #[x,y])):=by
 have M:Kept w (w.alloc (.cells #[.pointer p,.map (some gm)] 244)):=Vex _ _;have ae:=Vag w (.cells #[.pointer p,.map (some gm)] 244)
 go_enter func165,ntmps165
 go_wp2_with fail
 generalize w.alloc (.cells #[.pointer p,.map (some gm)] 244)=W at*;have U:Hid (CH W R own (.pointer p)):=Y.keep (fun q cs f ag=>M.blk ag);have hl:=Z _ M;have ai:W.cell? ⟨w.heap.size,1,none⟩=some (.map (some gm)):=by simp[Vet,ae]
 have ac:Hid _:=M;clear Y Z M ae
 go_loopg [6] own.length (fun k v wr=>∃(l:List Bd) (O:Option Addr),l.length=k/\v= .pointer O/\wr=W/\Hid (CH W R l (.pointer O))/\Hid (Jcs n l=Jcs n own))
 case atStart=>exact⟨own,p,rfl,rfl,rfl,U.out,rfl⟩
 case round=>
  obtain⟨l,O,aa,rfl,hw,L,G⟩:=hrel;rw[hw];clear hw
  cases l with
  |nil=>
   have I:Value.pointer O=_:=L.out;simp only[VbX]at I;subst I;have d:Jcs n own=none:=by rw[<-G.out];rfl
   have h:Hid _:=d;clear L G U d
   go_wp2
   refine VaI (results_tmp2 results165 _ _ _) rfl ?_
   refine⟨ac.out,fun r E=> ?_,fun _=>rfl⟩
   rw[h.out]at E
   cases E
  |cons b l=>
   obtain⟨q,tv,nx,I,J,hR,T⟩:=L.out;simp only[VbX]at I;subst I;have c0:W.cell? ⟨q,0,none⟩=some (.string b.name):=by simp[Vet,J]
   have c1:W.cell? ⟨q,1,none⟩=some tv:=by simp[Vet,J]
   have c3:W.cell? ⟨q,3,none⟩=some nx:=by simp[Vet,J]
   have HR:Hid _:=hR;have af:Hid _:=T;obtain⟨pn,rfl⟩:=T.ptr;clear J hR T L U;have ah:l.length<gk:=by simp at aa;omega
   clear aa
   cases D:bq n b.name with
   |true=>
    have d:Jcs n own=some b.ty:=by
     rw[<-G.out];simp[Jcs,D]
    have h:Hid _:=d;have V:=Jon b.name n;rw[D]at V;clear G d D
    go_wp2
    refine VaI (results_tmp2 results165 _ _ _) rfl ?_
    refine⟨ac.out,fun r E=> ?_,fun z=>by rw[h.out]at z;cases z⟩
    rw[h.out]at E;simp only[Vaa]at E;subst E;exact⟨tv,rfl,HR.out⟩
   |false=>
    have d:Jcs n l=Jcs n own:=by
     rw[<-G.out];simp[Jcs,D]
    have h:Hid _:=d;have V:=Jon b.name n;rw[D]at V;clear G d D
    go_wp2
    go_roundg l.length
    case measure=>exact ah
    case rel=>exact⟨l,pn,rfl,rfl,rfl,af.out,h.out⟩
variable {bd:List TR}
theorem JhW{w:World}{ad:List Nat}{σ:St}{own:List Bd}{p:Option Addr}{gm:Nat}(hB:Jbh σ own []=some bd)(hs:SX w ad σ)(hC:CH w (RV ad) own (.pointer p)):
  Calls prog 204 #[.agg #[.pointer p,.map (some gm)]] w fun e w'=>∃mb,e= .returned (.map (some mb))/\TMp w' mb ad (pvP bd)/\SX w' ad σ/\w.heap.size<=mb/\Kt ad (fun _=>False) w w':=by
 have m1:=Ibg (w.alloc (.cells #[.pointer p,.map (some gm)] 244));have an:Kept w (w.alloc (.cells #[.pointer p,.map (some gm)] 244)):=Vex _ _;have af:(w.alloc (.cells #[.pointer p,.map (some gm)] 244)).heap.size=w.heap.size+1:=by simp
 go_enter func204,ntmps204
 go_wp2_with fail
 generalize w.alloc (.cells #[.pointer p,.map (some gm)] 244)=W at*;have Y:Kept w (W.alloc (.map #[] 0)):=an.trans (Vex _ _);have D:Hid _:=TMp.none W ad;rw[af]at D;generalize W.alloc (.map #[] 0)=V at*;have I:Hid (CH V (RV ad) own (.pointer p)):=hC.keep (fun q cs f h=>Y.blk h);have J:Hid _:=hs.kept Y;have L:Hid _:=Y;have G:Hid _:=hB;clear hC hs an Y m1 af hB
 go_loopg [4] own.length (fun k v wr=>∃(l:List Bd) (Z:Option Addr) (bl:List TR),l.length=k/\v= .pointer Z/\Hid (CH wr (RV ad) l (.pointer Z))/\Hid (Jbh σ l bl=some bd)/\Hid (TMp wr (w.heap.size+1) ad (pvP bl))/\Hid (SX wr ad σ)/\Hid (Kt ad (fun q=>q=w.heap.size+1) w wr))
 case atStart=>exact⟨own,p,[],rfl,rfl,I.out,G.out,D.out,J.out,Kt.of_kept L.out⟩
 case round=>
  clear I G D J L;obtain⟨l,Z,bl,ae,rfl,I,G,D,J,L⟩:=hrel
  cases l with
  |nil=>
   have O:Value.pointer Z=_:=I.out;simp only[VbX]at O;subst O;have d:=G.out;simp only[Jbh,Vaa]at d;subst d;clear G I
   go_wp2
   go_ret
   exact⟨_,rfl,D.out,J.out,by omega,Kt.drop (Kept.refl w) L.out (by omega)⟩
  |cons b l=>
   obtain⟨q,tv,nx,O,d,hR,aa⟩:=I.out;simp only[VbX]at O;subst O;have c1:wr.cell? ⟨q,1,none⟩=some tv:=by simp[Vet,d]
   have c2:wr.cell? ⟨q,2,none⟩=some (.bool b.par):=by simp[Vet,d]
   have HR:Hid _:=hR;have ai:Hid _:=aa;obtain⟨M,rfl⟩:=aa.ptr;have am:l.length<gk:=by simp at ae;omega
   have ah:Hid _:=d;have E:=G.out;simp only[Jbh]at E;obtain⟨aw,u,rfl⟩:=hR.iface;clear hR aa ae I G
   cases U:b.par with
   |true=>
    rw[U]at E c2;simp only[Va0,Vab]at E;obtain⟨l1,h1,h2⟩:=E;have HA:Hid _:=JnD fuN σ b.ty bl l1 h1 wr ad _ (w.heap.size+1) J.out HR.out D.out;have ac:Hid _:=h2;have ag:Hid _:=D.out.mp
    have HQ:Hid (¬q=w.heap.size+1):=fun z=>by
     have:=ag.out;rw[<-z,ah.out]at this
     cases this
    clear d h1 h2 U D
    go_wp2_with fail
    refine Vac HA.out ?_
    rintro e w2 ⟨rfl,aj,ak,T⟩;have al:=T.binds ah.out HQ.out;have c3:w2.cell? ⟨q,3,none⟩=some (.pointer M):=by simp[Vet,al]
    have av:Hid (CH w2 (RV ad) l (.pointer M)):=CH.keep (fun q' cs f h=>T.binds h (fun z=>by
     have z:q'=w.heap.size+1:=z;have:=ag.out;rw[<-z,h]at this
     cases this)) ai.out
    have ao:Hid _:=aj;have au:Hid _:=ak;have aq:Hid _:=L.out.trans T;clear aj ak T al HA
    go_wp2
    go_roundg l.length
    case measure=>exact am
    case rel=>exact⟨l,M,l1,rfl,rfl,av.out,ac.out,au.out,ao.out,aq.out⟩
   |false=>
    rw[U]at E c2;have c3:wr.cell? ⟨q,3,none⟩=some (.pointer M):=by simp[Vet,d]
    simp only[Vao,VaS]at E;have ac:Hid _:=E;clear d E U
    go_wp2
    go_roundg l.length
    case measure=>exact am
    case rel=>exact⟨l,M,bl,rfl,rfl,ai.out,ac.out,D.out,J.out,L.out⟩
def WB(o:Obj):Prop:=∃cs e f,o= .cells cs e f/\(e=123\/e=61)
structure Kw(B:Nat)(ad:List Nat)(w w':World):Prop where
 os:w'.os=w.os
 output:w'.output=w.output
 size:w.heap.size<=w'.heap.size
 blk:∀(k:Nat) (o:Obj),w.heap[k]? =some o->(WB o->k<B)->(TB o->¬k∈ad)->w'.heap[k]? =some o
theorem Kw.of{B:Nat}{ad:List Nat}{w w':World}(h:Kt ad (fun _=>False) w w'):Kw B ad w w':=⟨h.os,h.output,h.size,fun k o d _ ht=>h.blk0 k o d id ht⟩
structure Gk(B:Nat)(ad ad':List Nat)(w w':World):Prop where
 up:∃u,ad'=ad++u/\∀q,q∈u->w.heap.size<=q
 kw:Kw B ad w w'
theorem Gk.of{B:Nat}{ad ad':List Nat}{w w':World}(h:Gw (fun _=>False) ad ad' w w'):Gk B ad ad' w w':=⟨h.up,Kw.of h.kt⟩
theorem Gk.ofKt{B:Nat}{ad:List Nat}{w w':World}(h:Kt ad (fun _=>False) w w'):Gk B ad ad w w':=Gk.of (Gw.of h)
theorem Gk.ofKw{B:Nat}{ad:List Nat}{w w':World}(h:Kw B ad w w'):Gk B ad ad w w':=⟨⟨[],by simp,by simp⟩,h⟩
variable {w3:World}
theorem Gk.trans{B:Nat}{c:List Nat}(h:Gk B a b w1 w2)(g:Gk B b c w2 w3):Gk B a c w1 w3:=by
 obtain⟨⟨u,rfl,G⟩,k⟩:=h;obtain⟨⟨I,rfl,J⟩,D⟩:=g;refine⟨⟨u++I,by simp,?_⟩,⟨D.os.trans k.os,D.output.trans k.output,Vas k.size D.size,?_⟩⟩
 .intro q d;simp at d
  rcases d with d|d
  .exact G q d
  .exact Vas k.size (J q d)
 .intro q o d E ht;refine D.blk q o (k.blk q o d E ht) E (fun z y=> ?_)
  simp at y
  rcases y with y|y
  .exact ht z y
  .have:=G q y;have:=Vah d;omega
variable {r:TR}
theorem Gk.rv{B:Nat}(h:Gk B a b w1 w2)(d:RV a r v):RV b r v:=by
 obtain⟨⟨u,rfl,D⟩,_⟩:=h;exact d.up u
theorem Gk.ga{A:Nat->Addr}{B:Nat}(h:Gk B a b w1 w2)(g:GA A B a w1):GA A B b w2:=by
 obtain⟨⟨u,rfl,E⟩,k⟩:=h
 have D:GA A B a w2:=g.low k.size (fun q d=>by
  have e:w1.heap[q]? =some (w1.heap[q]'(Va6 d g.sz)):=by simp
  rw[e];exact k.blk q _ e (fun _=>d) (fun _ z=>by have:=g.lo q z;omega))
 exact⟨D.glb,fun q d=>by
  simp at d
  rcases d with d|d
  .exact g.lo q d
  .exact Vas g.sz (E q d),D.sz,D.ab,D.gb⟩
theorem Gk.x{B:Nat}(h:Gk B a b w1 w2):XKeep w1 w2:=fun k cs e f D E=>h.kw.blk k _ E (by
  rintro⟨G,I,f',d,ht⟩;simp only[VaT]at d;obtain⟨_,rfl,_⟩:=d
  rcases ht with rfl|rfl<;>simp[isXT]at D) (by
  rintro⟨G,I,f',d,ht⟩;simp only[VaT]at d;obtain⟨_,rfl,_⟩:=d
  rcases ht with rfl|rfl|rfl|rfl<;>simp[isXT]at D)
theorem Gk.ch{B:Nat}(h:Gk B a b w1 w2)(I:CH w1 (RV a) l v):CH w2 (RV b) l v:=by
 have:=I.keep (w':=w2) (fun q cs f D=>h.kw.blk q _ D (by
  rintro⟨E,G,f',d,ht⟩;simp only[VaT]at d;obtain⟨_,rfl,_⟩:=d
  rcases ht with e|e<;>cases e) (by
  rintro⟨E,G,f',d,ht⟩;simp only[VaT]at d;obtain⟨_,rfl,_⟩:=d
  rcases ht with e|e|e|e<;>cases e))
 exact this.mono (fun r v=>h.rv)
theorem Gk.gm{B:Nat}(h:Gk B a b w1 w2){gm:Nat}(G:GM w1 gm a g):GM w2 gm b g:=by
 obtain⟨⟨u,rfl,I⟩,k⟩:=h;obtain⟨l,E,D⟩:=G;exact⟨l,k.blk _ _ E (by rintro⟨cs,e,f,d,_⟩;cases d) (by rintro⟨cs,e,f,d,_⟩;cases d),D.up u⟩
section
variable {ω:Type}(A:Nat->Addr)(B:Nat)(K:World->ω->Prop)
structure TI(w:World)(ad:List Nat)(σ:St)(own:List Bd)(gv:Gv)(p:Option Addr)(gm:Nat)(o:ω):Prop where
 sx:SX w ad σ
 ws:WS σ
 ga:GA A B ad w
 ch:CH w (RV ad) own (.pointer p)
 gm:GM w gm ad gv
 k:K w o
def KOk:Prop:=∀(w w':World) (ad:List Nat) (o:ω),K w o->Kt ad (fun _=>False) w w'->K w' o
def TyO(ad:List Nat)(w:World)(e:Ending)(w':World)(o:ω):Oc (TR×St)->Prop
 | .ok q=>∃v ad',e= .returned v/\RV ad' q.1 v/\SX w' ad' q.2/\WS q.2/\K w' o/\Gk B ad ad' w w'
 | .er j=>Thr A j e/\K w' o/\Kw B ad w w'
end
section
variable {ω:Type}{A:Nat->Addr}{B:Nat}{K:World->ω->Prop}{w w':World}{ad ad':List Nat}{σ σ':St}{own:List Bd}{gv:Gv}{p:Option Addr}{gm:Nat}{o o':ω}
theorem TI.to(h:TI A B K w ad σ own gv p gm o)(g:Gk B ad ad' w w')(d:SX w' ad' σ')(D:WS σ')(E:K w' o'):TI A B K w' ad' σ' own gv p gm o':=⟨d,D,g.ga h.ga,g.ch h.ch,g.gm h.gm,E⟩
theorem TI.kept(d:KOk K)(h:TI A B K w ad σ own gv p gm o)(k:Kept w w'):TI A B K w' ad σ own gv p gm o:=h.to (Gk.ofKt (Kt.of_kept k)) (h.sx.kept k) h.ws (d _ _ [] _ h.k (Kt.of_kept k))
variable {ad1:List Nat}
theorem TyO.pre{e:Ending}{r:Oc (TR×St)}(g:Gk B ad ad1 w w1)(h:TyO A B K ad1 w1 e w' o r):TyO A B K ad w e w' o r:=by
 cases r with
 |ok q=>
  obtain⟨v,ad',D,d,E,I,J,G⟩:=h;exact⟨v,ad',D,d,E,I,J,g.trans G⟩
 |er j=>
  obtain⟨D,d,E⟩:=h;exact⟨D,d,(g.trans (Gk.ofKw E)).kw⟩
end
def RbO(A:Nat->Addr)(ad:List Nat)(σ:St)(w:World)(big:Bool)(e:Ending)(w':World):Prop:=(big=true/\Thr A 4 e/\Kt ad (fun _=>False) w w')\/(big=false/\e= .returned (.tuple #[])/\SX w' ad σ/\Kt ad (fun _=>False) w w')
variable {big:Bool}
theorem JkZ{A:Nat->Addr}{B:Nat}{σ:St}(h:bigF σ r=some big)(w:World)(ad:List Nat)(v:Value)(O:GA A B ad w)(J:SX w ad σ)(d:RV ad r v):Calls prog 169 #[v] w (RbO A ad σ w big):=by
 have I:Hid _:=JlJ h w ad v J d;have U:Hid _:=O;obtain⟨T,u,rfl⟩:=d.iface;clear J d h O
 go_enter func169,ntmps169
 go_wp2_with fail
 refine Vac I.out ?_
 rintro e w1 ⟨rfl,G,D⟩;have W:=(U.out.kt0 D).glb.c4;have V:Hid _:=G;have E:Hid _:=D;clear G D I
 cases big with
 |true=>
  have M:Hid _:=Jbl (A 4) w1
  go_wp2_with fail
  refine Vac M.out ?_
  rintro e w' ⟨rfl,L⟩;rw[L];clear L w' M
  go_wp2
  exact⟨rfl,.inl ⟨rfl,rfl,E.out⟩⟩
 |false=>
  go_wp2
  exact Vbi (Va3 results169 _ _ _) rfl (.inr ⟨rfl,rfl,V.out,E.out⟩)
theorem Ibb(w:World):(Instr.makeMap 380 none).run prog w= .ok (.map (some w.heap.size)) (w.alloc (.map #[] 0)):=by kernel_rfl
theorem VV.none(w:World)(ad:List Nat)(σ:St):VV (w.alloc (.map #[] 0)) w.heap.size ad σ []:=⟨[],Vag _ _,trivial,fun e d=>by simp at d⟩
theorem Gw.drop{ad ad':List Nat}{w w':World}(h:Kept w w1)(g:Gw (fun q=>q=mb) ad ad' w1 w')(d:w.heap.size<=mb):Gw (fun _=>False) ad ad' w w':=by
 obtain⟨⟨u,D,E⟩,k⟩:=g;exact⟨⟨u,D,fun q z=>Vas h.size (E q z)⟩,Kt.drop h k d⟩
theorem JoO{w:World}{ad:List Nat}{own:List Bd}{gv:Gv}{p:Option Addr}{gm:Nat}(M:CH w (RV ad) own (.pointer p))(L:GM w gm ad gv)(h:JaJ n gv own=some r):
  Calls prog 165 #[.agg #[.pointer p,.map (some gm)],.string n] w fun e w'=>Kept w w'/\∃T u,e= .returned (.tuple #[.iface T u,.bool true])/\RV ad r (.iface T u):=by
 rw[Jem]at h
 cases E:Jcq n gv with
 |some g=>
  obtain⟨v,d,_⟩:=(JdI L n).1 g E;refine(Jd5 (x:=v) (y:= .bool true) M (fun W G=> ?_)).mono ?_
  .obtain⟨Y,U,V⟩:=(JdI (L.kt (Kt.of_kept (ad:=ad) (S:=fun _=>False) G) id) n).1 g E;rw[d.det U];exact V
  .rintro e w' ⟨I,J,O⟩;refine⟨I,?_⟩
   cases D:Jcs n own with
   |some q=>
    rw[D]at h;simp only[Vaa]at h;subst h;obtain⟨v,rfl,d⟩:=J _ D;obtain⟨T,u,rfl⟩:=d.iface;exact⟨T,u,rfl,d⟩
   |none=>
    rw[D]at h;simp only[E,Vaa]at h;subst h;obtain⟨T,u,rfl⟩:=d.iface;exact⟨T,u,O D,d⟩
 |none=>
  refine(Jd5 (x:= .nilIface) (y:= .bool false) M (fun W G=> ?_)).mono ?_
  .exact(JdI (L.kt (Kt.of_kept (ad:=ad) (S:=fun _=>False) G) id) n).2 E
  .rintro e w' ⟨I,J,O⟩;refine⟨I,?_⟩
   cases D:Jcs n own with
   |some q=>
    rw[D]at h;simp only[Vaa]at h;subst h;obtain⟨v,rfl,d⟩:=J _ D;obtain⟨T,u,rfl⟩:=d.iface;exact⟨T,u,rfl,d⟩
   |none=>
    rw[D,E]at h;simp at h
variable {loc:Nat}
theorem Jno{ω:Type}{A:Nat->Addr}{B:Nat}{K:World->ω->Prop}(G:KOk K){w:World}{ad:List Nat}{σ:St}{own:List Bd}{gv:Gv}{p:Option Addr}{gm:Nat}{o:ω}(V:TI A B K w ad σ own gv p gm o){eb:Nat}(hb:w.heap[eb]? =some (.cells #[.int .i64 1,.string n,.int .i64 loc] 262 (0,0))){r:Oc (TR×St)}(h:Jc0 gv n own σ=some r):
  Calls prog 201 #[.pointer (some ⟨eb,0,none⟩),.agg #[.pointer p,.map (some gm)]] w fun e w'=>TyO A B K ad w e w' o r:=by
 simp only[Jc0,Vab]at h;obtain⟨s,hs,big,ao,h⟩:=h;have D:Kept w (w.alloc (.cells #[.pointer p,.map (some gm)] 244)):=Vex _ _;have E:=Vag w (.cells #[.pointer p,.map (some gm)] 244)
 go_enter func201,ntmps201
 go_wp2_with fail
 generalize w.alloc (.cells #[.pointer p,.map (some gm)] 244)=W at*;have L:Kept w W.drew:=D.trans (Vey W);have E:=(Vey W).blk E;have ac:=L.blk hb;have M:=V.kept G L;have HC:Hid _:=JoO M.ch M.gm hs;have az:Hid _:=M;have ax:Hid _:=L;have aB:Hid _:=D;have HT:Hid _:=V;have aq:Hid _:=ao;have HH:Hid _:=h
 have ah:Hid (∀w2,Kept W.drew w2->w2.cell? ⟨w.heap.size,0,none⟩=some (.pointer p)/\w2.cell? ⟨w.heap.size,1,none⟩=some (.map (some gm))/\w2.cell? ⟨eb,1,none⟩=some (.string n)):=fun w2 k=>by
  have e1:=k.blk E;have e2:=k.blk ac;exact⟨by simp[Vet,e1],by simp[Vet,e1],by simp[Vet,e2]⟩
 have c0:W.drew.cell? ⟨w.heap.size,0,none⟩=some (.pointer p):=by simp[Vet,E]
 have c1:W.drew.cell? ⟨w.heap.size,1,none⟩=some (.map (some gm)):=by simp[Vet,E]
 have c2:W.drew.cell? ⟨eb,1,none⟩=some (.string n):=by simp[Vet,ac]
 clear M D L V ao h hs hb ac E
 go_region_held3 (fun w'=>w'.cell? ⟨w.heap.size,0,none⟩=some (.pointer p)/\w'.cell? ⟨w.heap.size,1,none⟩=some (.map (some gm))/\w'.cell? ⟨eb,1,none⟩=some (.string n)) (go_keep) (first|(go_at_call 165;refine Vac HC.out ?_;rintro e w2 ⟨O,aC,u,rfl,ak⟩;obtain⟨j0,j1,j2⟩:=ah.out w2 O;have an:Hid _:=O;have al:Hid _:=ak;clear O ak HC))
 all_goals
  have U:=ax.out.trans an.out;have J:=HT.out.kept G U;have aa:Hid _:=J;have Y:Hid _:=JkZ aq.out w2 ad _ J.ga J.sx al.out;have af:Hid _:=U;clear U J az an ah j0 j1 j2 c0 c1 c2
  go_wp2_with fail
  refine Vac Y.out ?_
  rintro e w3 (⟨rfl,he,d⟩|⟨rfl,rfl,ae,d⟩)
  .have I:=HH.out;simp only[Va0,Vaa]at I;subst I;rw[show e=_ from he];have T:Hid (TyO A B K ad w (thrown (.iface 407 (.pointer (some (A 4))))) w3 o (.er 4)):=⟨rfl,G _ _ _ _ aa.out.k d,((Gk.ofKt (Kt.of_kept af.out)).trans (Gk.ofKt d)).kw⟩
   clear he d Y
   go_wp2
   exact⟨rfl,T.out⟩
  .have I:=HH.out;simp only[Vao,VaS,Vab,Vaa]at I;obtain⟨q,hq,rfl⟩:=I;have m1:=Ibb w3;have D:Kept w3 (w3.alloc (.map #[] 0)):=Vex _ _;have HI:Hid _:=Jq2 fuN σ s [] q hq (w3.alloc (.map #[] 0)) ad _ w3.heap.size (ae.kept D) aa.out.ws al.out (VV.none w3 ad σ);have aA:Hid _:=d;have au:Hid _:=D;have aw:Hid _:=G _ _ _ _ aa.out.k d;clear ae d D hq Y
   go_wp2_with fail
   refine Vac HI.out ?_
   rintro e w4 ⟨v4,av,rfl,ai,am,ag,ay,aj⟩;have Z:=Gw.drop au.out aj (Vau _);have T:Hid (TyO A B K ad w (.returned v4) w4 o (.ok (q.1,q.2.1))):=⟨v4,av,rfl,ai,am,ag,G _ _ _ _ aw.out Z.kt,((Gk.ofKt (Kt.of_kept af.out)).trans (Gk.ofKt aA.out)).trans (Gk.of Z)⟩
   clear ai am ag ay aj Z HI
   go_wp2
   go_ret
   exact T.out
def othT(e:TypeId):Bool:= !(e==221||e==225||e==229||e==233||e==123||e==61)
variable {k:Nat}{e:TypeId}
theorem Gk.oth{B:Nat}(h:Gk B a b w1 w2){cs:Array Value}(D:othT e=true)(E:w1.heap[k]? =some (.cells cs e f)):w2.heap[k]? =some (.cells cs e f):=h.kw.blk k _ E (by
  rintro⟨G,I,f',d,ht⟩;simp only[VaT]at d;obtain⟨_,rfl,_⟩:=d
  rcases ht with rfl|rfl<;>simp[othT]at D) (by
  rintro⟨G,I,f',d,ht⟩;simp only[VaT]at d;obtain⟨_,rfl,_⟩:=d
  rcases ht with rfl|rfl|rfl|rfl<;>simp[othT]at D)
structure FX(V:World)(b1 b2 eb:Nat)(fl:Int)(wv:Value)(p:Option Addr)(gm:Nat)(cs:Array Value)(et:TypeId):Prop where
 by0:V.heap[b1]? =some (.cells #[.int .i64 fl,wv] 172 (0,0))
 sc:V.heap[b2]? =some (.cells #[.pointer p,.map (some gm)] 244 (0,0))
 ex:V.heap[eb]? =some (.cells cs et (0,0))
section
variable {V V':World}{b1 b2 eb:Nat}{fl:Int}{wv:Value}{p:Option Addr}{gm:Nat}{cs:Array Value}{et:TypeId}
theorem FX.gk(h:FX V b1 b2 eb fl wv p gm cs et){B:Nat}(g:Gk B a b V V')(d:othT et=true):FX V' b1 b2 eb fl wv p gm cs et:=⟨g.oth (by decide) h.by0,g.oth (by decide) h.sc,g.oth d h.ex⟩
theorem FX.kept(h:FX V b1 b2 eb fl wv p gm cs et)(k:Kept V V'):FX V' b1 b2 eb fl wv p gm cs et:=⟨k.blk h.by0,k.blk h.sc,k.blk h.ex⟩
theorem FX.c(h:FX V b1 b2 eb fl wv p gm cs et):V.cell? ⟨b1,0,none⟩=some (.int .i64 fl)/\V.cell? ⟨b1,1,none⟩=some wv/\V.cell? ⟨b2,0,none⟩=some (.pointer p)/\V.cell? ⟨b2,1,none⟩=some (.map (some gm)):=⟨by simp[Vet,h.by0],by simp[Vet,h.by0],by simp[Vet,h.sc],by simp[Vet,h.sc]⟩
theorem FX.x(h:FX V b1 b2 eb fl wv p gm cs et)(d:cs[i]? =some v):V.cell? ⟨eb,i,none⟩=some v:=by simp[Vet,h.ex,d]
end
theorem Jce(w:World)(eb:Nat)(fl:Int)(wv:Value)(p:Option Addr)(gm:Nat){cs:Array Value}{et:TypeId}(D:w.heap[eb]? =some (.cells cs et (0,0))):FX ((w.alloc (.cells #[.int .i64 fl,wv] 172)).alloc (.cells #[.pointer p,.map (some gm)] 244)) w.heap.size (w.heap.size+1) eb fl wv p gm cs et/\Kept w ((w.alloc (.cells #[.int .i64 fl,wv] 172)).alloc (.cells #[.pointer p,.map (some gm)] 244)):=by
 have h:Kept w (w.alloc (.cells #[.int .i64 fl,wv] 172)):=Vex _ _;have d:Kept (w.alloc (.cells #[.int .i64 fl,wv] 172)) ((w.alloc (.cells #[.int .i64 fl,wv] 172)).alloc (.cells #[.pointer p,.map (some gm)] 244)):=Vex _ _;have E:(w.alloc (.cells #[.int .i64 fl,wv] 172)).heap.size=w.heap.size+1:=by simp
 refine⟨⟨d.blk (Vag _ _),?_,(h.trans d).blk D⟩,h.trans d⟩
 rw[<-E];exact Vag _ _
section
variable {ω:Type}(A:Nat->Addr)(B:Nat)(K:World->ω->Prop)(gv:Gv)(fl:Int)(wv:Value)
def STf(f:X->List Bd->St->ω->Option (Oc (TR×St)×ω)):Prop:=∀(x:X) (own:List Bd) (σ:St) (o:ω) (res:Oc (TR×St)×ω),f x own σ o=some res->∀(w:World) (ad:List Nat) (v:Value) (p:Option Addr) (gm:Nat),PX w (fun _=>True) x v->TI A B K w ad σ own gv p gm o->
 Calls prog 127 #[.agg #[.int .i64 fl,wv],v,.agg #[.pointer p,.map (some gm)]] w fun e w'=>TyO A B K ad w e w' res.2 res.1
end
theorem PX.gk{w w':World}{B:Nat}(g:Gk B a b w w'){x:X}(h:PX w (fun _=>True) x v):PX w' (fun _=>True) x v:=h.keepT g.x
theorem XKeep.kept{w w':World}(k:Kept w w'):XKeep w w':=fun _ _ _ _ _ h=>k.blk h
theorem STf.call{ω:Type}{A:Nat->Addr}{B:Nat}{K:World->ω->Prop}{gv:Gv}{fl:Int}{wv:Value}{f:X->List Bd->St->ω->Option (Oc (TR×St)×ω)}(I:STf A B K gv fl wv f){x:X}{own:List Bd}{σ:St}{o o1:ω}{r1:Oc (TR×St)}(h:f x own σ o=some (r1,o1)){w:World}{ad:List Nat}{p:Option Addr}{gm:Nat}(O:PX w (fun _=>True) x v)(G:TI A B K w ad σ own gv p gm o):
  Calls prog 127 #[.agg #[.int .i64 fl,wv],v,.agg #[.pointer p,.map (some gm)]] w fun e w'=>(∃j,r1= .er j/\e=thrown (.iface 407 (.pointer (some (A j))))/\K w' o1/\Kw B ad w w')\/(∃q T u ad',r1= .ok q/\e= .returned (.iface T u)/\RV ad' q.1 (.iface T u)/\TI A B K w' ad' q.2 own gv p gm o1/\Gk B ad ad' w w'):=by
 refine(I x own σ o (r1,o1) h w ad v p gm O G).mono ?_
 intro e w' d
 cases r1 with
 |er j=>exact .inl ⟨j,rfl,d.1,d.2.1,d.2.2⟩
 |ok q=>
  obtain⟨U,ad',rfl,E,M,J,L,D⟩:=d;obtain⟨T,u,rfl⟩:=E.iface;exact .inr ⟨q,T,u,ad',rfl,rfl,E,G.to D M J L,D⟩
variable {q:Value}
theorem SX.newa{w:World}{ad:List Nat}{σ:St}(d:SX w ad σ)(h:WS σ){x y:TR}{p:Value}(D:RV ad x p)(E:RV ad y q):SX (w.alloc (.cells #[.nilIface,p,q] 233)) (ad++ [w.heap.size]) (σ++ [⟨.ar x y,none⟩]):=
 (d.kept (Vex _ _)).add h (fun z=>by have:=d.lt z;omega) (Vag _ _) ⟨p,q,D,E,rfl⟩
theorem SX.newp{w:World}{ad:List Nat}{σ:St}(d:SX w ad σ)(h:WS σ){x y:TR}{p:Value}(D:RV ad x p)(E:RV ad y q):SX (w.alloc (.cells #[.nilIface,p,q] 229)) (ad++ [w.heap.size]) (σ++ [⟨.pr x y,none⟩]):=
 (d.kept (Vex _ _)).add h (fun z=>by have:=d.lt z;omega) (Vag _ _) ⟨p,q,D,E,rfl⟩
theorem Gk.new{B:Nat}{ad:List Nat}(w:World)(o:Obj):Gk B ad (ad++ [w.heap.size]) w (w.alloc o):=Gk.of (Gw.snoc (Kt.of_kept (Vex _ _)) (Vau _))
variable {y:X}
theorem Jp5{ω:Type}{A:Nat->Addr}{B:Nat}{K:World->ω->Prop}(T:KOk K){gv:Gv}{fl:Int}{wv:Value}{f:X->List Bd->St->ω->Option (Oc (TR×St)×ω)}(hf:STf A B K gv fl wv f){x:X}{own:List Bd}{σ:St}{o:ω}{res:Oc (TR×St)×ω}(h:appF f x y own σ o=some res){w:World}{ad:List Nat}{p:Option Addr}{gm:Nat}(hT:TI A B K w ad σ own gv p gm o){eb:Nat}(hb:w.heap[eb]? =some (.cells #[.int .i64 dpt,vx,vy] 280 (0,0)))(hx:PX w (fun _=>True) x vx)(hy:PX w (fun _=>True) y vy):
  Calls prog 205 #[.agg #[.int .i64 fl,wv],.pointer (some ⟨eb,0,none⟩),.agg #[.pointer p,.map (some gm)]] w fun e w'=>TyO A B K ad w e w' res.2 res.1:=by
 simp only[appF,Vab]at h;obtain⟨⟨r1,o1⟩,h1,h⟩:=h;obtain⟨hF,ax⟩:=Jce w eb fl wv p gm hb;obtain⟨Tx,ux,rfl⟩:=hx.iface;obtain⟨Ty,L,rfl⟩:=hy.iface
 go_enter func205,ntmps205
 go_wp2_with fail
 generalize(w.alloc (.cells #[.int .i64 fl,wv] 172)).alloc (.cells #[.pointer p,.map (some gm)] 244)=W at*;have aa:Kept w W.drew:=ax.trans (Vey W);have hF:=hF.kept (Vey W);have aE:=hT.kept T aa;have aq:=PX.keepT (XKeep.kept aa) hy;have an:Gk B ad ad w W.drew:=Gk.ofKt (Kt.of_kept aa)
 have HC:Hid (Calls prog 127 #[.agg #[.int .i64 fl,wv],.iface Tx ux,.agg #[.pointer p,.map (some gm)]] W.drew fun e w2=>(∃a,e=thrown (.iface 407 (.pointer (some a)))/\TyO A B K ad w (thrown (.iface 407 (.pointer (some a)))) w2 res.2 res.1)\/(∃M O,e= .returned (.iface M O)/\w2.cell? ⟨w.heap.size,0,none⟩=some (.int .i64 fl)/\w2.cell? ⟨w.heap.size,1,none⟩=some wv/\w2.cell? ⟨w.heap.size+1,0,none⟩=some (.pointer p)/\w2.cell? ⟨w.heap.size+1,1,none⟩=some (.map (some gm))/\w2.cell? ⟨eb,1,none⟩=some (.iface Tx ux)/\Hid (∃q ad2,r1= .ok q/\RV ad2 q.1 (.iface M O)/\TI A B K w2 ad2 q.2 own gv p gm o1/\Gk B ad ad2 w w2/\FX w2 w.heap.size (w.heap.size+1) eb fl wv p gm #[.int .i64 dpt,.iface Tx ux,.iface Ty L] 280/\PX w2 (fun _=>True) y (.iface Ty L)))):=by
  refine(hf.call h1 (hx.keepT (XKeep.kept aa)) aE).mono ?_
  rintro e w2 (⟨j,rfl,rfl,hk,hw⟩|⟨q,M,O,ad2,rfl,rfl,hv,E,hg⟩)
  .simp only[Vaa]at h;subst h;exact .inl ⟨_,rfl,rfl,hk,(an.trans (Gk.ofKw hw)).kw⟩
  .have Z:=hF.gk hg (by decide);obtain⟨d0,d1,d2,d3⟩:=Z.c;exact .inr ⟨M,O,rfl,d0,d1,d2,d3,Z.x (i:=1) rfl,q,ad2,rfl,hv,E,an.trans hg,Z,aq.gk hg⟩
 obtain⟨c0,c1,c2,c3⟩:=hF.c;have c4:=hF.x (i:=1) (v:= .iface Tx ux) rfl;have aw:Hid _:=hf;have HH:Hid _:=h;clear hT aE hF ax aa hx hy h1 hf h hb aq an
 go_region_held2 (fun w'=>w'.cell? ⟨w.heap.size,0,none⟩=some (.int .i64 fl)/\w'.cell? ⟨w.heap.size,1,none⟩=some wv/\w'.cell? ⟨w.heap.size+1,0,none⟩=some (.pointer p)/\w'.cell? ⟨w.heap.size+1,1,none⟩=some (.map (some gm))/\w'.cell? ⟨eb,1,none⟩=some (.iface Tx ux)) (go_keep) (first|(go_at_call 127;refine Vac HC.out ?_;rintro e w2 (⟨a,rfl,G⟩|⟨M,O,rfl,d0,d1,d2,d3,d4,HR⟩);exact⟨rfl,G⟩;clear HC))
 all_goals
  obtain⟨q,ad2,rfl,aB,E,aF,Z,aG⟩:=HR.out;have d:=HH.out;simp only[Vab]at d;obtain⟨⟨r3,o3⟩,h3,d⟩:=d;have ak:=E.sx;have hV:Kept w2 (w2.alloc (.cells #[.nilIface,.string ⟨#[]⟩,.bool false] 221)):=Vex _ _;have ag:Kept w2 (w2.alloc (.cells #[.nilIface,.string ⟨#[]⟩,.bool false] 221)).drew:=hV.trans (Vey _);have al:Gk B ad2 (ad2++ [w2.heap.size]) w2 (w2.alloc (.cells #[.nilIface,.string ⟨#[]⟩,.bool false] 221)).drew:=(Gk.new w2 _).trans (Gk.ofKt (Kt.of_kept (Vey _)));have ay:RV (ad2++ [w2.heap.size]) (.nd .vr q.2.length) (.iface 216 (.pointer (some ⟨w2.heap.size,0,none⟩))):=RV.last ak.len .vr;have au:TI A B K (w2.alloc (.cells #[.nilIface,.string ⟨#[]⟩,.bool false] 221)).drew (ad2++ [w2.heap.size]) (q.2++ [newV]) own gv p gm o1:=E.to al ((ak.newv E.ws false).kept (Vey _)) (E.ws.add _) (T _ _ [] _ E.k (Kt.of_kept ag));have ae:Gk B ad (ad2++ [w2.heap.size]) w (w2.alloc (.cells #[.nilIface,.string ⟨#[]⟩,.bool false] 221)).drew:=aF.trans al;have aD:RV (ad2++ [w2.heap.size]) q.1 (.iface M O):=aB.up _;have af:=Z.kept ag;have aA:=PX.keepT (XKeep.kept ag) aG
  go_wp2_with fail
  generalize(w2.alloc (.cells #[.nilIface,.string ⟨#[]⟩,.bool false] 221))=V at*
  have HC:Hid (Calls prog 127 #[.agg #[.int .i64 fl,wv],.iface Ty L,.agg #[.pointer p,.map (some gm)]] V.drew fun e w3=>(∃a,e=thrown (.iface 407 (.pointer (some a)))/\TyO A B K ad w (thrown (.iface 407 (.pointer (some a)))) w3 res.2 res.1)\/(∃I J,e= .returned (.iface I J)/\w3.cell? ⟨w.heap.size,0,none⟩=some (.int .i64 fl)/\w3.cell? ⟨w.heap.size,1,none⟩=some wv/\w3.cell? ⟨w.heap.size+1,0,none⟩=some (.pointer p)/\w3.cell? ⟨w.heap.size+1,1,none⟩=some (.map (some gm))/\w3.cell? ⟨eb,2,none⟩=some (.iface Ty L)/\
    Hid (Calls prog 221 #[.iface M O,.iface 230 (.pointer (some ⟨w3.heap.size,0,none⟩))] (w3.alloc (.cells #[.nilIface,.iface I J,.iface 216 (.pointer (some ⟨w2.heap.size,0,none⟩))] 233)) fun e D=>(∃a,e=thrown (.iface 407 (.pointer (some a)))/\TyO A B K ad w (thrown (.iface 407 (.pointer (some a)))) D res.2 res.1)\/(e= .returned (.tuple #[])/\D.cell? ⟨w.heap.size,0,none⟩=some (.int .i64 fl)/\D.cell? ⟨w.heap.size,1,none⟩=some wv/\D.cell? ⟨w.heap.size+1,0,none⟩=some (.pointer p)/\D.cell? ⟨w.heap.size+1,1,none⟩=some (.map (some gm))/\D.cell? ⟨eb,2,none⟩=some (.iface Ty L)/\Hid (TyO A B K ad w (.returned (.iface 216 (.pointer (some ⟨w2.heap.size,0,none⟩)))) D res.2 res.1))))):=by
   refine(STf.call aw.out h3 aA au).mono ?_
   rintro e w3 (⟨j,rfl,rfl,hk,hw⟩|⟨q3,I,J,ah,rfl,rfl,aJ,Y,ac⟩)
   .simp only[Vaa]at d;subst d;exact .inl ⟨_,rfl,rfl,hk,(ae.trans (Gk.ofKw hw)).kw⟩
   .have aj:=af.gk ac (by decide);obtain⟨e0,e1,e2,e3⟩:=aj.c;refine .inr ⟨I,J,rfl,e0,e1,e2,e3,aj.x (i:=2) rfl,?_⟩
    simp only[Vab]at d;obtain⟨eo,ao,d⟩:=d;have aC:=Y.sx;have av:=ac.rv ay;have aK:=aC.newa Y.ws aJ av;have am:Kept w3 (w3.alloc (.cells #[.nilIface,.iface I J,.iface 216 (.pointer (some ⟨w2.heap.size,0,none⟩))] 233)):=Vex _ _;have ai:Gk B ah (ah++ [w3.heap.size]) w3 (w3.alloc (.cells #[.nilIface,.iface I J,.iface 216 (.pointer (some ⟨w2.heap.size,0,none⟩))] 233)):=Gk.new w3 _;have aH:=aj.kept am;refine(JoJ A B fuN _ _ _ eo ao _ (ah++ [w3.heap.size]) _ _ (ai.ga Y.ga) aK ((ac.rv aD).up _) (RV.last aC.len .ar)).mono ?_
    intro e D G
    cases eo with
    |er j=>
     simp only[Vaa]at d;subst d;obtain⟨he,U⟩:=G;exact .inl ⟨_,he,rfl,T _ _ _ _ (T _ _ [] _ Y.k (Kt.of_kept am)) U,(((ae.trans ac).trans ai).trans (Gk.ofKt U)).kw⟩
    |ok σ1=>
     simp only[Vaa]at d;subst d;obtain⟨he,aI,U⟩:=G;have az:=aH.gk (Gk.ofKt (B:=B) U) (by decide);obtain⟨f0,f1,f2,f3⟩:=az.c;exact .inr ⟨he,f0,f1,f2,f3,az.x (i:=2) rfl,_,_,rfl,av.up _,aI,WS.eq fuN (Y.ws.add _) ao,T _ _ _ _ (T _ _ [] _ Y.k (Kt.of_kept am)) U,((ae.trans ac).trans ai).trans (Gk.ofKt U)⟩
  obtain⟨c0,c1,c2,c3⟩:=af.c;have c4:=af.x (i:=2) (v:= .iface Ty L) rfl;clear ak hV ag al ay au ae aD af aA E aF Z aG aB h3 d HR aw HH d0 d1 d2 d3 d4
  go_region_held2 (fun w'=>w'.cell? ⟨w.heap.size,0,none⟩=some (.int .i64 fl)/\w'.cell? ⟨w.heap.size,1,none⟩=some wv/\w'.cell? ⟨w.heap.size+1,0,none⟩=some (.pointer p)/\w'.cell? ⟨w.heap.size+1,1,none⟩=some (.map (some gm))/\w'.cell? ⟨eb,2,none⟩=some (.iface Ty L)) (go_keep) (first|(go_at_call 127;refine Vac HC.out ?_;rintro e w3 (⟨a,rfl,G⟩|⟨I,J,rfl,d0,d1,d2,d3,d4,HD⟩);exact⟨rfl,G⟩;clear HC)|(go_at_call 221;refine Vac HD.out ?_;rintro e D (⟨a,rfl,G⟩|⟨rfl,f0,f1,f2,f3,f4,HR⟩);exact⟨rfl,G⟩;clear HD))
  all_goals
   go_wp2
   go_ret
   exact HR.out
variable {z:X}{vz:Value}
theorem JrC{ω:Type}{A:Nat->Addr}{B:Nat}{K:World->ω->Prop}(hK:KOk K){gv:Gv}{fl:Int}{wv:Value}{f:X->List Bd->St->ω->Option (Oc (TR×St)×ω)}(hf:STf A B K gv fl wv f){x:X}{own:List Bd}{σ:St}{o:ω}{res:Oc (TR×St)×ω}(h:ifF f x y z own σ o=some res){w:World}{ad:List Nat}{p:Option Addr}{gm:Nat}(hT:TI A B K w ad σ own gv p gm o){eb:Nat}(hb:w.heap[eb]? =some (.cells #[.int .i64 dpt,vx,vy,vz] 332 (0,0)))(hx:PX w (fun _=>True) x vx)(hy:PX w (fun _=>True) y vy)(hz:PX w (fun _=>True) z vz):
  Calls prog 203 #[.agg #[.int .i64 fl,wv],.pointer (some ⟨eb,0,none⟩),.agg #[.pointer p,.map (some gm)]] w fun e w'=>TyO A B K ad w e w' res.2 res.1:=by
 simp only[ifF,Vab]at h;obtain⟨⟨r1,o1⟩,h1,h⟩:=h;obtain⟨hF,aE⟩:=Jce w eb fl wv p gm hb;obtain⟨Tx,Z,rfl⟩:=hx.iface;obtain⟨Ty,uy,rfl⟩:=hy.iface;obtain⟨M,O,rfl⟩:=hz.iface
 go_enter func203,ntmps203
 go_wp2_with fail
 generalize(w.alloc (.cells #[.int .i64 fl,wv] 172)).alloc (.cells #[.pointer p,.map (some gm)] 244)=ah at*;have af:Kept w ah.drew:=aE.trans (Vey ah);have hF:=hF.kept (Vey ah);have aK:=hT.kept hK af;have aA:=PX.keepT (XKeep.kept af) hy;have ay:=PX.keepT (XKeep.kept af) hz;have an:Gk B ad ad w ah.drew:=Gk.ofKt (Kt.of_kept af)
 have V:Hid (Calls prog 127 #[.agg #[.int .i64 fl,wv],.iface Tx Z,.agg #[.pointer p,.map (some gm)]] ah.drew fun e w2=>(∃a,e=thrown (.iface 407 (.pointer (some a)))/\TyO A B K ad w (thrown (.iface 407 (.pointer (some a)))) w2 res.2 res.1)\/(∃T2 u2,e= .returned (.iface T2 u2)/\w2.cell? ⟨w.heap.size,0,none⟩=some (.int .i64 fl)/\w2.cell? ⟨w.heap.size,1,none⟩=some wv/\w2.cell? ⟨w.heap.size+1,0,none⟩=some (.pointer p)/\w2.cell? ⟨w.heap.size+1,1,none⟩=some (.map (some gm))/\w2.cell? ⟨eb,1,none⟩=some (.iface Tx Z)/\
   Hid (Calls prog 221 #[.iface T2 u2,.iface 343 (.agg #[.string ⟨#[98,111,111,108]⟩])] w2 fun e D=>(∃a,e=thrown (.iface 407 (.pointer (some a)))/\TyO A B K ad w (thrown (.iface 407 (.pointer (some a)))) D res.2 res.1)\/(e= .returned (.tuple #[])/\D.cell? ⟨w.heap.size,0,none⟩=some (.int .i64 fl)/\D.cell? ⟨w.heap.size,1,none⟩=some wv/\D.cell? ⟨w.heap.size+1,0,none⟩=some (.pointer p)/\D.cell? ⟨w.heap.size+1,1,none⟩=some (.map (some gm))/\D.cell? ⟨eb,1,none⟩=some (.iface Tx Z)/\
    Hid (∃(σ1:St) (ad2:List Nat),(f y own σ1 o1).bind (fun r=>match r with
       |(.er j,o)=>some (.er j,o)
       |(.ok p,o)=>(f z own p.2 o).bind fun r=>match r with
        |(.er j,o)=>some (.er j,o)
        |(.ok p2,o)=>(eqF fuN p2.2 p.1 p2.1).bind fun q=>match q with
         | .er j=>some (.er j,o)
         | .ok σ2=>some (.ok (p.1,σ2),o))=some res/\TI A B K D ad2 σ1 own gv p gm o1/\Gk B ad ad2 w D/\FX D w.heap.size (w.heap.size+1) eb fl wv p gm #[.int .i64 dpt,.iface Tx Z,.iface Ty uy,.iface M O] 332/\PX D (fun _=>True) y (.iface Ty uy)/\PX D (fun _=>True) z (.iface M O)))))):=by
  refine(hf.call h1 (hx.keepT (XKeep.kept af)) aK).mono ?_
  rintro e w2 (⟨j,rfl,rfl,hk,hw⟩|⟨q,T2,u2,ad2,rfl,rfl,hv,J,hg⟩)
  .simp only[Vaa]at h;subst h;exact .inl ⟨_,rfl,rfl,hk,(an.trans (Gk.ofKw hw)).kw⟩
  .have ac:=hF.gk hg (by decide);obtain⟨d0,d1,d2,d3⟩:=ac.c;refine .inr ⟨T2,u2,rfl,d0,d1,d2,d3,ac.x (i:=1) rfl,?_⟩
   simp only[Vab]at h;obtain⟨eo,ai,h⟩:=h;refine(JoJ A B fuN _ _ _ eo ai _ ad2 _ _ J.ga J.sx hv rfl).mono ?_
   intro e D E
   cases eo with
   |er j=>
    simp only[Vaa]at h;subst h;obtain⟨he,I⟩:=E;exact .inl ⟨_,he,rfl,hK _ _ _ _ J.k I,((an.trans hg).trans (Gk.ofKt I)).kw⟩
   |ok σ1=>
    obtain⟨he,aw,I⟩:=E;have ak:=Gk.ofKt (B:=B) I;have aa:=ac.gk ak (by decide);obtain⟨f0,f1,f2,f3⟩:=aa.c;exact .inr ⟨he,f0,f1,f2,f3,aa.x (i:=1) rfl,σ1,ad2,h,J.to ak aw (WS.eq fuN J.ws ai) (hK _ _ _ _ J.k I),(an.trans hg).trans ak,aa,(aA.gk hg).gk ak,(ay.gk hg).gk ak⟩
 obtain⟨c0,c1,c2,c3⟩:=hF.c;have c4:=hF.x (i:=1) (v:= .iface Tx Z) rfl;have aD:Hid _:=hf;clear hT aK hF aE af hx hy hz h1 hf h hb aA ay an
 go_region_held2 (fun w'=>w'.cell? ⟨w.heap.size,0,none⟩=some (.int .i64 fl)/\w'.cell? ⟨w.heap.size,1,none⟩=some wv/\w'.cell? ⟨w.heap.size+1,0,none⟩=some (.pointer p)/\w'.cell? ⟨w.heap.size+1,1,none⟩=some (.map (some gm))/\w'.cell? ⟨eb,1,none⟩=some (.iface Tx Z)) (go_keep) (first|(go_at_call 127;refine Vac V.out ?_;rintro e w2 (⟨a,rfl,E⟩|⟨T2,u2,rfl,d0,d1,d2,d3,d4,HD⟩);exact⟨rfl,E⟩;clear V)|(go_at_call 221;refine Vac HD.out ?_;rintro e D (⟨a,rfl,E⟩|⟨rfl,f0,f1,f2,f3,f4,HR⟩);exact⟨rfl,E⟩;clear HD))
 all_goals
  obtain⟨σ1,ad2,d,J,aM,ac,aN,az⟩:=HR.out;simp only[Vab]at d;obtain⟨⟨r3,o3⟩,h3,d⟩:=d;have G:Kept D D.drew:=Vey _;have aC:=J.kept hK G;have ao:=ac.kept G;have aF:=PX.keepT (XKeep.kept G) aN;have aH:=PX.keepT (XKeep.kept G) az;have ax:Gk B ad ad2 w D.drew:=aM.trans (Gk.ofKt (Kt.of_kept G))
  have V:Hid (Calls prog 127 #[.agg #[.int .i64 fl,wv],.iface Ty uy,.agg #[.pointer p,.map (some gm)]] D.drew fun e w3=>(∃a,e=thrown (.iface 407 (.pointer (some a)))/\TyO A B K ad w (thrown (.iface 407 (.pointer (some a)))) w3 res.2 res.1)\/(∃Y u3,e= .returned (.iface Y u3)/\w3.cell? ⟨w.heap.size,0,none⟩=some (.int .i64 fl)/\w3.cell? ⟨w.heap.size,1,none⟩=some wv/\w3.cell? ⟨w.heap.size+1,0,none⟩=some (.pointer p)/\w3.cell? ⟨w.heap.size+1,1,none⟩=some (.map (some gm))/\w3.cell? ⟨eb,2,none⟩=some (.iface Ty uy)/\
    Hid (∃(U:TR×St) (W:List Nat),(f z own U.2 o3).bind (fun r=>match r with
        |(.er j,o)=>some (.er j,o)
        |(.ok p2,o)=>(eqF fuN p2.2 U.1 p2.1).bind fun q=>match q with
         | .er j=>some (.er j,o)
         | .ok σ2=>some (.ok (U.1,σ2),o))=some res/\RV W U.1 (.iface Y u3)/\TI A B K w3 W U.2 own gv p gm o3/\Gk B ad W w w3/\FX w3 w.heap.size (w.heap.size+1) eb fl wv p gm #[.int .i64 dpt,.iface Tx Z,.iface Ty uy,.iface M O] 332/\PX w3 (fun _=>True) z (.iface M O)))):=by
   refine(STf.call aD.out h3 aF aC).mono ?_
   rintro e w3 (⟨j,rfl,rfl,hk,hw⟩|⟨U,Y,u3,W,rfl,rfl,am,au,ag⟩)
   .simp only[Vaa]at d;subst d;exact .inl ⟨_,rfl,rfl,hk,(ax.trans (Gk.ofKw hw)).kw⟩
   .have ae:=ao.gk ag (by decide);obtain⟨e0,e1,e2,e3⟩:=ae.c;exact .inr ⟨Y,u3,rfl,e0,e1,e2,e3,ae.x (i:=2) rfl,U,W,d,am,au,ax.trans ag,ae,aH.gk ag⟩
  obtain⟨c0,c1,c2,c3⟩:=ao.c;have c4:=ao.x (i:=2) (v:= .iface Ty uy) rfl;clear G aC ax ao aF aH J aM ac aN az h3 d HR f0 f1 f2 f3 f4 d0 d1 d2 d3 d4
  go_wp2_with fail
  go_region_held2 (fun w'=>w'.cell? ⟨w.heap.size,0,none⟩=some (.int .i64 fl)/\w'.cell? ⟨w.heap.size,1,none⟩=some wv/\w'.cell? ⟨w.heap.size+1,0,none⟩=some (.pointer p)/\w'.cell? ⟨w.heap.size+1,1,none⟩=some (.map (some gm))/\w'.cell? ⟨eb,2,none⟩=some (.iface Ty uy)) (go_keep) (first|(go_at_call 127;refine Vac V.out ?_;rintro e w3 (⟨a,rfl,E⟩|⟨Y,u3,rfl,d0,d1,d2,d3,d4,HR⟩);exact⟨rfl,E⟩;clear V))
  all_goals
   obtain⟨U,W,d,am,au,ag,ae,aL⟩:=HR.out;simp only[Vab]at d;obtain⟨⟨r5,o5⟩,h5,d⟩:=d;have G:Kept w3 w3.drew:=Vey _;have aG:=au.kept hK G;have al:=ae.kept G;have aJ:=PX.keepT (XKeep.kept G) aL;have av:Gk B ad W w w3.drew:=ag.trans (Gk.ofKt (Kt.of_kept G))
   have V:Hid (Calls prog 127 #[.agg #[.int .i64 fl,wv],.iface M O,.agg #[.pointer p,.map (some gm)]] w3.drew fun e T=>(∃a,e=thrown (.iface 407 (.pointer (some a)))/\TyO A B K ad w (thrown (.iface 407 (.pointer (some a)))) T res.2 res.1)\/(∃T5 u5,e= .returned (.iface T5 u5)/\T.cell? ⟨w.heap.size,0,none⟩=some (.int .i64 fl)/\T.cell? ⟨w.heap.size,1,none⟩=some wv/\T.cell? ⟨w.heap.size+1,0,none⟩=some (.pointer p)/\T.cell? ⟨w.heap.size+1,1,none⟩=some (.map (some gm))/\T.cell? ⟨eb,3,none⟩=some (.iface M O)/\
     Hid (Calls prog 221 #[.iface Y u3,.iface T5 u5] T fun e L=>(∃a,e=thrown (.iface 407 (.pointer (some a)))/\TyO A B K ad w (thrown (.iface 407 (.pointer (some a)))) L res.2 res.1)\/(e= .returned (.tuple #[])/\L.cell? ⟨w.heap.size,0,none⟩=some (.int .i64 fl)/\L.cell? ⟨w.heap.size,1,none⟩=some wv/\L.cell? ⟨w.heap.size+1,0,none⟩=some (.pointer p)/\L.cell? ⟨w.heap.size+1,1,none⟩=some (.map (some gm))/\L.cell? ⟨eb,3,none⟩=some (.iface M O)/\Hid (TyO A B K ad w (.returned (.iface Y u3)) L res.2 res.1))))):=by
    refine(STf.call aD.out h5 aJ aG).mono ?_
    rintro e T (⟨j,rfl,rfl,hk,hw⟩|⟨q5,T5,u5,aP,rfl,rfl,aO,aj,aq⟩)
    .simp only[Vaa]at d;subst d;exact .inl ⟨_,rfl,rfl,hk,(av.trans (Gk.ofKw hw)).kw⟩
    .have aa:=al.gk aq (by decide);obtain⟨e0,e1,e2,e3⟩:=aa.c;refine .inr ⟨T5,u5,rfl,e0,e1,e2,e3,aa.x (i:=3) rfl,?_⟩
     simp only[Vab]at d;obtain⟨eo,ai,d⟩:=d;have aI:=aq.rv am;refine(JoJ A B fuN _ _ _ eo ai _ aP _ _ aj.ga aj.sx aI aO).mono ?_
     intro e L E
     cases eo with
     |er j=>
      simp only[Vaa]at d;subst d;obtain⟨he,I⟩:=E;exact .inl ⟨_,he,rfl,hK _ _ _ _ aj.k I,((av.trans aq).trans (Gk.ofKt I)).kw⟩
     |ok σ9=>
      simp only[Vaa]at d;subst d;obtain⟨he,aw,I⟩:=E;have aB:=aa.gk (Gk.ofKt (B:=B) I) (by decide);obtain⟨f0,f1,f2,f3⟩:=aB.c;exact .inr ⟨he,f0,f1,f2,f3,aB.x (i:=3) rfl,_,_,rfl,aI,aw,WS.eq fuN aj.ws ai,hK _ _ _ _ aj.k I,(av.trans aq).trans (Gk.ofKt I)⟩
   obtain⟨c0,c1,c2,c3⟩:=al.c;have c4:=al.x (i:=3) (v:= .iface M O) rfl;clear G aG av al aJ au ag ae aL am h5 d HR d0 d1 d2 d3 d4
   go_wp2_with fail
   go_region_held2 (fun w'=>w'.cell? ⟨w.heap.size,0,none⟩=some (.int .i64 fl)/\w'.cell? ⟨w.heap.size,1,none⟩=some wv/\w'.cell? ⟨w.heap.size+1,0,none⟩=some (.pointer p)/\w'.cell? ⟨w.heap.size+1,1,none⟩=some (.map (some gm))/\w'.cell? ⟨eb,3,none⟩=some (.iface M O)) (go_keep) (first|(go_at_call 127;refine Vac V.out ?_;rintro e T (⟨a,rfl,E⟩|⟨T5,u5,rfl,d0,d1,d2,d3,d4,HD⟩);exact⟨rfl,E⟩;clear V)|(go_at_call 221;refine Vac HD.out ?_;rintro e L (⟨a,rfl,E⟩|⟨rfl,f0,f1,f2,f3,f4,HR⟩);exact⟨rfl,E⟩;clear HD))
   all_goals
    go_wp2
    go_ret
    exact HR.out
theorem TyO.split{ω:Type}{A:Nat->Addr}{B:Nat}{K:World->ω->Prop}{ad:List Nat}{w:World}{e:Ending}{w':World}{o:ω}{r:Oc (TR×St)}(h:TyO A B K ad w e w' o r):(∃a,e=thrown (.iface 407 (.pointer (some a)))/\TyO A B K ad w (thrown (.iface 407 (.pointer (some a)))) w' o r)\/(∃T u,e= .returned (.iface T u)/\TyO A B K ad w (.returned (.iface T u)) w' o r):=by
 cases r with
 |er j=>
  obtain⟨D,d⟩:=h;exact .inl ⟨A j,D,rfl,d⟩
 |ok q=>
  obtain⟨v,ad',rfl,d,E⟩:=h;obtain⟨T,u,rfl⟩:=d.iface;exact .inr ⟨T,u,rfl,_,ad',rfl,d,E⟩
theorem Jq4{ω:Type}{A:Nat->Addr}{B:Nat}{K:World->ω->Prop}{fl:Int}{wv:Value}{w:World}{ad:List Nat}{p:Option Addr}{gm eb:Nat}{o:ω}{r:Oc (TR×St)}(D:∀W,Kept w W->Calls prog 201 #[.pointer (some ⟨eb,0,none⟩),.agg #[.pointer p,.map (some gm)]] W fun e w'=>TyO A B K ad W e w' o r):
  Calls prog 168 #[.agg #[.int .i64 fl,wv],.iface 257 (.pointer (some ⟨eb,0,none⟩)),.agg #[.pointer p,.map (some gm)]] w fun e w'=>TyO A B K ad w e w' o r:=by
 have J:=fun W=>IcG (.pointer (some ⟨eb,0,none⟩)) W
 have h:Kept w ((w.alloc (.cells #[.int .i64 fl,wv] 172)).alloc (.cells #[.pointer p,.map (some gm)] 244)):=(Vex _ _).trans (Vex _ _);have E:Hid _:=D _ h;have G:Hid _:=h;clear D h
 go_enter Vcu,Vcm
 go_wp2_with fail
 refine Vac E.out ?_
 intro e w2 d;have d:=TyO.pre (Gk.ofKt (B:=B) (Kt.of_kept (ad:=ad) G.out)) d
 rcases d.split with⟨a,rfl,hF⟩|⟨T,u,rfl,hF⟩
 .exact⟨rfl,hF⟩
 .have I:Hid _:=hF;clear hF d E
  go_wp2
  go_ret
  exact I.out
theorem k_if{ω:Type}{A:Nat->Addr}{B:Nat}{K:World->ω->Prop}{fl:Int}{wv:Value}{w:World}{ad:List Nat}{p:Option Addr}{gm eb:Nat}{o:ω}{r:Oc (TR×St)}(D:∀W,Kept w W->Calls prog 203 #[.agg #[.int .i64 fl,wv],.pointer (some ⟨eb,0,none⟩),.agg #[.pointer p,.map (some gm)]] W fun e w'=>TyO A B K ad W e w' o r):
  Calls prog 168 #[.agg #[.int .i64 fl,wv],.iface 269 (.pointer (some ⟨eb,0,none⟩)),.agg #[.pointer p,.map (some gm)]] w fun e w'=>TyO A B K ad w e w' o r:=by
 have J:=fun W=>Ics (.pointer (some ⟨eb,0,none⟩)) W
 have L:=fun W=>Icp (.pointer (some ⟨eb,0,none⟩)) W
 have M:=fun W=>Icq (.pointer (some ⟨eb,0,none⟩)) W
 have h:Kept w ((w.alloc (.cells #[.int .i64 fl,wv] 172)).alloc (.cells #[.pointer p,.map (some gm)] 244)):=(Vex _ _).trans (Vex _ _);have E:Hid _:=D _ h;have G:Hid _:=h;clear D h
 go_enter Vcu,Vcm
 go_wp2_with fail
 refine Vac E.out ?_
 intro e w2 d;have d:=TyO.pre (Gk.ofKt (B:=B) (Kt.of_kept (ad:=ad) G.out)) d
 rcases d.split with⟨a,rfl,hF⟩|⟨T,u,rfl,hF⟩
 .exact⟨rfl,hF⟩
 .have I:Hid _:=hF;clear hF d E
  go_wp2
  go_ret
  exact I.out
theorem k_app{ω:Type}{A:Nat->Addr}{B:Nat}{K:World->ω->Prop}{fl:Int}{wv:Value}{w:World}{ad:List Nat}{p:Option Addr}{gm eb:Nat}{o:ω}{r:Oc (TR×St)}(D:∀W,Kept w W->Calls prog 205 #[.agg #[.int .i64 fl,wv],.pointer (some ⟨eb,0,none⟩),.agg #[.pointer p,.map (some gm)]] W fun e w'=>TyO A B K ad W e w' o r):
  Calls prog 168 #[.agg #[.int .i64 fl,wv],.iface 276 (.pointer (some ⟨eb,0,none⟩)),.agg #[.pointer p,.map (some gm)]] w fun e w'=>TyO A B K ad w e w' o r:=by
 have L:=fun W=>Ice (.pointer (some ⟨eb,0,none⟩)) W
 have O:=fun W=>Icb (.pointer (some ⟨eb,0,none⟩)) W
 have U:=fun W=>Icc (.pointer (some ⟨eb,0,none⟩)) W
 have J:=fun W=>Icd (.pointer (some ⟨eb,0,none⟩)) W
 have M:=fun W=>Ica (.pointer (some ⟨eb,0,none⟩)) W
 have h:Kept w ((w.alloc (.cells #[.int .i64 fl,wv] 172)).alloc (.cells #[.pointer p,.map (some gm)] 244)):=(Vex _ _).trans (Vex _ _);have E:Hid _:=D _ h;have G:Hid _:=h;clear D h
 go_enter Vcu,Vcm
 go_wp2_with fail
 refine Vac E.out ?_
 intro e w2 d;have d:=TyO.pre (Gk.ofKt (B:=B) (Kt.of_kept (ad:=ad) G.out)) d
 rcases d.split with⟨a,rfl,hF⟩|⟨T,u,rfl,hF⟩
 .exact⟨rfl,hF⟩
 .have I:Hid _:=hF;clear hF d E
  go_wp2
  go_ret
  exact I.out
theorem k_rec{ω:Type}{A:Nat->Addr}{B:Nat}{K:World->ω->Prop}{fl:Int}{wv:Value}{w:World}{ad:List Nat}{p:Option Addr}{gm eb:Nat}{o:ω}{r:Oc (TR×St)}(D:∀W,Kept w W->Calls prog 206 #[.agg #[.int .i64 fl,wv],.pointer (some ⟨eb,0,none⟩),.agg #[.pointer p,.map (some gm)]] W fun e w'=>TyO A B K ad W e w' o r):
  Calls prog 168 #[.agg #[.int .i64 fl,wv],.iface 274 (.pointer (some ⟨eb,0,none⟩)),.agg #[.pointer p,.map (some gm)]] w fun e w'=>TyO A B K ad w e w' o r:=by
 have L:=fun W=>Ic4 (.pointer (some ⟨eb,0,none⟩)) W
 have U:=fun W=>Ic1 (.pointer (some ⟨eb,0,none⟩)) W
 have V:=fun W=>Ic2 (.pointer (some ⟨eb,0,none⟩)) W
 have J:=fun W=>Ic3 (.pointer (some ⟨eb,0,none⟩)) W
 have O:=fun W=>Ic0 (.pointer (some ⟨eb,0,none⟩)) W
 have Y:=fun W=>Ic6 (.pointer (some ⟨eb,0,none⟩)) W
 have M:=fun W=>Ic7 (.pointer (some ⟨eb,0,none⟩)) W
 have h:Kept w ((w.alloc (.cells #[.int .i64 fl,wv] 172)).alloc (.cells #[.pointer p,.map (some gm)] 244)):=(Vex _ _).trans (Vex _ _);have E:Hid _:=D _ h;have G:Hid _:=h;clear D h
 go_enter Vcu,Vcm
 go_wp2_with fail
 refine Vac E.out ?_
 intro e w2 d;have d:=TyO.pre (Gk.ofKt (B:=B) (Kt.of_kept (ad:=ad) G.out)) d
 rcases d.split with⟨a,rfl,hF⟩|⟨T,u,rfl,hF⟩
 .exact⟨rfl,hF⟩
 .have I:Hid _:=hF;clear hF d E
  go_wp2
  go_ret
  exact I.out
theorem k_num{ω:Type}{A:Nat->Addr}{B:Nat}{K:World->ω->Prop}(D:KOk K){fl:Int}{wv:Value}{w:World}{ad:List Nat}{σ:St}{own:List Bd}{gv:Gv}{p:Option Addr}{gm eb:Nat}{o:ω}(h:TI A B K w ad σ own gv p gm o):
  Calls prog 168 #[.agg #[.int .i64 fl,wv],.iface 263 (.pointer (some ⟨eb,0,none⟩)),.agg #[.pointer p,.map (some gm)]] w fun e w'=>TyO A B K ad w e w' o (.ok (.int,σ)):=by
 have I:=fun W=>IcO (.pointer (some ⟨eb,0,none⟩)) W
 have M:=fun W=>IcL (.pointer (some ⟨eb,0,none⟩)) W
 have O:=fun W=>IcM (.pointer (some ⟨eb,0,none⟩)) W
 have G:=fun W=>IcN (.pointer (some ⟨eb,0,none⟩)) W
 have L:=fun W=>IcK (.pointer (some ⟨eb,0,none⟩)) W
 have T:=fun W=>IcQ (.pointer (some ⟨eb,0,none⟩)) W
 have J:=fun W=>IcR (.pointer (some ⟨eb,0,none⟩)) W
 have d:Kept w ((w.alloc (.cells #[.int .i64 fl,wv] 172)).alloc (.cells #[.pointer p,.map (some gm)] 244)):=(Vex _ _).trans (Vex _ _);have E:Hid (TyO A B K ad w (.returned (.iface 343 (.agg #[.string ⟨#[105,110,116]⟩]))) ((w.alloc (.cells #[.int .i64 fl,wv] 172)).alloc (.cells #[.pointer p,.map (some gm)] 244)) o (.ok (.int,σ))):=⟨_,ad,rfl,rfl,h.sx.kept d,h.ws,D _ _ [] _ h.k (Kt.of_kept d),Gk.ofKt (Kt.of_kept d)⟩
 clear h d
 go_enter Vcu,Vcm
 go_wp2
 go_ret
 exact E.out
theorem Jq5{ω:Type}{A:Nat->Addr}{B:Nat}{K:World->ω->Prop}(hK:KOk K){gv:Gv}{fl:Int}{wv:Value}{f:X->List Bd->St->ω->Option (Oc (TR×St)×ω)}(hf:STf A B K gv fl wv f){x:X}{own:List Bd}{σ:St}{o:ω}{res:Oc (TR×St)×ω}(h:twoF f x y own σ o=some res){w:World}{ad:List Nat}{p:Option Addr}{gm:Nat}(hT:TI A B K w ad σ own gv p gm o){eb:Nat}(hb:w.heap[eb]? =some (.cells #[.int .i64 dpt,vx,vy] 283 (0,0)))(hx:PX w (fun _=>True) x vx)(hy:PX w (fun _=>True) y vy):
  Calls prog 168 #[.agg #[.int .i64 fl,wv],.iface 281 (.pointer (some ⟨eb,0,none⟩)),.agg #[.pointer p,.map (some gm)]] w fun e w'=>TyO A B K ad w e w' res.2 res.1:=by
 have q0:=fun W=>IcW (.pointer (some ⟨eb,0,none⟩)) W
 have q1:=fun W=>IcT (.pointer (some ⟨eb,0,none⟩)) W
 have q2:=fun W=>IcU (.pointer (some ⟨eb,0,none⟩)) W
 have q3:=fun W=>IcV (.pointer (some ⟨eb,0,none⟩)) W
 have q4:=fun W=>IcS (.pointer (some ⟨eb,0,none⟩)) W
 have q5:=fun W=>IcY (.pointer (some ⟨eb,0,none⟩)) W
 simp only[twoF,Vab]at h;obtain⟨⟨r1,o1⟩,h1,h⟩:=h;obtain⟨hF,aj⟩:=Jce w eb fl wv p gm hb;obtain⟨M,Y,rfl⟩:=hx.iface;obtain⟨Ty,L,rfl⟩:=hy.iface
 go_enter Vcu,Vcm
 go_wp2_with fail
 clear q0 q1 q2 q3 q4 q5;generalize(w.alloc (.cells #[.int .i64 fl,wv] 172)).alloc (.cells #[.pointer p,.map (some gm)] 244)=W at*;have T:Kept w W.drew:=aj.trans (Vey W);have hF:=hF.kept (Vey W);have ak:=hT.kept hK T;have an:=PX.keepT (XKeep.kept T) hy;have af:Gk B ad ad w W.drew:=Gk.ofKt (Kt.of_kept T)
 have U:Hid (Calls prog 127 #[.agg #[.int .i64 fl,wv],.iface M Y,.agg #[.pointer p,.map (some gm)]] W.drew fun e w2=>(∃a,e=thrown (.iface 407 (.pointer (some a)))/\TyO A B K ad w (thrown (.iface 407 (.pointer (some a)))) w2 res.2 res.1)\/(∃E D,e= .returned (.iface E D)/\w2.cell? ⟨w.heap.size,0,none⟩=some (.int .i64 fl)/\w2.cell? ⟨w.heap.size,1,none⟩=some wv/\w2.cell? ⟨w.heap.size+1,0,none⟩=some (.pointer p)/\w2.cell? ⟨w.heap.size+1,1,none⟩=some (.map (some gm))/\w2.cell? ⟨eb,1,none⟩=some (.iface M Y)/\Hid (∃q ad2,r1= .ok q/\RV ad2 q.1 (.iface E D)/\TI A B K w2 ad2 q.2 own gv p gm o1/\Gk B ad ad2 w w2/\FX w2 w.heap.size (w.heap.size+1) eb fl wv p gm #[.int .i64 dpt,.iface M Y,.iface Ty L] 283/\PX w2 (fun _=>True) y (.iface Ty L)))):=by
  refine(hf.call h1 (hx.keepT (XKeep.kept T)) ak).mono ?_
  rintro e w2 (⟨j,rfl,rfl,hk,hw⟩|⟨q,E,D,ad2,rfl,rfl,hv,aa,hg⟩)
  .simp only[Vaa]at h;subst h;exact .inl ⟨_,rfl,rfl,hk,(af.trans (Gk.ofKw hw)).kw⟩
  .have G:=hF.gk hg (by decide);obtain⟨d0,d1,Z,d3⟩:=G.c;exact .inr ⟨E,D,rfl,d0,d1,Z,d3,G.x (i:=1) rfl,q,ad2,rfl,hv,aa,af.trans hg,G,an.gk hg⟩
 obtain⟨c0,c1,c2,c3⟩:=hF.c;have c4:=hF.x (i:=1) (v:= .iface M Y) rfl;have au:Hid _:=hf;have HH:Hid _:=h;clear hT ak hF aj T hx hy h1 hf h hb an af
 go_region_held2 (fun w'=>w'.cell? ⟨w.heap.size,0,none⟩=some (.int .i64 fl)/\w'.cell? ⟨w.heap.size,1,none⟩=some wv/\w'.cell? ⟨w.heap.size+1,0,none⟩=some (.pointer p)/\w'.cell? ⟨w.heap.size+1,1,none⟩=some (.map (some gm))/\w'.cell? ⟨eb,1,none⟩=some (.iface M Y)) (go_keep) (first|(go_at_call 127;refine Vac U.out ?_;rintro e w2 (⟨a,rfl,hE⟩|⟨E,D,rfl,d0,d1,Z,d3,d4,HR⟩);exact⟨rfl,hE⟩;clear U))
 all_goals
  obtain⟨q,ad2,rfl,ai,aa,al,G,am⟩:=HR.out;have d:=HH.out;simp only[Vab]at d;obtain⟨⟨r3,o3⟩,h3,d⟩:=d;have O:Kept w2 w2.drew:=Vey _;have aq:=aa.kept hK O;have ac:=G.kept O;have ah:=PX.keepT (XKeep.kept O) am;have ag:Gk B ad ad2 w w2.drew:=al.trans (Gk.ofKt (Kt.of_kept O))
  have U:Hid (Calls prog 127 #[.agg #[.int .i64 fl,wv],.iface Ty L,.agg #[.pointer p,.map (some gm)]] w2.drew fun e w3=>(∃a,e=thrown (.iface 407 (.pointer (some a)))/\TyO A B K ad w (thrown (.iface 407 (.pointer (some a)))) w3 res.2 res.1)\/(∃I J,e= .returned (.iface I J)/\w3.cell? ⟨w.heap.size,0,none⟩=some (.int .i64 fl)/\w3.cell? ⟨w.heap.size,1,none⟩=some wv/\w3.cell? ⟨w.heap.size+1,0,none⟩=some (.pointer p)/\w3.cell? ⟨w.heap.size+1,1,none⟩=some (.map (some gm))/\w3.cell? ⟨eb,2,none⟩=some (.iface Ty L)/\Hid (TyO A B K ad w (.returned (.iface 226 (.pointer (some ⟨w3.heap.size,0,none⟩)))) (w3.alloc (.cells #[.nilIface,.iface E D,.iface I J] 229)) res.2 res.1))):=by
   refine(STf.call au.out h3 ah aq).mono ?_
   rintro e w3 (⟨j,rfl,rfl,hk,hw⟩|⟨q3,I,J,ax,rfl,rfl,av,V,ae⟩)
   .simp only[Vaa]at d;subst d;exact .inl ⟨_,rfl,rfl,hk,(ag.trans (Gk.ofKw hw)).kw⟩
   .have ao:=ac.gk ae (by decide);obtain⟨e0,e1,e2,e3⟩:=ao.c;simp only[Vaa]at d;subst d;have aw:Kept w3 (w3.alloc (.cells #[.nilIface,.iface E D,.iface I J] 229)):=Vex _ _;exact .inr ⟨I,J,rfl,e0,e1,e2,e3,ao.x (i:=2) rfl,_,_,rfl,RV.last V.sx.len .pr,V.sx.newp V.ws (ae.rv ai) av,V.ws.add _,hK _ _ [] _ V.k (Kt.of_kept aw),(ag.trans ae).trans (Gk.new w3 _)⟩
  obtain⟨c0,c1,c2,c3⟩:=ac.c;have c4:=ac.x (i:=2) (v:= .iface Ty L) rfl;clear O aq ag ac ah aa al G am ai h3 d HR au HH d0 d1 Z d3 d4
  go_wp2_with fail
  go_region_held2 (fun w'=>w'.cell? ⟨w.heap.size,0,none⟩=some (.int .i64 fl)/\w'.cell? ⟨w.heap.size,1,none⟩=some wv/\w'.cell? ⟨w.heap.size+1,0,none⟩=some (.pointer p)/\w'.cell? ⟨w.heap.size+1,1,none⟩=some (.map (some gm))/\w'.cell? ⟨eb,2,none⟩=some (.iface Ty L)) (go_keep) (first|(go_at_call 127;refine Vac U.out ?_;rintro e w3 (⟨a,rfl,hE⟩|⟨I,J,rfl,d0,d1,Z,d3,d4,HR⟩);exact⟨rfl,hE⟩;clear U))
  all_goals
   go_wp2
   go_ret
   exact HR.out
variable {tv:Value}
theorem TI.with{ω:Type}{A:Nat->Addr}{B:Nat}{K:World->ω->Prop}{w:World}{ad:List Nat}{σ:St}{own:List Bd}{gv:Gv}{p:Option Addr}{gm:Nat}{o:ω}(h:TI A B K w ad σ own gv p gm o){q:Nat}{b:Bool}(D:w.heap[q]? =some (.cells #[.string n,tv,.bool b,.pointer p] 359 (0,0)))(d:RV ad r tv):TI A B K w ad σ (⟨n,r,b⟩::own) gv (some ⟨q,0,none⟩) gm o:=
 ⟨h.sx,h.ws,h.ga,⟨q,tv,_,rfl,D,d,h.ch⟩,h.gm,h.k⟩
variable {m:BA}
theorem k_fun{ω:Type}{A:Nat->Addr}{B:Nat}{K:World->ω->Prop}(U:KOk K){gv:Gv}{fl:Int}{wv:Value}{f:X->List Bd->St->ω->Option (Oc (TR×St)×ω)}(hf:STf A B K gv fl wv f){x:X}{own:List Bd}{σ:St}{o:ω}{res:Oc (TR×St)×ω}(h:funF f m x own σ o=some res){w:World}{ad:List Nat}{p:Option Addr}{gm:Nat}(hT:TI A B K w ad σ own gv p gm o){eb:Nat}(hb:w.heap[eb]? =some (.cells #[.int .i64 dpt,.string m,vx] 268 (0,0)))(hx:PX w (fun _=>True) x vx):
  Calls prog 168 #[.agg #[.int .i64 fl,wv],.iface 266 (.pointer (some ⟨eb,0,none⟩)),.agg #[.pointer p,.map (some gm)]] w fun e w'=>TyO A B K ad w e w' res.2 res.1:=by
 have q0:=fun W=>Icl (.pointer (some ⟨eb,0,none⟩)) W
 have q1:=fun W=>Ici (.pointer (some ⟨eb,0,none⟩)) W
 simp only[funF,Vab]at h;obtain⟨⟨r1,o1⟩,h1,h⟩:=h;obtain⟨hF,T⟩:=Jce w eb fl wv p gm hb;obtain⟨J,L,rfl⟩:=hx.iface;have aj:((w.alloc (.cells #[.int .i64 fl,wv] 172)).alloc (.cells #[.pointer p,.map (some gm)] 244)).heap.size=w.heap.size+1+1:=by simp
 go_enter Vcu,Vcm
 go_wp2_with fail
 clear q0 q1;generalize(w.alloc (.cells #[.int .i64 fl,wv] 172)).alloc (.cells #[.pointer p,.map (some gm)] 244)=W at*;have E:=hT.kept U T;have ac:=E.sx;have Y:Kept W (W.alloc (.cells #[.nilIface,.string ⟨#[]⟩,.bool false] 221)).drew:=(Vex _ _).trans (Vey _);have ah:Gk B ad (ad++ [W.heap.size]) W (W.alloc (.cells #[.nilIface,.string ⟨#[]⟩,.bool false] 221)).drew:=(Gk.new W _).trans (Gk.ofKt (Kt.of_kept (Vey _)));have Z:RV (ad++ [W.heap.size]) (.nd .vr σ.length) (.iface 216 (.pointer (some ⟨W.heap.size,0,none⟩))):=RV.last ac.len .vr;have af:TI A B K (W.alloc (.cells #[.nilIface,.string ⟨#[]⟩,.bool false] 221)).drew (ad++ [W.heap.size]) (σ++ [newV]) own gv p gm o:=E.to ah ((ac.newv E.ws false).kept (Vey _)) (E.ws.add _) (U _ _ [] _ E.k (Kt.of_kept Y));have ae:Gk B ad (ad++ [W.heap.size]) w (W.alloc (.cells #[.nilIface,.string ⟨#[]⟩,.bool false] 221)).drew:=(Gk.ofKt (Kt.of_kept T)).trans ah;have G:=hF.kept Y;have ai:=PX.keepT (XKeep.kept (T.trans Y)) hx;rw[aj]at Z af ae;generalize(W.alloc (.cells #[.nilIface,.string ⟨#[]⟩,.bool false] 221))=V at*
 have HC:Hid (Calls prog 202 #[.agg #[.pointer p,.map (some gm)],.string m,.iface 216 (.pointer (some ⟨w.heap.size+1+1,0,none⟩))] V.drew fun e w2=>∃q,e= .returned (.agg #[.pointer (some ⟨q,0,none⟩),.map (some gm)])/\w2.cell? ⟨w.heap.size,0,none⟩=some (.int .i64 fl)/\w2.cell? ⟨w.heap.size,1,none⟩=some wv/\w2.cell? ⟨w.heap.size+1,0,none⟩=some (.pointer p)/\w2.cell? ⟨w.heap.size+1,1,none⟩=some (.map (some gm))/\w2.cell? ⟨eb,1,none⟩=some (.string m)/\w2.cell? ⟨eb,2,none⟩=some (.iface J L)/\
   Hid (Calls prog 127 #[.agg #[.int .i64 fl,wv],.iface J L,.agg #[.pointer (some ⟨q,0,none⟩),.map (some gm)]] w2 fun e w3=>(∃a,e=thrown (.iface 407 (.pointer (some a)))/\TyO A B K ad w (thrown (.iface 407 (.pointer (some a)))) w3 res.2 res.1)\/(∃d D,e= .returned (.iface d D)/\w3.cell? ⟨w.heap.size,0,none⟩=some (.int .i64 fl)/\w3.cell? ⟨w.heap.size,1,none⟩=some wv/\w3.cell? ⟨w.heap.size+1,0,none⟩=some (.pointer p)/\w3.cell? ⟨w.heap.size+1,1,none⟩=some (.map (some gm))/\w3.cell? ⟨eb,1,none⟩=some (.string m)/\w3.cell? ⟨eb,2,none⟩=some (.iface J L)/\Hid (TyO A B K ad w (.returned (.iface 230 (.pointer (some ⟨w3.heap.size,0,none⟩)))) (w3.alloc (.cells #[.nilIface,.iface 216 (.pointer (some ⟨w.heap.size+1+1,0,none⟩)),.iface d D] 233)) res.2 res.1)))):=by
  refine(JlF V.drew p gm m _ _).mono ?_
  rintro e w2 ⟨q,rfl,hq,M⟩;have O:=G.kept M;obtain⟨d0,d1,d2,d3⟩:=O.c;refine⟨q,rfl,d0,d1,d2,d3,O.x (i:=1) rfl,O.x (i:=2) rfl,?_⟩
  have am:=(af.kept U M).with hq Z;have ak:=ae.trans (Gk.ofKt (Kt.of_kept M));refine(hf.call h1 (ai.keepT (XKeep.kept M)) am).mono ?_
  rintro e w3 (⟨j,rfl,rfl,hk,hw⟩|⟨q3,d,D,ao,rfl,rfl,al,I,aa⟩)
  .simp only[Vaa]at h;subst h;exact .inl ⟨_,rfl,rfl,hk,(ak.trans (Gk.ofKw hw)).kw⟩
  .have ag:=O.gk aa (by decide);obtain⟨e0,e1,e2,e3⟩:=ag.c;simp only[Vaa]at h;subst h;have an:Kept w3 (w3.alloc (.cells #[.nilIface,.iface 216 (.pointer (some ⟨w.heap.size+1+1,0,none⟩)),.iface d D] 233)):=Vex _ _;exact .inr ⟨d,D,rfl,e0,e1,e2,e3,ag.x (i:=1) rfl,ag.x (i:=2) rfl,_,_,rfl,RV.last I.sx.len .ar,I.sx.newa I.ws (aa.rv Z) al,I.ws.add _,U _ _ [] _ I.k (Kt.of_kept an),(ak.trans aa).trans (Gk.new w3 _)⟩
 obtain⟨c0,c1,c2,c3⟩:=G.c;have c4:=G.x (i:=1) (v:= .string m) rfl;have c5:=G.x (i:=2) (v:= .iface J L) rfl;clear hT E af hF G T Y hx h1 hf h hb ai ae ah Z ac aj
 go_region_held2 (fun w'=>w'.cell? ⟨w.heap.size,0,none⟩=some (.int .i64 fl)/\w'.cell? ⟨w.heap.size,1,none⟩=some wv/\w'.cell? ⟨w.heap.size+1,0,none⟩=some (.pointer p)/\w'.cell? ⟨w.heap.size+1,1,none⟩=some (.map (some gm))/\w'.cell? ⟨eb,1,none⟩=some (.string m)/\w'.cell? ⟨eb,2,none⟩=some (.iface J L)) (go_keep) (first|(go_at_call 202;refine Vac HC.out ?_;rintro e w2 ⟨q,rfl,d0,d1,d2,d3,d4,d5,HD⟩;clear HC)|(go_at_call 127;refine Vac HD.out ?_;rintro e w3 (⟨a,rfl,hE⟩|⟨d,D,rfl,f0,f1,f2,f3,f4,f5,HR⟩);exact⟨rfl,hE⟩;clear HD))
 all_goals
  go_wp2
  go_ret
  exact HR.out
end Go.Proofs.YtleenphlgbklmaaGreatDoor
