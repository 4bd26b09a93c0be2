import Derived.Test.YtleenphlgbklmaaGreatDoorACPPs
set_option linter.unusedVariables false
set_option linter.unusedSimpArgs false
set_option maxRecDepth 100000
set_option maxHeartbeats 8000000
namespace Go.Proofs.YtleenphlgbklmaaGreatDoor
open Go.RowKit
open Result renaming andThen → Vet
open Instr renaming typeAssert → Veu, findAsking → Vev, findKey → Vew, findNow → Vex, lookup → Vey, checkKey → Vez, mapUpdate → VeA
open World renaming frozen? → VeB, cell? → VeC
open Kept renaming alloc → VeD
open Tryz
variable {A:Nat->Addr}{w w' w1:World}{B i mb j c:Nat}{ad:List Nat}{S:Nat->Prop}{v:Value}{l m:List (Nat×Nat)}{nm:BA}
structure GA(A:Nat->Addr)(B:Nat)(ad:List Nat)(w:World):Prop where
 glb:Glb A w
 lo:∀q,q∈ad->B<=q
 sz:B<=w.heap.size
 ab:∀k,k<8->(A k).block<B
 gb:0<B/\1<B/\2<B/\3<B/\4<B/\5<B/\6<B/\7<B/\8<B
theorem GA.start(h:Glb A w):GA A w.heap.size [] w:=
 ⟨h,by simp,Vau _,fun k d=>by
  obtain⟨c,t,e⟩:=h.blk k d;exact Vah e,Vaw _ _ h.c0,Vaw _ _ h.c1,Vaw _ _ h.c2,Vaw _ _ h.c3,Vaw _ _ h.c4,Vaw _ _ h.c5,Vaw _ _ h.c6,Vaw _ _ h.c7,Vaw _ _ h.et⟩
theorem Glb.low(h:Glb A w)(M:∀k,k<8->(A k).block<B)(E:0<B/\1<B/\2<B/\3<B/\4<B/\5<B/\6<B/\7<B/\8<B)(d:∀q,q<B->w'.heap[q]? =w.heap[q]?):Glb A w':=by
 obtain⟨L,I,U,W,T,J,O,G,V⟩:=E
 exact⟨fun k D=>by
  obtain⟨c,t,e⟩:=h.blk k D;exact⟨c,t,(d _ (M k D)).trans e⟩,h.ne,(VaH (d _ L)).trans h.c0,(VaH (d _ I)).trans h.c1,(VaH (d _ U)).trans h.c2,(VaH (d _ W)).trans h.c3,(VaH (d _ T)).trans h.c4,(VaH (d _ J)).trans h.c5,(VaH (d _ O)).trans h.c6,(VaH (d _ G)).trans h.c7,(VaH (d _ V)).trans h.et⟩
theorem GA.low(h:GA A B ad w)(d:w.heap.size<=w'.heap.size)(D:∀q,q<B->w'.heap[q]? =w.heap[q]?):GA A B ad w':=⟨h.glb.low h.ab h.gb D,h.lo,Vas h.sz d,h.ab,h.gb⟩
theorem Kt.low(h:Kt ad S w w')(G:B<=w.heap.size)(d:∀q,q∈ad->B<=q)(D:∀q,S q->B<=q):∀q,q<B->w'.heap[q]? =w.heap[q]? :=fun q E=>by
 have e:w.heap[q]? =some (w.heap[q]'(by omega)):=by simp
 rw[e];exact h.blk0 q _ e (fun z=>by have:=D q z;omega) (fun _ z=>by have:=d q z;omega)
theorem GA.kt(h:GA A B ad w)(k:Kt ad S w w')(d:∀q,S q->B<=q):GA A B ad w':=h.low k.size (k.low h.sz h.lo d)
theorem GA.kt0(h:GA A B ad w)(k:Kt ad (fun _=>False) w w'):GA A B ad w':=h.kt k (fun _ z=>z.elim)
theorem GA.kept(h:GA A B ad w)(k:Kept w w'):GA A B ad w':=h.kt0 (Kt.of_kept k)
def Thr(A:Nat->Addr)(j:Nat)(e:Ending):Prop:=e=thrown (.iface 407 (.pointer (some (A j))))
variable {σ:St}{r:TR}{u:Value}
theorem JnW(h:SX w ad σ){s:TR}(d:RV ad r v)(D:RV ad s u):(binOp .eql 156 v u).run prog w= .ok (.bool (r.eqb s)) w:=by
 obtain⟨τ,E,_⟩:=h;have:=JqO E d D;obtain⟨T,x,rfl⟩:=d.iface;obtain⟨G,I,rfl⟩:=D.iface;simp[binOp,this,Vet]
theorem Ib9(v:Value)(w:World):(Veu (.iface 343 v) 156 216 true).run prog w= .ok (.tuple #[.pointer none,.bool false]) w:=by kernel_rfl
theorem Ib7(v:Value)(w:World):(Veu (.iface 343 v) 156 222 true).run prog w= .ok (.tuple #[.pointer none,.bool false]) w:=by kernel_rfl
theorem Ib8(v:Value)(w:World):(Veu (.iface 343 v) 156 226 true).run prog w= .ok (.tuple #[.pointer none,.bool false]) w:=by kernel_rfl
def kdB(l:Kd):TR->Bool
 | .nd k _=>k.eqb l
 |_=>false
theorem ta_kd(k l:Kd)(v:Value)(w:World):(Veu (.iface k.tp v) 156 l.tp true).run prog w= .ok (.tuple #[if k.eqb l then v else .pointer none,.bool (k.eqb l)]) w:=by
 cases k<;>cases l
 .exact Ib6 v w
 .exact Ib4 v w
 .exact Ib5 v w
 .exact Ib2 v w
 .exact IbV v w
 .exact IbT v w
 .exact IbU v w
 .exact IbR v w
 .exact Ib0 v w
 .exact IbY v w
 .exact IbZ v w
 .exact IbW v w
 .exact IbL v w
 .exact IbJ v w
 .exact IbK v w
 .exact IbH v w
theorem Jnj(d:RV ad r v)(l:Kd):∃p,∀w,(Veu v 156 l.tp true).run prog w= .ok (.tuple #[p,.bool (kdB l r)]) w:=by
 cases r with
 |int=>
  rw[show v=_ from d]
  cases l
  .exact⟨_,Ib9 _⟩
  .exact⟨_,Ib7 _⟩
  .exact⟨_,Ib8 _⟩
  .exact⟨_,IbM _⟩
 |bool=>
  rw[show v=_ from d]
  cases l
  .exact⟨_,Ib9 _⟩
  .exact⟨_,Ib7 _⟩
  .exact⟨_,Ib8 _⟩
  .exact⟨_,IbM _⟩
 |nd k i=>
  obtain⟨b,h,rfl⟩:=d;exact⟨_,ta_kd k l _⟩
theorem JgX(h:RV ad r v)(d:isVr r=some i):∃b,ad[i]? =some b/\v= .iface 216 (.pointer (some ⟨b,0,none⟩))/\r= .nd .vr i/\∀w,(Veu v 156 216 true).run prog w= .ok (.tuple #[.pointer (some ⟨b,0,none⟩),.bool true]) w:=by
 cases r with
 |int=>simp[isVr]at d
 |bool=>simp[isVr]at d
 |nd k j=>
  cases k<;>simp[isVr]at d
  subst d;obtain⟨b,D,rfl⟩:=h;exact⟨b,D,rfl,rfl,Ib6 _⟩
theorem JgW(h:RV ad r v)(D:isVr r=none):∃p,∀w,(Veu v 156 216 true).run prog w= .ok (.tuple #[p,.bool false]) w:=by
 obtain⟨p,d⟩:=Jnj h .vr
 have:kdB .vr r=false:=by
  cases r with
  |int=>rfl
  |bool=>rfl
  |nd k i=>cases k<;>first|rfl|simp[isVr]at D
 rw[this]at d;exact⟨p,d⟩
theorem JhS{s:TR}(E:RV ad r v)(h:RV ad s u)(L:isVr r=none)(w:World):Calls prog 245 #[v,u] w fun e w'=>e= .returned (.bool (alkF r s))/\w'=w:=by
 obtain⟨p1,D⟩:=Jnj h .ls;obtain⟨p2,I⟩:=Jnj h .pr;obtain⟨V,G⟩:=Jnj h .ar;have D:=D w;have I:=I w;have G:=G w;simp only[Kd.tp]at D I G;obtain⟨T,z,rfl⟩:=h.iface
 cases r with
 |int=>
  rw[show v=_ from E];have J:=Ib7 (.agg #[.string ⟨#[105,110,116]⟩]) w;have O:=Ib8 (.agg #[.string ⟨#[105,110,116]⟩]) w;have U:=IbM (.agg #[.string ⟨#[105,110,116]⟩]) w;clear h E
  go_enter Vdz,Vdn
  go_wp2
  go_ret
  exact⟨rfl,rfl⟩
 |bool=>
  rw[show v=_ from E];have J:=Ib7 (.agg #[.string ⟨#[98,111,111,108]⟩]) w;have O:=Ib8 (.agg #[.string ⟨#[98,111,111,108]⟩]) w;have U:=IbM (.agg #[.string ⟨#[98,111,111,108]⟩]) w;clear h E
  go_enter Vdz,Vdn
  go_wp2
  go_ret
  exact⟨rfl,rfl⟩
 |nd k i=>
  obtain⟨b,M,rfl⟩:=E
  have d:Hid (∀l,k=l->kdB l s=alkF (.nd k i) s):=fun l e=>by
   subst e
   cases s with
   |int=>rfl
   |bool=>rfl
   |nd l j=>cases k<;>cases l<;>rfl
  cases k with
  |vr=>simp[isVr]at L
  |ls=>
   simp only[Kd.tp];have J:=IbT (.pointer (some ⟨b,0,none⟩)) w;have d:=d.out .ls rfl;rw[<-d];clear d M h I G L
   go_enter Vdz,Vdn
   go_wp2
   go_ret
   exact⟨rfl,rfl⟩
  |pr=>
   simp only[Kd.tp];have J:=IbY (.pointer (some ⟨b,0,none⟩)) w;have O:=IbZ (.pointer (some ⟨b,0,none⟩)) w;have d:=d.out .pr rfl;rw[<-d];clear d M h D G L
   go_enter Vdz,Vdn
   go_wp2
   go_ret
   exact⟨rfl,rfl⟩
  |ar=>
   simp only[Kd.tp];have J:=IbJ (.pointer (some ⟨b,0,none⟩)) w;have O:=IbK (.pointer (some ⟨b,0,none⟩)) w;have U:=IbH (.pointer (some ⟨b,0,none⟩)) w;have d:=d.out .ar rfl;rw[<-d];clear d M h D I L
   go_enter Vdz,Vdn
   go_wp2
   go_ret
   exact⟨rfl,rfl⟩
theorem Ibg(w:World):(Instr.makeMap 327 none).run prog w= .ok (.map (some w.heap.size)) (w.alloc (.map #[] 0)):=by kernel_rfl
def EqO(A:Nat->Addr)(ad:List Nat)(w:World)(e:Ending)(w':World):Oc St->Prop
 | .ok σ=>e= .returned (.tuple #[])/\SX w' ad σ/\Kt ad (fun _=>False) w w'
 | .er j=>Thr A j e/\Kt ad (fun _=>False) w w'
variable {τ:St}
theorem SX.set{b:Nat}(J:SX w ad σ)(h:stF σ i r=some τ)(D:ad[i]? =some b)(M:RV ad r v):
  (∃x,w.frozen? ⟨b,0,none⟩=false/\w.cell? ⟨b,0,none⟩=some x)/\SX (w.setCell ⟨b,0,none⟩ v) ad τ/\Kt ad (fun _=>False) w (w.setCell ⟨b,0,none⟩ v):=by
 obtain⟨nk,E,T,L,rfl⟩:=JiA h;obtain⟨o,d,G⟩:=J.blk E D;obtain⟨ρ,O,I⟩:=J;obtain⟨U,ty,rfl,V,_⟩:=G.first;refine⟨⟨_,by simp[VeB,d],G.cell d⟩,⟨_,O.found (I.root E) D M,I.set E T L⟩,Kt.setT d G.tb (Vbn D) _ _⟩
theorem TMp.none(w:World)(ad:List Nat):TMp (w.alloc (.map #[] 0)) w.heap.size ad (pvP []):=⟨Vag _ _,by simp[pvP]⟩
theorem Kt.drop(h:Kept w w1)(k:Kt ad (fun q=>q=mb) w1 w')(D:w.heap.size<=mb):Kt ad (fun _=>False) w w':=⟨k.os.trans h.os,k.output.trans h.output,Vas h.size k.size,fun q o d _ ht=>k.blk0 q o (h.blk d) (fun z=>by have:=Vah d;omega) ht⟩
variable {t:TR}
theorem JnL{o:Oc St}(h:becF σ i t=some o)(w:World)(ad:List Nat)(b:Nat)(v:Value)(hG:GA A B ad w)(I:SX w ad σ)(U:ad[i]? =some b)(D:RV ad t v):
  Calls prog 233 #[.pointer (some ⟨b,0,none⟩),v] w fun e w'=>EqO A ad w e w' o:=by
 simp only[becF,Vab]at h;obtain⟨l,hl,h⟩:=h;have m1:=Ibg w;have E:Kept w (w.alloc (.map #[] 0)):=VeD _ _;have Y:Hid _:=JnD fuN σ t [] l hl (w.alloc (.map #[] 0)) ad v w.heap.size (I.kept E) D (TMp.none w ad);have HS:Hid _:=I;have HG:Hid _:=hG;have HV:Hid _:=D;obtain⟨ai,u,rfl⟩:=D.iface;clear I hG hl D
 go_enter func233,ntmps233
 go_wp2_with fail
 refine Vac Y.out ?_
 rintro e w2 ⟨rfl,G,aa,T⟩;have ac:Hid (Kt ad (fun _=>False) w w2):=Kt.drop E T (Vau _);have W:Hid _:=G;have L:Hid _:=Jj7 G (r:= .nd .vr i) ⟨b,U,rfl⟩ aa;simp only[Kd.tp]at L;clear Y T aa G m1 E
 go_wp2_with fail
 refine Vac L.out ?_
 rintro e w3 ⟨rfl,J⟩;have M:Hid _:=ac.out.trans (Kt.of_kept J);have af:Hid _:=SX.kept W.out J;have ae:=HG.out.kt0 M.out;have hg:=ae.glb.c3;clear L J ac W ae
 split at h
 .rename_i d;simp only[Vaa]at h;subst h;rw[d];have HR:Hid _:=Jbl (A 3) w3
  go_wp2_with fail
  refine Vac HR.out ?_
  rintro e w' ⟨rfl,V⟩;rw[V];clear V w' HR
  go_wp2
  exact⟨rfl,rfl,M.out⟩
 .rename_i d;have d:memT (.nd .vr i) l=false:=by simpa using d
  rw[d];simp only[Vab,Vaa]at h;obtain⟨τ,hτ,rfl⟩:=h;obtain⟨⟨x,ah,ag⟩,O,Z⟩:=SX.set af.out hτ U HV.out;have HX:Hid _:=And.intro O (M.out.trans Z);clear O Z hτ d
  go_wp2
  exact Vbi (Va3 results233 _ _ _) rfl ⟨rfl,HX.out⟩
def SEq(A:Nat->Addr)(B:Nat)(f:St->TR->TR->Option (Oc St)):Prop:=∀(σ:St) (x y:TR) (o:Oc St),f σ x y=some o->∀(w:World) (ad:List Nat) (v u:Value),GA A B ad w->SX w ad σ->RV ad x v->RV ad y u->
 Calls prog 221 #[v,u] w fun e w'=>EqO A ad w e w' o
variable {x0 y0:TR}
theorem JqA{f:St->TR->TR->Option (Oc St)}(ih:SEq A B f){o:Oc St}(h:belF f σ x0 y0=some o)(hx:isVr x0=none)(rx:Rp σ x0 x0)(ry:Rp σ y0 y0)(w:World)(ad:List Nat)(v u:Value)(hG:GA A B ad w)(hs:SX w ad σ)(hv:RV ad x0 v)(hu:RV ad y0 u):
  Calls prog 234 #[v,u] w fun e w'=>EqO A ad w e w' o:=by
 have HA:Hid _:=JhS hv hu hx w;have hg:=hG.glb.c3;have HG:Hid _:=hG;have HS:Hid _:=hs;have HV:Hid _:=hv;have HU:Hid _:=hu;have az:Hid _:=rx;have aC:Hid _:=ry;have aa:Hid _:=ih;obtain⟨aM,z,rfl⟩:=hv.iface;obtain⟨T',z',rfl⟩:=hu.iface;clear hG hs hv hu rx ry ih hx
 go_enter func234,ntmps234
 go_wp2_with fail
 refine Vac HA.out ?_
 rintro e w' ⟨rfl,ae⟩;rw[ae];clear ae w' HA;simp only[belF]at h
 split at h
 .rename_i M;rw[M];simp only[Vab]at h;obtain⟨os,aj,ks,ak,h⟩:=h
  split at h
  .rename_i a c;obtain⟨Ty,uy,fy,aJ,T1,u1,ey,al,am,W,D⟩:=Jec HS.out aC.out HU.out aj;simp only[Va7]at ey;obtain⟨rfl,rfl⟩:=ey;have D:Hid _:=D;have aq:Hid _:=W;have ac:Hid _:=ak;clear aj W M hg ak
   go_wp2_with fail
   refine Vac D.out ?_
   rintro e w1 ⟨g,rfl,an,af,O⟩;have Y:Hid _:=SX.kept HS.out O;have Z:Hid _:=O;clear D O al am an;obtain⟨Tx,ux,fx,aG,T2,u2,ex,av,ax,ah,G⟩:=Jec Y.out az.out HV.out ac.out;simp only[Va7]at ex;obtain⟨rfl,rfl⟩:=ex;have G:Hid _:=G;have au:Hid _:=ah;have ao:Hid _:=af;clear ah ac af
   go_wp2_with fail
   refine Vac G.out ?_
   rintro e w2 ⟨g2,rfl,ay,T,E⟩;have U:=E.blk ao.out;have HC:Hid _:=aa.out σ a c o h w2 ad _ _ ((HG.out.kept Z.out).kept E) (SX.kept Y.out E) au.out aq.out;have ag:Hid _:=Kt.of_kept (ad:=ad) (S:=fun _=>False) (Z.out.trans E);clear G E av ax ay h aa;have d0:w2.cell? ⟨g,0,none⟩=some (.iface T1 u1):=by simp[VeC,U]
   have d1:w2.cell? ⟨g2,0,none⟩=some (.iface T2 u2):=by simp[VeC,T]
   clear U T
   go_wp2_with fail
   refine VaO 2 ?_
   rw[VaB]
   go_wp2_with fail
   refine Vac HC.out ?_
   intro e w3 J
   cases o with
   |er j=>
    obtain⟨L,d⟩:=J;rw[show e=_ from L];have I:Hid _:=ag.out.trans d;clear d L
    go_wp2
    exact⟨rfl,rfl,I.out⟩
   |ok σ1=>
    obtain⟨rfl,V,d⟩:=J;have I:Hid _:=And.intro V (ag.out.trans d);clear d V
    go_wp2
    rw[VaB]
    go_wp2
    exact Vbi (Va3 results234 _ _ _) rfl ⟨rfl,I.out⟩
  .rename_i a b c aH;simp only[Vab]at h;obtain⟨o1,h1,h⟩:=h;obtain⟨Ty,uy,fy,aJ,T1,u1,T3,u3,ey,al,am,W,aE,D⟩:=Jed HS.out aC.out HU.out aj;simp only[Va7]at ey;obtain⟨rfl,rfl⟩:=ey;have D:Hid _:=D;have aq:Hid _:=W;have aI:Hid _:=aE;have ac:Hid _:=ak;have HH:Hid _:=h;have aK:Hid _:=h1;clear aj W M hg ak aE h h1
   go_wp2_with fail
   refine Vac D.out ?_
   rintro e w1 ⟨g,rfl,an,af,O⟩;have Y:Hid _:=SX.kept HS.out O;have Z:Hid _:=O;clear D O al am an;obtain⟨Tx,ux,fx,aG,T2,u2,T4,u4,ex,av,ax,ah,aA,G⟩:=Jed Y.out az.out HV.out ac.out;simp only[Va7]at ex;obtain⟨rfl,rfl⟩:=ex;have G:Hid _:=G;have au:Hid _:=ah;have aL:Hid _:=aA;have ao:Hid _:=af;clear ah ac af aA
   go_wp2_with fail
   refine Vac G.out ?_
   rintro e w2 ⟨g2,rfl,ay,T,E⟩;have U:=E.blk ao.out;have HC:Hid _:=aa.out σ a c o1 aK.out w2 ad _ _ ((HG.out.kept Z.out).kept E) (SX.kept Y.out E) au.out aq.out;have ag:Hid _:=Kt.of_kept (ad:=ad) (S:=fun _=>False) (Z.out.trans E);clear G E av ax ay;have d0:w2.cell? ⟨g,0,none⟩=some (.iface T1 u1):=by simp[VeC,U]
   have d1:w2.cell? ⟨g2,0,none⟩=some (.iface T2 u2):=by simp[VeC,T]
   have D:Hid _:=U;have G:Hid _:=T;clear U T
   go_wp2_with fail
   refine VaO 3 ?_
   rw[VaB]
   go_wp2_with fail
   refine Vac HC.out ?_
   intro e w3 J
   cases o1 with
   |er j=>
    have hh:=HH.out;simp only[Vaa]at hh;subst hh;obtain⟨L,d⟩:=J;rw[show e=_ from L];have I:Hid _:=ag.out.trans d;clear d L
    go_wp2
    exact⟨rfl,rfl,I.out⟩
   |ok σ1=>
    obtain⟨rfl,V,d⟩:=J;have aB:=d.typs D.out (fun z=>z);have aF:=d.typs G.out (fun z=>z);have d2:w3.cell? ⟨g,1,none⟩=some (.iface T3 u3):=by simp[VeC,aB]
    have d3:w3.cell? ⟨g2,1,none⟩=some (.iface T4 u4):=by simp[VeC,aF]
    have aw:Hid _:=ag.out.trans d;have HC:Hid _:=aa.out σ1 b aH o HH.out w3 ad _ _ (HG.out.kt0 aw.out) V aL.out aI.out;clear d V aB aF aa
    go_wp2_with fail
    rw[VaB]
    go_wp2_with fail
    refine Vac HC.out ?_
    intro e w4 J
    cases o with
    |er j=>
     obtain⟨L,ai⟩:=J;rw[show e=_ from L];have I:Hid _:=aw.out.trans ai;clear ai L
     go_wp2
     exact⟨rfl,rfl,I.out⟩
    |ok σ2=>
     obtain⟨rfl,aD,ai⟩:=J;have I:Hid _:=And.intro aD (aw.out.trans ai);clear ai aD
     go_wp2
     rw[VaB]
     go_wp2
     exact Vbi (Va3 results234 _ _ _) rfl ⟨rfl,I.out⟩
  .simp at h
 .rename_i M;have M:alkF x0 y0=false:=by simpa using M
  simp only[Vaa]at h;subst h;rw[M];have HR:Hid _:=Jbl (A 3) w
  go_wp2_with fail
  refine Vac HR.out ?_
  rintro e w' ⟨rfl,ae⟩;rw[ae];clear ae w' HR
  go_wp2
  exact⟨rfl,rfl,Kt.refl _ _ _⟩
theorem JoJ(A:Nat->Addr)(B:Nat):∀n,SEq A B (fun σ x y=>eqF n σ x y):=by
 intro n
 induction n with
 |zero=>intro σ x y o h;simp[eqF]at h
 |succ n ih=>
  intro σ x y o h w ad v u hG hs hv hu;simp only[eqF,Vab]at h;obtain⟨x0,W,y0,V,h⟩:=h;have W:=Jcg _ W;have V:=Jcg _ V;have az:Hid _:=JaU W w v hs hv;have am:Hid _:=fun(w1:World) (h1:SX w1 ad σ)=>JaU V w1 u h1 hu
  have aA:Hid _:=W.root_of;have aB:Hid _:=V.root_of;have HG:Hid _:=hG;have aw:Hid _:=ih;obtain⟨aF,z,rfl⟩:=hv.iface;obtain⟨T',z',rfl⟩:=hu.iface;clear hG hs hv hu W V ih
  go_enter func221,ntmps221
  go_wp2_with fail
  refine Vac az.out ?_
  rintro e w1 ⟨v0,rfl,ai,ax,an⟩;have E:Hid _:=am.out w1 ax;have T:Hid _:=ai;have au:Hid _:=an;obtain⟨T0,z0,rfl⟩:=ai.iface;clear ai ax an az am
  go_wp2_with fail
  refine Vac E.out ?_
  rintro e w2 ⟨u0,rfl,ag,aj,al⟩;have aa:Hid _:=ag;have af:Hid _:=aj;have I:Hid _:=au.out.trans al;have ah:Hid _:=HG.out.kt0 I.out;have ao:=JnW aj T.out ag;obtain⟨T1,z1,rfl⟩:=ag.iface;clear ag aj al E au HG
  split at h
  .rename_i O;simp only[Vaa]at h;subst h;rw[O]at ao
   go_wp2
   exact VaI (Va3 Vdx _ _ _) rfl ⟨rfl,af.out,I.out⟩
  .rename_i O;have O:x0.eqb y0=false:=by simpa using O
   rw[O]at ao;clear O
   split at h
   .rename_i i M;obtain⟨b,U,ae,_,Y⟩:=JgX T.out M;have Y:=Y w2;have E:Hid _:=JnL h w2 ad b _ ah.out af.out U aa.out;clear h ae M U
    go_wp2_with fail
    refine Vac E.out ?_
    intro e w3 J
    cases o with
    |er j=>
     obtain⟨L,d⟩:=J;rw[show e=_ from L];have D:Hid _:=I.out.trans d;clear d L
     go_wp2
     exact⟨rfl,rfl,D.out⟩
    |ok σ1=>
     obtain⟨rfl,G,d⟩:=J;have D:Hid _:=And.intro G (I.out.trans d);clear d G
     go_wp2
     exact VaI (Va3 Vdx _ _ _) rfl ⟨rfl,D.out⟩
   .rename_i M;obtain⟨p,Y⟩:=JgW T.out M;have Y:=Y w2
    split at h
    .rename_i j Z;obtain⟨b,ay,aC,_,ac⟩:=JgX aa.out Z;have ac:=ac w2;have E:Hid _:=JnL h w2 ad b _ ah.out af.out ay T.out;clear h aC Z ay M
     go_wp2_with fail
     refine Vac E.out ?_
     intro e w3 J
     cases o with
     |er j=>
      obtain⟨L,d⟩:=J;rw[show e=_ from L];have D:Hid _:=I.out.trans d;clear d L
      go_wp2
      exact⟨rfl,rfl,D.out⟩
     |ok σ1=>
      obtain⟨rfl,G,d⟩:=J;have D:Hid _:=And.intro G (I.out.trans d);clear d G
      go_wp2
      exact VaI (Va3 Vdx _ _ _) rfl ⟨rfl,D.out⟩
    .rename_i Z;obtain⟨q,ac⟩:=JgW aa.out Z;have ac:=ac w2;simp only[Vab]at h;obtain⟨o1,h1,h⟩:=h;have E:Hid _:=JqA aw.out h1 M aA.out aB.out w2 ad _ _ ah.out af.out T.out aa.out;clear h1 M Z aw
     go_wp2_with fail
     refine Vac E.out ?_
     intro e w3 J
     cases o1 with
     |er j=>
      simp only[Vaa]at h;subst h;obtain⟨L,d⟩:=J;rw[show e=_ from L];have D:Hid _:=I.out.trans d;clear d L
      go_wp2
      exact⟨rfl,rfl,D.out⟩
     |ok σ1=>
      obtain⟨rfl,G,d⟩:=J
      cases x0 with
      |int=>simp at h
      |bool=>simp at h
      |nd k i=>
       simp only[Vab,Vaa]at h;obtain⟨τ,hτ,rfl⟩:=h;obtain⟨b,U,ae⟩:=T.out;simp only[Va7]at ae;obtain⟨rfl,rfl⟩:=ae;obtain⟨⟨c,aE,aD⟩,ak,av⟩:=SX.set G hτ U aa.out;have HX:Hid _:=And.intro ak ((I.out.trans d).trans av);have hm:=Iau k b w3;have D:Hid _:=Jh6 b w3;clear ak av hτ U G d E
       go_wp2_with fail
       refine Vac D.out ?_
       rintro e w' ⟨rfl,aq⟩;rw[aq];clear aq w' D
       go_wp2
       exact Vbi (Va3 Vdx _ _ _) rfl ⟨rfl,HX.out⟩
def vE:List (Nat×Nat)->Nat->List MapEntry
 | [],_=> []
 |e::l,i=>{key:= .pointer (some ⟨e.1,0,none⟩),val:= .pointer (some ⟨e.2,0,none⟩),born:=i}::vE l (i+1)
theorem Jqi(l:List (Nat×Nat))(e:Nat×Nat):∀i,vE (l++ [e]) i=vE l i++ [{key:= .pointer (some ⟨e.1,0,none⟩),val:= .pointer (some ⟨e.2,0,none⟩),born:=i+l.length}]:=by
 induction l with
 |nil=>intro i;simp[vE]
 |cons c l d=>
  intro i;have e:i+1+l.length=i+(l.length+1):=by omega
  simp[vE,d,e]
def askB(b:Nat):List (Nat×Nat)->Nat->Option (Nat×Value)
 | [],_=>none
 |e::l,i=>if b==e.1 then some (i,.pointer (some ⟨e.2,0,none⟩))else askB b l (i+1)
structure VVb(w:World)(mb:Nat)(l:List (Nat×Nat)):Prop where
 mp:w.heap[mb]? =some (.map (vE l 0).toArray l.length)
 vr:∀e,e∈l->VBk w e.1
theorem Jqy(w:World)(b:Nat)(E:VBk w b)(l:List (Nat×Nat)):∀(i:Nat),(∀c,c∈l->VBk w c.1)->(Vev 216 (.pointer (some ⟨b,0,none⟩)) (vE l i) i).run prog w= .ok (askB b l i) w:=by
 induction l with
 |nil=>intro i _;rfl
 |cons c l D=>
  intro i h;have d:=Jhe w b c.1 E (h c (by simp));have G:=D (i+1) (fun x I=>h x (by simp[I]));simp only[vE,Vev,Va8,d,Vet,askB]
  cases J:b==c.1 with
  |true=>simp
  |false=>simp only[Vao,VaS,G]
theorem Jkc(w:World)(b:Nat)(E:VBk w b)(l:List (Nat×Nat))(h:∀c,c∈l->VBk w c.1):(Vew 216 (.pointer (some ⟨b,0,none⟩)) (vE l 0)).run prog w= .ok (askB b l 0) w:=by
 have d:=Jqy w b E l 0 h
 cases l with
 |nil=>simp[Vew,VaM VbV,vE,Vex,askB]
 |cons c l=>
  have D:Vex (.pointer 221) (.pointer (some ⟨b,0,none⟩)) (vE (c::l) 0) 0=none:=by simp[vE,Vex,Instr.sameNow]
  simp only[Vew,Va8,VaM VbV,Vet,D];exact d
theorem Jjd{b:Nat}(h:VVb w mb l)(G:VBk w b)(d:TypeId)(E:prog.underlying d=some (.map 216 216)):
  (Vey d (.map (some mb)) (.pointer (some ⟨b,0,none⟩)) true).run prog w= .ok (match askB b l 0 with|some x=> .tuple #[x.2,.bool true]|none=> .tuple #[.pointer none,.bool false]) w:=by
 have D:=Jkc w b G l h.vr;have I:∀e,(Vez e 10000 216 (.pointer (some ⟨b,0,none⟩))).run prog w= .ok () w:=fun e=>Jgc e 9999 b w
 have J:(zeroValue 216).run prog w= .ok (.pointer none) w:=by kernel_rfl
 simp only[Vey,Va8,VaM E,VaQ h.mp,Vet,VbW,I,D]
 cases askB b l 0 with
 |none=>simp[J,Vet]
 |some j=>simp
theorem JhC{b:Nat}(h:VVb w mb l)(G:VBk w b)(d:TypeId)(E:prog.underlying d=some (.map 216 216)):
  (Vey d (.map (some mb)) (.pointer (some ⟨b,0,none⟩)) false).run prog w= .ok (match askB b l 0 with|some x=>x.2|none=> .pointer none) w:=by
 have D:=Jkc w b G l h.vr;have I:∀e,(Vez e 10000 216 (.pointer (some ⟨b,0,none⟩))).run prog w= .ok () w:=fun e=>Jgc e 9999 b w
 have J:(zeroValue 216).run prog w= .ok (.pointer none) w:=by kernel_rfl
 simp only[Vey,Va8,VaM E,VaQ h.mp,Vet,VbW,I,D]
 cases askB b l 0 with
 |none=>simp[J,Vet]
 |some j=>simp
theorem Jlf{b:Nat}(h:VVb w mb l)(I:VBk w b)(c:Nat)(D:TypeId)(G:prog.underlying D=some (.map 216 216))(E:askB b l 0=none):
  (VeA D (.map (some mb)) (.pointer (some ⟨b,0,none⟩)) (.pointer (some ⟨c,0,none⟩))).run prog w= .ok () (Idd w mb (.map (vE (l++ [(b,c)]) 0).toArray (l.length+1))):=by
 have d:=Jkc w b I l h.vr;rw[E]at d;have J:(Vez false 10000 216 (.pointer (some ⟨b,0,none⟩))).run prog w= .ok () w:=Jgc false 9999 b w
 have e:(vE l 0).toArray.push {key:= .pointer (some ⟨b,0,none⟩),val:= .pointer (some ⟨c,0,none⟩),born:=l.length}=(vE (l++ [(b,c)]) 0).toArray:=by
  rw[Jqi];simp
 rw[<-e];simp[VeA,VaM G,VaQ h.mp,J,d,VbB _ h.mp,Vet,Idd]
def MB(ad:List Nat):List (Nat×Nat)->List (Nat×Nat)->Prop
 | [],[]=>True
 |e::m,c::l=>ad[e.1]? =some c.1/\ad[e.2]? =some c.2/\MB ad m l
 |_,_=>False
theorem MB.up(u:List Nat):∀{m l:List (Nat×Nat)},MB ad m l->MB (ad++u) m l
 | [],[],_=>trivial
 |e::m,c::l,h=>⟨by rw[Vak (Vae.1 h.1).1];exact h.1,by rw[Vak (Vae.1 h.2.1).1];exact h.2.1,h.2.2.up u⟩
 | [],_::_,h=>h.elim
 |_::_,[],h=>h.elim
theorem MB.snoc{ad:List Nat}{i j b c:Nat}(d:ad[i]? =some b)(D:ad[j]? =some c):∀{m l:List (Nat×Nat)},MB ad m l->MB ad (m++ [(i,j)]) (l++ [(b,c)])
 | [],[],_=>⟨d,D,trivial⟩
 |e::m,c::l,h=>⟨h.1,h.2.1,MB.snoc d D h.2.2⟩
 | [],_::_,h=>h.elim
 |_::_,[],h=>h.elim
theorem MB.look{ad:List Nat}(D:ad.Nodup){i b:Nat}(d:ad[i]? =some b):∀{m l:List (Nat×Nat)} (k:Nat),MB ad m l->(∀j,Jal i m=some j->∃p c,askB b l k=some (p,.pointer (some ⟨c,0,none⟩))/\ad[j]? =some c)/\(Jal i m=none->askB b l k=none)
 | [],[],k,_=>⟨fun j h=>by simp[Jal]at h,fun _=>rfl⟩
 |e::m,c::l,k,h=>by
  have I:=MB.look D d (k+1) h.2.2
  by_cases q:i=e.1
  .have:b=c.1:=by
    rw[q,h.1]at d;simpa using d.symm
   simp only[Jal,askB,q,this,BEq.rfl,Va0]
   exact⟨fun j E=>by
    simp only[Vaa]at E;subst E;exact⟨_,_,rfl,h.2.1⟩,fun z=>by simp at z⟩
  .have: ¬b=c.1:=fun z=>q (JcB D d (z▸h.1))
   have G:(i==e.1)=false:=by simpa using q
   have J:(b==c.1)=false:=by simpa using this
   simp only[Jal,askB,G,J,Vao,VaS];exact I
 | [],_::_,_,h=>h.elim
 |_::_,[],_,h=>h.elim
def VK(σ:St)(m:List (Nat×Nat)):Prop:=∀e,e∈m->∃nd,σ[e.1]? =some nd/\nd.k.kd= .vr
def VV(w:World)(mb:Nat)(ad:List Nat)(σ:St)(m:List (Nat×Nat)):Prop:=∃l,w.heap[mb]? =some (.map (vE l 0).toArray l.length)/\MB ad m l/\VK σ m
variable {nd:Nd}
theorem SX.vbk2(O:SX w ad σ){b:Nat}(T:σ[i]? =some nd)(d:nd.k.kd= .vr)(M:ad[i]? =some b):VBk w b:=by
 obtain⟨τ,J,G⟩:=O;obtain⟨E,L,_⟩:=G.kk i nd.k nd.s T;obtain⟨sv,o,I,_,D⟩:=J.blk i nd.k E b L M
 cases h:nd.k with
 |vr nm g=>
  rw[h]at D;exact⟨_,I.trans (VbH some D)⟩
 |ls x=>rw[h]at d;cases d
 |pr x y=>rw[h]at d;cases d
 |ar x y=>rw[h]at d;cases d
theorem MB.mem{ad:List Nat}:∀{m l:List (Nat×Nat)},MB ad m l->∀c,c∈l->∃e,e∈m/\ad[e.1]? =some c.1
 | [],[],_,c,h=>by simp at h
 |e::m,d::l,h,c,D=>by
  rcases VaW.1 D with rfl|D
  .exact⟨e,by simp,h.1⟩
  .obtain⟨I,G,E⟩:=MB.mem h.2.2 c D;exact⟨I,by simp[G],E⟩
 | [],_::_,h,_,_=>h.elim
 |_::_,[],h,_,_=>h.elim
theorem VV.b(h:VV w mb ad σ m)(M:SX w ad σ):∃l,VVb w mb l/\MB ad m l:=by
 obtain⟨l,J,d,L⟩:=h;refine⟨l,⟨J,fun c O=> ?_⟩,d⟩
 obtain⟨e,I,G⟩:=d.mem c O;obtain⟨nd,E,D⟩:=L e I;exact M.vbk2 E D G
theorem SX.nodup(d:SX w ad σ):ad.Nodup:=by
 obtain⟨τ,h,_⟩:=d;exact h.inj
theorem SX.len(d:SX w ad σ):ad.length=σ.length:=by
 obtain⟨τ,D,h⟩:=d;rw[D.len,h.len]
theorem Jer(h:VV w mb ad σ m)(G:SX w ad σ){b:Nat}(Y:σ[i]? =some nd)(O:nd.k.kd= .vr)(M:ad[i]? =some b)(d:TypeId)(L:prog.underlying d=some (.map 216 216)):
  (∀j,Jal i m=some j->∃c,ad[j]? =some c/\(Vey d (.map (some mb)) (.pointer (some ⟨b,0,none⟩)) true).run prog w= .ok (.tuple #[.pointer (some ⟨c,0,none⟩),.bool true]) w/\(Vey d (.map (some mb)) (.pointer (some ⟨b,0,none⟩)) false).run prog w= .ok (.pointer (some ⟨c,0,none⟩)) w)/\
  (Jal i m=none->(Vey d (.map (some mb)) (.pointer (some ⟨b,0,none⟩)) true).run prog w= .ok (.tuple #[.pointer none,.bool false]) w/\(Vey d (.map (some mb)) (.pointer (some ⟨b,0,none⟩)) false).run prog w= .ok (.pointer none) w):=by
 obtain⟨l,J,V⟩:=h.b G;have I:=G.vbk2 Y O M;have D:=Jjd J I d L;have E:=JhC J I d L;obtain⟨Z,U⟩:=V.look G.nodup M 0;refine⟨fun j W=> ?_,fun hn=> ?_⟩
 .obtain⟨p,c,T,e2⟩:=Z j W;rw[T]at D E;exact⟨c,e2,D,E⟩
 .rw[U hn]at D E;exact⟨D,E⟩
theorem JkY(h:VV w mb ad σ m)(E:SX w ad σ){b:Nat}(M:σ[i]? =some nd)(J:nd.k.kd= .vr)(I:ad[i]? =some b)(O:ad[j]? =some c)(Y:Jal i m=none)(G:TypeId)(U:prog.underlying G=some (.map 216 216)):
  ∃w',(VeA G (.map (some mb)) (.pointer (some ⟨b,0,none⟩)) (.pointer (some ⟨c,0,none⟩))).run prog w= .ok () w'/\SX w' ad σ/\VV w' mb ad σ (m++ [(i,j)])/\Kt ad (fun q=>q=mb) w w':=by
 have V:=h;obtain⟨l,D,L⟩:=h.b E;have T:=E.vbk2 M J I;refine⟨_,Jlf D T c G U ((L.look E.nodup I 0).2 Y),E.mapSet D.mp _,⟨l++ [(b,c)],?_,L.snoc I O,?_⟩,Kt.mapset D.mp _⟩
 .rw[JaV _ _ _ (Vah D.mp)];simp
 .obtain⟨_,_,_,W⟩:=V;intro e d;simp at d
  rcases d with d|rfl
  .exact W e d
  .exact⟨nd,M,J⟩
variable {ad2:List Nat}
theorem VV.kt(h:VV w mb ad σ m)(k:Kt ad2 S w w')(E: ¬S mb):VV w' mb ad σ m:=by
 obtain⟨l,G,D,I⟩:=h;exact⟨l,k.blk _ _ G E (by rintro⟨J,e,f,d,_⟩;cases d),D,I⟩
theorem VV.up(h:VV w mb ad σ m)(u:List Nat)(t:St):VV w mb (ad++u) (σ++t) m:=by
 obtain⟨l,I,G,J⟩:=h
 exact⟨l,I,G.up u,fun e E=>by
  obtain⟨nd,d,D⟩:=J e E;exact⟨nd,by rw[Vak (Vae.1 d).1];exact d,D⟩⟩
variable {x:Nd}{nk:NK}{s:Option TR}{sv:Value}{o:Obj}
theorem SW.upd(h:SW w ad τ){b:Nat}(Y:τ[i]? =some x)(E:ad[i]? =some b)(L:w'.heap[b]? =some o)(M:SV ad s sv)(Z:NBk ad nk sv o)(I:∀q,q≠b->w'.heap[q]? =w.heap[q]?):SW w' ad (τ.set i ⟨nk,s⟩):=by
 refine⟨by simp[h.len],h.inj,?_⟩
 intro j mk G c D d
 by_cases e:i=j
 .subst e;rw[E]at d;simp at d;subst d;have J:=(Vae.1 Y).1;simp[J]at D;obtain⟨rfl,rfl⟩:=D;exact⟨sv,o,L,M,Z⟩
 .rw[VaC e]at D;obtain⟨W,T,V,O,U⟩:=h.blk j mk G c D d;exact⟨W,T,(I c (fun z=>e (JcB h.inj E (z▸d)))).trans V,O,U⟩
variable {g:Bool}
theorem SX.mark(G:SX w ad σ){b:Nat}(D:σ[i]? =some ⟨.vr nm g,none⟩)(h:ad[i]? =some b):
  (∃x,w.frozen? ⟨b,2,none⟩=false/\w.cell? ⟨b,2,none⟩=some x)/\SX (w.setCell ⟨b,2,none⟩ (.bool true)) ad (σ.set i ⟨.vr nm true,none⟩)/\Kt ad (fun _=>False) w (w.setCell ⟨b,2,none⟩ (.bool true)):=by
 obtain⟨o,d,I⟩:=G.blk D h;have ht:=I.tb;have M:=d;rw[show o=_ from I]at d;obtain⟨τ,L,E⟩:=G;refine⟨⟨_,by simp[VeB,d],by simp[VeC,d];rfl⟩,⟨_,L.upd (nk:= .vr nm true) (E.root D) h (o:= .cells #[.nilIface,.string nm,.bool true] 221 (0,0)) ?_ (s:=none) (sv:= .nilIface) rfl rfl (fun q J=>Vaj _ _ _ q J),E.mark (nk:= .vr nm g) (nk':= .vr nm true) rfl D⟩,Kt.setT M ht (Vbn h) _ _⟩
 simp[World.setCell,d,Vay]
def SGen(n:Nat):Prop:=∀(σ σ':St) (r:TR) (bd:List TR),genF n σ r bd=some σ'->∀(w:World) (ad:List Nat) (v:Value) (mb:Nat),SX w ad σ->RV ad r v->TMp w mb ad (pvP bd)->
 Calls prog 164 #[v,.map (some mb)] w fun e w'=>e= .returned (.tuple #[])/\SX w' ad σ'/\TMp w' mb ad (pvP bd)/\Kt ad (fun _=>False) w w'
variable {k:Kd}
theorem Jkn(E:Rp σ (.nd .vr i) (.nd k i)):∃nm g,σ[i]? =some ⟨.vr nm g,none⟩/\JdZ σ (.nd .vr i)=σ.set i ⟨.vr nm true,none⟩/\Rp (σ.set i ⟨.vr nm true,none⟩) (.nd .vr i) (.nd .vr i)/\Jap (σ.set i ⟨.vr nm true,none⟩) (.nd .vr i)=some []:=by
 obtain⟨nk,I,d⟩:=E.rt;obtain⟨J,s,h,D⟩:=rp_nd E;rw[d]at D;simp only[Vaa,Nd.mk.injEq]at D;obtain⟨rfl,rfl⟩:=D
 cases nk with
 |vr nm g=>
  have G:=(Vae.1 d).1;have e:(σ.set i ⟨.vr nm true,none⟩)[i]? =some ⟨.vr nm true,none⟩:=by rw[Vba G]
  exact⟨nm,g,d,by simp[JdZ,d],Rp.root i (.vr nm true) e,by simp only[Jap,e]⟩
 |ls x=>cases h
 |pr x y=>cases h
 |ar x y=>cases h
theorem Jj0:∀n,SGen n:=by
 intro n
 induction n with
 |zero=>intro σ σ' r bd h;simp[genF]at h
 |succ n ih=>
  intro σ σ' r bd h w ad v mb hs hv G;simp only[genF,Vab]at h;obtain⟨r0,hr,h⟩:=h;have hr:=Jcg _ hr;have HK:Hid _:=JaU hr w v hs hv;have M:Hid (∀(σ σ':St) (r:TR),genF n σ r bd=some σ'->∀(w:World) (v:Value),SX w ad σ->RV ad r v->TMp w mb ad (pvP bd)->Calls prog 164 #[v,.map (some mb)] w fun e w'=>e= .returned (.tuple #[])/\SX w' ad σ'/\TMp w' mb ad (pvP bd)/\Kt ad (fun _=>False) w w'):=fun σ σ' r h w v=>ih σ σ' r bd h w ad v mb
  have J:Hid _:=hr.root_of;have HM:Hid _:=G;obtain⟨aP,u,rfl⟩:=hv.iface;clear hs hr hv ih G
  go_enter func164,ntmps164
  go_wp2_with fail
  refine Vac HK.out ?_
  rintro e w1 ⟨v0,rfl,ai,an,aq⟩;clear HK;have ax:Hid _:=an;have az:Hid _:=aq;have au:=HM.out.kt aq id;have aG:Hid _:=au;have HH:Hid _:=Jj7 an ai au;have Z:Hid _:=ai;obtain⟨T0,u0,rfl⟩:=ai.iface;clear an aq au ai HM
  go_wp2_with fail
  refine Vac HH.out ?_
  rintro e w2 ⟨rfl,aj⟩;have U:Hid _:=SX.kept ax.out aj;have ah:Hid _:=aG.out.keptP aj;have ag:Hid _:=az.out.trans (Kt.of_kept aj);clear HH aj ax aG az
  split at h
  .rename_i L;simp only[Vaa]at h;subst h;rw[L]
   go_wp2
   exact VaI (Va3 Vc1 _ _ _) rfl ⟨rfl,U.out,ah.out,ag.out⟩
  .rename_i L;have L:memT r0 bd=false:=by simpa using L
   rw[L]
   split at h
   .rename_i i V;obtain⟨b,ay,aH,ak,ae⟩:=JgX Z.out V;have ae:=ae w2;simp only[Vaa]at h;subst h;have av:=J.out;rw[ak]at av;obtain⟨nm,gg,V,aE,aC,aw⟩:=Jkn av;obtain⟨⟨x,aO,aN⟩,am,al⟩:=SX.mark U.out V ay;rw[<-aE,<-ak]at am;have aK:Hid _:=am;have aL:Hid _:=ag.out.trans al;have aJ:Hid _:=ah.out.kt al id;obtain⟨T9,u9,f,rv,E,G,O,D⟩:=JhU (w:=w2.setCell ⟨b,2,none⟩ (.bool true)) aC (ak▸Z.out) aw;simp only[Va7]at E;obtain⟨rfl,rfl⟩:=E;have D:Hid _:=D;clear am al aw aC aE V ay L aH ak J M av
    go_wp2_with fail
    refine Vac D.out ?_
    rintro e w3 ⟨rfl,d⟩;have T:Hid _:=And.intro (SX.kept aK.out d) (And.intro (aJ.out.keptP d) (aL.out.trans (Kt.of_kept d)));clear d D G O
    go_wp2
    refine VaO 1 ?_
    rw[VaB]
    go_wp2
    exact Vbi (Va3 Vc1 _ _ _) rfl ⟨rfl,T.out⟩
   .rename_i V;obtain⟨p,ae⟩:=JgW Z.out V;have ae:=ae w2;simp only[Vab]at h;obtain⟨ks,W,h⟩:=h;clear V L
    split at h
    .simp only[Vaa]at h;subst h;obtain⟨T9,u9,f,rv,E,G,O,D⟩:=JhU (w:=w2) J.out Z.out W;simp only[Va7]at E;obtain⟨rfl,rfl⟩:=E;have D:Hid _:=D;clear M J W
     go_wp2_with fail
     refine Vac D.out ?_
     rintro e w3 ⟨rfl,d⟩;have T:Hid _:=And.intro (SX.kept U.out d) (And.intro (ah.out.keptP d) (ag.out.trans (Kt.of_kept d)));clear d D G O
     go_wp2
     refine VaO 1 ?_
     rw[VaB]
     go_wp2
     exact Vbi (Va3 Vc1 _ _ _) rfl ⟨rfl,T.out⟩
    .rename_i x;obtain⟨T9,u9,f,rv,T1,u1,E,G,O,hx,D⟩:=Jec U.out J.out Z.out W;simp only[Va7]at E;obtain⟨rfl,rfl⟩:=E;have D:Hid _:=D;have HX:Hid _:=hx;have I:Hid _:=M.out _ _ x h;clear J W hx h M
     go_wp2_with fail
     refine Vac D.out ?_
     rintro e w3 ⟨g,rfl,hg,Y,d⟩;have I:Hid _:=I.out w3 _ (SX.kept U.out d) HX.out (ah.out.keptP d);have ao:Hid _:=ag.out.trans (Kt.of_kept d);clear d D G O;have d0:w3.cell? ⟨g,0,none⟩=some (.iface T1 u1):=by simp[VeC,Y]
     clear Y hg
     go_wp2_with fail
     refine VaO 2 ?_
     rw[VaB]
     go_wp2_with fail
     refine Vac I.out ?_
     rintro e w4 ⟨rfl,af,ac,aa⟩;have T:Hid _:=And.intro af (And.intro ac (ao.out.trans aa));clear af aa ac I
     go_wp2
     rw[VaB]
     go_wp2
     exact Vbi (Va3 Vc1 _ _ _) rfl ⟨rfl,T.out⟩
    .rename_i x y;simp only[Vab]at h;obtain⟨σ1,h1,h⟩:=h;obtain⟨T9,u9,f,rv,T1,u1,T2,u2,E,G,O,hx,hy,D⟩:=Jed U.out J.out Z.out W;simp only[Va7]at E;obtain⟨rfl,rfl⟩:=E;have D:Hid _:=D;have HX:Hid _:=hx;have HY:Hid _:=hy;have I:Hid _:=M.out _ _ x h1;have HD:Hid _:=M.out _ _ y h;clear J W hx hy h h1 M
     go_wp2_with fail
     refine Vac D.out ?_
     rintro e w3 ⟨g,rfl,hg,Y,d⟩;have I:Hid _:=I.out w3 _ (SX.kept U.out d) HX.out (ah.out.keptP d);have ao:Hid _:=ag.out.trans (Kt.of_kept d);clear d D G O;have d0:w3.cell? ⟨g,0,none⟩=some (.iface T1 u1):=by simp[VeC,Y]
     have aI:Hid _:=Y;clear Y hg
     go_wp2_with fail
     refine VaO 3 ?_
     rw[VaB]
     go_wp2_with fail
     refine Vac I.out ?_
     rintro e w4 ⟨rfl,af,ac,aa⟩;have aA:=aa.typs aI.out (fun z=>z);have d1:w4.cell? ⟨g,1,none⟩=some (.iface T2 u2):=by simp[VeC,aA]
     have HD:Hid _:=HD.out w4 _ af HY.out ac;have aM:Hid _:=ao.out.trans aa;clear af aa ac I aA
     go_wp2_with fail
     rw[VaB]
     go_wp2_with fail
     refine Vac HD.out ?_
     rintro e w5 ⟨rfl,aD,aB,aF⟩;have T:Hid _:=And.intro aD (And.intro aB (aM.out.trans aF));clear aD aF aB HD
     go_wp2
     rw[VaB]
     go_wp2
     exact Vbi (Va3 Vc1 _ _ _) rfl ⟨rfl,T.out⟩
    .simp at h
def RIn(n:Nat):TR->Prop
 | .nd _ i=>i<n
 |_=>True
def WS(σ:St):Prop:=∀(i:Nat) (nk:NK) (r:TR),σ[i]? =some ⟨nk,some r⟩->RIn σ.length r
variable {n:Nat}
theorem RIn.up{m:Nat}(h:RIn n r)(d:n<=m):RIn m r:=by
 cases r with
 |int=>trivial
 |bool=>trivial
 |nd k i=>exact Va6 h d
theorem Rp.rin{a:TR}(h:Rp σ a r):RIn σ.length r:=by
 cases r with
 |int=>trivial
 |bool=>trivial
 |nd k i=>
  obtain⟨nk,_,d⟩:=h.rt;exact(Vae.1 d).1
theorem WS.set(h:WS σ)(E:stF σ i r=some τ):WS τ:=by
 obtain⟨nk,G,D,I,rfl⟩:=JiA E;intro j mk s d;simp only[VdS]
 by_cases e:i=j
 .subst e;rw[Vba (Vae.1 G).1]at d;simp only[Vaa,Nd.mk.injEq]at d;rw[<-d.2];exact D.rin
 .rw[VaC e]at d;exact h j mk s d
theorem WS.bec(h:WS σ)(d:becF σ i r=some (.ok τ)):WS τ:=by
 simp only[becF,Vab]at d;obtain⟨l,_,d⟩:=d
 split at d
 .simp at d
 .simp only[Vab,Vaa,Oc.ok.injEq]at d;obtain⟨ρ,D,rfl⟩:=d;exact h.set D
theorem WS.eq:∀(n:Nat) {σ τ:St} {x y:TR},WS σ->eqF n σ x y=some (.ok τ)->WS τ:=by
 intro n
 induction n with
 |zero=>intro σ τ x y _ h;simp[eqF]at h
 |succ n E=>
  intro σ τ x y h d;simp only[eqF,Vab]at d;obtain⟨x0,_,y0,_,d⟩:=d
  split at d
  .simp only[Vaa,Oc.ok.injEq]at d;exact d▸h
  .split at d
   .exact h.bec d
   .split at d
    .exact h.bec d
    .simp only[Vab]at d;obtain⟨o,D,d⟩:=d
     cases o with
     |er j=>simp at d
     |ok J=>
      have I:WS J:=by
       simp only[belF]at D
       split at D
       .simp only[Vab]at D;obtain⟨os,_,M,_,D⟩:=D
        split at D
        .exact E h D
        .simp only[Vab]at D;obtain⟨o,G,D⟩:=D
         cases o with
         |er j=>simp at D
         |ok L=>exact E (E h G) D
        .simp at D
       .simp at D
      cases x0 with
      |int=>simp at d
      |bool=>simp at d
      |nd k i=>
       simp only[Vab,Vaa,Oc.ok.injEq]at d;obtain⟨ρ,G,rfl⟩:=d;exact I.set G
theorem WS.mark(h:WS σ)(r:TR):WS (JdZ σ r):=by
 unfold JdZ
 split
 .split
  .rename_i i _ nm g D;intro j mk s d;simp only[VdS]
   by_cases e:i=j
   .subst e;rw[Vba (Vae.1 D).1]at d;simp at d
   .rw[VaC e]at d;exact h j mk s d
  .exact h
 .exact h
theorem WS.gen:∀(n:Nat) {σ τ:St} {r:TR} {bd:List TR},WS σ->genF n σ r bd=some τ->WS τ:=by
 intro n
 induction n with
 |zero=>intro σ τ r bd _ h;simp[genF]at h
 |succ n D=>
  intro σ τ r bd h d;simp only[genF,Vab]at d;obtain⟨I,_,d⟩:=d
  split at d
  .simp only[Vaa]at d;exact d▸h
  .split at d
   .simp only[Vaa]at d;exact d▸h.mark _
   .simp only[Vab]at d;obtain⟨J,_,d⟩:=d
    split at d
    .simp only[Vaa]at d;exact d▸h
    .exact D h d
    .simp only[Vab]at d;obtain⟨G,E,d⟩:=d;exact D (D h E) d
    .simp at d
theorem WS.add(h:WS σ)(nk:NK):WS (σ++ [⟨nk,none⟩]):=by
 intro j mk s d
 by_cases e:j<σ.length
 .rw[Vak e]at d;exact(h j mk s d).up (by simp)
 .have D:j=σ.length:=by
   have:=(Vae.1 d).1;simp at this;omega
  subst D;simp at d
theorem Jda{y:Nd}(d:(σ++ [x])[j]? =some y):(j<σ.length/\σ[j]? =some y)\/(j=σ.length/\x=y):=by
 by_cases e:j<σ.length
 .rw[Vak e]at d;exact .inl ⟨e,d⟩
 .have h:j=σ.length:=by
   have:=(Vae.1 d).1;simp at this;omega
  subst h;simp at d;exact .inr ⟨rfl,d⟩
theorem JpW{x:NK}(h:WS σ){a b:TR}(G:Rp (σ++ [⟨x,none⟩]) a b):RIn σ.length a->Rp σ a b:=by
 induction G with
 |int=>intro _;exact .int
 |bool=>intro _;exact .bool
 |root j mk d=>
  intro D
  rcases Jda d with⟨_,q⟩|⟨q,_⟩
  .exact .root j mk q
  .have:j<σ.length:=D;omega
 |step j mk r I d _ E=>
  intro D
  rcases Jda d with⟨_,q⟩|⟨_,q⟩
  .exact .step j mk r I q (E (h j mk r q))
  .simp at q
theorem Ev.add(h:Ev σ τ)(I:WS σ)(x:NK):Ev (σ++ [⟨x,none⟩]) (τ++ [⟨x,none⟩]):=by
 refine⟨by simp[h.len],?_,?_⟩
 .intro j mk s L
  rcases Jda L with⟨l,q⟩|⟨l,q⟩
  .obtain⟨J,O,M⟩:=h.kk j mk s q;exact⟨J,Jdb O,M⟩
  .simp only[Nd.mk.injEq]at q;obtain⟨rfl,rfl⟩:=q;subst l;exact⟨none,by rw[<-h.len];simp,rfl⟩
 .intro a b E
  by_cases D:RIn σ.length a
  .exact(h.rp _ _ (JpW I E D)).up _
  .cases a with
   |int=>exact absurd trivial D
   |bool=>exact absurd trivial D
   |nd k j=>
    generalize d:TR.nd k j=z at E
    cases E with
    |int=>cases d
    |bool=>cases d
    |root i mk G=>
     simp only[TR.nd.injEq]at d;obtain⟨rfl,rfl⟩:=d
     rcases Jda G with⟨l,_⟩|⟨l,q⟩
     .exact absurd l D
     .simp only[Nd.mk.injEq,Vbo]at q;subst q;subst l;exact .root _ x (by rw[<-h.len];simp)
    |step i mk r T G _=>
     simp only[TR.nd.injEq]at d;obtain⟨rfl,rfl⟩:=d
     rcases Jda G with⟨l,_⟩|⟨_,q⟩
     .exact absurd l D
     .simp at q
theorem SX.add(I:SX w ad σ)(d:WS σ){b:Nat}(G: ¬b∈ad)(h:w.heap[b]? =some o)(J:NBk ad nk .nilIface o):SX w (ad++ [b]) (σ++ [⟨nk,none⟩]):=by
 obtain⟨τ,E,D⟩:=I;exact⟨_,E.add G h J,D.add d nk⟩
theorem SX.lt(h:SX w ad σ){b:Nat}(E:b∈ad):b<w.heap.size:=by
 obtain⟨τ,d,_⟩:=h;obtain⟨o,D,_⟩:=d.tb E;exact Vah D
theorem RV.last{b:Nat}(h:ad.length=σ.length)(k:Kd):RV (ad++ [b]) (.nd k σ.length) (.iface k.tp (.pointer (some ⟨b,0,none⟩))):=⟨b,by rw[<-h];simp,rfl⟩
structure Gw(S:Nat->Prop)(ad ad':List Nat)(w w':World):Prop where
 up:∃u,ad'=ad++u/\∀q,q∈u->w.heap.size<=q
 kt:Kt ad S w w'
theorem Gw.of(k:Kt ad S w w'):Gw S ad ad w w':=⟨⟨[],by simp,by simp⟩,k⟩
variable {a:List Nat}{w2 w3:World}
theorem Gw.trans{b c:List Nat}(h:Gw S a b w1 w2)(g:Gw S b c w2 w3):Gw S a c w1 w3:=by
 obtain⟨⟨u,rfl,D⟩,k⟩:=h;obtain⟨⟨G,rfl,I⟩,E⟩:=g;refine⟨⟨u++G,by simp,?_⟩,k.then E ?_⟩
 .intro q d;simp at d
  rcases d with d|d
  .exact D q d
  .exact Vas k.size (I q d)
 .intro q d;simp at d
  rcases d with d|d
  .exact .inl d
  .exact .inr (D q d)
theorem Gw.rv{b:List Nat}(h:Gw S a b w1 w2)(d:RV a r v):RV b r v:=by
 obtain⟨⟨u,rfl,D⟩,_⟩:=h;exact d.up u
theorem Gw.snoc{b:Nat}(k:Kt ad S w w')(h:w.heap.size<=b):Gw S ad (ad++ [b]) w w':=⟨⟨[b],rfl,by intro q d;simp at d;omega⟩,k⟩
theorem SX.newv(d:SX w ad σ)(h:WS σ)(g:Bool):SX (w.alloc (.cells #[.nilIface,.string ⟨#[]⟩,.bool g] 221)) (ad++ [w.heap.size]) (σ++ [⟨.vr ⟨#[]⟩ g,none⟩]):=
 (d.kept (VeD _ _)).add h (fun z=>by have:=d.lt z;omega) (Vag _ _) rfl
theorem SX.vcell(D:SX w ad σ){b:Nat}(E:σ[i]? =some ⟨.vr nm g,none⟩)(h:ad[i]? =some b):w.cell? ⟨b,2,none⟩=some (.bool g):=by
 obtain⟨o,d,G⟩:=D.blk E h;rw[show o=_ from G]at d;simp[VeC,d]
def FvO(w:World)(mb:Nat)(ad:List Nat)(σ':St)(h:TR)(d:List (Nat×Nat))(e:Ending)(w':World):Prop:=∃c ad',e= .returned (.pointer (some ⟨c,0,none⟩))/\RV ad' h (.iface 216 (.pointer (some ⟨c,0,none⟩)))/\SX w' ad' σ'/\WS σ'/\VV w' mb ad' σ' d/\Gw (fun q=>q=mb) ad ad' w w'
theorem Jl2{b:Nat}(G:σ[i]? =some ⟨.vr nm false,none⟩)(d:ad[i]? =some b)(h:SX w ad σ)(D:WS σ)(E:VV w mb ad σ m):Calls prog 232 #[.map (some mb),.pointer (some ⟨b,0,none⟩)] w (FvO w mb ad σ (.nd .vr i) m):=by
 have J:=h.vcell G d;have I:Hid (FvO w mb ad σ (.nd .vr i) m (.returned (.pointer (some ⟨b,0,none⟩))) w):=⟨b,ad,rfl,⟨b,d,rfl⟩,h,D,E,Gw.of (Kt.refl _ _ _)⟩
 clear h D E G d
 go_enter func232,ntmps232
 go_wp2
 go_ret
 exact I.out
theorem Jl0{b:Nat}(E:σ[i]? =some ⟨.vr nm true,none⟩)(D:ad[i]? =some b)(J:Jal i m=some j)(d:SX w ad σ)(G:WS σ)(h:VV w mb ad σ m):Calls prog 232 #[.map (some mb),.pointer (some ⟨b,0,none⟩)] w (FvO w mb ad σ (.nd .vr j) m):=by
 have O:=d.vcell E D;obtain⟨c,I,M,_⟩:=(Jer h d E rfl D 380 VdU).1 j J;have L:Hid (FvO w mb ad σ (.nd .vr j) m (.returned (.pointer (some ⟨c,0,none⟩))) w):=⟨c,ad,rfl,⟨c,I,rfl⟩,d,G,h,Gw.of (Kt.refl _ _ _)⟩
 clear d G h E D J I
 go_enter func232,ntmps232
 go_wp2
 go_ret
 exact L.out
theorem Jl1{b:Nat}(D:σ[i]? =some ⟨.vr nm true,none⟩)(h:ad[i]? =some b)(I:Jal i m=none)(d:SX w ad σ)(E:WS σ)(G:VV w mb ad σ m):Calls prog 232 #[.map (some mb),.pointer (some ⟨b,0,none⟩)] w (FvO w mb ad (σ++ [newV]) (.nd .vr σ.length) (m++ [(i,σ.length)])):=by
 have hc:=d.vcell D h;obtain⟨hl,_⟩:=(Jer G d D rfl h 380 VdU).2 I;have J:Kept w (w.alloc (.cells #[.nilIface,.string ⟨#[]⟩,.bool false] 221)):=VeD _ _;have T:=d.newv E false;have V:=(G.kt (Kt.of_kept (ad:=ad) (S:=fun _=>False) J) id).up [w.heap.size] [newV];have L:=RV.last (b:=w.heap.size) d.len .vr;have O:(ad++ [w.heap.size])[i]? =some b:=by rw[Vak (Vae.1 h).1];exact h
 obtain⟨w2,Z,U,W,M⟩:=JkY V T (i:=i) (b:=b) (j:=σ.length) (c:=w.heap.size) (nd:=⟨.vr nm true,none⟩) (Jdb D) rfl O (by rw[<-d.len];simp) I 380 VdU;have Y:Hid (FvO w mb ad (σ++ [newV]) (.nd .vr σ.length) (m++ [(i,σ.length)]) (.returned (.pointer (some ⟨w.heap.size,0,none⟩))) w2):=⟨_,_,rfl,L,U,E.add _,W,(Gw.snoc (Kt.of_kept J) (Vau _)).trans (Gw.of M)⟩
 clear d E G D h I T V L O U W M J
 go_enter func232,ntmps232
 go_wp2
 go_ret
 exact Y.out
def InO(w:World)(mb:Nat)(ad:List Nat)(p:TR×St×List (Nat×Nat))(e:Ending)(w':World):Prop:=∃d ad',e= .returned d/\RV ad' p.1 d/\SX w' ad' p.2.1/\WS p.2.1/\VV w' mb ad' p.2.1 p.2.2/\Gw (fun q=>q=mb) ad ad' w w'
def SIns(n:Nat):Prop:=∀(σ:St) (r:TR) (m:List (Nat×Nat)) (p:TR×St×List (Nat×Nat)),Ja1 n σ r m=some p->∀(w:World) (ad:List Nat) (v:Value) (mb:Nat),SX w ad σ->WS σ->RV ad r v->VV w mb ad σ m->
 Calls prog 220 #[.map (some mb),v] w (InO w mb ad p)
variable {ad':List Nat}
theorem Gw.pre(k:Kt ad S w w1)(h:Gw S ad ad' w1 w'):Gw S ad ad' w w':=(Gw.of k).trans h
theorem Jgq:∀(n:Nat) {σ:St} {r:TR} {m:List (Nat×Nat)} {p:TR×St×List (Nat×Nat)},Ja1 n σ r m=some p->∃u,p.2.1=σ++u:=by
 intro n
 induction n with
 |zero=>intro σ r m p h;simp[Ja1]at h
 |succ n d=>
  intro σ r m p h;simp only[Ja1,Vab]at h;obtain⟨L,_,h⟩:=h
  cases L with
  |int=>simp only[Vaa]at h;exact⟨[],by rw[<-h];simp⟩
  |bool=>simp only[Vaa]at h;exact⟨[],by rw[<-h];simp⟩
  |nd k i=>
   simp only at h
   split at h
   .simp only[Vaa]at h;exact⟨[],by rw[<-h];simp⟩
   .split at h
    .simp only[Vaa]at h;exact⟨[],by rw[<-h];simp⟩
    .simp only[Vaa]at h;exact⟨[newV],by rw[<-h]⟩
   .simp only[Vab,Vaa]at h;obtain⟨p1,D,h⟩:=h;obtain⟨u,E⟩:=d D;exact⟨u++ [⟨.ls p1.1,none⟩],by rw[<-h,E];simp⟩
   .simp only[Vab,Vaa]at h;obtain⟨p1,D,p2,G,h⟩:=h;obtain⟨u,E⟩:=d D;obtain⟨I,J⟩:=d G;exact⟨u++I++ [⟨.pr p1.1 p2.1,none⟩],by rw[<-h,J,E];simp⟩
   .simp only[Vab,Vaa]at h;obtain⟨p1,D,p2,G,h⟩:=h;obtain⟨u,E⟩:=d D;obtain⟨I,J⟩:=d G;exact⟨u++I++ [⟨.ar p1.1 p2.1,none⟩],by rw[<-h,J,E];simp⟩
   .simp at h
variable {C:TR->TR->NK}{tT:TypeId}{y:TR}{vx vy:Value}
theorem Jg0(h:∀ad a c o,NBk ad (C a c) .nilIface o<->∃p q,RV ad a p/\RV ad c q/\o= .cells #[.nilIface,p,q] tT (0,0)){x:TR}{b:Nat}(L:SX w ad σ)(M:σ[i]? =some ⟨C x y,none⟩)(I:ad[i]? =some b)(E:RV ad x vx)(J:RV ad y vy):w.cell? ⟨b,1,none⟩=some vx/\w.cell? ⟨b,2,none⟩=some vy:=by
 obtain⟨o,d,O⟩:=L.blk M I;obtain⟨p,q,G,D,rfl⟩:=(h _ _ _ _).1 O;rw[E.det G,J.det D];exact⟨by simp[VeC,d],by simp[VeC,d]⟩
variable {p1 p2:TR×St×List (Nat×Nat)}
theorem Jka(n:Nat)(ih:SIns n)(hk:∀a c,(C a c).kd=k)(J:∀ad a c o,NBk ad (C a c) .nilIface o<->∃p q,RV ad a p/\RV ad c q/\o= .cells #[.nilIface,p,q] tT (0,0)){x:TR}(h1:Ja1 n σ x m=some p1)(U:Ja1 n p1.2.1 y p1.2.2=some p2)(hs:SX w1 ad σ)(hw:WS σ)(hm:VV w1 mb ad σ m)(af:Kt ad (fun q=>q=mb) w w1)(L:RV ad x vx)(T:RV ad y vy){b:Nat}(hi:σ[i]? =some ⟨C x y,none⟩)(W:ad[i]? =some b):
  Calls prog 220 #[.map (some mb),vx] w1 fun e w2=>∃E I,e= .returned (.iface E I)/\w2.cell? ⟨b,1,none⟩=some vx/\w2.cell? ⟨b,2,none⟩=some vy/\
   Hid (Calls prog 220 #[.map (some mb),vy] w2 fun e w3=>∃D u3,e= .returned (.iface D u3)/\w3.cell? ⟨b,1,none⟩=some vx/\w3.cell? ⟨b,2,none⟩=some vy/\
    Hid (InO w mb ad (.nd k p2.2.1.length,p2.2.1++ [⟨C p1.1 p2.1,none⟩],p2.2.2) (.returned (.iface k.tp (.pointer (some ⟨w3.heap.size,0,none⟩)))) (w3.alloc (.cells #[.nilIface,.iface E I,.iface D u3] tT)))):=by
 obtain⟨u1,ag⟩:=Jgq n h1;obtain⟨I,ah⟩:=Jgq n U;refine(ih σ x m p1 h1 w1 ad vx mb hs hw L hm).mono ?_
 rintro e w2 ⟨v2,ad2,rfl,Z,ae,ai,ak,d⟩;obtain⟨E,z2,rfl⟩:=Z.iface
 have M:ad2[i]? =some b:=by
  obtain⟨⟨u,rfl,_⟩,_⟩:=d;rw[Vak (Vae.1 W).1];exact W
 have aa:p1.2.1[i]? =some ⟨C x y,none⟩:=by rw[ag];exact JhK hi u1
 obtain⟨c1,c2⟩:=Jg0 J ae aa M (d.rv L) (d.rv T);refine⟨E,z2,rfl,c1,c2,?_⟩
 refine(ih p1.2.1 y p1.2.2 p2 U w2 ad2 vy mb ae ai (d.rv T) ak).mono ?_
 rintro e w3 ⟨v3,V,rfl,ac,G,Y,aj,h⟩;obtain⟨D,z3,rfl⟩:=ac.iface
 have am:V[i]? =some b:=by
  obtain⟨⟨u,rfl,_⟩,_⟩:=h;rw[Vak (Vae.1 M).1];exact M
 have al:p2.2.1[i]? =some ⟨C x y,none⟩:=by rw[ah];exact JhK aa I
 obtain⟨d1,d2⟩:=Jg0 J G al am (h.rv (d.rv L)) (h.rv (d.rv T));refine⟨D,z3,rfl,d1,d2,?_⟩
 have O:Kept w3 (w3.alloc (.cells #[.nilIface,.iface E z2,.iface D z3] tT)):=VeD _ _;exact⟨_,V++ [w3.heap.size],rfl,RV.last G.len k,(G.kept O).add Y (fun z=>by have:=G.lt z;omega) (Vag _ _) ((J _ _ _ _).2 ⟨_,_,h.rv Z,ac,rfl⟩),Y.add _,(aj.kt (Kt.of_kept (ad:=ad) (S:=fun _=>False) O) id).up _ _,(Gw.pre af d).trans (h.trans (Gw.snoc (Kt.of_kept O) (Vau _)))⟩
theorem Jq2:∀n,SIns n:=by
 intro n
 induction n with
 |zero=>intro σ r m p h;simp[Ja1]at h
 |succ n ih=>
  intro σ r m p h w ad v mb hs hw hv hm;simp only[Ja1,Vab]at h;obtain⟨r0,hr,h⟩:=h;have hr:=Jcg _ hr;have HK:Hid _:=JaU hr w v hs hv;have T:Hid _:=ih;have Z:Hid _:=hr.root_of;have HM:Hid _:=hm;have W:Hid _:=hw;have HH:Hid _:=h;obtain⟨au,u,rfl⟩:=hv.iface;have am:Hid (∀{w1 w2:World},Kt ad (fun _=>False) w1 w2->Kt ad (fun q=>q=mb) w1 w2):=fun k=>k.mono (fun _ _ z=>z.elim)
  clear hs hr hv ih hm hw h
  go_enter func220,ntmps220
  go_wp2_with fail
  refine Vac HK.out ?_
  rintro e w1 ⟨v0,rfl,af,aq,ai⟩;have J:Hid _:=aq;have ae:Hid _:=am.out ai;have Y:Hid _:=VV.kt HM.out ai id;clear HK aq ai HM am
  cases r0 with
  |int=>
   rw[show v0=_ from af];have d:=HH.out;simp only[Vaa]at d
   have I:Hid (InO w mb ad p (.returned (.iface 343 (.agg #[.string ⟨#[105,110,116]⟩]))) w1):=by
    rw[<-d];exact⟨_,ad,rfl,rfl,J.out,W.out,Y.out,Gw.of ae.out⟩
   have q0:=Ib9 (.agg #[.string ⟨#[105,110,116]⟩]) w1;have q1:=Ib7 (.agg #[.string ⟨#[105,110,116]⟩]) w1;have q2:=Ib8 (.agg #[.string ⟨#[105,110,116]⟩]) w1;have q3:=IbM (.agg #[.string ⟨#[105,110,116]⟩]) w1;clear d af T Z
   go_wp2
   go_ret
   exact I.out
  |bool=>
   rw[show v0=_ from af];have d:=HH.out;simp only[Vaa]at d
   have I:Hid (InO w mb ad p (.returned (.iface 343 (.agg #[.string ⟨#[98,111,111,108]⟩]))) w1):=by
    rw[<-d];exact⟨_,ad,rfl,rfl,J.out,W.out,Y.out,Gw.of ae.out⟩
   have q0:=Ib9 (.agg #[.string ⟨#[98,111,111,108]⟩]) w1;have q1:=Ib7 (.agg #[.string ⟨#[98,111,111,108]⟩]) w1;have q2:=Ib8 (.agg #[.string ⟨#[98,111,111,108]⟩]) w1;have q3:=IbM (.agg #[.string ⟨#[98,111,111,108]⟩]) w1;clear d af T Z
   go_wp2
   go_ret
   exact I.out
  |nd k i=>
   obtain⟨nk,rfl,D⟩:=Z.out.rt;obtain⟨b,E,rfl⟩:=af;have d:=HH.out;simp only[D]at d
   cases nk with
   |vr nm g=>
    have ah:Hid (∀(c:Nat) (r':TR) (σ':St) (m':List (Nat×Nat)),p=(r',σ',m')->∀(e:Ending) (w':World),FvO w1 mb ad σ' r' m' e w'->∃c,e= .returned (.pointer (some ⟨c,0,none⟩))/\InO w mb ad p (.returned (.iface 216 (.pointer (some ⟨c,0,none⟩)))) w'):=by
     rintro _ r' σ' m' rfl e w' ⟨c,ad',e1,e2,e3,e4,e5,e6⟩;exact⟨c,e1,_,ad',rfl,e2,e3,e4,e5,Gw.pre ae.out e6⟩
    have O:Hid (Calls prog 232 #[.map (some mb),.pointer (some ⟨b,0,none⟩)] w1 fun e w'=>∃c,e= .returned (.pointer (some ⟨c,0,none⟩))/\InO w mb ad p (.returned (.iface 216 (.pointer (some ⟨c,0,none⟩)))) w'):=by
     cases g with
     |false=>
      simp only[Vaa]at d;exact(Jl2 D E J.out W.out Y.out).mono (fun e w' h=>ah.out 0 _ _ _ d.symm e w' h)
     |true=>
      simp only at d
      split at d
      .rename_i j hj;simp only[Vaa]at d;exact(Jl0 D E hj J.out W.out Y.out).mono (fun e w' h=>ah.out 0 _ _ _ d.symm e w' h)
      .rename_i hj;simp only[Vaa]at d;exact(Jl1 D E hj J.out W.out Y.out).mono (fun e w' h=>ah.out 0 _ _ _ d.symm e w' h)
    have q0:=Ib6 (.pointer (some ⟨b,0,none⟩)) w1;simp only[NK.kd,Kd.tp];clear d ah T Z D E HH
    go_wp2_with fail
    refine Vac O.out ?_
    rintro e w2 ⟨c,rfl,hF⟩;have I:Hid _:=hF;clear hF O
    go_wp2
    go_ret
    exact I.out
   |ls x=>
    simp only[Vab,Vaa]at d;obtain⟨p1,U,G⟩:=d;obtain⟨o,V,hn⟩:=SX.blk J.out D E;obtain⟨vx,L,rfl⟩:=hn;have c1:w1.cell? ⟨b,1,none⟩=some vx:=by simp[VeC,V]
    obtain⟨Tx,ux,rfl⟩:=L.iface;have q0:=IbV (.pointer (some ⟨b,0,none⟩)) w1;have q1:=IbT (.pointer (some ⟨b,0,none⟩)) w1;have O:Hid _:=T.out σ x m p1 U w1 ad _ mb J.out W.out L Y.out;have HP:Hid _:=G;simp only[NK.kd,Kd.tp];clear D E V L U G T Z HH
    go_wp2_with fail
    refine Vac O.out ?_
    rintro e w2 ⟨v2,ad2,rfl,ak,ag,aj,an,ao⟩;obtain⟨T2,u2,rfl⟩:=ak.iface
    have I:Hid (InO w mb ad p (.returned (.iface 222 (.pointer (some ⟨w2.heap.size,0,none⟩)))) (w2.alloc (.cells #[.nilIface,.iface T2 u2] 225))):=by
     rw[<-HP.out];have al:Kept w2 (w2.alloc (.cells #[.nilIface,.iface T2 u2] 225)):=VeD _ _;exact⟨_,ad2++ [w2.heap.size],rfl,RV.last ag.len .ls,(ag.kept al).add aj (fun z=>by have:=ag.lt z;omega) (Vag _ _) ⟨_,ak,rfl⟩,aj.add _,(an.kt (Kt.of_kept (ad:=ad) (S:=fun _=>False) al) id).up _ _,(Gw.pre ae.out ao).trans (Gw.snoc (Kt.of_kept al) (Vau _))⟩
    clear ak ag aj an ao O
    go_wp2
    go_ret
    exact I.out
   |pr x y=>
    simp only[Vab,Vaa]at d;obtain⟨p1,U,p2,h2,G⟩:=d;obtain⟨o,V,hn⟩:=SX.blk J.out D E;obtain⟨vx,vy,L,ac,rfl⟩:=hn;have M:Kept w1 w1.drew:=Kept.drew w1;have aa:=M.blk V;have c1:w1.drew.cell? ⟨b,1,none⟩=some vx:=by simp[VeC,aa]
    have c2:w1.drew.cell? ⟨b,2,none⟩=some vy:=by simp[VeC,aa]
    obtain⟨Tx,ux,rfl⟩:=L.iface;obtain⟨Ty,uy,rfl⟩:=ac.iface;have O:Hid _:=Jka n T.out (C:= .pr) (k:= .pr) (tT:=229) (fun _ _=>rfl) (fun _ _ _ _=>Iff.rfl) U h2 (w:=w) (SX.kept J.out M) W.out (VV.kt Y.out (Kt.of_kept (ad:=ad) (S:=fun _=>False) M) id) (ae.out.trans (Kt.of_kept M)) L ac D E;have HP:Hid _:=G;have q0:=Ib0 (.pointer (some ⟨b,0,none⟩)) w1;have q1:=IbY (.pointer (some ⟨b,0,none⟩)) w1;have q2:=IbZ (.pointer (some ⟨b,0,none⟩)) w1;simp only[NK.kd,Kd.tp];clear D E V L ac U h2 G Z HH aa M T
    go_wp2_with fail
    go_region_held3 (fun w'=>w'.cell? ⟨b,1,none⟩=some (.iface Tx ux)/\w'.cell? ⟨b,2,none⟩=some (.iface Ty uy)) (go_keep) (first|(go_at_call 220;refine Vac O.out ?_;rintro e w2 ⟨T2,u2,rfl,j1,j2,HD⟩;clear O)|(go_at_call 220;refine Vac HD.out ?_;rintro e w3 ⟨T3,u3,rfl,k1,k2,I⟩;clear HD))
    all_goals
     go_wp2
     go_ret
     have G:=HP.out;rw[<-G];exact I.out
   |ar x y=>
    simp only[Vab,Vaa]at d;obtain⟨p1,U,p2,h2,G⟩:=d;obtain⟨o,V,hn⟩:=SX.blk J.out D E;obtain⟨vx,vy,L,ac,rfl⟩:=hn;have M:Kept w1 w1.drew:=Kept.drew w1;have aa:=M.blk V;have c1:w1.drew.cell? ⟨b,1,none⟩=some vx:=by simp[VeC,aa]
    have c2:w1.drew.cell? ⟨b,2,none⟩=some vy:=by simp[VeC,aa]
    obtain⟨Tx,ux,rfl⟩:=L.iface;obtain⟨Ty,uy,rfl⟩:=ac.iface;have O:Hid _:=Jka n T.out (C:= .ar) (k:= .ar) (tT:=233) (fun _ _=>rfl) (fun _ _ _ _=>Iff.rfl) U h2 (w:=w) (SX.kept J.out M) W.out (VV.kt Y.out (Kt.of_kept (ad:=ad) (S:=fun _=>False) M) id) (ae.out.trans (Kt.of_kept M)) L ac D E;have HP:Hid _:=G;have q0:=IbL (.pointer (some ⟨b,0,none⟩)) w1;have q1:=IbJ (.pointer (some ⟨b,0,none⟩)) w1;have q2:=IbK (.pointer (some ⟨b,0,none⟩)) w1;have q3:=IbH (.pointer (some ⟨b,0,none⟩)) w1;simp only[NK.kd,Kd.tp];clear D E V L ac U h2 G Z HH aa M T
    go_wp2_with fail
    go_region_held3 (fun w'=>w'.cell? ⟨b,1,none⟩=some (.iface Tx ux)/\w'.cell? ⟨b,2,none⟩=some (.iface Ty uy)) (go_keep) (first|(go_at_call 220;refine Vac O.out ?_;rintro e w2 ⟨T2,u2,rfl,j1,j2,HD⟩;clear O)|(go_at_call 220;refine Vac HD.out ?_;rintro e w3 ⟨T3,u3,rfl,k1,k2,I⟩;clear HD))
    all_goals
     go_wp2
     go_ret
     have G:=HP.out;rw[<-G];exact I.out
theorem Iaq(w:World):(binOp .eql 216 (.pointer none) (.pointer none)).run prog w= .ok (.bool true) w:=by kernel_rfl
theorem Ias(a:Addr)(w:World):(binOp .eql 216 (.pointer (some a)) (.pointer none)).run prog w= .ok (.bool false) w:=by kernel_rfl
theorem Iar(a:Addr)(w:World):(binOp .eql 216 (.pointer none) (.pointer (some a))).run prog w= .ok (.bool false) w:=by kernel_rfl
theorem Jh1{b:Nat}(h:VBk w b)(d:VBk w c):(binOp .eql 216 (.pointer (some ⟨b,0,none⟩)) (.pointer (some ⟨c,0,none⟩))).run prog w= .ok (.bool (b==c)) w:=by
 have:=Jhe w b c h d;simp[binOp,this,Vet]
def VKv(σ:St)(m:List (Nat×Nat)):Prop:=∀e,e∈m->∃nd,σ[e.2]? =some nd/\nd.k.kd= .vr
theorem Jgw{i j:Nat}:∀{m:List (Nat×Nat)},Jal i m=some j->∃e,e∈m/\e.2=j
 | [],h=>by simp[Jal]at h
 |e::m,h=>by
  simp only[Jal]at h
  split at h
  .simp only[Vaa]at h;exact⟨e,by simp,h⟩
  .obtain⟨E,d,D⟩:=Jgw h;exact⟨E,by simp[d],D⟩
theorem JdH{i a c:Nat}:∀{m:List (Nat×Nat)},Jal i m=none->Jal i (m++ [(a,c)])=if i==a then some c else none
 | [],_=>by simp[Jal]
 |e::m,h=>by
  simp only[Jal]at h
  split at h
  .simp at h
  .rename_i d;simp only[VaV,Jal,d,VaS];exact JdH h
theorem Jfb{i j:Nat}(x:List (Nat×Nat)):∀{m:List (Nat×Nat)},Jal i m=some j->Jal i (m++x)=some j
 | [],h=>by simp[Jal]at h
 |e::m,h=>by
  simp only[Jal]at h;simp only[VaV,Jal]
  split at h
  .rename_i d;simp only[d,Va0];exact h
  .rename_i d;simp only[d,VaS];exact Jfb x h
def PrO(w:World)(mb:Nat)(ad:List Nat)(σ:St)(p:Bool×List (Nat×Nat))(e:Ending)(w':World):Prop:=e= .returned (.bool p.1)/\SX w' ad σ/\VV w' mb ad σ p.2/\VKv σ p.2/\Kt ad (fun q=>q=mb) w w'
variable {nd':Nd}
theorem JpC{b:Nat}(h:SX w ad σ)(G:VV w mb ad σ m)(J:VKv σ m)(E:σ[i]? =some nd)(V:nd.k.kd= .vr)(T:ad[i]? =some b)(I:σ[j]? =some nd')(W:nd'.k.kd= .vr)(D:ad[j]? =some c)(ac:i≠j):Calls prog 253 #[.map (some mb),.pointer (some ⟨b,0,none⟩),.pointer (some ⟨c,0,none⟩)] w (PrO w mb ad σ (Jhu i j m)):=by
 have vb:=h.vbk2 E V T;have vc:=h.vbk2 I W D;have L1:=Jer G h E V T 403 VcE;have Z:=Jer G h I W D 403 VcE;unfold Jhu
 cases Y:Jal i m with
 |some x=>
  obtain⟨d,M,_,hl⟩:=L1.1 x Y;obtain⟨e,L,ae⟩:=Jgw Y;obtain⟨nx,hx,ag⟩:=J e L;rw[ae]at hx;have O:=h.vbk2 hx ag M;have q1:=Ias ⟨d,0,none⟩ w;have q2:=Jh1 O vc
  have e:(d==c)=(x==j):=by
   rw[Vb7,Vbs,Vbs]
   constructor
   .intro z;subst z;exact JcB h.nodup M D
   .intro z;subst z;rw[M]at D;simpa using D
  have U:Hid (PrO w mb ad σ (x==j,m) (.returned (.bool (x==j))) w):=⟨rfl,h,G,J,Kt.refl _ _ _⟩
  rw[e]at q2;clear L1 Z vb vc O h G J E I hx M L e
  go_enter func253,ntmps253
  go_wp2
  go_ret
  exact U.out
 |none=>
  obtain⟨_,hl⟩:=L1.2 Y;have q0:=Iaq w
  cases h2:Jal j m with
  |some y=>
   obtain⟨d,M,_,af⟩:=Z.1 y h2;have q1:=Ias ⟨d,0,none⟩ w;have q2:=Iar ⟨c,0,none⟩ w;have U:Hid (PrO w mb ad σ (false,m) (.returned (.bool false)) w):=⟨rfl,h,G,J,Kt.refl _ _ _⟩
   clear L1 Z vb vc h G J E I M
   go_enter func253,ntmps253
   go_wp2
   go_ret
   exact U.out
  |none=>
   obtain⟨_,af⟩:=Z.2 h2;obtain⟨w1,p1,s1,m1,k1⟩:=JkY G h E V T D Y 403 VcE
   have h3:Jal j (m++ [(i,j)])=none:=by
    rw[JdH h2];simp[Vdg ac]
   obtain⟨w2,p2,s2,m2,k2⟩:=JkY m1 s1 I W D T h3 403 VcE;have h4:Jal i ((m++ [(i,j)])++ [(j,i)])=some j:=Jfb _ (by rw[JdH Y];simp);obtain⟨d,aa,_,ah⟩:=(Jer m2 s2 E V T 403 VcE).1 j h4;have e:d=c:=by rw[aa]at D;simpa using D
   subst e;have O:=s2.vbk2 I W D;have q2:=Jh1 O O;simp only[BEq.rfl]at q2
   have U:Hid (PrO w mb ad σ (true,m++ [(i,j),(j,i)]) (.returned (.bool true)) w2):=by
    refine⟨rfl,s2,?_,?_,k1.trans k2⟩
    .simpa using m2
    .intro e L;simp at L
     rcases L with L|rfl|rfl
     .exact J e L
     .exact⟨nd',I,W⟩
     .exact⟨nd,E,V⟩
   clear L1 Z vb vc h G J E I aa h4 m2 s2 h3 m1 s1 k1 k2 O
   go_enter func253,ntmps253
   go_wp2
   go_ret
   exact U.out
end Go.Proofs.YtleenphlgbklmaaGreatDoor
