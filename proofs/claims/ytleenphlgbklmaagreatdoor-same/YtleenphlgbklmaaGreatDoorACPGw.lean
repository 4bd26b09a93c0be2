import Derived.Test.YtleenphlgbklmaaGreatDoorACPCk
import Derived.Deep.OwnRows
set_option linter.unusedVariables false
set_option linter.unusedSimpArgs false
set_option maxRecDepth 100000
set_option maxHeartbeats 8000000
open List renaming replicate → Vex
namespace Go.Proofs.YtleenphlgbklmaaGreatDoor
open Go.RowKit
open World renaming setCell → Vet, cell? → Veu, frozen? → Vev
open Kept renaming alloc → Vew
open Value renaming nilIface → Vey
open Tryz
variable {v x:Value}{W w wr:World}{sb k gm g:Nat}{T:TypeId}{vals:List Value}{p:Option Addr}{ad:List Nat}
def IfV(v:Value):Prop:=v= .nilIface\/∃T u,v= .iface T u
theorem JrK(w:World)(p:Option Addr)(gm:Nat)(n:BA)(d:IfV v):Calls prog 166 #[.agg #[.pointer p,.map (some gm)],.string n,v] w fun e w'=>∃q,e= .returned (.agg #[.pointer (some ⟨q,0,none⟩),.map (some gm)])/\w'.heap[q]? =some (.cells #[.string n,v,.bool false,.pointer p] 359 (0,0))/\Kept w w':=by
 rcases d with rfl|⟨T,u,rfl⟩
 .exact Jf2 w p gm n
 .exact JiI w p gm n T u
theorem Jgp(own:List Bd):∀(j:Nat) (names:List BA) (ts:List TR) (d:List Bd) (h:j<names.length) (D:j<ts.length),grpF (names.take (j+1)) (ts.take (j+1)) d=⟨names[j],ts[j],false⟩::grpF (names.take j) (ts.take j) d
 |0,n::E,t::ts,d,_,_=>by simp[grpF]
 |j+1,n::E,t::ts,d,h,D=>by
  have:=Jgp own j E ts (⟨n,t,false⟩::d) (by simpa using h) (by simpa using D);simpa[grpF]using this
 |_,[],_,_,h,_=>by simp at h
 |_,_::_,[],_,_,h=>by simp at h
variable {y:Value}
theorem JhG(h:W.heap[sb]? =some (.cells #[x,y] T (0,0)))(d D:Value):((W.setCell ⟨sb,0,none⟩ d).setCell ⟨sb,1,none⟩ D).heap[sb]? =some (.cells #[d,D] T (0,0)):=by simp[Vet,h,Vay]
theorem JhI(W:World)(d:k≠sb)(h D:Value):((W.setCell ⟨sb,0,none⟩ h).setCell ⟨sb,1,none⟩ D).heap[k]? =W.heap[k]? :=(Vaj _ _ _ k (fun z=>d z)).trans (Vaj _ _ _ k (fun z=>d z))
theorem Jds(h:Kept w W)(G:w.heap.size<=sb)(D d:Value):Kept w ((W.setCell ⟨sb,0,none⟩ D).setCell ⟨sb,1,none⟩ d):=⟨h.os,h.output,by simpa using h.size,fun k E=>(JhI W (by omega) D d).trans (h.block k E)⟩
variable {R:TR->Value->Prop}{l:List Bd}
theorem JhH(h:W.heap[sb]? =some (.cells #[x,y] 244 (0,0)))(G:CH W R l v)(E D:Value):CH ((W.setCell ⟨sb,0,none⟩ E).setCell ⟨sb,1,none⟩ D) R l v:=
 G.keep (fun q I f d=>(JhI W (fun z=>by rw[z,h]at d;simp at d) E D).trans d)
structure WGI(w:World)(sb:Nat)(R:TR->Value->Prop)(l:List Bd)(gm:Nat)(wr:World)(q:Option Addr):Prop where
 kept:Kept w wr
 blk:wr.heap[sb]? =some (.cells #[.pointer q,.map (some gm)] 244 (0,0))
 rb:wr.heap[sb+1]? =some (.cells #[.pointer none,.map none] 244 (0,0))
 ch:CH wr R l (.pointer q)
variable {names:List BA}{ts:List TR}{own:List Bd}{ng gb cap cap2:Nat}
theorem JeW(hl:names.length=ts.length)(ac:vals.length=ts.length)(hm:names.length<=1000000)
 (hn:∀j (h:j<names.length),w.cell? ⟨ng,j,none⟩=some (.string names[j]))(hs:∀j (h:j<vals.length),w.cell? ⟨gb,j,none⟩=some vals[j])(hi:∀v,v∈vals->IfV v)(hR:∀j (h:j<ts.length) (h2:j<vals.length),R ts[j] vals[j])(hc:CH w R own (.pointer p)):
  Calls prog 200 #[.agg #[.pointer p,.map (some gm)],.slice (some ⟨ng,0,none⟩) names.length cap,.slice (some ⟨gb,0,none⟩) names.length cap2] w fun e w'=>∃q,e= .returned (.agg #[.pointer q,.map (some gm)])/\CH w' R (grpF names ts own) (.pointer q)/\Kept w w':=by
 have HI:Hid _:=hi;have U:Hid _:=hR;have W:Hid _:=hn;have Y:Hid _:=hs;have O:Hid _:=hc;have G:Hid _:=And.intro hl ac;clear hi hR hn hs hc hl ac
 go_enter func200,ntmps200
 go_wp2_with fail
 have af:((w.alloc (.cells #[.pointer p,.map (some gm)] 244)).alloc (.cells #[.pointer none,.map none] 244)).heap[w.heap.size]? =some (.cells #[.pointer p,.map (some gm)] 244 (0,0)):=(Vew _ _).blk (Vag _ _);have M:Kept w ((w.alloc (.cells #[.pointer p,.map (some gm)] 244)).alloc (.cells #[.pointer none,.map none] 244)):=(Vew _ _).trans (Vew _ _);have Z:Hid (WGI w w.heap.size R own gm ((w.alloc (.cells #[.pointer p,.map (some gm)] 244)).alloc (.cells #[.pointer none,.map none] 244)) p):=⟨M,af,by simpa using Vag (w.alloc (.cells #[.pointer p,.map (some gm)] 244)) (.cells #[.pointer none,.map none] 244),O.out.keep (fun q J f h=>M.blk h)⟩
 generalize(w.alloc (.cells #[.pointer p,.map (some gm)] 244)).alloc (.cells #[.pointer none,.map none] 244)=W0 at*;clear M af
 go_loopw [11] (fun i wr=>∃(j:Nat) (q:Option Addr),j<=names.length/\i= .int .i64 j/\Hid (WGI w w.heap.size R (grpF (names.take j) (ts.take j) own) gm wr q)) (fun i _=>names.length-(intOf i).toNat)
 case atStart=>exact⟨0,p,VaN _,rfl,Z.out⟩
 case round=>
  obtain⟨j,q,hj,rfl,d⟩:=hrel;have c0:wr.cell? ⟨w.heap.size,0,none⟩=some (.pointer q):=by simp[Veu,d.out.blk]
  have c1:wr.cell? ⟨w.heap.size,1,none⟩=some (.map (some gm)):=by simp[Veu,d.out.blk]
  by_cases I:j<names.length
  .have aa:j<vals.length:=by rw[G.out.2,<-G.out.1];exact I
   have ag:j<ts.length:=by rw[<-G.out.1];exact I
   have HE:Hid _:=Jgp own j names ts own I ag;have cn:=d.out.kept.cell (W.out j I);have J:=d.out.kept.cell (Y.out j aa);have ai:Hid _:=U.out j ag aa;have ah:=HI.out _ (Vbw aa);generalize vals[j]=v at*;generalize names[j]=n at*;generalize ts[j]=t at*;generalize grpF (names.take j) (ts.take j) own=l at*
   have ae:Hid (Calls prog 166 #[.agg #[.pointer q,.map (some gm)],.string n,v] wr.drew fun e w2=>∃D,e= .returned (.agg #[.pointer (some ⟨D,0,none⟩),.map (some gm)])/\w2.cell? ⟨w.heap.size,0,none⟩=some (.pointer q)/\w2.cell? ⟨w.heap.size,1,none⟩=some (.map (some gm))/\w2.cell? ⟨gb,j,none⟩=some v/\w2.frozen? ⟨w.heap.size,0,none⟩=false/\w2.frozen? ⟨w.heap.size,1,none⟩=false/\
     Hid (WGI w w.heap.size R (⟨n,t,false⟩::l) gm ((w2.setCell ⟨w.heap.size,0,none⟩ (.pointer (some ⟨D,0,none⟩))).setCell ⟨w.heap.size,1,none⟩ (.map (some gm))) (some ⟨D,0,none⟩))):=by
    refine(JrK wr.drew q gm n ah).mono ?_
    rintro e w2 ⟨D,rfl,am,aj⟩;have E:Kept wr w2:=(Kept.drew wr).trans aj;have L:=E.blk d.out.blk;refine⟨D,rfl,E.cell c0,E.cell c1,E.cell J,by simp[Vev,L],by simp[Vev,L],?_⟩
    have ak:=d.out.kept.trans E;have an:CH w2 R (⟨n,t,false⟩::l) (.pointer (some ⟨D,0,none⟩)):=⟨D,v,.pointer q,rfl,am,ai.out,d.out.ch.keep (fun q J f h=>E.blk h)⟩
    exact⟨Jds ak (Vau _) _ _,JhG L _ _,(JhI w2 (by omega) _ _).trans (E.blk d.out.rb),JhH L an _ _⟩
   have e0:wr.drew.cell? ⟨w.heap.size,0,none⟩=some (.pointer q):=c0;have e1:wr.drew.cell? ⟨w.heap.size,1,none⟩=some (.map (some gm)):=c1;have es:wr.drew.cell? ⟨gb,j,none⟩=some v:=J;clear W Y HI U O G Z
   rcases ah with rfl|⟨T,u,rfl⟩
   all_goals
    go_wp2_with fail
    go_region_with (go_at_call 166;refine Vac ae.out ?_;rintro e w2 ⟨D,rfl,d0,d1,d2,d3,d4,HD⟩;clear ae)
    all_goals
     generalize(w2.setCell ⟨w.heap.size,0,none⟩ (.pointer (some ⟨D,0,none⟩))).setCell ⟨w.heap.size,1,none⟩ (.map (some gm))=al at*
     go_wp2
     go_roundw
     case measure=>simp[intOf];omega
     case rel=>exact⟨j+1,some ⟨D,0,none⟩,I,by go_num,by rw[HE.out];exact HD.out⟩
  .have r0:wr.cell? ⟨w.heap.size+1,0,none⟩=some (.pointer none):=by simp[Veu,d.out.rb]
   have r1:wr.cell? ⟨w.heap.size+1,1,none⟩=some (.map none):=by simp[Veu,d.out.rb]
   have r2:wr.frozen? ⟨w.heap.size+1,0,none⟩=false:=by simp[Vev,d.out.rb]
   have r3:wr.frozen? ⟨w.heap.size+1,1,none⟩=false:=by simp[Vev,d.out.rb]
   have HF:Hid (CH ((wr.setCell ⟨w.heap.size+1,0,none⟩ (.pointer q)).setCell ⟨w.heap.size+1,1,none⟩ (.map (some gm))) R (grpF names ts own) (.pointer q)/\Kept w ((wr.setCell ⟨w.heap.size+1,0,none⟩ (.pointer q)).setCell ⟨w.heap.size+1,1,none⟩ (.map (some gm)))):=by
    have h1:=d.out.ch;rw[Vct (by omega),Vct (by rw[<-G.out.1];omega)]at h1;exact⟨JhH d.out.rb h1 _ _,Jds d.out.kept (by omega) _ _⟩
   have V:=JhG d.out.rb (.pointer q) (.map (some gm));have z0:((wr.setCell ⟨w.heap.size+1,0,none⟩ (.pointer q)).setCell ⟨w.heap.size+1,1,none⟩ (.map (some gm))).cell? ⟨w.heap.size+1,0,none⟩=some (.pointer q):=by simp[Veu,V]
   have z1:((wr.setCell ⟨w.heap.size+1,0,none⟩ (.pointer q)).setCell ⟨w.heap.size+1,1,none⟩ (.map (some gm))).cell? ⟨w.heap.size+1,1,none⟩=some (.map (some gm)):=by simp[Veu,V]
   clear V W Y HI U O G Z
   go_wp2_with fail
   generalize(wr.setCell ⟨w.heap.size+1,0,none⟩ (.pointer q)).setCell ⟨w.heap.size+1,1,none⟩ (.map (some gm))=al at*;exact VaI (v:= .agg #[.pointer q,.map (some gm)]) (by simp[results,results200,go_sem,z0,z1]) rfl ⟨q,rfl,HF.out⟩
def TRow(w:World)(g:Nat)(vals:List Value):Prop:=w.heap[g]? =some (.cells vals.toArray 156 (0,0))
theorem TRow.cell(h:TRow w g vals)(j:Nat)(d:j<vals.length):w.cell? ⟨g,j,none⟩=some vals[j]:=by
 unfold TRow at h;simp[Veu,h,d]
theorem Job{vals:Array Value}: ¬TB (.cells vals 156 (0,0)):=by
 rintro⟨h,D,f',d,ht⟩;simp only[VaT]at d;obtain⟨_,rfl,_⟩:=d
 rcases ht with e|e|e|e<;>cases e
variable {w':World}
theorem TRow.kt(h:TRow w g vals)(k:Kt ad (fun _=>False) w w'):TRow w' g vals:=k.blk _ _ h id Job
def RVs(ad:List Nat)(ts:List TR)(vals:List Value):Prop:=vals.length=ts.length/\∀j (h:j<ts.length) (d:j<vals.length),RV ad ts[j] vals[j]
theorem Ibh(w:World):(Instr.makeMap 403 none).run prog w= .ok (.map (some w.heap.size)) (w.alloc (.map #[] 0)):=by kernel_rfl
variable {σ:St}{us:List TR}{g2:Nat}{valu:List Value}
theorem Jna{b:Bool}(ae:Jba σ ts us=some b)(hl:us.length=ts.length)(hm:ts.length<=1000000)(hs:SX w ad σ)(hr:TRow w g vals)(Z:TRow w g2 valu)(hv:RVs ad ts vals)(d:RVs ad us valu):
  Calls prog 238 #[.slice (some ⟨g,0,none⟩) ts.length cap,.slice (some ⟨g2,0,none⟩) ts.length cap2] w fun e w'=>e= .returned (.bool b)/\SX w' ad σ/\Kt ad (fun _=>False) w w':=by
 have V:Hid (SX w ad σ):=hs;have L:Hid (TRow w g vals/\TRow w g2 valu):=⟨hr,Z⟩
 have D:Hid (RVs ad ts vals/\RVs ad us valu):=⟨hv,d⟩
 have U:Hid (us.length=ts.length):=hl;have O:Hid (Jba σ ts us=some b):=ae;clear hs hr Z hv d hl ae
 go_enter func238,ntmps238
 go_wp2_with fail
 go_loopw [9] (fun i wr=>∃j:Nat,j<=ts.length/\i= .int .i64 j/\Hid (SX wr ad σ)/\Hid (Kt ad (fun _=>False) w wr)/\Hid (Jba σ (ts.drop j) (us.drop j)=some b)) (fun i _=>ts.length-(intOf i).toNat)
 case atStart=>exact⟨0,VaN _,rfl,V,Kt.refl _ _ _,O.out⟩
 case round=>
  obtain⟨j,hj,rfl,Y,G,J⟩:=hrel
  by_cases E:j<ts.length
  .have W:j<us.length:=by rw[U.out];exact E
   have ac:j<vals.length:=by rw[D.out.1.1];exact E
   have aa:j<valu.length:=by rw[D.out.2.1];exact W
   have c1:=(L.out.1.kt G.out).cell j ac;have c2:=(L.out.2.kt G.out).cell j aa;have M:=D.out.1.2 j E ac;have d:=D.out.2.2 j W aa
   obtain⟨p,hp,hb⟩:∃p,Jch fuN σ ts[j] us[j] []=some p/\(if p.1 then Jba σ (ts.drop (j+1)) (us.drop (j+1))else some false)=some b:=by
    have:=J.out;rw[Vbl E,Vbl W]at this;simpa only[Jba,Vab]using this
   have mk:=Ibh wr
   have h:Hid (Calls prog 248 #[.map (some wr.heap.size),vals[j],valu[j]] (wr.alloc (.map #[] 0)) fun e w'=>e= .returned (.bool p.1)/\Hid (SX w' ad σ/\Kt ad (fun _=>False) w w')):=by
    have hk:=Vew wr (.map #[] 0);refine(Jp0 fuN σ ts[j] us[j] [] p hp (wr.alloc (.map #[] 0)) ad vals[j] valu[j] wr.heap.size (SX.kept Y.out hk) M d (VV.none _ _ _) (fun e he=>by simp at he)).mono ?_
    rintro e w' T;have ai:Kt ad (fun q=>q=wr.heap.size) wr w':=(Kt.of_kept hk).trans T.2.2.2.2;exact⟨T.1,T.2.1,G.out.trans (ai.mono (fun q hq z=>by omega))⟩
   have af:Hid _:=hb;obtain⟨T1,u1,e1⟩:=M.iface;obtain⟨T2,u2,e2⟩:=d.iface;rw[e1]at c1 h;rw[e2]at c2 h;have c3:=(Vew wr (.map #[] 0)).cell c2;obtain⟨p1,p2⟩:=p;clear hp hb M d e1 e2;clear V L D U O J Y G
   cases p1 with
   |true=>
    go_wp2_with fail
    refine Vac h.out ?_
    rintro e w' ⟨rfl,I⟩;clear h
    go_wp2
    go_roundw
    case measure=>simp[intOf];omega
    case rel=>exact⟨j+1,E,by go_num,I.out.1,I.out.2,af.out⟩
   |false=>
    have ag:b=false:=by have:=af.out;simpa using this.symm
    subst ag
    go_wp2_with fail
    refine Vac h.out ?_
    rintro e w' ⟨rfl,I⟩;clear h
    go_wp2
    go_ret
    exact⟨rfl,I.out⟩
  .have ah:b=true:=by
    have:=J.out;rw[Vdc (by omega)]at this;simpa[Jba]using this.symm
   subst ah;clear V L D U O J
   go_wp2
   go_ret
   exact⟨rfl,Y.out,G.out⟩
def gNd:Nd:=⟨.vr ⟨#[]⟩ true,none⟩
theorem Jg5:∀(k:Nat) (σ:St),anyF k σ=((List.range k).map (fun i=> .nd .vr (σ.length+i)),σ++Vex k gNd)
 |0,σ=>by simp[anyF]
 |k+1,σ=>by
  have:=Jg5 k (σ++ [⟨.vr ⟨#[]⟩ true,none⟩]);simp only[anyF,this];refine Prod.ext ?_ ?_
  .simp only[List.range_succ_eq_map,VaP,Vdk,Vap,VaG];simp only[Vei];congr 1
   apply VcP
   intro i _;simp only[Function.comp];congr 1
   omega
  .show σ++ [gNd]++Vex k gNd=_;rw[Val];rfl
theorem IaS:(prog.info? 156).map (fun i=>(i.zero,i.size,i.bytes))=some (some .nilIface,1,16):=by kernel_rfl
def vV(b:Nat):Value:= .iface Kd.vr.tp (.pointer (some ⟨b,0,none⟩))
structure AnI(w:World)(ad:List Nat)(σ:St)(k:Nat)(u:List Nat)(wr:World):Prop where
 sx:SX wr (ad++u) (σ++Vex u.length gNd)
 ws:WS (σ++Vex u.length gNd)
 row:wr.heap[w.heap.size]? =some (.cells (u.map vV++Vex (k-u.length) Vey).toArray 156 (0,0))
 up:∀q,q∈u->w.heap.size<q
 kt:Kt ad (fun _=>False) w wr
 lo:∀q,q∈ad->q<w.heap.size
theorem Jd7(k:Nat):madeCells #[Vey] k=(Vex k Vey).toArray:=by
 rw[<-toList_madeCells_one]
variable {a rest:List Value}
theorem Jlb(h:W.heap[g]? =some (.cells (a++x::rest).toArray T (0,0)))(n:Nat)(d:n=a.length)(v:Value):(W.setCell ⟨g,n,none⟩ v).heap[g]? =some (.cells (a++v::rest).toArray T (0,0)):=by
 subst d;simp[Vet,h,Vay]
theorem Jla(h:W.heap[g]? =some (.cells (a++x::rest).toArray T (0,0)))(n:Nat)(d:n=a.length):W.cell? ⟨g,n,none⟩=some x:=by
 subst d;simp[Veu,h]
variable {n:Nat}
theorem Jd9(h:n<k):Vex (k-n) Vey= .nilIface::Vex (k-(n+1)) Vey:=by
 rw[<-List.replicate_succ];congr 1
 omega
theorem AnI.start(d:SX w ad σ)(h:WS σ)(k:Nat):AnI w ad σ k [] (w.alloc (.cells (madeCells #[.nilIface] k) 156)):=
 ⟨by simpa using SX.kept d (Vew w _),by simpa using h,by rw[Jd7];exact Vag _ _,by simp,Kt.of_kept (Vew _ _),fun q D=>d.lt D⟩
variable {u:List Nat}
theorem AnI.step(h:AnI w ad σ k u wr)(M:u.length<k):AnI w ad σ k (u++ [wr.heap.size]) ((wr.alloc (.cells #[.nilIface,.string ⟨#[]⟩,.bool true] 221)).setCell ⟨w.heap.size,u.length,none⟩ (vV wr.heap.size)):=by
 have J:w.heap.size<wr.heap.size:=Vah h.row;have E:=Vew wr (.cells #[.nilIface,.string ⟨#[]⟩,.bool true] 221);have G:∀q,q≠w.heap.size->((wr.alloc (.cells #[.nilIface,.string ⟨#[]⟩,.bool true] 221)).setCell ⟨w.heap.size,u.length,none⟩ (vV wr.heap.size)).heap[q]? =(wr.alloc (.cells #[.nilIface,.string ⟨#[]⟩,.bool true] 221)).heap[q]? :=fun q d=>Vaj _ _ _ q (fun z=>d z)
 have er:σ++Vex (u++ [wr.heap.size]).length gNd=(σ++Vex u.length gNd)++ [⟨.vr ⟨#[]⟩ true,none⟩]:=by
  rw[Vap,VaG,Ver,Val];rfl
 refine⟨?_,?_,?_,?_,?_,h.lo⟩
 .rw[er,<-Val];refine(SX.newv h.sx h.ws true).keep (fun b o D L=>(G b (fun z=> ?_)).trans L)
  subst z;simp only[Vbd,Va4]at D
  rcases D with(D|D)|D
  .have:=h.lo _ D;omega
  .have:=h.up _ D;omega
  .omega
 .rw[er];exact h.ws.add _
 .have I:=E.blk h.row;rw[Jd9 M]at I;have:=Jlb I u.length (by simp) (vV wr.heap.size);rw[this,Vap,VaG,Vbu,Val];rfl
 .intro q d;simp only[Vbd,Va4]at d
  rcases d with d|rfl
  .exact h.up q d
  .exact J
 .refine⟨h.kt.os,h.kt.output,?_,fun q o d O ht=> ?_⟩
  .have:=h.kt.size;simp;omega
  .exact(G q (by have:=Vah d;omega)).trans (E.blk (h.kt.blk0 q o d O ht))
theorem Jqu(E:SX w ad σ)(G:WS σ)(k:Nat)(Z:k<=1000000):
  Calls prog 235 #[.int .i64 k] w fun e w'=>∃g vals h,e= .returned (.slice (some ⟨g,0,none⟩) k k)/\TRow w' g vals/\RVs h (anyF k σ).1 vals/\SX w' h (anyF k σ).2/\WS (anyF k σ).2/\w.heap.size<=g/\Gw (fun _=>False) ad h w w':=by
 have U:=run_make_row' (P:=prog) 345 156 .nilIface 16 VdV IaS rfl .i64 .i64 k (by omega) (by omega) w
 go_enter func235,ntmps235
 go_wp2_with fail
 have J:Hid (AnI w ad σ k [] (w.alloc (.cells (madeCells #[.nilIface] k) 156))):=AnI.start E G k;have L:Hid (SX w ad σ):=E;generalize w.alloc (.cells (madeCells #[.nilIface] k) 156)=W at*;clear U E G
 go_loopw [9] (fun i wr=>∃u:List Nat,u.length<=k/\i= .int .i64 u.length/\Hid (AnI w ad σ k u wr)) (fun i _=>k-(intOf i).toNat)
 case atStart=>exact⟨[],VaN _,rfl,J⟩
 case round=>
  obtain⟨u,hu,rfl,d⟩:=hrel
  by_cases I:u.length<k
  .have T:Hid _:=d.out.step I;have D:=(Vew wr (.cells #[.nilIface,.string ⟨#[]⟩,.bool true] 221)).blk d.out.row
   have c0:(wr.alloc (.cells #[.nilIface,.string ⟨#[]⟩,.bool true] 221)).cell? ⟨w.heap.size,u.length,none⟩=some .nilIface:=by
    rw[Jd9 I]at D;exact Jla D u.length (by simp)
   have c1:(wr.alloc (.cells #[.nilIface,.string ⟨#[]⟩,.bool true] 221)).frozen? ⟨w.heap.size,u.length,none⟩=false:=by simp[Vev,D]
   clear D
   go_wp2_with fail
   refine⟨⟨u++ [wr.heap.size],by simp;omega,by simp,T.out⟩,?_⟩
   simp[intOf];omega
  .obtain rfl:u.length=k:=by omega
   have Y:Hid (∃g vals h,Ending.returned (.slice (some ⟨w.heap.size,0,none⟩) u.length u.length)= .returned (.slice (some ⟨g,0,none⟩) u.length u.length)/\TRow wr g vals/\RVs h (anyF u.length σ).1 vals/\SX wr h (anyF u.length σ).2/\WS (anyF u.length σ).2/\w.heap.size<=g/\Gw (fun _=>False) ad h w wr):=by
    have V:=SX.len L.out;have D:=d.out.row;rw[Nat.sub_self,List.replicate_zero,Vb6]at D;rw[Jg5];refine⟨w.heap.size,u.map vV,ad++u,rfl,D,⟨by simp,fun j aa O=> ?_⟩,d.out.sx,d.out.ws,Vau _,⟨u,rfl,fun q M=>Nat.le_of_lt (d.out.up q M)⟩,d.out.kt⟩
    simp only[List.getElem_map,List.getElem_range];refine⟨u[j]'(by simpa using O),?_,rfl⟩
    rw[VaU (by omega),V,Nat.add_sub_cancel_left];simp
   clear J L d
   go_wp2_with fail
   exact VaI (VdO results235 _ _ _) rfl Y.out
section
variable {ω:Type}(A:Nat->Addr)(B:Nat)(K:World->ω->Prop)
def RnO(ad:List Nat)(w:World)(e:Ending)(w':World)(o:ω):Oc (List TR×St)->Prop
 | .ok q=>∃g vals d,e= .returned (.slice (some ⟨g,0,none⟩) q.1.length q.1.length)/\w.heap.size<=g/\TRow w' g vals/\RVs d q.1 vals/\SX w' d q.2/\WS q.2/\K w' o/\Gk B ad d w w'
 | .er j=>Thr A j e/\K w' o/\Kw B ad w w'
end
def rnd1{ω:Type}(d:X->St->ω->Option (Oc (TR×St)×ω))(D:List X)(own:List Bd)(σ:St)(o:ω):Option (Oc (List TR×St)×ω):=
 (Jbg d D σ o).bind fun r=>match r with
  |(.er j,o)=>some (.er j,o)
  |(.ok p,o)=>(Jbh p.2 own []).bind fun bd=>(JdD p.2 bd p.1).bind fun h=>some (.ok (p.1,h),o)
def JdR{ω:Type}(d:X->St->ω->Option (Oc (TR×St)×ω))(ts:List TR)(xs:List X)(σ:St)(o:ω):Option (Oc (List TR×St)×ω):=
 (Jbg d xs σ o).bind fun r=>match r with
  |(.er j,o)=>some (.er j,o)
  |(.ok q,o)=>some (.ok (ts++q.1,q.2),o)
theorem Jjj{ω:Type}(d:X->St->ω->Option (Oc (TR×St)×ω))(xs:List X)(σ:St)(o:ω):JdR d [] xs σ o=Jbg d xs σ o:=by
 unfold JdR
 cases h:Jbg d xs σ o with
 |none=>rfl
 |some r=>
  obtain⟨r,o1⟩:=r
  cases r<;>rfl
theorem JnB{ω:Type}(d:X->St->ω->Option (Oc (TR×St)×ω))(ts:List TR)(x:X)(xs:List X)(σ:St)(o:ω){p:TR×St}{o1:ω}(h:d x σ o=some (.ok p,o1)):JdR d ts (x::xs) σ o=JdR d (ts++ [p.1]) xs p.2 o1:=by
 unfold JdR;simp only[Jbg,h,Vad]
 cases E:Jbg d xs p.2 o1 with
 |none=>rfl
 |some r=>
  obtain⟨r,D⟩:=r
  cases r with
  |er j=>rfl
  |ok q=>simp
variable {j:Nat}
theorem JnA{ω:Type}(d:X->St->ω->Option (Oc (TR×St)×ω))(ts:List TR)(x:X)(xs:List X)(σ:St)(o:ω){o1:ω}(h:d x σ o=some (.er j,o1)):JdR d ts (x::xs) σ o=some (.er j,o1):=by
 unfold JdR;simp only[Jbg,h,Vad]
theorem JlD{ω:Type}(d:X->St->ω->Option (Oc (TR×St)×ω))(ts:List TR)(σ:St)(o:ω):JdR d ts [] σ o=some (.ok (ts,σ),o):=by simp[JdR,Jbg]
section
variable {ω:Type}{A:Nat->Addr}{B:Nat}{K:World->ω->Prop}{gv:Gv}{fuel:Nat}{wv:Value}
def KRw(K:World->ω->Prop):Prop:=∀(w:World) (o:ω) (g:Nat) (vals:Array Value) (j:Nat) (v:Value),K w o->w.heap[g]? =some (.cells vals 156 (0,0))->K (w.setCell ⟨g,j,none⟩ v) o
theorem TI.row(M:KRw K){o:ω}(h:TI A B K w ad σ own gv p gm o){vals:Array Value}(E:w.heap[g]? =some (.cells vals 156 (0,0)))(V:B<=g)(j:Nat)(v:Value):TI A B K (w.setCell ⟨g,j,none⟩ v) ad σ own gv p gm o:=by
 have D:∀q,q≠g->(w.setCell ⟨g,j,none⟩ v).heap[q]? =w.heap[q]? :=fun q d=>Vaj _ _ _ q (fun z=>d z)
 refine⟨h.sx.keep (fun b o T J=>(D b (fun z=> ?_)).trans J),h.ws,h.ga.low (by simp) (fun q d=>D q (by omega)),h.ch.keep (fun q U f d=>(D q (fun z=> ?_)).trans d),?_,M _ _ _ _ _ _ h.k E⟩
 .subst z;obtain⟨τ,O,_⟩:=h.sx;obtain⟨W,I,ht⟩:=O.tb T;rw[E]at I
  cases I
  exact absurd ht Job
 .rw[z,E]at d;simp at d
 .obtain⟨l,G,L⟩:=h.gm;exact⟨l,(D gm (fun z=>by rw[z,E]at G;cases G)).trans G,L⟩
variable {b:List Nat}
theorem Gk.row{a:List Nat}(h:Gk B a b w wr)(G:w.heap.size<=g)(j:Nat)(v:Value):Gk B a b w (wr.setCell ⟨g,j,none⟩ v):=
 ⟨h.up,⟨h.kw.os,h.kw.output,by simpa using h.kw.size,fun q o d E D=>(Vaj _ _ _ q (fun z=>by have:=Vah d;have z:q=g:=z;omega)).trans (h.kw.blk q o d E D)⟩⟩
structure RI(w:World)(ad:List Nat)(fl:Int)(own own2:List Bd)(p p2:Option Addr)(gm n:Nat)(ts:List TR)(σ:St)(o:ω)(wr:World)(ad2:List Nat)(vals:List Value):Prop where
 by0:wr.heap[w.heap.size]? =some (.cells #[.int .i64 fl,wv] 172 (0,0))
 sc:wr.heap[w.heap.size+1]? =some (.cells #[.pointer p2,.map (some gm)] 244 (0,0))
 so:wr.heap[w.heap.size+1+1]? =some (.cells #[.pointer p,.map (some gm)] 244 (0,0))
 row:wr.heap[w.heap.size+1+1+1]? =some (.cells (vals++Vex (n-vals.length) Vey).toArray 156 (0,0))
 rv:RVs ad2 ts vals
 ti:TI A B K wr ad2 σ own gv p gm o
 ch:CH wr (RV ad2) own2 (.pointer p2)
 gk:Gk B ad ad2 w wr
variable {t:TR}
theorem RVs.snoc(h:RVs ad ts vals)(G:RV ad t v):RVs ad (ts++ [t]) (vals++ [v]):=by
 refine⟨by simp[h.1],fun j L O=> ?_⟩
 by_cases d:j<ts.length
 .have E:j<vals.length:=by rw[h.1];exact d
  rw[Vc0 d,Vc0 E];exact h.2 j d E
 .have D:j=ts.length:=by simp at L;omega
  have M:j=vals.length:=by rw[h.1];exact D
  have I:(ts++ [t])[j]=t:=by simp[D]
  have J:(vals++ [v])[j]=v:=by simp[M]
  rw[I,J];exact G
theorem RVs.gk{a:List Nat}(g:Gk B a b w w')(h:RVs a ts vals):RVs b ts vals:=⟨h.1,fun j d D=>g.rv (h.2 j d D)⟩
variable {fl:Int}{own2:List Bd}{p2:Option Addr}{ad2 ad3:List Nat}{q:TR×St}{w2:World}
theorem RI.step(I:KRw K){o:ω}(h:RI (A:=A) (B:=B) (K:=K) (gv:=gv) (wv:=wv) w ad fl own own2 p p2 gm n ts σ o wr ad2 vals)(O:vals.length<n){o1:ω}(L:RV ad3 q.1 v)(D:TI A B K w2 ad3 q.2 own2 gv p2 gm o1)(d:Gk B ad2 ad3 wr w2)(T:B<=w.heap.size):
  RI (A:=A) (B:=B) (K:=K) (gv:=gv) (wv:=wv) w ad fl own own2 p p2 gm n (ts++ [q.1]) q.2 o1 (w2.setCell ⟨w.heap.size+1+1+1,vals.length,none⟩ v) ad3 (vals++ [v]):=by
 have E:=d.oth (by decide) h.row;have G:∀q,q≠w.heap.size+1+1+1->(w2.setCell ⟨w.heap.size+1+1+1,vals.length,none⟩ v).heap[q]? =w2.heap[q]? :=fun q J=>Vaj _ _ _ q (fun z=>J z)
 have M:TI A B K w2 ad3 q.2 own gv p gm o1:=⟨D.sx,D.ws,D.ga,d.ch h.ti.ch,D.gm,D.k⟩
 refine⟨(G _ (by omega)).trans (d.oth (by decide) h.by0),(G _ (by omega)).trans (d.oth (by decide) h.sc),(G _ (by omega)).trans (d.oth (by decide) h.so),?_,(h.rv.gk d).snoc L,M.row I E (by omega) _ _,(D.row I E (by omega) _ _).ch,(h.gk.trans d).row (by omega) _ _⟩
 rw[Jd9 O]at E;have:=Jlb E vals.length rfl v;rw[this,Vap,VaG,Val];rfl
end
end Go.Proofs.YtleenphlgbklmaaGreatDoor
