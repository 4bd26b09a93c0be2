import Derived.Test.YtleenphlgbklmaaGreatDoorACPRdH
set_option linter.unusedVariables false
set_option linter.unusedSimpArgs false
set_option maxRecDepth 100000
set_option maxHeartbeats 8000000
namespace Go.Proofs.YtleenphlgbklmaaGreatDoor
open Go.RowKit
open Kept renaming alloc → Vet
open World renaming cell? → Veu, frozen? → Vev
open Tryz
theorem Jir(R:TypeId->Value->World->Prop)(s:BA)(w:World)
 (HN:Hid (Calls prog 96 #[.string s] ((w.alloc (.cells #[.nilIface] 130)).alloc (.cells #[.nilIface] 72)) fun e w'=>∃T z,e=thrown (.iface T z)/\R T z w'/\Kept ((w.alloc (.cells #[.nilIface] 130)).alloc (.cells #[.nilIface] 72)) w')):
  Calls prog 69 #[.string s] w fun e w'=>∃T z d,e= .returned (.tuple #[.nilIface,.iface T z])/\R T z d/\Kept w w'/\∀k o,w.heap.size+2<=k->d.heap[k]? =some o->w'.heap[k]? =some o:=by
 have M:Kept w ((w.alloc (.cells #[.nilIface] 130)).alloc (.cells #[.nilIface] 72)):=(Vet _ _).trans (Vet _ _);have aa:((w.alloc (.cells #[.nilIface] 130)).alloc (.cells #[.nilIface] 72)).heap[w.heap.size]? =some (.cells #[.nilIface] 130 (0,0)):=(Vet _ _).blk (Vag _ _)
 have Y:((w.alloc (.cells #[.nilIface] 130)).alloc (.cells #[.nilIface] 72)).heap[w.heap.size+1]? =some (.cells #[.nilIface] 72 (0,0)):=by
  have:=Vag (w.alloc (.cells #[.nilIface] 130)) (.cells #[.nilIface] 72);simpa using this
 go_enter_defers func69,ntmps69
 go_wp2_with fail
 refine Vac HN.out ?_
 rintro e d ⟨T,z,rfl,hR,I⟩;have J:=I.blk aa;have L:=I.blk Y;refine VbE (f:=94) (args:= #[.pointer (some ⟨w.heap.size,0,none⟩),.pointer (some ⟨w.heap.size+1,0,none⟩)]) (by simp) (by simp[go_sem]) ?_
 refine(JaS ⟨w.heap.size,0,none⟩ ⟨w.heap.size+1,0,none⟩ .nilIface .nilIface T z [] d ?_ ?_ ?_ ?_ ?_).mono ?_
 .simp[Veu,J]
 .simp[Vev,J]
 .simp[Veu,L]
 .simp[Vev,L]
 .simp
 rintro e u' G ⟨rfl,rfl,D⟩
 have V:Kept w G:=by
  have E:Kept w (d.alloc (.cells #[.iface T z] 250)):=(M.trans I).trans (Vet _ _);rw[D];exact⟨E.1,E.2,by simpa using E.3,fun q U=>(Vaj _ _ _ q (by intro z;simp at z;omega)).trans ((Vaj _ _ _ q (by intro z;simp at z;omega)).trans (E.4 q U))⟩
 have W:(d.alloc (.cells #[.iface T z] 250)).cell? ⟨w.heap.size,0,none⟩=some .nilIface:=by simp[Veu,(Vet d (.cells #[.iface T z] 250)).blk J]
 have ac:(d.alloc (.cells #[.iface T z] 250)).cell? ⟨w.heap.size+1,0,none⟩=some .nilIface:=by simp[Veu,(Vet d (.cells #[.iface T z] 250)).blk L]
 have cp:G.cell? ⟨w.heap.size,0,none⟩=some .nilIface:=by
  rw[D,Vax _ _ _ _ (by simp)];exact VaD _ _ _ W
 have cq:G.cell? ⟨w.heap.size+1,0,none⟩=some (.iface T z):=by
  rw[D];refine VaD _ _ _ (u:= .nilIface) ?_
  rw[Vax _ _ _ _ (by simp)];exact ac
 have O:∀k o,w.heap.size+2<=k->d.heap[k]? =some o->G.heap[k]? =some o:=by
  intro k o hk Z;rw[D];exact(Vaj _ _ _ k (by intro z;simp at z;omega)).trans ((Vaj _ _ _ k (by intro z;simp at z;omega)).trans ((Vet d _).blk Z))
 clear D;simp[Leaves,settle,results,Vde,go_sem,cp,cq];exact⟨T,z,⟨rfl,rfl⟩,d,hR,V,O⟩
variable {s:BA}{L:List Tk}
theorem lex0(d:PEnv s Jad L):0<L.length/\(tkAt L 0).loc=run blI s 0:=by
 have hk:∀w,w∈Jad->w≠⟨#[110,97,109,101]⟩:=fun w D=>(Jc6.ne w D).1
 have hp:0<L.length:=by rw[d.eq];exact JfX s Jad
 refine⟨hp,?_⟩
 have h:=(JbO s Jad hk (s.size+1) 0 (VaN _) 0 (by rw[<-d.eq];exact hp)).1 rfl;rw[<-d.eq]at h;rw[h];rfl
variable {A:Nat->Addr}
theorem JpG(hE:PEnv s Jad L)(w:World)(hG:Glb A w)(n:Nat)(x:X)(K:Nat)(B:Int)(hM:expM L n 0 (-1)=some (x,K,B))(h0:(tkAt L 0).is≠⟨#[110,111,110,101]⟩)(R:Ending->World->Prop)
 (aA:∀(b l:Nat) (w':World),Kept w w'->Jab L ⟨#[101,110,100]⟩ K B=l->w'.heap[b]? =some (.cells #[.int .i64 l] 145 (0,0))->R (.returned (.tuple #[.nilIface,.iface 134 (.pointer (some ⟨b,0,none⟩))])) w')
 (aK:∀w':World,Kept w w'->Jab L ⟨#[101,110,100]⟩ K B<0->40<dp x->R (.returned (.tuple #[.nilIface,.iface 407 (.pointer (some (A 1)))])) w')
 (aB:∀(v:Value) (w':World),Kept w w'->Jab L ⟨#[101,110,100]⟩ K B<0->dp x<=40->PX w' (fun b=>w.heap.size<=b) x v->R (.returned (.tuple #[v,.nilIface])) w'):
  Calls prog 69 #[.string s] w R:=by
 have aV:Kept w ((w.alloc (.cells #[.nilIface] 130)).alloc (.cells #[.nilIface] 72)):=(Vet _ _).trans (Vet _ _);have aL:((w.alloc (.cells #[.nilIface] 130)).alloc (.cells #[.nilIface] 72)).heap[w.heap.size]? =some (.cells #[.nilIface] 130 (0,0)):=(Vet _ _).blk (Vag _ _)
 have aE:((w.alloc (.cells #[.nilIface] 130)).alloc (.cells #[.nilIface] 72)).heap[w.heap.size+1]? =some (.cells #[.nilIface] 72 (0,0)):=by
  have:=Vag (w.alloc (.cells #[.nilIface] 130)) (.cells #[.nilIface] 72);simpa using this
 have aI:((w.alloc (.cells #[.nilIface] 130)).alloc (.cells #[.nilIface] 72)).heap.size=w.heap.size+2:=by simp
 obtain⟨aN,am⟩:=lex0 hE;obtain⟨kd,hT⟩:=JiC hE.kw hE.eq 0 aN h0;rw[am]at hT;have HN:Hid _:=JgH s ((w.alloc (.cells #[.nilIface] 130)).alloc (.cells #[.nilIface] 72)) hE.sz kd _ _ hT;have HT:Hid _:=hT;have aW:Hid _:=(JkR hE n).1;have HM:Hid _:=hM;have HG:Hid _:=hG;have aJ:Hid _:=aA;have aU:Hid _:=aK;have aS:Hid _:=aB;clear hM hG hT aA aK aB;generalize hW:((w.alloc (.cells #[.nilIface] 130)).alloc (.cells #[.nilIface] 72))=aX at*
 go_enter_defers func69,ntmps69
 go_wp2_with fail
 refine Vac HN.out ?_
 rintro e Z ⟨rfl,aq,ay⟩;have aH:=aq.blk aL;have aG:=aq.blk aE;rw[aI]at ay;have PA:PAt Z (w.heap.size+2) s L 0:=⟨⟨kd,by rw[am];exact ay,by rw[am];exact HT.out⟩,aN,h0⟩
 have ah:Kept Z (Z.alloc (.cells #[.pointer (some ⟨w.heap.size+2,0,none⟩)] 178)):=Vet _ _;have af:(Z.alloc (.cells #[.pointer (some ⟨w.heap.size+2,0,none⟩)] 178)).heap[Z.heap.size]? =some (.cells #[.pointer (some ⟨w.heap.size+2,0,none⟩)] 178 (0,0)):=Vag _ _;have U:=ah.blk aH;have V:=ah.blk aG;have aZ:w.heap.size+2<Z.heap.size:=PA.lt';have Y:=(aV.trans aq).trans ah;have aT:=PA.kept ah;clear HN ay PA;rw[aI];generalize a9:Z.alloc (.cells #[.pointer (some ⟨w.heap.size+2,0,none⟩)] 178)=w3 at*;have a3:w3.cell? ⟨Z.heap.size,0,none⟩=some (.pointer (some ⟨w.heap.size+2,0,none⟩)):=by simp[Veu,af]
 have HX:Hid _:=aW.out w3 (w.heap.size+2) 0 x K B aT HM.out
 go_wp2_with fail
 refine Vac HX.out ?_
 intro e E al;clear HX
 by_cases hz:0<=bz L K B
 .obtain⟨b,he,⟨l,hl,aR⟩,hb,kq⟩:=al.2 hz;have az:E.heap[b]? =some (.cells #[.int .i64 l] 145 (0,0)):=aR;have hn:Jab L ⟨#[101,110,100]⟩ K B=l:=(JcA hz (by decide)).2.trans hl;have hp:=(kq.block _ (Vah U) (by show¬_;omega)).trans U;have G:=(kq.block _ (Vah V) (by show¬_;omega)).trans V;have J:Kept w E:=⟨kq.os.trans Y.os,kq.output.trans Y.output,Vas Y.size kq.size,fun q I=>(kq.block q (Va6 I Y.size) (by show¬_;omega)).trans (Y.block q I)⟩
  have an:w.heap.size+2<=b:=by have:=Vah af;omega
  rw[he];clear he al kq U V;refine VbE (f:=94) (args:= #[.pointer (some ⟨w.heap.size,0,none⟩),.pointer (some ⟨w.heap.size+1,0,none⟩)]) (by simp) (by simp[go_sem]) ?_
  refine(JaS ⟨w.heap.size,0,none⟩ ⟨w.heap.size+1,0,none⟩ .nilIface .nilIface 134 (.pointer (some ⟨b,0,none⟩)) [] E ?_ ?_ ?_ ?_ ?_).mono ?_
  .simp[Veu,hp]
  .simp[Vev,hp]
  .simp[Veu,G]
  .simp[Vev,G]
  .simp
  rintro e u' M ⟨rfl,rfl,D⟩
  have hK:Kept w M:=by
   have O:Kept w (E.alloc (.cells #[.iface 134 (.pointer (some ⟨b,0,none⟩))] 250)):=J.trans (Vet _ _);rw[D];exact⟨O.1,O.2,by simpa using O.3,fun q G=>(Vaj _ _ _ q (by intro z;simp at z;omega)).trans ((Vaj _ _ _ q (by intro z;simp at z;omega)).trans (O.4 q G))⟩
  have U:(E.alloc (.cells #[.iface 134 (.pointer (some ⟨b,0,none⟩))] 250)).cell? ⟨w.heap.size,0,none⟩=some .nilIface:=by simp[Veu,(Vet E (.cells #[.iface 134 (.pointer (some ⟨b,0,none⟩))] 250)).blk hp]
  have V:(E.alloc (.cells #[.iface 134 (.pointer (some ⟨b,0,none⟩))] 250)).cell? ⟨w.heap.size+1,0,none⟩=some .nilIface:=by simp[Veu,(Vet E (.cells #[.iface 134 (.pointer (some ⟨b,0,none⟩))] 250)).blk G]
  have cp:M.cell? ⟨w.heap.size,0,none⟩=some .nilIface:=by
   rw[D,Vax _ _ _ _ (by simp)];exact VaD _ _ _ U
  have cq:M.cell? ⟨w.heap.size+1,0,none⟩=some (.iface 134 (.pointer (some ⟨b,0,none⟩))):=by
   rw[D];refine VaD _ _ _ (u:= .nilIface) ?_
   rw[Vax _ _ _ _ (by simp)];exact V
  have hX:∀k o,w.heap.size+2<=k->E.heap[k]? =some o->M.heap[k]? =some o:=by
   intro k o hk ho;rw[D];exact(Vaj _ _ _ k (by intro z;simp at z;omega)).trans ((Vaj _ _ _ k (by intro z;simp at z;omega)).trans ((Vet E _).blk ho))
  clear D;have aa:Hid _:=aJ.out b l _ hK hn (hX b _ an az);simp[Leaves,settle,results,Vde,go_sem,cp,cq];exact aa.out
 obtain⟨hB,v,he,hv,P4,kq⟩:=al.1 (by omega);have a7:bz L K B<0:=by omega
 clear hz al;subst he;have hp:=(kq.block _ (Vah U) (by show¬_;omega)).trans U;have G:=(kq.block _ (Vah V) (by show¬_;omega)).trans V;have aF:=(kq.block _ (Vah af) (by show¬_;omega)).trans af;have J:Kept w E:=⟨kq.os.trans Y.os,kq.output.trans Y.output,Vas Y.size kq.size,fun q I=>(kq.block q (Va6 I Y.size) (by show¬_;omega)).trans (Y.block q I)⟩
 obtain⟨T,u,rfl⟩:=hv.iface;have a4:E.cell? ⟨w.heap.size,0,none⟩=some .nilIface:=by simp[Veu,hp]
 have aY:E.frozen? ⟨w.heap.size,0,none⟩=false:=by simp[Vev,hp]
 have bc:=kq.size;have ba:Z.heap.size<w3.heap.size:=Vah af;have ac:∀b,b≠w.heap.size->(E.setCell ⟨w.heap.size,0,none⟩ (.iface T u)).heap[b]? =E.heap[b]? :=fun b hb=>Vaj _ _ _ b (by intro z;simp at z;omega)
 have ax:(E.setCell ⟨w.heap.size,0,none⟩ (.iface T u)).heap[w.heap.size]? =some (.cells #[.iface T u] 130 (0,0)):=by simp[World.setCell,hp,Vay]
 have aM:=(ac (w.heap.size+1) (by omega)).trans G;have aP:=(ac Z.heap.size (by omega)).trans aF
 have P5:PAt (E.setCell ⟨w.heap.size,0,none⟩ (.iface T u)) (w.heap.size+2) s L K:=by
  obtain⟨kd,e1,e2⟩:=P4.ex;exact⟨⟨kd,(ac _ (by omega)).trans e1,e2⟩,P4.lt,P4.nn⟩
 have X5:PX (E.setCell ⟨w.heap.size,0,none⟩ (.iface T u)) (fun b=>w3.heap.size<=b) x (.iface T u):=hv.keep (fun b I _=>ac b (by have I:w3.heap.size<=b:=I;omega));have av:Kept w (E.setCell ⟨w.heap.size,0,none⟩ (.iface T u)):=⟨J.1,J.2,by simpa using J.3,fun q I=>(ac q (by omega)).trans (J.4 q I)⟩
 have a2:E.heap.size=(E.setCell ⟨w.heap.size,0,none⟩ (.iface T u)).heap.size:=by simp
 clear hp G aF P4 hv J af ac U V aH aG aL aE;generalize a6:E.setCell ⟨w.heap.size,0,none⟩ (.iface T u)=w5 at*;have a5:w5.cell? ⟨Z.heap.size,0,none⟩=some (.pointer (some ⟨w.heap.size+2,0,none⟩)):=by simp[Veu,aP]
 have bb:w5.cell? ⟨w.heap.size,0,none⟩=some (.iface T u):=by simp[Veu,ax]
 obtain⟨au,aj,aw⟩:=P5.ex;have ak:=Jom hE P5.lt aw;subst hB
 by_cases ae:au=0
 .have ai:isM L ⟨#[101,110,100]⟩ K (-1)=true:=by rw[JcQ,<-ak,ae];rfl
  have aC:Jab L ⟨#[101,110,100]⟩ K (-1)<0:=by rw[(Jaw ai).2];omega
  have ag:Hid _:=Jez w5 (w.heap.size+2) s _ au _ aj ae;have a8:=hE.pb.dp HM.out (by omega) P5.lt;have c1:=(HG.out.kept av).c1;obtain⟨T',u',e',hm⟩:=X5.dep
  cases e'
  clear aj aw ak ae
  go_wp2_with fail
  refine Vac ag.out ?_
  rintro e w' ⟨rfl,D⟩;rw[D];clear D w' ag;have aD:Hid _:=Jil (dp x) w5
  go_wp2_with fail
  refine Vac aD.out ?_
  rintro e d ⟨rfl,W⟩;have d1:=W.cell c1 (fun z=>z);have hp:=W.blk ax (fun z=>z);have G:=W.blk aM (fun z=>z);have aO:d.cell? ⟨w.heap.size,0,none⟩=some (.iface T u):=by simp[Veu,hp]
  have a0:d.frozen? ⟨w.heap.size,0,none⟩=false:=by simp[Vev,hp]
  have aQ:d.cell? ⟨w.heap.size+1,0,none⟩=some .nilIface:=by simp[Veu,G]
  have a1:d.frozen? ⟨w.heap.size+1,0,none⟩=false:=by simp[Vev,G]
  have J:Kept w d:=av.trans ⟨W.os,W.output,W.size,fun q I=>W.block q I (fun z=>z)⟩;have X6:=X5.kp W;clear aD
  by_cases hd:40<dp x
  .go_wp2_with (go_at_call 99;refine Vac (Jbl _ _) ?_;rintro e w' ⟨he,D⟩;rw[D,he];clear D he w' e)
   refine VbE (f:=94) (args:= #[.pointer (some ⟨w.heap.size,0,none⟩),.pointer (some ⟨w.heap.size+1,0,none⟩)]) (by simp) (by simp[go_sem]) ?_
   refine(JaS ⟨w.heap.size,0,none⟩ ⟨w.heap.size+1,0,none⟩ (.iface T u) .nilIface 407 (.pointer (some (A 1))) [] d ?_ ?_ ?_ ?_ ?_).mono ?_
   .simp[Veu,hp]
   .simp[Vev,hp]
   .simp[Veu,G]
   .simp[Vev,G]
   .simp
   rintro e u' M ⟨rfl,rfl,D⟩
   have hK:Kept w M:=by
    have O:Kept w (d.alloc (.cells #[.iface 407 (.pointer (some (A 1)))] 250)):=J.trans (Vet _ _);rw[D];exact⟨O.1,O.2,by simpa using O.3,fun q G=>(Vaj _ _ _ q (by intro z;simp at z;omega)).trans ((Vaj _ _ _ q (by intro z;simp at z;omega)).trans (O.4 q G))⟩
   have U:(d.alloc (.cells #[.iface 407 (.pointer (some (A 1)))] 250)).cell? ⟨w.heap.size,0,none⟩=some (.iface T u):=by simp[Veu,(Vet d (.cells #[.iface 407 (.pointer (some (A 1)))] 250)).blk hp]
   have V:(d.alloc (.cells #[.iface 407 (.pointer (some (A 1)))] 250)).cell? ⟨w.heap.size+1,0,none⟩=some .nilIface:=by simp[Veu,(Vet d (.cells #[.iface 407 (.pointer (some (A 1)))] 250)).blk G]
   have cp:M.cell? ⟨w.heap.size,0,none⟩=some .nilIface:=by
    rw[D,Vax _ _ _ _ (by simp)];exact VaD _ _ _ U
   have cq:M.cell? ⟨w.heap.size+1,0,none⟩=some (.iface 407 (.pointer (some (A 1)))):=by
    rw[D];refine VaD _ _ _ (u:= .nilIface) ?_
    rw[Vax _ _ _ _ (by simp)];exact V
   have hX:∀k o,w.heap.size+2<=k->d.heap[k]? =some o->M.heap[k]? =some o:=by
    intro k o hk ho;rw[D];exact(Vaj _ _ _ k (by intro z;simp at z;omega)).trans ((Vaj _ _ _ k (by intro z;simp at z;omega)).trans ((Vet d _).blk ho))
   clear D;have aa:Hid _:=aU.out _ hK aC hd;simp[Leaves,settle,results,Vde,go_sem,cp,cq];exact aa.out
  .have ao:∀b,b≠w.heap.size->b≠w.heap.size+1->((d.setCell ⟨w.heap.size,0,none⟩ (.iface T u)).setCell ⟨w.heap.size+1,0,none⟩ .nilIface).heap[b]? =d.heap[b]? :=fun b I h2=>(Vaj _ _ _ b (by intro z;simp at z;omega)).trans (Vaj _ _ _ b (by intro z;simp at z;omega))
   have cp:((d.setCell ⟨w.heap.size,0,none⟩ (.iface T u)).setCell ⟨w.heap.size+1,0,none⟩ .nilIface).cell? ⟨w.heap.size,0,none⟩=some (.iface T u):=by
    rw[Vax _ _ _ _ (by simp)];exact VaD _ _ _ aO
   have cq:((d.setCell ⟨w.heap.size,0,none⟩ (.iface T u)).setCell ⟨w.heap.size+1,0,none⟩ .nilIface).cell? ⟨w.heap.size+1,0,none⟩=some .nilIface:=by
    refine VaD _ _ _ (u:= .nilIface) ?_
    rw[Vax _ _ _ _ (by simp)];exact aQ
   have hK:Kept w ((d.setCell ⟨w.heap.size,0,none⟩ (.iface T u)).setCell ⟨w.heap.size+1,0,none⟩ .nilIface):=⟨J.1,J.2,by simpa using J.3,fun q I=>(ao q (by omega) (by omega)).trans (J.4 q I)⟩
   have XF:PX ((d.setCell ⟨w.heap.size,0,none⟩ (.iface T u)).setCell ⟨w.heap.size+1,0,none⟩ .nilIface) (fun b=>w.heap.size<=b) x (.iface T u):=(X6.keep (fun b I _=>ao b (by have I:w3.heap.size<=b:=I;omega) (by have I:w3.heap.size<=b:=I;omega))).mono (fun b I _=>Vas Y.size I);have aa:Hid _:=aS.out (.iface T u) _ hK aC (by omega) XF;clear ao XF X6 X5 hK
   go_wp2_with fail
   refine VbE (f:=94) (args:= #[.pointer (some ⟨w.heap.size,0,none⟩),.pointer (some ⟨w.heap.size+1,0,none⟩)]) (by simp) (by simp[go_sem]) ?_
   refine(Jhb ⟨w.heap.size,0,none⟩ ⟨w.heap.size+1,0,none⟩ _).mono ?_
   rintro e u' M ⟨rfl,rfl,rfl⟩;simp[Leaves,settle,results,Vde,go_sem,cp,cq];exact aa.out
 .have ai:isM L ⟨#[101,110,100]⟩ K (-1)=false:=by
   rw[JcQ,<-ak];simp[ae]
  have hn:Jab L ⟨#[101,110,100]⟩ K (-1)=(tkAt L K).loc:=(JaO ai).2;have ag:Hid _:=JeA w5 (w.heap.size+2) s _ au _ aj ae;clear aj aw ak ae ai
  go_wp2_with fail
  refine Vac ag.out ?_
  rintro e d ⟨b,he,az,hb,W⟩;have hp:=W.blk ax;have G:=W.blk aM;have J:Kept w d:=av.trans W;have an:w.heap.size+2<=b:=by omega
  rw[he];clear he ag;refine VbE (f:=94) (args:= #[.pointer (some ⟨w.heap.size,0,none⟩),.pointer (some ⟨w.heap.size+1,0,none⟩)]) (by simp) (by simp[go_sem]) ?_
  refine(JaS ⟨w.heap.size,0,none⟩ ⟨w.heap.size+1,0,none⟩ (.iface T u) .nilIface 134 (.pointer (some ⟨b,0,none⟩)) [] d ?_ ?_ ?_ ?_ ?_).mono ?_
  .simp[Veu,hp]
  .simp[Vev,hp]
  .simp[Veu,G]
  .simp[Vev,G]
  .simp
  rintro e u' M ⟨rfl,rfl,D⟩
  have hK:Kept w M:=by
   have O:Kept w (d.alloc (.cells #[.iface 134 (.pointer (some ⟨b,0,none⟩))] 250)):=J.trans (Vet _ _);rw[D];exact⟨O.1,O.2,by simpa using O.3,fun q G=>(Vaj _ _ _ q (by intro z;simp at z;omega)).trans ((Vaj _ _ _ q (by intro z;simp at z;omega)).trans (O.4 q G))⟩
  have U:(d.alloc (.cells #[.iface 134 (.pointer (some ⟨b,0,none⟩))] 250)).cell? ⟨w.heap.size,0,none⟩=some (.iface T u):=by simp[Veu,(Vet d (.cells #[.iface 134 (.pointer (some ⟨b,0,none⟩))] 250)).blk hp]
  have V:(d.alloc (.cells #[.iface 134 (.pointer (some ⟨b,0,none⟩))] 250)).cell? ⟨w.heap.size+1,0,none⟩=some .nilIface:=by simp[Veu,(Vet d (.cells #[.iface 134 (.pointer (some ⟨b,0,none⟩))] 250)).blk G]
  have cp:M.cell? ⟨w.heap.size,0,none⟩=some .nilIface:=by
   rw[D,Vax _ _ _ _ (by simp)];exact VaD _ _ _ U
  have cq:M.cell? ⟨w.heap.size+1,0,none⟩=some (.iface 134 (.pointer (some ⟨b,0,none⟩))):=by
   rw[D];refine VaD _ _ _ (u:= .nilIface) ?_
   rw[Vax _ _ _ _ (by simp)];exact V
  have hX:∀k o,w.heap.size+2<=k->d.heap[k]? =some o->M.heap[k]? =some o:=by
   intro k o hk ho;rw[D];exact(Vaj _ _ _ k (by intro z;simp at z;omega)).trans ((Vaj _ _ _ k (by intro z;simp at z;omega)).trans ((Vet d _).blk ho))
  clear D;have aa:Hid _:=aJ.out b _ _ hK hn (hX b _ an az);simp[Leaves,settle,results,Vde,go_sem,cp,cq];exact aa.out
end Go.Proofs.YtleenphlgbklmaaGreatDoor
