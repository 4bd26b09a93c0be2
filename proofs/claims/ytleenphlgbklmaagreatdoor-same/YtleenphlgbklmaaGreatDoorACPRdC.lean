import Derived.Test.YtleenphlgbklmaaGreatDoorACPRdB
set_option linter.unusedVariables false
set_option linter.unusedSimpArgs false
set_option maxRecDepth 100000
set_option maxHeartbeats 8000000
namespace Go.Proofs.YtleenphlgbklmaaGreatDoor
open Go.RowKit
open World renaming cell? → Vet
open Tryz
variable {s:BA}
variable {L:List Tk}
theorem JmG(hE:PEnv s Jad L)(n m:Nat)(hA:SE s L n)(aR:SE s L m)(w:World)(T k:Nat)(h:PAt w T s L k)(hM:isM L ⟨#[108,101,116]⟩ k (-1)=true)(hR:isM L ⟨#[114,101,99]⟩ (k+1) (-1)=false)(x y:X)(M W:Nat)(O Y:Int)
 (hX:expM L m (Jai L ⟨#[61]⟩ (Jai L ⟨#[110,97,109,101]⟩ (k+1) (-1)) (Jab L ⟨#[110,97,109,101]⟩ (k+1) (-1))) (Jab L ⟨#[61]⟩ (Jai L ⟨#[110,97,109,101]⟩ (k+1) (-1)) (Jab L ⟨#[110,97,109,101]⟩ (k+1) (-1)))=some (x,M,O))
 (hY:expM L n (Jai L ⟨#[105,110]⟩ M O) (Jab L ⟨#[105,110]⟩ M O)=some (y,W,Y)):
  Calls prog 132 #[.agg #[.pointer (some ⟨T,0,none⟩)]] w fun e w'=>PRet (QX w (.mk ⟨#[108,101,116]⟩ [(tkAt L (k+1)).s] [x,y] (tkAt L k).loc)) w T s L W Y e w':=by
 obtain⟨K0,B0,aq,aM⟩:∃K0,∃B0:Int,K0=k/\B0= -1:=⟨_,_,rfl,rfl⟩
 obtain⟨I,al⟩:∃K,Jai L ⟨#[108,101,116]⟩ K0 B0=K:=⟨_,rfl⟩
 obtain⟨Z,ag⟩:∃B,Jab L ⟨#[108,101,116]⟩ K0 B0=B:=⟨_,rfl⟩
 have q1:I=k+1/\Z= -1:=by rw[<-al,<-ag,aq,aM];exact Jaw hM
 rw[<-q1.1,<-q1.2]at hX;rw[<-q1.1]at hR;obtain⟨K2,ai⟩:∃K,Jai L ⟨#[110,97,109,101]⟩ I Z=K:=⟨_,rfl⟩
 obtain⟨B2,aj⟩:∃B,Jab L ⟨#[110,97,109,101]⟩ I Z=B:=⟨_,rfl⟩
 rw[ai,aj]at hX;obtain⟨K3,ae⟩:∃K,Jai L ⟨#[61]⟩ K2 B2=K:=⟨_,rfl⟩
 obtain⟨B3,am⟩:∃B,Jab L ⟨#[61]⟩ K2 B2=B:=⟨_,rfl⟩
 rw[ae,am]at hX;obtain⟨K5,ah⟩:∃K,Jai L ⟨#[105,110]⟩ M O=K:=⟨_,rfl⟩
 obtain⟨B5,af⟩:∃B,Jab L ⟨#[105,110]⟩ M O=B:=⟨_,rfl⟩
 rw[ah,af]at hY;have M4:=hX;have M6:=hY;have aW:Hid (O<0->M<L.length->dp x<=200000):=fun J h2=>hE.pb.dp hX J h2
 have a8:Hid (Y<0->W<L.length->dp y<=200000):=fun J h2=>hE.pb.dp hY J h2
 have HR:Hid _:=hR;clear hX hY hR;rw[<-q1.1];clear q1;have S6:0<=bz L K5 B5->bz L W Y=bz L K5 B5:=fun d=>(stk L n).ex _ _ _ _ _ M6 d
 have S5:0<=bz L M O->bz L K5 B5=bz L M O:=fun d=>by rw[<-ah,<-af];exact Jay d (by decide)
 have S4:0<=bz L K3 B3->bz L M O=bz L K3 B3:=fun d=>(stk L m).ex _ _ _ _ _ M4 d
 have S3:0<=bz L K2 B2->bz L K3 B3=bz L K2 B2:=fun d=>by rw[<-ae,<-am];exact Jay d (by decide)
 have S2:0<=bz L I Z->bz L K2 B2=bz L I Z:=fun d=>by rw[<-ai,<-aj];exact Jay d (by decide)
 have S1:0<=bz L K0 B0->bz L I Z=bz L K0 B0:=fun d=>by rw[<-al,<-ag];exact Jay d (by decide)
 have F5:Hid (0<=bz L K5 B5->bz L W Y=bz L K5 B5):=S6;have F4:Hid (0<=bz L M O->bz L W Y=bz L M O):=JbM S5 F5.out;have F3:Hid (0<=bz L K3 B3->bz L W Y=bz L K3 B3):=JbM S4 F4.out;have F2:Hid (0<=bz L K2 B2->bz L W Y=bz L K2 B2):=JbM S3 F3.out;have F1:Hid (0<=bz L I Z->bz L W Y=bz L I Z):=JbM S2 F2.out;clear S1 S2 S3 S4 S5 S6;have aP:Hid _:=al;have a7:Hid _:=ag;clear al ag;have bb:Hid _:=ai;have aX:Hid _:=aj;clear ai aj;have aV:Hid _:=ae;have a1:Hid _:=am;clear ae am;have aZ:Hid _:=M4;clear M4;have aU:Hid _:=ah;have aT:Hid _:=af;clear ah af;have a2:Hid _:=M6;clear M6;rw[<-aq]at h⊢;subst aM;clear aq hM;obtain⟨w0,bi,aF,aI,h0,be,a0⟩:=Ja6 h
 go_enter func132,ntmps132
 have C1:=JaB hE h0 ⟨#[108,101,116]⟩ (.inl (by simp[Jad])) (by decide) (by decide);rw[aP.out,a7.out]at C1;have aC:Hid _:=C1;clear C1
 go_wp2_with fail
 refine Vac aC.out ?_
 intro e aS D;clear aC
 by_cases d:0<=bz L I Z
 .obtain⟨b,E,V⟩:=D.2 d;rw[E];clear E D
  go_wp2
  exact⟨rfl,PRet.up (Kq.of_kp aF (fun _ z=>z.elim)) d F1.out ⟨b,rfl,V⟩⟩
 obtain⟨U,v,E,G,P1,kq⟩:=D.1 (by omega);clear d D;have aO:=(Kq.of_kp aF (fun _ z=>z.elim)).trans kq;have av:=(kq.block _ (Vah aI) (by show¬_;omega)).trans aI;have bh:aS.cell? ⟨w.heap.size,0,none⟩=some (.pointer (some ⟨T,0,none⟩)):=by simp[Vet,av]
 subst G;subst E;subst U;have HI:Hid _:=Jbz hE P1 ⟨#[114,101,99]⟩ (.inl (by simp[Jad]));rw[HR.out]at HI
 go_wp2_with fail
 refine Vac HI.out ?_
 rintro e w' ⟨rfl,aE⟩;rw[aE];clear aE w' HI;have C2:=JgI hE P1;rw[bb.out,aX.out]at C2;have aH:Hid _:=C2;clear C2
 go_wp2_with fail
 refine Vac aH.out ?_
 intro e a5 D;clear aH
 by_cases d:0<=bz L K2 B2
 .obtain⟨b,E,V⟩:=D.2 d;rw[E];clear E D
  go_wp2
  exact⟨rfl,PRet.up aO d F2.out ⟨b,rfl,V⟩⟩
 obtain⟨U,v,E,G,P2,kq⟩:=D.1 (by omega);clear d D;have az:=aO.trans kq;have ay:=(kq.block _ (Vah av) (by show¬_;omega)).trans av;have bk:a5.cell? ⟨w.heap.size,0,none⟩=some (.pointer (some ⟨T,0,none⟩)):=by simp[Vet,ay]
 obtain⟨G,aQ⟩:=G;subst G;subst E;subst U;have C3:=JaB hE P2 ⟨#[61]⟩ (.inr (.inr ⟨61,rfl,rfl⟩)) (by decide) (by decide);rw[aV.out,a1.out]at C3;have aG:Hid _:=C3;clear C3
 go_wp2_with fail
 refine Vac aG.out ?_
 intro e a6 D;clear aG
 by_cases d:0<=bz L K3 B3
 .obtain⟨b,E,V⟩:=D.2 d;rw[E];clear E D
  go_wp2
  exact⟨rfl,PRet.up az d F3.out ⟨b,rfl,V⟩⟩
 obtain⟨U,v,E,G,P3,kq⟩:=D.1 (by omega);clear d D;have aw:=az.trans kq;have ax:=(kq.block _ (Vah ay) (by show¬_;omega)).trans ay;have bj:a6.cell? ⟨w.heap.size,0,none⟩=some (.pointer (some ⟨T,0,none⟩)):=by simp[Vet,ax]
 subst G;subst E;subst U;have C4:=aR _ _ _ _ _ _ P3 aZ.out;have aA:Hid _:=C4;clear C4
 go_wp2_with fail
 refine Vac aA.out ?_
 intro e aD D;clear aA
 by_cases d:0<=bz L M O
 .obtain⟨b,E,V⟩:=D.2 d;rw[E];clear E D
  go_wp2
  exact⟨rfl,PRet.up aw d F4.out ⟨b,rfl,V⟩⟩
 obtain⟨U,v,E,G,P4,kq⟩:=D.1 (by omega);clear d D;have aN:=aw.trans kq;have au:=(kq.block _ (Vah ax) (by show¬_;omega)).trans ax;have bg:aD.cell? ⟨w.heap.size,0,none⟩=some (.pointer (some ⟨T,0,none⟩)):=by simp[Vet,au]
 have X4:PX aD (fun b=>w.heap.size<=b) _ v:=G.mono (fun b J _=>Vas aw.size J);obtain⟨T4,u4,rfl⟩:=G.iface;subst E;clear G;subst U;have C5:=JaB hE P4 ⟨#[105,110]⟩ (.inl (by simp[Jad])) (by decide) (by decide);rw[aU.out,aT.out]at C5;have aJ:Hid _:=C5;clear C5
 go_wp2_with fail
 refine Vac aJ.out ?_
 intro e a3 D;clear aJ
 by_cases d:0<=bz L K5 B5
 .obtain⟨b,E,V⟩:=D.2 d;rw[E];clear E D
  go_wp2
  exact⟨rfl,PRet.up aN d F5.out ⟨b,rfl,V⟩⟩
 obtain⟨U,v,E,G,P5,kq⟩:=D.1 (by omega);clear d D;have ao:=aN.trans kq;have an:=(kq.block _ (Vah au) (by show¬_;omega)).trans au;have bf:a3.cell? ⟨w.heap.size,0,none⟩=some (.pointer (some ⟨T,0,none⟩)):=by simp[Vet,an]
 subst G;subst E;have X4:=X4.kq (fun b J=>by have J:w.heap.size<=b:=J;omega) kq;subst U;have C6:=hA _ _ _ _ _ _ P5 a2.out;have aB:Hid _:=C6;clear C6
 go_wp2_with fail
 refine Vac aB.out ?_
 intro e aL D;clear aB
 by_cases d:0<=bz L W Y
 .obtain⟨b,E,V⟩:=D.2 d;rw[E];clear E D
  go_wp2
  exact⟨rfl,PRet.up ao d (fun _=>rfl) ⟨b,rfl,V⟩⟩
 obtain⟨U,v,E,G,P6,kq⟩:=D.1 (by omega);clear d D;have a4:=ao.trans kq;have a9:=(kq.block _ (Vah an) (by show¬_;omega)).trans an;have bc:aL.cell? ⟨w.heap.size,0,none⟩=some (.pointer (some ⟨T,0,none⟩)):=by simp[Vet,a9]
 have X6:PX aL (fun b=>w.heap.size<=b) _ v:=G.mono (fun b J _=>Vas ao.size J);obtain⟨T6,u6,rfl⟩:=G.iface;subst E;clear G;have X4:=X4.kq (fun b J=>by have J:w.heap.size<=b:=J;omega) kq;subst U;have aY:=aW.out (by omega) P4.lt;have ba:=a8.out (by omega) P6.lt;have HB:Hid _:=Jjn X4 X6 aY ba
 go_wp2_with fail
 refine Vac HB.out ?_
 rintro e aa ⟨rfl,ak⟩;have KF:=a4.trans (Kq.of_kp (S:=(·=T)) ak (fun _ z=>z.elim));have Y4:=X4.kp ak;have Y6:=X6.kp ak;have PF:=P6.kp ak;have ac:Kp (fun _=>False) aa (aa.alloc (.cells #[.int .i64 (max (dp x) (dp y)+1:Nat),.string (tkAt L I).s,.iface T4 u4,.iface T6 u6] 273)):=(Kp.refl _ _).alloc _;have aK:(aa.alloc (.cells #[.int .i64 (max (dp x) (dp y)+1:Nat),.string (tkAt L I).s,.iface T4 u4,.iface T6 u6] 273)).heap[aa.heap.size]? =some (.cells #[.int .i64 (max (dp x) (dp y)+1:Nat),.string (tkAt L I).s,.iface T4 u4,.iface T6 u6] 273 (0,0)):=Vag _ _;have FX:Hid (PRet (QX w (.mk ⟨#[108,101,116]⟩ [(tkAt L I).s] [x,y] (tkAt L K0).loc)) w T s L W (-1) (.returned (.iface 271 (.pointer (some ⟨aa.heap.size,0,none⟩)))) (aa.alloc (.cells #[.int .i64 (max (dp x) (dp y)+1:Nat),.string (tkAt L I).s,.iface T4 u4,.iface T6 u6] 273))):=PRet.ret (Q:=QX w (.mk ⟨#[108,101,116]⟩ [(tkAt L I).s] [x,y] (tkAt L K0).loc)) (PX.lt _ _ _ _ _ _ _ aQ KF.size aK (Y4.kp ac) (Y6.kp ac)) (PF.kp ac) (KF.trans (Kq.of_kp (S:=(·=T)) ac (fun _ z=>z.elim)));clear HB ac aK
 go_wp2
 go_ret
 exact FX.out
theorem Jmx(hE:PEnv s Jad L)(n:Nat)(hA:SE s L n)(w:World)(J k:Nat)(h:PAt w J s L k)(x:X)(d:Nat)(D:Int)
 (hX:expM L n k (-1)=some (x,d,D))(hR:isM L ⟨#[44]⟩ d D=false):
  Calls prog 212 #[.agg #[.pointer (some ⟨J,0,none⟩)]] w fun e w'=>PRet (QX w x) w J s L (Jai L ⟨#[41]⟩ d D) (Jab L ⟨#[41]⟩ d D) e w':=by
 obtain⟨T,W,ae,al⟩:∃T,∃W:Int,T=k/\W= -1:=⟨_,_,rfl,rfl⟩
 rw[<-ae,<-al]at hX;obtain⟨O,V⟩:∃K,Jai L ⟨#[41]⟩ d D=K:=⟨_,rfl⟩
 obtain⟨B2,Y⟩:∃B,Jab L ⟨#[41]⟩ d D=B:=⟨_,rfl⟩
 rw[V,Y];have M1:=hX;have HR:Hid _:=hR;clear hX hR;have S2:0<=bz L d D->bz L O B2=bz L d D:=fun E=>by rw[<-V,<-Y];exact Jay E (by decide)
 have S1:0<=bz L T W->bz L d D=bz L T W:=fun E=>(stk L n).ex _ _ _ _ _ M1 E
 have F1:Hid (0<=bz L d D->bz L O B2=bz L d D):=S2;clear S1 S2;have aq:Hid _:=M1;clear M1;have au:Hid _:=V;have av:Hid _:=Y;clear V Y;rw[<-ae]at h;subst al;clear ae;obtain⟨w0,az,ac,ag,h0,ay,a0⟩:=Ja6 h
 go_enter func212,ntmps212
 have C1:=hA _ _ _ _ _ _ h0 aq.out;have ah:Hid _:=C1;clear C1
 go_wp2_with fail
 refine Vac ah.out ?_
 intro e aj G;clear ah
 by_cases E:0<=bz L d D
 .obtain⟨b,I,hx⟩:=G.2 E;rw[I];clear I G
  go_wp2
  exact⟨rfl,PRet.up (Kq.of_kp ac (fun _ z=>z.elim)) E F1.out ⟨b,rfl,hx⟩⟩
 obtain⟨hb,v,I,M,P1,kq⟩:=G.1 (by omega);clear E G;have af:=(Kq.of_kp ac (fun _ z=>z.elim)).trans kq;have aa:=(kq.block _ (Vah ag) (by show¬_;omega)).trans ag;have ax:aj.cell? ⟨w.heap.size,0,none⟩=some (.pointer (some ⟨J,0,none⟩)):=by simp[Vet,aa]
 have X1:PX aj (fun b=>w.heap.size<=b) _ v:=M.mono (fun b U _=>Vas ac.size U);obtain⟨T1,u1,rfl⟩:=M.iface;subst I;clear M;subst hb;have HI:Hid _:=Jbz hE P1 ⟨#[44]⟩ (.inr (.inr ⟨44,rfl,rfl⟩));rw[HR.out]at HI
 go_wp2_with fail
 refine Vac HI.out ?_
 rintro e w' ⟨rfl,ai⟩;rw[ai];clear ai w' HI;have Z:=JaB hE P1 ⟨#[41]⟩ (.inr (.inr ⟨41,rfl,rfl⟩)) (by decide) (by decide);rw[au.out,av.out]at Z;have ak:Hid _:=Z;clear Z
 go_wp2_with fail
 refine Vac ak.out ?_
 intro e am G;clear ak
 by_cases E:0<=bz L O B2
 .obtain⟨b,I,hx⟩:=G.2 E;rw[I];clear I G
  go_wp2
  exact⟨rfl,PRet.up af E (fun _=>rfl) ⟨b,rfl,hx⟩⟩
 obtain⟨hb,v,I,M,P2,kq⟩:=G.1 (by omega);clear E G;have an:=af.trans kq;have ao:=(kq.block _ (Vah aa) (by show¬_;omega)).trans aa;have aw:am.cell? ⟨w.heap.size,0,none⟩=some (.pointer (some ⟨J,0,none⟩)):=by simp[Vet,ao]
 subst M;subst I;have X1:=X1.kq (fun b U=>by have U:w.heap.size<=b:=U;omega) kq;subst hb;have FX:Hid (PRet (QX w x) w J s L O (-1) (.returned (.iface T1 u1)) am):=PRet.ret (Q:=QX w x) X1 P2 an
 go_wp2
 go_ret
 exact FX.out
theorem Jmy(hE:PEnv s Jad L)(n:Nat)(hA:SE s L n)(w:World)(U k pl:Nat)(h:PAt w U s L k)(x y:X)(O I:Nat)(M J:Int)
 (hX:expM L n k (-1)=some (x,O,M))(hC:isM L ⟨#[44]⟩ O M=true)(hY:expM L n (O+1) M=some (y,I,J)):
  Calls prog 212 #[.agg #[.pointer (some ⟨U,0,none⟩)]] w fun e w'=>PRet (QX w (.mk ⟨#[112,97,105,114]⟩ [] [x,y] pl)) w U s L (Jai L ⟨#[41]⟩ I J) (Jab L ⟨#[41]⟩ I J) e w':=by
 obtain⟨K0,B0,ak,aA⟩:∃K0,∃B0:Int,K0=k/\B0= -1:=⟨_,_,rfl,rfl⟩
 rw[<-ak,<-aA]at hX;obtain⟨K2,ai⟩:∃K,O+1=K:=⟨_,rfl⟩
 obtain⟨B2,aj⟩:∃B,M=B:=⟨_,rfl⟩
 rw[ai,aj]at hY;obtain⟨K4,ae⟩:∃K,Jai L ⟨#[41]⟩ I J=K:=⟨_,rfl⟩
 obtain⟨B4,ac⟩:∃B,Jab L ⟨#[41]⟩ I J=B:=⟨_,rfl⟩
 rw[ae,ac];have M1:=hX;have M3:=hY;have aJ:Hid (M<0->O<L.length->dp x<=200000):=fun G h2=>hE.pb.dp hX G h2
 have aN:Hid (J<0->I<L.length->dp y<=200000):=fun G h2=>hE.pb.dp hY G h2
 clear hX hY;have S4:0<=bz L I J->bz L K4 B4=bz L I J:=fun d=>by rw[<-ae,<-ac];exact Jay d (by decide)
 have S3:0<=bz L K2 B2->bz L I J=bz L K2 B2:=fun d=>(stk L n).ex _ _ _ _ _ M3 d
 have S2:0<=bz L O M->bz L K2 B2=bz L O M:=fun d=>absurd hC (by rw[JbK d (by decide)];simp)
 have S1:0<=bz L K0 B0->bz L O M=bz L K0 B0:=fun d=>(stk L n).ex _ _ _ _ _ M1 d
 have F3:Hid (0<=bz L I J->bz L K4 B4=bz L I J):=S4;have F2:Hid (0<=bz L K2 B2->bz L K4 B4=bz L K2 B2):=JbM S3 F3.out;have F1:Hid (0<=bz L O M->bz L K4 B4=bz L O M):=JbM S2 F2.out;clear S1 S2 S3 S4;have aR:Hid _:=M1;clear M1;have aS:Hid _:=ai;have aK:Hid _:=aj;have ay:Hid _:=hC;clear ai aj hC;have aO:Hid _:=M3;clear M3;have aI:Hid _:=ae;have aE:Hid _:=ac;clear ae ac;rw[<-ak]at h;subst aA;clear ak;obtain⟨w0,aW,ah,ax,h0,aT,a0⟩:=Ja6 h
 go_enter func212,ntmps212
 have C1:=hA _ _ _ _ _ _ h0 aR.out;have aq:Hid _:=C1;clear C1
 go_wp2_with fail
 refine Vac aq.out ?_
 intro e an D;clear aq
 by_cases d:0<=bz L O M
 .obtain⟨b,E,Y⟩:=D.2 d;rw[E];clear E D
  go_wp2
  exact⟨rfl,PRet.up (Kq.of_kp ah (fun _ z=>z.elim)) d F1.out ⟨b,rfl,Y⟩⟩
 obtain⟨W,v,E,T,P1,kq⟩:=D.1 (by omega);clear d D;have aC:=(Kq.of_kp ah (fun _ z=>z.elim)).trans kq;have al:=(kq.block _ (Vah ax) (by show¬_;omega)).trans ax;have aU:an.cell? ⟨w.heap.size,0,none⟩=some (.pointer (some ⟨U,0,none⟩)):=by simp[Vet,al]
 have X1:PX an (fun b=>w.heap.size<=b) _ v:=T.mono (fun b G _=>Vas ah.size G);obtain⟨T1,u1,rfl⟩:=T.iface;subst E;clear T;subst W;have HI:Hid _:=Jbz hE P1 ⟨#[44]⟩ (.inr (.inr ⟨44,rfl,rfl⟩));rw[ay.out]at HI
 go_wp2_with fail
 refine Vac HI.out ?_
 rintro e w' ⟨rfl,au⟩;rw[au];clear au w' HI;have C2:=Jfg hE P1 (Jar hE.good P1.lt ay.out (by decide) (by decide));rw[aS.out,aK.out]at C2;have aw:Hid _:=C2;clear C2
 go_wp2_with fail
 refine Vac aw.out ?_
 intro e aM D;clear aw
 by_cases d:0<=bz L K2 B2
 .obtain⟨b,E,Y⟩:=D.2 d;rw[E];clear E D
  go_wp2
  exact⟨rfl,PRet.up aC d F2.out ⟨b,rfl,Y⟩⟩
 obtain⟨W,v,E,T,P2,kq⟩:=D.1 (by omega);clear d D;have af:=aC.trans kq;have am:=(kq.block _ (Vah al) (by show¬_;omega)).trans al;have aY:aM.cell? ⟨w.heap.size,0,none⟩=some (.pointer (some ⟨U,0,none⟩)):=by simp[Vet,am]
 subst T;subst E;have X1:=X1.kq (fun b G=>by have G:w.heap.size<=b:=G;omega) kq;subst W;have C3:=hA _ _ _ _ _ _ P2 aO.out;have av:Hid _:=C3;clear C3
 go_wp2_with fail
 refine Vac av.out ?_
 intro e aB D;clear av
 by_cases d:0<=bz L I J
 .obtain⟨b,E,Y⟩:=D.2 d;rw[E];clear E D
  go_wp2
  exact⟨rfl,PRet.up af d F3.out ⟨b,rfl,Y⟩⟩
 obtain⟨W,v,E,T,P3,kq⟩:=D.1 (by omega);clear d D;have aP:=af.trans kq;have aD:=(kq.block _ (Vah am) (by show¬_;omega)).trans am;have aX:aB.cell? ⟨w.heap.size,0,none⟩=some (.pointer (some ⟨U,0,none⟩)):=by simp[Vet,aD]
 have X3:PX aB (fun b=>w.heap.size<=b) _ v:=T.mono (fun b G _=>Vas af.size G);obtain⟨T3,u3,rfl⟩:=T.iface;subst E;clear T;have X1:=X1.kq (fun b G=>by have G:w.heap.size<=b:=G;omega) kq;subst W;have aL:=aJ.out (by omega) P1.lt;have aQ:=aN.out (by omega) P3.lt;have HB:Hid _:=Jjn X1 X3 aL aQ
 go_wp2_with fail
 refine Vac HB.out ?_
 rintro e V ⟨rfl,aa⟩;have KF:=aP.trans (Kq.of_kp (S:=(·=U)) aa (fun _ z=>z.elim));have Y1:=X1.kp aa;have Y3:=X3.kp aa;have PF:=P3.kp aa;have aG:=aa.blk aD (fun z=>z);have Z:Kp (fun _=>False) V (V.alloc (.cells #[.int .i64 (((max (dp x) (dp y):Nat):Int)+1),.iface T1 u1,.iface T3 u3] 283)):=(Kp.refl _ _).alloc _;have az:(V.alloc (.cells #[.int .i64 (((max (dp x) (dp y):Nat):Int)+1),.iface T1 u1,.iface T3 u3] 283)).heap[V.heap.size]? =some (.cells #[.int .i64 (((max (dp x) (dp y):Nat):Int)+1),.iface T1 u1,.iface T3 u3] 283 (0,0)):=Vag _ _;have aF:=Z.blk aG (fun z=>z);have PG:=PF.kp Z;have KG:=KF.trans (Kq.of_kp (S:=(·=U)) Z (fun _ z=>z.elim));have XG:PX (V.alloc (.cells #[.int .i64 (((max (dp x) (dp y):Nat):Int)+1),.iface T1 u1,.iface T3 u3] 283)) (fun b=>w.heap.size<=b) (.mk ⟨#[112,97,105,114]⟩ [] [x,y] pl) (.iface 281 (.pointer (some ⟨V.heap.size,0,none⟩))):=PX.pair _ _ _ _ _ _ KF.size az (Y1.kp Z) (Y3.kp Z);have C4:=JaB hE PG ⟨#[41]⟩ (.inr (.inr ⟨41,rfl,rfl⟩)) (by decide) (by decide);rw[aI.out,aE.out]at C4;clear HB Z az;generalize aV:V.alloc (.cells #[.int .i64 (((max (dp x) (dp y):Nat):Int)+1),.iface T1 u1,.iface T3 u3] 283)=wg at*;have ao:Hid _:=C4;have ag:wg.cell? ⟨w.heap.size,0,none⟩=some (.pointer (some ⟨U,0,none⟩)):=by simp[Vet,aF]
 clear C4
 go_wp2_with fail
 refine Vac ao.out ?_
 intro e aH D;clear ao
 by_cases d:0<=bz L K4 B4
 .obtain⟨b,E,Y⟩:=D.2 d;rw[E];clear E D
  go_wp2
  exact⟨rfl,PRet.up KG d (fun _=>rfl) ⟨b,rfl,Y⟩⟩
 obtain⟨W,v,E,T,P4,kq⟩:=D.1 (by omega);clear d D;subst T;subst E;subst W;have FX:Hid (PRet (QX w (.mk ⟨#[112,97,105,114]⟩ [] [x,y] pl)) w U s L K4 (-1) (.returned (.iface 281 (.pointer (some ⟨V.heap.size,0,none⟩)))) aH):=PRet.ret (Q:=QX w (.mk ⟨#[112,97,105,114]⟩ [] [x,y] pl)) (XG.kq (fun b G=>by have G:w.heap.size<=b:=G;omega) kq) P4 (KG.trans kq)
 go_wp2
 go_ret
 exact FX.out
end Go.Proofs.YtleenphlgbklmaaGreatDoor
