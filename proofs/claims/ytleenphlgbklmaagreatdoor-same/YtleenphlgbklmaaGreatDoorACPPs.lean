import Derived.Test.YtleenphlgbklmaaGreatDoorACPWy
set_option linter.unusedVariables false
set_option linter.unusedSimpArgs false
set_option maxRecDepth 100000
set_option maxHeartbeats 8000000
open List renaming getD → Vev, length_pos_iff → Vew
namespace Go.Proofs.YtleenphlgbklmaaGreatDoor
open Go.RowKit
open World renaming cell? → Vet
open Lib renaming strCells → Veu
open Kept renaming alloc → Vex
open Tryz
variable {w w':World}{P:Nat->Prop}{v v0:Value}{t n:BA}{k q mb:Nat}{ad:List Nat}
theorem XKeep.drew(w:World):XKeep w w.drew:=fun _ _ _ _ _ h=>h
variable {x:X}
theorem PX.drew(h:PX w P x v):PX w.drew P x v:=h.keepT (XKeep.drew w)
theorem Jlj{l:BA}(h:cls t=true):sep l t=⟨#[]⟩:=by unfold sep;rw[h];rfl
theorem JkQ(h:opn t=true):pre t=⟨#[]⟩:=by unfold pre;rw[h];rfl
theorem Jql(n:BA)(loc:Nat):SWX (.mk ⟨#[110,97,109,101]⟩ [n] [] loc):=by
 intro v w P B b last bs h D O;have G:tw (.mk ⟨#[110,97,109,101]⟩ [n] [] loc)=n.size+16+16:=by simp[tw,tws]
 rw[G]at O;rw[JcW]
 cases h with
 |name n loc E d U J=>
 have W:=IcG (.pointer (some ⟨E,0,none⟩)) w;have V:w.cell? ⟨E,1,none⟩=some (.string n):=by simp[Vet,J]
 have L:Hid _:=Jqk D n (by omega);clear J G D
 go_enter Vcx,Vcp
 go_wp2_with fail
 refine Vac L.out ?_
 rintro e T ⟨rfl,I,M⟩;rw[JaP d.c]at I
 go_wp2
 go_end0
 exact⟨rfl,n,d.o,I,M⟩
theorem JrP(n:BA)(loc:Nat):SWX (.mk ⟨#[110,117,109]⟩ [n] [] loc):=by
 intro v w P B b last bs h E O;have G:tw (.mk ⟨#[110,117,109]⟩ [n] [] loc)=n.size+16+16:=by simp[tw,tws]
 rw[G]at O;rw[JhO]
 cases h with
 |num n loc d D V J=>
 have Y:=IcO (.pointer (some ⟨d,0,none⟩)) w;have U:=IcP (.pointer (some ⟨d,0,none⟩)) w;have W:w.cell? ⟨d,1,none⟩=some (.string n):=by simp[Vet,J]
 have L:Hid _:=Jqk E n (by omega);clear J G E
 go_enter Vcx,Vcp
 go_wp2_with fail
 refine Vac L.out ?_
 rintro e T ⟨rfl,I,M⟩;rw[JaP D.c]at I
 go_wp2
 go_end0
 exact⟨rfl,n,D.o,I,M⟩
theorem wx_fn(n:BA)(x:X)(loc:Nat)(ih:SWX x):SWX (.mk ⟨#[102,117,110]⟩ [n] [x] loc):=by
 intro v w P B b last bs ae h aa;have G:tw (.mk ⟨#[102,117,110]⟩ [n] [x] loc)=n.size+16+(tw x+16)+16:=by simp[tw,tws]
 rw[G]at aa;rw[JiE];clear G
 cases ae with
 |fn n x loc d p J hP I L=>
 obtain⟨ac,u,rfl⟩:=L.iface;have t0:=Icl (.pointer (some ⟨d,0,none⟩)) w;have t1:=Icm (.pointer (some ⟨d,0,none⟩)) w;have t2:=Ici (.pointer (some ⟨d,0,none⟩)) w;have c1:w.cell? ⟨d,1,none⟩=some (.string n):=by simp[Vet,I]
 go_enter Vcx,Vcp
 go_wp2_with fail
 refine Vac (tk3 h ⟨#[102,117,110]⟩ n ⟨#[45,62]⟩ (n.size+10) (by have a0:(⟨#[102,117,110]⟩:BA).size=3:=rfl;have a1:(⟨#[45,62]⟩:BA).size=2:=rfl;omega) (by omega)) ?_
 rintro e O ⟨rfl,ag,E1,n1,W,V⟩;have D:=V;have af:=(D.xk h) _ _ _ _ (by decide) I;have ah:O.cell? ⟨d,2,none⟩=some (.iface ac u):=by simp[Vet,af]
 have E:=L.keepT (D.xk h)
 go_wp2_with fail
 refine Vac (xg ih E W (by omega)) ?_
 rintro e w2 ⟨rfl,l2,M,o2,Y,n2,T,U⟩;clear E;have Z:=D.trans U
 go_wp2
 go_end0
 refine⟨rfl,_,o2,?_,Z⟩
 have EE:M=bs++Veu (pre last++(⟨#[102,117,110,32]⟩++n++⟨#[32,45,62,32]⟩++txt x)):=by
  rw[Y.out,E1.out,Jax,JaP (t:=⟨#[102,117,110]⟩) rfl,JaP J.c,JaP (t:=⟨#[45,62]⟩) rfl,JaH (t:=⟨#[102,117,110]⟩) rfl,JaH J.o,JaH (t:=⟨#[45,62]⟩) rfl];congr 2
  apply JaA
  simp only[JaE,Val,VaV,VaK]
 rw[<-EE];exact T
theorem JrO(n:BA)(x y:X)(loc:Nat)(aw:SWX x)(ak:SWX y):SWX (.mk ⟨#[108,101,116]⟩ [n] [x,y] loc):=by
 intro v w P B b last bs au h am;have V:tw (.mk ⟨#[108,101,116]⟩ [n] [x,y] loc)=n.size+16+(tw x+16+(tw y+16))+16:=by simp[tw,tws]
 rw[V]at am;rw[JeU];clear V
 cases au with
 |lt n x y loc d p q W hP D hx Z=>
 obtain⟨T,u,rfl⟩:=hx.iface;obtain⟨J,G,rfl⟩:=Z.iface;have t0:=Icz (.pointer (some ⟨d,0,none⟩)) w;have t1:=IcA (.pointer (some ⟨d,0,none⟩)) w;have t2:=Icw (.pointer (some ⟨d,0,none⟩)) w;have t3:=Icx (.pointer (some ⟨d,0,none⟩)) w;have t4:=Icy (.pointer (some ⟨d,0,none⟩)) w;have c1:w.cell? ⟨d,1,none⟩=some (.string n):=by simp[Vet,D]
 go_enter Vcx,Vcp
 go_wp2_with fail
 refine Vac (tk3 h ⟨#[108,101,116]⟩ n ⟨#[61]⟩ (n.size+9) (by have a0:(⟨#[108,101,116]⟩:BA).size=3:=rfl;have a1:(⟨#[61]⟩:BA).size=1:=rfl;omega) (by omega)) ?_
 rintro e M ⟨rfl,ay,E1,n1,ai,ah⟩;have I:=ah;have ac:=(I.xk h) _ _ _ _ (by decide) D;have az:M.cell? ⟨d,2,none⟩=some (.iface T u):=by simp[Vet,ac]
 have aE:M.cell? ⟨d,3,none⟩=some (.iface J G):=by simp[Vet,ac]
 have O:=hx.keepT (I.xk h)
 go_wp2_with fail
 refine Vac (xg aw O ai (by omega)) ?_
 rintro e w2 ⟨rfl,l2,ax,o2,E2,n2,af,ag⟩;clear O;have Y:=I.trans ag;have aa:=(Y.xk h) _ _ _ _ (by decide) D;have aA:w2.cell? ⟨d,2,none⟩=some (.iface T u):=by simp[Vet,aa]
 have aB:w2.cell? ⟨d,3,none⟩=some (.iface J G):=by simp[Vet,aa]
 go_wp2_with fail
 refine Vac (tk1 af ⟨#[105,110]⟩ 3 (by have a0:(⟨#[105,110]⟩:BA).size=2:=rfl;omega) (by omega)) ?_
 rintro e U ⟨rfl,aD,E3,n3,av,aq⟩;have E:=Y.trans aq;have ae:=(E.xk h) _ _ _ _ (by decide) D;have aF:U.cell? ⟨d,2,none⟩=some (.iface T u):=by simp[Vet,ae]
 have aC:U.cell? ⟨d,3,none⟩=some (.iface J G):=by simp[Vet,ae]
 have L:=Z.keepT (E.xk h)
 go_wp2_with fail
 refine Vac (xg ak L av (by omega)) ?_
 rintro e w4 ⟨rfl,l4,aj,o4,E4,n4,al,an⟩;clear L;have ao:=E.trans an
 go_wp2
 go_end0
 refine⟨rfl,_,o4,?_,ao⟩
 have EE:aj=bs++Veu (pre last++(⟨#[108,101,116,32]⟩++(n++⟨#[32,61,32]⟩++txt x)++⟨#[32,105,110,32]⟩++txt y)):=by
  rw[E4.out,E3.out,E2.out,E1.out,Jax,Jax,Jax,JaP (t:=⟨#[108,101,116]⟩) rfl,JaP W.c,JaP (t:=⟨#[61]⟩) rfl,JaP (t:=⟨#[105,110]⟩) rfl,JaH (t:=⟨#[108,101,116]⟩) rfl,JaH W.o,JaH (t:=⟨#[61]⟩) rfl,JaH (t:=⟨#[105,110]⟩) rfl,JaH o2];congr 2
  apply JaA
  simp only[JaE,Val,VaV,VaK]
 rw[<-EE];exact al
theorem Jqm(x y:X)(loc:Nat)(aA:SWX x)(al:SWX y):SWX (.mk ⟨#[112,97,105,114]⟩ [] [x,y] loc):=by
 intro v w P B b last bs ay h av;have W:tw (.mk ⟨#[112,97,105,114]⟩ [] [x,y] loc)=(tw x+16+(tw y+16))+16:=by simp[tw,tws]
 rw[W]at av;rw[Jea];clear W
 cases ay with
 |pair x y loc d p q hP D hx Z=>
 obtain⟨T,u,rfl⟩:=hx.iface;obtain⟨G,E,rfl⟩:=Z.iface;have t0:=IcW (.pointer (some ⟨d,0,none⟩)) w;have t1:=IcX (.pointer (some ⟨d,0,none⟩)) w;have t2:=IcT (.pointer (some ⟨d,0,none⟩)) w;have t3:=IcU (.pointer (some ⟨d,0,none⟩)) w;have t4:=IcV (.pointer (some ⟨d,0,none⟩)) w;have t5:=IcZ (.pointer (some ⟨d,0,none⟩)) w;have t6:=IcS (.pointer (some ⟨d,0,none⟩)) w;have t7:=IcY (.pointer (some ⟨d,0,none⟩)) w
 go_enter Vcx,Vcp
 go_wp2_with fail
 refine Vac (tk1 h ⟨#[40]⟩ 2 (by have a0:(⟨#[40]⟩:BA).size=1:=rfl;omega) (by omega)) ?_
 rintro e O ⟨rfl,aE,E1,n1,ak,aj⟩;have J:=aj;have af:=(J.xk h) _ _ _ _ (by decide) D;have aG:O.cell? ⟨d,1,none⟩=some (.iface T u):=by simp[Vet,af]
 have aF:O.cell? ⟨d,2,none⟩=some (.iface G E):=by simp[Vet,af]
 have U:=hx.keepT (J.xk h)
 go_wp2_with fail
 refine Vac (xg aA U ak (by omega)) ?_
 rintro e w2 ⟨rfl,l2,aB,o2,E2,n2,ah,ai⟩;clear U;have Y:=J.trans ai;have ac:=(Y.xk h) _ _ _ _ (by decide) D;have aC:w2.cell? ⟨d,1,none⟩=some (.iface T u):=by simp[Vet,ac]
 have aH:w2.cell? ⟨d,2,none⟩=some (.iface G E):=by simp[Vet,ac]
 go_wp2_with fail
 refine Vac (tk1 ah ⟨#[44]⟩ 2 (by have a0:(⟨#[44]⟩:BA).size=1:=rfl;omega) (by omega)) ?_
 rintro e V ⟨rfl,aL,E3,n3,az,ax⟩;have I:=Y.trans ax;have ag:=(I.xk h) _ _ _ _ (by decide) D;have aJ:V.cell? ⟨d,1,none⟩=some (.iface T u):=by simp[Vet,ag]
 have aM:V.cell? ⟨d,2,none⟩=some (.iface G E):=by simp[Vet,ag]
 have M:=Z.keepT (I.xk h)
 go_wp2_with fail
 refine Vac (xg al M az (by omega)) ?_
 rintro e L ⟨rfl,l4,aD,o4,E4,n4,au,aw⟩;clear M;have aa:=I.trans aw;have ae:=(aa.xk h) _ _ _ _ (by decide) D;have aK:L.cell? ⟨d,1,none⟩=some (.iface T u):=by simp[Vet,ae]
 have aI:L.cell? ⟨d,2,none⟩=some (.iface G E):=by simp[Vet,ae]
 go_wp2_with fail
 refine Vac (tk1 au ⟨#[41]⟩ 2 (by have a0:(⟨#[41]⟩:BA).size=1:=rfl;omega) (by omega)) ?_
 rintro e w5 ⟨rfl,ao,E5,n5,aq,am⟩;have an:=aa.trans am
 go_wp2
 go_end0
 refine⟨rfl,_,(rfl:opn ⟨#[41]⟩=false),?_,an⟩
 have EE:ao=bs++Veu (pre last++(⟨#[40]⟩++txt x++⟨#[44,32]⟩++txt y++⟨#[41]⟩)):=by
  rw[E5.out,E4.out,E3.out,E2.out,E1.out,Jax,Jax,Jax,Jax,JaP (t:=⟨#[40]⟩) rfl,Jlj (t:=⟨#[44]⟩) rfl,Jlj (t:=⟨#[41]⟩) rfl,JkQ (t:=⟨#[40]⟩) rfl,JaH (t:=⟨#[44]⟩) rfl];congr 2
  apply JaA
  simp only[JaE,Val,VaV,VaK]
 rw[<-EE];exact aq
theorem wif(x y z:X)(az:SWX x)(aC:SWX y)(aj:SWX z)(w:World)(P:Nat->Prop)(B b d:Nat)(last:BA)(bs:List Value)(an p q r:Value)(D:w.heap[d]? =some (.cells #[an,p,q,r] 332 (0,0)))(hx:PX w P x p)(hy:PX w P y q)(hz:PX w P z r)(h:BW 187 w B b (.string last) bs)(aI:bs.length+((tw x+16+(tw y+16+(tw z+16)))+16)+1<=10000000):
  Calls prog 136 #[.pointer (some ⟨b,0,none⟩),.pointer (some ⟨d,0,none⟩)] w fun e w'=>e= .returned (.tuple #[])/\∃ag,opn ag=false/\BW 187 w' B b (.string ag) (bs++Veu (pre last++(⟨#[105,102,32]⟩++txt x++⟨#[32,116,104,101,110,32]⟩++txt y++⟨#[32,101,108,115,101,32]⟩++txt z)))/\KB B b w w':=by
 obtain⟨T,u,rfl⟩:=hx.iface;obtain⟨I,J,rfl⟩:=hy.iface;obtain⟨E,G,rfl⟩:=hz.iface
 go_enter func136,ntmps136
 go_wp2_with fail
 refine Vac (tk1 h ⟨#[105,102]⟩ 3 (by have a0:(⟨#[105,102]⟩:BA).size=2:=rfl;omega) (by omega)) ?_
 rintro e Z ⟨rfl,aF,E1,n1,au,aA⟩;have L:=aA;have ae:=(L.xk h) _ _ _ _ (by decide) D;have aN:Z.cell? ⟨d,1,none⟩=some (.iface T u):=by simp[Vet,ae]
 have aG:Z.cell? ⟨d,2,none⟩=some (.iface I J):=by simp[Vet,ae]
 have aW:Z.cell? ⟨d,3,none⟩=some (.iface E G):=by simp[Vet,ae]
 have p2:=hx.keepT (L.xk h)
 go_wp2_with fail
 refine Vac (xg az p2 au (by omega)) ?_
 rintro e w2 ⟨rfl,l2,aE,o2,E2,n2,aq,ak⟩;clear p2;have ah:=L.trans ak;have U:=(ah.xk h) _ _ _ _ (by decide) D;have aL:w2.cell? ⟨d,1,none⟩=some (.iface T u):=by simp[Vet,U]
 have aP:w2.cell? ⟨d,2,none⟩=some (.iface I J):=by simp[Vet,U]
 have aT:w2.cell? ⟨d,3,none⟩=some (.iface E G):=by simp[Vet,U]
 go_wp2_with fail
 refine Vac (tk1 aq ⟨#[116,104,101,110]⟩ 5 (by have a0:(⟨#[116,104,101,110]⟩:BA).size=4:=rfl;omega) (by omega)) ?_
 rintro e M ⟨rfl,aQ,E3,n3,ay,ax⟩;have Y:=ah.trans ax;have V:=(Y.xk h) _ _ _ _ (by decide) D;have aU:M.cell? ⟨d,1,none⟩=some (.iface T u):=by simp[Vet,V]
 have aY:M.cell? ⟨d,2,none⟩=some (.iface I J):=by simp[Vet,V]
 have aK:M.cell? ⟨d,3,none⟩=some (.iface E G):=by simp[Vet,V]
 have p4:=hy.keepT (Y.xk h)
 go_wp2_with fail
 refine Vac (xg aC p4 ay (by omega)) ?_
 rintro e W ⟨rfl,l4,aM,o4,E4,n4,am,aD⟩;clear p4;have af:=Y.trans aD;have ac:=(af.xk h) _ _ _ _ (by decide) D;have aV:W.cell? ⟨d,1,none⟩=some (.iface T u):=by simp[Vet,ac]
 have aS:W.cell? ⟨d,2,none⟩=some (.iface I J):=by simp[Vet,ac]
 have aX:W.cell? ⟨d,3,none⟩=some (.iface E G):=by simp[Vet,ac]
 go_wp2_with fail
 refine Vac (tk1 am ⟨#[101,108,115,101]⟩ 5 (by have a0:(⟨#[101,108,115,101]⟩:BA).size=4:=rfl;omega) (by omega)) ?_
 rintro e w5 ⟨rfl,aR,E5,n5,aw,av⟩;have O:=af.trans av;have aa:=(O.xk h) _ _ _ _ (by decide) D;have aJ:w5.cell? ⟨d,1,none⟩=some (.iface T u):=by simp[Vet,aa]
 have aH:w5.cell? ⟨d,2,none⟩=some (.iface I J):=by simp[Vet,aa]
 have aO:w5.cell? ⟨d,3,none⟩=some (.iface E G):=by simp[Vet,aa]
 have p6:=hz.keepT (O.xk h)
 go_wp2_with fail
 refine Vac (xg aj p6 aw (by omega)) ?_
 rintro e w6 ⟨rfl,l6,aB,o6,E6,n6,ai,ao⟩;clear p6;have al:=O.trans ao
 go_wp2
 go_end0
 refine⟨rfl,_,o6,?_,al⟩
 have EE:aB=bs++Veu (pre last++(⟨#[105,102,32]⟩++txt x++⟨#[32,116,104,101,110,32]⟩++txt y++⟨#[32,101,108,115,101,32]⟩++txt z)):=by
  rw[E6.out,E5.out,E4.out,E3.out,E2.out,E1.out,Jax,Jax,Jax,Jax,Jax,JaP (t:=⟨#[105,102]⟩) rfl,JaP (t:=⟨#[116,104,101,110]⟩) rfl,JaP (t:=⟨#[101,108,115,101]⟩) rfl,JaH (t:=⟨#[105,102]⟩) rfl,JaH (t:=⟨#[116,104,101,110]⟩) rfl,JaH (t:=⟨#[101,108,115,101]⟩) rfl,JaH o2,JaH o4];congr 2
  apply JaA
  simp only[JaE,Val,VaV,VaK]
 rw[<-EE];exact ai
theorem JrN(x y z:X)(loc:Nat)(Y:SWX x)(V:SWX y)(W:SWX z):SWX (.mk ⟨#[105,102]⟩ [] [x,y,z] loc):=by
 intro v w P B b last bs h G I;have D:tw (.mk ⟨#[105,102]⟩ [] [x,y,z] loc)=(tw x+16+(tw y+16+(tw z+16)))+16:=by simp[tw,tws]
 rw[D]at I;rw[JhN];clear D
 cases h with
 |ite x y z loc d p q r hP E O M J=>
 have t0:=Ics (.pointer (some ⟨d,0,none⟩)) w;have t1:=Ict (.pointer (some ⟨d,0,none⟩)) w;have Z:=Icp (.pointer (some ⟨d,0,none⟩)) w;have t3:=Icq (.pointer (some ⟨d,0,none⟩)) w;have L:Hid _:=wif x y z Y V W w P B b d last bs _ p q r E O M J G I;clear E O M J G
 go_enter Vcx,Vcp
 go_wp2_with fail
 refine Vac L.out ?_
 rintro e w1 ⟨rfl,l,o,U,T⟩;clear L
 go_wp2
 go_end0
 exact⟨rfl,l,o,U,T⟩
variable {B b:Nat}{last:BA}{bs:List Value}
theorem JlH(c:Bool)(O:SWX x)(h:PX w P x v)(d:BW 187 w B b (.string last) bs)(ah:bs.length+tw x+6<=10000000):
  Calls prog 138 #[.pointer (some ⟨b,0,none⟩),.bool c,v] w fun e w'=>e= .returned (.tuple #[])/\∃I bs',opn I=false/\Hid (bs'=bs++Veu (pre last++brk c (txt x)))/\bs'.length<=bs.length+tw x+6/\BW 187 w' B b (.string I) bs'/\KB B b w w':=by
 obtain⟨ai,u,rfl⟩:=h.iface
 cases c
 .have L:Hid _:=xg O h d (by omega);clear h d
  go_enter func138,ntmps138
  go_wp2_with fail
  refine Vac L.out ?_
  rintro e U ⟨rfl,l,J,o,ac,n1,E,D⟩;clear L
  go_wp2
  exact VaI (Va3 results138 _ _ _) rfl ⟨rfl,l,J,o,ac,by omega,E,D⟩
 .go_enter func138,ntmps138
  go_wp2_with fail
  refine Vac (tk1 d ⟨#[40]⟩ 2 (by have a0:(⟨#[40]⟩:BA).size=1:=rfl;omega) (by omega)) ?_
  rintro e U ⟨rfl,J,E1,n1,E,D⟩;have T:=D;have G:=h.keepT (T.xk d)
  go_wp2_with fail
  refine Vac (xg O G E (by omega)) ?_
  rintro e w2 ⟨rfl,l2,ag,o2,E2,n2,V,W⟩;clear G;have aa:=T.trans W
  go_wp2_with fail
  refine Vac (tk1 V ⟨#[41]⟩ 2 (by have a0:(⟨#[41]⟩:BA).size=1:=rfl;omega) (by omega)) ?_
  rintro e w3 ⟨rfl,M,Z,n3,af,ae⟩;have Y:=aa.trans ae
  go_wp2
  go_end0
  refine⟨rfl,_,M,(rfl:opn ⟨#[41]⟩=false),?_,by omega,af,Y⟩
  show M=bs++Veu (pre last++brk true (txt x));rw[Z.out,E2.out,E1.out,Jax,Jax,JaP (t:=⟨#[40]⟩) rfl,Jlj (t:=⟨#[41]⟩) rfl,JkQ (t:=⟨#[40]⟩) rfl,brk,Vat rfl];congr 2
  apply JaA
  simp only[JaE,Val,VaV,VaK]
theorem wbf(L:PX w P x v):Calls prog 139 #[v] w fun e w'=>e= .returned (.bool (JbR x.op))/\w'=w:=by
 cases L with
 |name n loc d O G h=>
  have J:=IcD (.pointer (some ⟨d,0,none⟩)) w;have D:=IcE (.pointer (some ⟨d,0,none⟩)) w;have I:=IcF (.pointer (some ⟨d,0,none⟩)) w;have E:=IcJ (.pointer (some ⟨d,0,none⟩)) w;clear h
  go_enter Vcw,Vco
  go_wp2
  go_ret
  exact⟨rfl,rfl⟩
 |num n loc d O G h=>
  have J:=IcL (.pointer (some ⟨d,0,none⟩)) w;have D:=IcM (.pointer (some ⟨d,0,none⟩)) w;have I:=IcN (.pointer (some ⟨d,0,none⟩)) w;have E:=IcR (.pointer (some ⟨d,0,none⟩)) w;clear h
  go_enter Vcw,Vco
  go_wp2
  go_ret
  exact⟨rfl,rfl⟩
 |fn n x loc d p O G h L=>
  have J:=Ici (.pointer (some ⟨d,0,none⟩)) w;have D:=Icj (.pointer (some ⟨d,0,none⟩)) w;have I:=Ick (.pointer (some ⟨d,0,none⟩)) w;have E:=Ico (.pointer (some ⟨d,0,none⟩)) w;clear h
  go_enter Vcw,Vco
  go_wp2
  go_ret
  exact⟨rfl,rfl⟩
 |ite x y z loc d p q r G h L M Y=>
  have J:=Icp (.pointer (some ⟨d,0,none⟩)) w;have D:=Icq (.pointer (some ⟨d,0,none⟩)) w;have I:=Icr (.pointer (some ⟨d,0,none⟩)) w;have E:=Icv (.pointer (some ⟨d,0,none⟩)) w;clear h
  go_enter Vcw,Vco
  go_wp2
  go_ret
  exact⟨rfl,rfl⟩
 |lt n x y loc d p q O G h L M=>
  have J:=Icw (.pointer (some ⟨d,0,none⟩)) w;have D:=Icx (.pointer (some ⟨d,0,none⟩)) w;have I:=Icy (.pointer (some ⟨d,0,none⟩)) w;have E:=IcC (.pointer (some ⟨d,0,none⟩)) w;clear h
  go_enter Vcw,Vco
  go_wp2
  go_ret
  exact⟨rfl,rfl⟩
 |rc names kids y loc d Z vv q ps hN T G h hn hv aa W hl U V M=>
  have J:=Ic1 (.pointer (some ⟨d,0,none⟩)) w;have D:=Ic2 (.pointer (some ⟨d,0,none⟩)) w;have I:=Ic3 (.pointer (some ⟨d,0,none⟩)) w;have E:=Ic7 (.pointer (some ⟨d,0,none⟩)) w;clear h
  go_enter Vcw,Vco
  go_wp2
  go_ret
  exact⟨rfl,rfl⟩
 |app x y loc d p q G h L M=>
  have J:=Icb (.pointer (some ⟨d,0,none⟩)) w;have D:=Icc (.pointer (some ⟨d,0,none⟩)) w;have I:=Icd (.pointer (some ⟨d,0,none⟩)) w;have E:=Ich (.pointer (some ⟨d,0,none⟩)) w;clear h
  go_enter Vcw,Vco
  go_wp2
  go_ret
  exact⟨rfl,rfl⟩
 |pair x y loc d p q G h L M=>
  have J:=IcT (.pointer (some ⟨d,0,none⟩)) w;have D:=IcU (.pointer (some ⟨d,0,none⟩)) w;have I:=IcV (.pointer (some ⟨d,0,none⟩)) w;have E:=IcZ (.pointer (some ⟨d,0,none⟩)) w;clear h
  go_enter Vcw,Vco
  go_wp2
  go_ret
  exact⟨rfl,rfl⟩
theorem wba(J:PX w P x v):Calls prog 140 #[v] w fun e w'=>e= .returned (.bool (JbL x.op))/\w'=w:=by
 cases J with
 |name n loc d M I h=>
  have E:=IcG (.pointer (some ⟨d,0,none⟩)) w;have G:=IcH (.pointer (some ⟨d,0,none⟩)) w;have D:=IcI (.pointer (some ⟨d,0,none⟩)) w;clear h
  go_enter Vcv,Vcn
  go_wp2
  go_ret
  exact⟨rfl,rfl⟩
 |num n loc d M I h=>
  have E:=IcO (.pointer (some ⟨d,0,none⟩)) w;have G:=IcP (.pointer (some ⟨d,0,none⟩)) w;have D:=IcQ (.pointer (some ⟨d,0,none⟩)) w;clear h
  go_enter Vcv,Vcn
  go_wp2
  go_ret
  exact⟨rfl,rfl⟩
 |fn n x loc d p M I h J=>
  have E:=Icl (.pointer (some ⟨d,0,none⟩)) w;have G:=Icm (.pointer (some ⟨d,0,none⟩)) w;have D:=Icn (.pointer (some ⟨d,0,none⟩)) w;clear h
  go_enter Vcv,Vcn
  go_wp2
  go_ret
  exact⟨rfl,rfl⟩
 |ite x y z loc d p q r I h J L W=>
  have E:=Ics (.pointer (some ⟨d,0,none⟩)) w;have G:=Ict (.pointer (some ⟨d,0,none⟩)) w;have D:=Icu (.pointer (some ⟨d,0,none⟩)) w;clear h
  go_enter Vcv,Vcn
  go_wp2
  go_ret
  exact⟨rfl,rfl⟩
 |lt n x y loc d p q M I h J L=>
  have E:=Icz (.pointer (some ⟨d,0,none⟩)) w;have G:=IcA (.pointer (some ⟨d,0,none⟩)) w;have D:=IcB (.pointer (some ⟨d,0,none⟩)) w;clear h
  go_enter Vcv,Vcn
  go_wp2
  go_ret
  exact⟨rfl,rfl⟩
 |rc names kids y loc d Y vv q ps hN O I h hn hv Z V hl T U L=>
  have E:=Ic4 (.pointer (some ⟨d,0,none⟩)) w;have G:=Ic5 (.pointer (some ⟨d,0,none⟩)) w;have D:=Ic6 (.pointer (some ⟨d,0,none⟩)) w;clear h
  go_enter Vcv,Vcn
  go_wp2
  go_ret
  exact⟨rfl,rfl⟩
 |app x y loc d p q I h J L=>
  have E:=Ice (.pointer (some ⟨d,0,none⟩)) w;have G:=Icf (.pointer (some ⟨d,0,none⟩)) w;have D:=Icg (.pointer (some ⟨d,0,none⟩)) w;clear h
  go_enter Vcv,Vcn
  go_wp2
  go_ret
  exact⟨rfl,rfl⟩
 |pair x y loc d p q I h J L=>
  have E:=IcW (.pointer (some ⟨d,0,none⟩)) w;have G:=IcX (.pointer (some ⟨d,0,none⟩)) w;have D:=IcY (.pointer (some ⟨d,0,none⟩)) w;clear h
  go_enter Vcv,Vcn
  go_wp2
  go_ret
  exact⟨rfl,rfl⟩
theorem JhP(names:List BA)(kids:List X)(y:X)(loc:Nat)(h:names.length=kids.length):txt (.mk ⟨#[114,101,99]⟩ names (kids++ [y]) loc)=letT (⟨#[108,101,116,32]⟩++⟨#[114,101,99,32]⟩) names (txts (kids++ [y])) names.length++⟨#[32,105,110,32]⟩++txt y:=by
 rw[txt,Vaq (JaD (by decide)),Vaq (JaD (by decide)),Vaq (JaD (by decide)),Vaq (JaD (by decide)),Vaq (JaD (by decide)),Vat rfl,JcX _ _ (by simp;omega),h];simp[Vev]
def recT(names:List BA)(ts:List BA):Nat->BA
 |0=>⟨#[108,101,116]⟩++⟨#[32]⟩++⟨#[114,101,99]⟩
 |q+1=>recT names ts q++(if 0<q then⟨#[32]⟩++⟨#[97,110,100]⟩else⟨#[]⟩)++⟨#[32]⟩++names.getD q ⟨#[]⟩++⟨#[32,61,32]⟩++ts.getD q ⟨#[]⟩
theorem Jmh(names ts:List BA):∀q,letT (⟨#[108,101,116,32]⟩++⟨#[114,101,99,32]⟩) names ts (q+1)=recT names ts (q+1):=by
 intro q
 induction q with
 |zero=>
  simp only[letT,recT,Nat.lt_irrefl,VaS];apply JaA
  simp only[JaE,Val,VaV,VaK]
 |succ q d=>
  rw[letT,recT,Vat (by omega),Vat (by omega),d];apply JaA
  simp only[JaE,Val,VaV,VaK]
theorem wrec(names:List BA)(kids:List X)(y:X)(loc:Nat)(aA:∀x,x∈kids->SWX x)(aW:SWX y)(w:World)(P:Nat->Prop)(B b M:Nat)(last:BA)(bs:List Value)(aT nv vv q:Value)(ps:List Value)(hN:names≠ [])(al:∀m,m∈names->Wd m)
 (L:w.heap[M]? =some (.cells #[aT,nv,vv,q] 341 (0,0)))(hn:w.ownsRow 0 9 1 nv names.length (names.map Value.string))(hv:w.ownsRow 0 130 1 vv ps.length ps)(hl:ps.length=kids.length)(aj:names.length=kids.length)(hk:∀(j:Nat) (x:X) (p:Value),kids[j]? =some x->ps[j]? =some p->PX w P x p)(hy:PX w P y q)(E:BW 187 w B b (.string last) bs)(a0:bs.length+((names.map fun s=>s.size+16).sum+(tws kids+(tw y+16))+16)+1<=10000000):
  Calls prog 137 #[.pointer (some ⟨b,0,none⟩),.pointer (some ⟨M,0,none⟩)] w fun e w'=>e= .returned (.tuple #[])/\∃aH,opn aH=false/\BW 187 w' B b (.string aH) (bs++Veu (pre last++txt (.mk ⟨#[114,101,99]⟩ names (kids++ [y]) loc)))/\KB B b w w':=by
 rw[JhP names kids y loc aj];obtain⟨aM,u,rfl⟩:=hy.iface;have ah:w.ownsRow 0 9 1 nv (names.map Value.string).length (names.map Value.string):=by rw[Vbe];exact hn
 obtain⟨ao,cap,rfl,ac⟩:=Jdp ah;obtain⟨av,aF,rfl,ae⟩:=Jdp hv;rw[Vbe]at ac L
 have a4:names.length<=9223372036854775807:=by
  rcases hn.2 with⟨e1,e2⟩|⟨g,c',a2,e1,_,_,e4,e5,_⟩
  .omega
  .unfold maxLen at e5;omega
 have aZ:1<=names.length:=by cases names with|nil=>exact absurd rfl hN|cons a l=>simp
 have HL:Hid (ps.length=kids.length):=hl;have aU:Hid (names.length=kids.length):=aj;rw[hl.trans aj.symm]at L ae;clear hl aj
 go_enter func137,ntmps137
 go_wp2_with fail
 refine Vac (tk2 E ⟨#[108,101,116]⟩ ⟨#[114,101,99]⟩ 8 (by decide) (by omega)) ?_
 rintro e w1 ⟨rfl,aE,E1,n1,aw,aL⟩;have aD:=(aL.xk E) _ _ _ _ (by decide) L;have c1:w1.cell? ⟨M,1,none⟩=some (.slice ao names.length cap):=by simp[Vet,aD]
 go_wp2_with fail
 have aQ:Hid (aE=bs++Veu (pre last++recT names (txts (kids++ [y])) 0)):=by
  show _=_;rw[E1.out,JaP (t:=⟨#[108,101,116]⟩) rfl,JaP (t:=⟨#[114,101,99]⟩) rfl,JaH (t:=⟨#[108,101,116]⟩) rfl];congr 2
  apply JaA
  simp only[recT,JaE,Val,VaV,VaK]
 clear E1 hn
 go_loopw [14] (fun i wr=>KB B b w wr/\∃j:Nat,j<=names.length/\i= .int .i64 j/\∃l I,opn l=false/\BW 187 wr B b (.string l) I/\Hid (I=bs++Veu (pre last++recT names (txts (kids++ [y])) j))/\I.length<=bs.length+8+((names.take j).map fun s=>s.size+16).sum+tws (kids.take j)) (fun i _=>names.length-(intOf i).toNat)
 case atStart=>exact⟨aL,0,VaN _,rfl,⟨#[114,101,99]⟩,aE,rfl,aw,aQ,by simp[tws];omega⟩
 case round=>
  obtain⟨af,j,hj,rfl,l,I,ol,W,EB,nb⟩:=hrel;have xk:=af.xk E;have a3:=JfU names j;have a5:=JfY kids j;have aq:=xk _ _ _ _ (by decide) L
  by_cases D:j<names.length
  .have G:j<kids.length:=by rw[<-aU.out];exact D
   have az:j<ps.length:=by rw[HL.out];exact G
   obtain⟨g,rfl,_⟩:=ac j D;obtain⟨gv,rfl,_⟩:=ae j D
   have cn:wr.cell? ⟨g,j,none⟩=some (.string names[j]):=by
    obtain⟨aY,aS,e,hr⟩:=Jdp (xk.row (by decide) ah)
    cases e
    obtain⟨g',e2,hc⟩:=hr j (by rw[Vbe];exact D)
    cases e2
    rw[hc];simp[D]
   have V:=hk j kids[j] ps[j] (by simp[G]) (by simp[az]);obtain⟨T2,u2,au⟩:=V.iface
   have HC:Hid (∀d,KB B b w d->d.cell? ⟨gv,j,none⟩=some (.iface T2 u2)):=fun d O=>by
    obtain⟨aY,aS,e,hr⟩:=Jdp ((O.xk E).row (by decide) hv)
    cases e
    obtain⟨g',e2,hc⟩:=hr j az
    cases e2
    rw[hc,Vav az,au]
   rw[au]at V;have aK:=aA kids[j] (Vbw G);have ai:=al names[j] (Vbw D);have ak:Hid ((names.getD j ⟨#[]⟩)=names[j]):=by show _=_;simp[Vev,D]
   have ax:Hid ((kids.getD j X.none)=kids[j]):=by show _=_;simp[Vev,G]
   have aJ:(txts (kids++ [y])).getD j ⟨#[]⟩=txt kids[j]:=by
    rw[JcX _ _ (by simp;omega)];congr 1
    simp[Vev,Vak G,G]
   have aO:Hid (recT names (txts (kids++ [y])) (j+1)=recT names (txts (kids++ [y])) j++(if 0<j then⟨#[32]⟩++⟨#[97,110,100]⟩else⟨#[]⟩)++⟨#[32]⟩++names[j]++⟨#[32,61,32]⟩++txt kids[j]):=by
    show _=_;rw[recT,ak.out,aJ]
   have aV:=JfU names (j+1);rw[JbD names j D,ak.out]at aV;have aR:=JfY kids (j+1);rw[Jbf kids j G,ax.out]at aR;clear aJ au ac ae hk al aA ah hv xk aw c1 aD;generalize names[j]=nm at*;generalize kids[j]=x at*
   by_cases aG:0<j
   .go_wp2_with fail
    refine Vac (tk1 W ⟨#[97,110,100]⟩ 4 (by decide) (by omega)) ?_
    rintro e w2 ⟨rfl,aP,E2,n2,J,ag⟩;have U:=af.trans ag
    go_wp2_with fail
    refine Vac (tk2 J nm ⟨#[61]⟩ (nm.size+3) (by have a1:(⟨#[61]⟩:BA).size=1:=rfl;omega) (by omega)) ?_
    rintro e d ⟨rfl,aB,E3,n3,T,O⟩;have h:=U.trans O;have aa:=(h.xk E) _ _ _ _ (by decide) L;have c3:d.cell? ⟨M,2,none⟩=some (.slice (some ⟨gv,0,none⟩) names.length aF):=by simp[Vet,aa]
    have ay:d.cell? ⟨gv,j,none⟩=some (.iface T2 u2):=HC.out d h;have Y:=V.keepT (h.xk E)
    go_wp2_with fail
    refine Vac (xg aK Y T (by omega)) ?_
    rintro e w4 ⟨rfl,l4,Z,o4,E4,n4,an,aC⟩;have am:=h.trans aC;clear J T W Y aa c3 ay V
    go_wp2
    refine⟨⟨am,j+1,by omega,by go_num,l4,Z,o4,an,?_,?_⟩,by simp[intOf];omega⟩
    .show Z=_;rw[E4.out,E3.out,E2.out,EB.out,aO.out,Jax,Jax,Jax,JaP (t:=⟨#[97,110,100]⟩) rfl,JaH ol,JaP ai.c,JaP (t:=⟨#[61]⟩) rfl,JaH (t:=⟨#[97,110,100]⟩) rfl,JaH ai.o,JaH (t:=⟨#[61]⟩) rfl,Vat aG];congr 2
     apply JaA
     simp only[JaE,Val,VaV,VaK]
    .rw[JbD names j D,Jbf kids j G];rw[ak.out,ax.out];omega
   .have ag:=KB.refl B b wr;have U:=af;have E2:Hid (I=I):=rfl;have n2:I.length<=I.length+0:=by omega
    have J:=W;obtain rfl:j=0:=by omega
    clear aG
    go_wp2_with fail
    refine Vac (tk2 J nm ⟨#[61]⟩ (nm.size+3) (by have a1:(⟨#[61]⟩:BA).size=1:=rfl;omega) (by omega)) ?_
    rintro e d ⟨rfl,aB,E3,n3,T,O⟩;have h:=U.trans O;have aa:=(h.xk E) _ _ _ _ (by decide) L;have c3:d.cell? ⟨M,2,none⟩=some (.slice (some ⟨gv,0,none⟩) names.length aF):=by simp[Vet,aa]
    have ay:d.cell? ⟨gv,0,none⟩=some (.iface T2 u2):=HC.out d h;have Y:=V.keepT (h.xk E)
    go_wp2_with fail
    refine Vac (xg aK Y T (by omega)) ?_
    rintro e w4 ⟨rfl,l4,Z,o4,E4,n4,an,aC⟩;have am:=h.trans aC;clear J T W Y aa c3 ay V
    go_wp2
    refine⟨⟨am,0+1,by omega,by go_num,l4,Z,o4,an,?_,?_⟩,by simp[intOf];omega⟩
    .show Z=_;rw[E4.out,E3.out,EB.out,aO.out,Jax,Jax,JaP ai.c,JaP (t:=⟨#[61]⟩) rfl,JaH ol,JaH ai.o,JaH (t:=⟨#[61]⟩) rfl,Vaq (Nat.lt_irrefl 0)];congr 2
     apply JaA
     simp only[JaE,Val,VaV,VaK]
    .rw[JbD names 0 D,Jbf kids 0 G];rw[ak.out,ax.out];omega
  .have aN:j=names.length:=by omega
   have aX:=aq;have cF:wr.cell? ⟨M,3,none⟩=some (.iface aM u):=by simp[Vet,aq]
   have HJ:Hid (j=names.length):=aN;clear ac ae hk al aA ah hv xk aw c1 aD aN
   go_wp2_with fail
   refine Vac (tk1 W ⟨#[105,110]⟩ 3 (by decide) (by omega)) ?_
   rintro e w2 ⟨rfl,aP,E2,n2,J,ag⟩;have U:=af.trans ag;have aI:=(U.xk E) _ _ _ _ (by decide) L;have c2:w2.cell? ⟨M,3,none⟩=some (.iface aM u):=by simp[Vet,aI]
   have p2:=hy.keepT (U.xk E)
   go_wp2_with fail
   refine Vac (xg aW p2 J (by omega)) ?_
   rintro e d ⟨rfl,l3,aB,o3,E3,n3,T,O⟩;have h:=U.trans O;clear J W p2 c2 aI cF aX aq
   go_wp2
   go_end0
   refine⟨rfl,l3,o3,?_,h⟩
   have EE:aB=bs++Veu (pre last++(letT (⟨#[108,101,116,32]⟩++⟨#[114,101,99,32]⟩) names (txts (kids++ [y])) names.length++⟨#[32,105,110,32]⟩++txt y)):=by
    obtain⟨m,hm⟩:∃m,names.length=m+1:=⟨names.length-1,by omega⟩
    rw[E3.out,E2.out,EB.out,HJ.out,hm,Jmh,Jax,Jax,JaP (t:=⟨#[105,110]⟩) rfl,JaH ol,JaH (t:=⟨#[105,110]⟩) rfl];congr 2
    apply JaA
    simp only[JaE,Val,VaV,VaK]
   rw[<-EE];exact T
abbrev LxE:=LxK Jad
variable {m:BA}
theorem Jhr(h:OwE m):LxE (bsL m) [(⟨#[110,97,109,101]⟩,m)]:=by
 refine Jes m _ h.nz h.lf h.sz ?_ (by rfl)
 rw[Jgt m Jad (fun w d=>(Jc6.ne w d).1),h.kw];rfl
theorem JdV(m:BA)(E:∃c x,m.data.toList=c::x/\lowI (c.toNat:Int)=true)(h:∀d,d∈m.data.toList->lfI (d.toNat:Int)=true)(I:m.data.toList.length<=8)(D:Jad.foldl (Jby m) ⟨#[110,97,109,101]⟩=m)(G:Jc3 ⟨m,m,0⟩=false):LxE (bsL m) [(m,m)]:=Jes m m E h I D G
theorem Jpe:LxE (bsL ⟨#[102,117,110]⟩) [(⟨#[102,117,110]⟩,⟨#[102,117,110]⟩)]:=JdV _ ⟨102,[117,110],rfl,by decide⟩ (by decide) (by decide) (by rfl) (by rfl)
theorem Jre:LxE (bsL ⟨#[105,102]⟩) [(⟨#[105,102]⟩,⟨#[105,102]⟩)]:=JdV _ ⟨105,[102],rfl,by decide⟩ (by decide) (by decide) (by rfl) (by rfl)
theorem Jml:LxE (bsL ⟨#[116,104,101,110]⟩) [(⟨#[116,104,101,110]⟩,⟨#[116,104,101,110]⟩)]:=JdV _ ⟨116,[104,101,110],rfl,by decide⟩ (by decide) (by decide) (by rfl) (by rfl)
theorem Jmk:LxE (bsL ⟨#[101,108,115,101]⟩) [(⟨#[101,108,115,101]⟩,⟨#[101,108,115,101]⟩)]:=JdV _ ⟨101,[108,115,101],rfl,by decide⟩ (by decide) (by decide) (by rfl) (by rfl)
theorem Jkk:LxE (bsL ⟨#[108,101,116]⟩) [(⟨#[108,101,116]⟩,⟨#[108,101,116]⟩)]:=JdV _ ⟨108,[101,116],rfl,by decide⟩ (by decide) (by decide) (by rfl) (by rfl)
theorem Jpg:LxE (bsL ⟨#[114,101,99]⟩) [(⟨#[114,101,99]⟩,⟨#[114,101,99]⟩)]:=JdV _ ⟨114,[101,99],rfl,by decide⟩ (by decide) (by decide) (by rfl) (by rfl)
theorem Jpc:LxE (bsL ⟨#[97,110,100]⟩) [(⟨#[97,110,100]⟩,⟨#[97,110,100]⟩)]:=JdV _ ⟨97,[110,100],rfl,by decide⟩ (by decide) (by decide) (by rfl) (by rfl)
theorem Joa:LxE (bsL ⟨#[105,110]⟩) [(⟨#[105,110]⟩,⟨#[105,110]⟩)]:=JdV _ ⟨105,[110],rfl,by decide⟩ (by decide) (by decide) (by rfl) (by rfl)
theorem Jrd:LxE (bsL ⟨#[61]⟩) [(⟨#[61]⟩,⟨#[61]⟩)]:=fun s i r h _=>JdJ 61 (by decide) (by decide) s i r h
theorem Jpd:LxE (bsL ⟨#[45,62]⟩) [(⟨#[45,62]⟩,⟨#[45,62]⟩)]:=fun s i r h _=>by
 have h:Rs s i (45::62::r):=h;have d:=JeH h (by decide);exact .cons (j:=i+2) (by rw[d];exact Jlt s _ _ h Jad) (by rfl) (.nil _)
theorem Jp9(s:BA)(c:UInt8)(x:List UInt8)(i:Nat)(r:List UInt8)(h:Rs s i ((c::x)++r))(I:∀d,d∈c::x->figI (d.toNat:Int)=true)(L:(c::x).length<=8)(M:Stp figI r)(kws:List BA):
  tok1 s kws i=(⟨⟨#[110,117,109]⟩,⟨(c::x).toArray⟩,i⟩,i+(c::x).length):=by
 have D:=Rs.cons (r:=x++r) h;have E:=I c (by simp)
 have G:lowI (c.toNat:Int)=false:=by
  unfold figI at E;unfold lowI;simp only[Vaz,Va1]at E;simp only[Bool.and_eq_false_iff,decide_eq_false_iff_not];omega
 have J:clsK s i=i+(c::x).length:=by
  unfold clsK;rw[Vat D.1,D.2.1,G,Vaq (by simp),Vat E];exact JfQ figI s (c::x) i r h I M
 have T:clsI s i=⟨#[110,117,109]⟩:=by
  unfold clsI;rw[Vat D.1,D.2.1,G,Vaq (by simp),Vat E]
 have O:clsB ⟨#[110,117,109]⟩ (i+(c::x).length-i)=⟨#[110,117,109]⟩:=by
  unfold clsB;rw[Vaq];simp at L⊢;intro _;omega
 unfold tok1;rw[J,T,O,Rs.ext h];rw[Jdh _ _ (by rfl)]
theorem JoN{r:List UInt8}(h:Stp lfI r):Stp figI r:=by
 rcases h with h|⟨c,q,D,d⟩
 .exact .inl h
 .refine .inr ⟨c,q,D,?_⟩
  unfold lfI at d;simp only[VbT]at d;exact d.2
variable {c:Int}
theorem JqP(h:figI c=true):blI c=false:=by
 unfold figI at h;unfold blI;simp only[Vaz,Va1]at h;simp only[VbT,VbL];omega
theorem Jpf(d:NuE m):LxE (bsL m) [(⟨#[110,117,109]⟩,m)]:=by
 intro s i r h I
 cases e:m.data.toList with
 |nil=>exact absurd e d.nz
 |cons c x=>
  have G:bsL m=c::x:=e;have D:=d.fg;have E:=d.sz;rw[G]at h⊢;rw[e]at D E;have J:(⟨(c::x).toArray⟩:BA)=m:=by rw[<-G];exact Jjx
  have ht:=Jp9 s c x i r h D E (JoN I) Jad;rw[J]at ht;have L:=JeH (r:=x++r) h (JqP (D c (by simp)));exact .cons (j:=i+(c::x).length) (by rw[L];exact ht) (by rfl) (.nil _)
variable {qs:List (BA×BA)}
theorem JaR{x y:List UInt8}{ps:List (BA×BA)}(h:LxE x ps)(g:LxE y qs)(E:qs≠ []):LxE (x++32::y) (ps++qs):=by
 intro s i r d I;have d:Rs s i (x++32::(y++r)):=by simpa using d
 have G:=h s i _ d (Jln (by decide) _);have D:=Rs.app x d;have J:=(Rs.cons D).2.2;have:=G.app (Lx.bl D E (g s _ r J I));have e:i+(x++32::y).length=i+x.length+1+y.length:=by simp;omega
 rw[e];exact this
abbrev Ps:=List (BA×BA)
def Fol(L:List Tk)(k:Nat):Prop:=Jag (tkAt L k).is ⟨#[110,97,109,101]⟩=false/\Jag (tkAt L k).is ⟨#[110,117,109]⟩=false/\Jag (tkAt L k).is ⟨#[40]⟩=false
theorem Jcu{L:List Tk}{x:BA}(h:(tkAt L k).is=x)(d:Jag x ⟨#[110,97,109,101]⟩=false)(D:Jag x ⟨#[110,117,109]⟩=false)(E:Jag x ⟨#[40]⟩=false):Fol L k:=by
 unfold Fol;rw[h];exact⟨d,D,E⟩
def Hd(ps:Ps):Prop:=∃p r,ps=p::r/\(p.1=⟨#[110,97,109,101]⟩\/p.1=⟨#[110,117,109]⟩\/p.1=⟨#[40]⟩)
def RdE(x:X)(ps:Ps):Prop:=∀(L:List Tk) (N q:Nat),MatL L q ps->Fol L (q+ps.length)->2*ps.length+2<=N->∃d,expM L N q (-1)=some (d,q+ps.length,-1)/\er d=er x
def RdT(x:X)(ps:Ps):Prop:=Hd ps/\∀(L:List Tk) (N q:Nat),MatL L q ps->2*ps.length+1<=N->∃d,Ja0 L N q (-1)=some (d,q+ps.length,-1)/\er d=er x
def RdH(x:X)(ps:Ps):Prop:=Hd ps/\∀(L:List Tk) (N q:Nat),MatL L q ps->2*ps.length+1<=N->∃y d h M,Ja0 L N q (-1)=some (y,d,-1)/\appM L N y d (-1)=appM L M h (q+ps.length) (-1)/\er h=er x/\N<=M+ps.length
variable {ps:Ps}
theorem Hd.ne(h:Hd ps):0<ps.length:=by
 obtain⟨p,r,rfl,_⟩:=h;simp
theorem Hd.at_(h:Hd ps){L:List Tk}(d:MatL L q ps):(tkAt L q).is=⟨#[110,97,109,101]⟩\/(tkAt L q).is=⟨#[110,117,109]⟩\/(tkAt L q).is=⟨#[40]⟩:=by
 obtain⟨p,r,rfl,D⟩:=h;rw[d.cons.1];exact D
theorem JaQ{L:List Tk}{x w:BA}(h:(tkAt L k).is=x)(d:Jag x w=false):isM L w k (-1)=false:=by rw[JaC h,d]
theorem Jcp{L:List Tk}{x:BA}(h:(tkAt L k).is=x):isM L x k (-1)=true:=by rw[JaC h];exact(Jaf x x).2 rfl
theorem Hd.not(h:Hd ps){L:List Tk}(d:MatL L q ps):isM L ⟨#[102,117,110]⟩ q (-1)=false/\isM L ⟨#[105,102]⟩ q (-1)=false/\isM L ⟨#[108,101,116]⟩ q (-1)=false:=by
 rcases h.at_ d with e|e|e
 .exact⟨JaQ e (by rfl),JaQ e (by rfl),JaQ e (by rfl)⟩
 .exact⟨JaQ e (by rfl),JaQ e (by rfl),JaQ e (by rfl)⟩
 .exact⟨JaQ e (by rfl),JaQ e (by rfl),JaQ e (by rfl)⟩
theorem Hd.yes(h:Hd ps){L:List Tk}(d:MatL L q ps):(isM L ⟨#[110,97,109,101]⟩ q (-1)||isM L ⟨#[110,117,109]⟩ q (-1)||isM L ⟨#[40]⟩ q (-1))=true:=by
 rcases h.at_ d with e|e|e
 .rw[Jcp e];rfl
 .rw[Jcp e];simp
 .rw[Jcp e];simp
theorem RdT.head(h:RdT x ps):RdH x ps:=⟨h.1,fun L N q D E=>by
 obtain⟨d,e,G⟩:=h.2 L N q D E;exact⟨d,_,d,N,e,rfl,G,by omega⟩⟩
theorem RdH.exp(h:RdH x ps):RdE x ps:=fun L N q d hF W=>by
 cases N with
 |zero=>omega
 |succ N=>
  obtain⟨y,U,I,M,D,J,T,V⟩:=h.2 L N q d (by omega);obtain⟨E,G,O⟩:=h.1.not d;refine⟨I,?_,T⟩
  rw[expM,Vaq (by omega),E,Vaq (by simp),G,Vaq (by simp),O,Vaq (by simp),D];simp only[Vad];rw[J]
  cases M with
  |zero=>have:=h.1.ne;omega
  |succ M=>
   rw[appM,JaC rfl,JaC rfl,JaC rfl,hF.1,hF.2.1,hF.2.2];rfl
theorem JpM(n:BA)(loc:Nat):RdT (.mk ⟨#[110,97,109,101]⟩ [n] [] loc) [(⟨#[110,97,109,101]⟩,n)]:=⟨⟨_,_,rfl,.inl rfl⟩,fun L N q h E=>by
 obtain⟨d,D,_⟩:=h.cons
 cases N with
 |zero=>omega
 |succ N=>
  refine⟨_,by rw[Ja0,Jcp d];rfl,?_⟩
  simp only[er,ers,d,D]⟩
theorem JpN(n:BA)(loc:Nat):RdT (.mk ⟨#[110,117,109]⟩ [n] [] loc) [(⟨#[110,117,109]⟩,n)]:=⟨⟨_,_,rfl,.inr (.inl rfl)⟩,fun L N q h E=>by
 obtain⟨d,D,_⟩:=h.cons
 cases N with
 |zero=>omega
 |succ N=>
  refine⟨_,by rw[Ja0,Jcp d,Bool.or_true];rfl,?_⟩
  simp only[er,ers,d,D]⟩
theorem JfM(h:RdE x ps):RdT x ((⟨#[40]⟩,⟨#[40]⟩)::(ps++ [(⟨#[41]⟩,⟨#[41]⟩)])):=⟨⟨_,_,rfl,.inr (.inr rfl)⟩,fun L N q G U=>by
 obtain⟨d,_,E⟩:=G.cons;obtain⟨I,M⟩:=E.app;obtain⟨D,_,_⟩:=M.cons;simp only[VaY,Vap,Vbp]at U⊢
 cases N with
 |zero=>omega
 |succ N=>
  obtain⟨J,O,T⟩:=h L N (q+1) I (Jcu D (by rfl) (by rfl) (by rfl)) (by omega);refine⟨J,?_,T⟩
  rw[Ja0,JaQ d (by rfl),JaQ d (by rfl),(Jam d).1,(Jam d).2];simp only[Vel,Vao,VaS,O,Vad];rw[JaQ D (by rfl),(Jam D).1,(Jam D).2];simp only[Vao,VaS,Vaa,Vaf,VbG,Vbo];omega⟩
variable {y:X}
theorem JmT{qs:Ps}(loc:Nat)(h:RdE x ps)(g:RdE y qs):RdT (.mk ⟨#[112,97,105,114]⟩ [] [x,y] loc) ((⟨#[40]⟩,⟨#[40]⟩)::(ps++(⟨#[44]⟩,⟨#[44]⟩)::(qs++ [(⟨#[41]⟩,⟨#[41]⟩)]))):=⟨⟨_,_,rfl,.inr (.inr rfl)⟩,fun L N q M hN=>by
 obtain⟨d,_,O⟩:=M.cons;obtain⟨U,G⟩:=O.app;obtain⟨E,_,Y⟩:=G.cons;obtain⟨T,Z⟩:=Y.app;obtain⟨D,_,_⟩:=Z.cons;simp only[VaY,Vap,Vbp]at hN⊢
 cases N with
 |zero=>omega
 |succ N=>
  obtain⟨W,e2,hx⟩:=h L N (q+1) U (Jcu E (by rfl) (by rfl) (by rfl)) (by omega);obtain⟨V,J,I⟩:=g L N (q+1+ps.length+1) T (Jcu D (by rfl) (by rfl) (by rfl)) (by omega);refine⟨.mk ⟨#[112,97,105,114]⟩ [] [W,V] (tkAt L q).loc,?_,by simp only[er,ers,hx,I]⟩
  rw[Ja0,JaQ d (by rfl),JaQ d (by rfl),(Jam d).1,(Jam d).2];simp only[Vel,Vao,VaS,e2,Vad];rw[Jcp E];simp only[Va0,J,Vad];rw[(Jam D).1,(Jam D).2];simp only[Vaa,Vaf,VbG,Vbo];omega⟩
theorem Jk5{qs:Ps}(loc:Nat)(h:RdH x ps)(g:RdT y qs):RdH (.mk ⟨#[97,112,112]⟩ [] [x,y] loc) (ps++qs):=by
 have h0:=h.1.ne;have g0:=g.1.ne;refine⟨?_,fun L N q T W=> ?_⟩
 .obtain⟨p,r,rfl,G⟩:=h.1;exact⟨p,r++qs,rfl,G⟩
 .obtain⟨U,d⟩:=T.app;rw[Vap]at W⊢;obtain⟨z,E,D,M,I,Y,Z,hm⟩:=h.2 L N q U (by omega)
  cases M with
  |zero=>omega
  |succ M=>
   obtain⟨V,J,O⟩:=g.2 L M (q+ps.length) d (by omega);refine⟨z,E,.mk ⟨#[97,112,112]⟩ [] [D,V] D.loc,M,I,?_,by simp only[er,ers,Z,O],by omega⟩
   rw[Y,appM,g.1.yes d];simp only[Va0,J,Vad];rw[Vc2]
theorem JpJ(loc:Nat)(h:RdE x ps):RdE (.mk ⟨#[102,117,110]⟩ [n] [x] loc) ((⟨#[102,117,110]⟩,⟨#[102,117,110]⟩)::(⟨#[110,97,109,101]⟩,n)::(⟨#[45,62]⟩,⟨#[45,62]⟩)::ps):=fun L N q J hF W=>by
 obtain⟨E,_,M⟩:=J.cons;obtain⟨D,G,O⟩:=M.cons;obtain⟨d,_,U⟩:=O.cons;simp only[VaY]at W hF⊢
 cases N with
 |zero=>omega
 |succ N=>
  obtain⟨T,I,V⟩:=h L N (q+1+1+1) U (by rw[show q+1+1+1+ps.length=q+(ps.length+1+1+1) by omega];exact hF) (by omega);refine⟨.mk ⟨#[102,117,110]⟩ [(tkAt L (q+1)).s] [T] (tkAt L q).loc,?_,by simp only[er,ers,V,G]⟩
  rw[expM,Vaq (by omega),Jcp E];simp only[Va0];rw[(Jam D).1,(Jam D).2,(Jam d).1,(Jam d).2,I];simp only[Vad,Vaa,Vaf,VbG,Vbo];omega
variable {z:X}{rs:Ps}
theorem JpK{qs:Ps}(loc:Nat)(ae:RdE x ps)(g:RdE y qs)(k:RdE z rs):RdE (.mk ⟨#[105,102]⟩ [] [x,y,z] loc) ((⟨#[105,102]⟩,⟨#[105,102]⟩)::(ps++(⟨#[116,104,101,110]⟩,⟨#[116,104,101,110]⟩)::(qs++(⟨#[101,108,115,101]⟩,⟨#[101,108,115,101]⟩)::rs))):=fun L N q G hF hN=>by
 obtain⟨D,_,T⟩:=G.cons;obtain⟨aa,M⟩:=T.app;obtain⟨h,_,J⟩:=M.cons;obtain⟨ac,af⟩:=J.app;obtain⟨d,_,E⟩:=af.cons;simp only[VaY,Vap]at hN hF⊢
 cases N with
 |zero=>omega
 |succ N=>
  obtain⟨V,W,hx⟩:=ae L N (q+1) aa (Jcu h (by rfl) (by rfl) (by rfl)) (by omega);obtain⟨U,e4,Z⟩:=g L N (q+1+ps.length+1) ac (Jcu d (by rfl) (by rfl) (by rfl)) (by omega);obtain⟨I,O,Y⟩:=k L N (q+1+ps.length+1+qs.length+1) E (by rw[show q+1+ps.length+1+qs.length+1+rs.length=q+(ps.length+(qs.length+(rs.length+1)+1)+1) by omega];exact hF) (by omega);refine⟨.mk ⟨#[105,102]⟩ [] [V,U,I] (tkAt L q).loc,?_,by simp only[er,ers,hx,Z,Y]⟩
  rw[expM,Vaq (by omega),JaQ D (by rfl),Vaq (by simp),Jcp D];simp only[Va0,W,Vad];rw[(Jam h).1,(Jam h).2,e4];simp only[Vad];rw[(Jam d).1,(Jam d).2,O];simp only[Vad,Vaa,Vaf,VbG,Vbo];omega
variable {N:Nat}{kids:List X}
theorem JeE(h:RdE x ps){L:List Tk}{names:List BA}(M:MatL L q ((⟨#[110,97,109,101]⟩,n)::(⟨#[61]⟩,⟨#[61]⟩)::ps))(hF:Fol L (q+(ps.length+2)))(Z:2*ps.length+3<=N)(Y:n∉names):∃d,Jaz L N names kids q (-1)=some (names++ [n],kids++ [d],q+(ps.length+2),-1)/\er d=er x:=by
 obtain⟨D,U,O⟩:=M.cons;obtain⟨G,_,V⟩:=O.cons
 cases N with
 |zero=>omega
 |succ N=>
  obtain⟨d,J,W⟩:=h L N (q+1+1) V (by rw[show q+1+1+ps.length=q+(ps.length+2) by omega];exact hF) (by omega);refine⟨d,?_,W⟩
  have I:dupB names n (tkAt L q).loc (-1)= -1:=by
   unfold dupB;rw[Vaq];simp only[Vaz,not_and];intro h;obtain⟨m,T,E⟩:=Vci.1 h;rw[Vbs]at E;have:m=n:=Vbf (VbF.1 E);subst this;exact absurd T Y
  rw[Jaz];simp only[U];rw[(Jam D).1,(Jam D).2,I,(Jam G).1,(Jam G).2,J];simp only[Vad,Vaa,Vaf,VbG,Vbo];omega
theorem JpL{qs:Ps}(loc:Nat)(h:RdE x ps)(g:RdE y qs):RdE (.mk ⟨#[108,101,116]⟩ [n] [x,y] loc) ((⟨#[108,101,116]⟩,⟨#[108,101,116]⟩)::(((⟨#[110,97,109,101]⟩,n)::(⟨#[61]⟩,⟨#[61]⟩)::ps)++(⟨#[105,110]⟩,⟨#[105,110]⟩)::qs)):=fun L N q T hF hN=>by
 obtain⟨D,_,U⟩:=T.cons;obtain⟨E,I⟩:=U.app;obtain⟨Y,_,_⟩:=E.cons;obtain⟨d,_,G⟩:=I.cons;simp only[VaY,Vap]at hN hF d G⊢
 cases N with
 |zero=>omega
 |succ N=>
  obtain⟨W,O,Z⟩:=JeE (names:= []) (kids:= []) (N:=N) h E (by refine Jcu (x:=⟨#[105,110]⟩) ?_ (by rfl) (by rfl) (by rfl);rw[show q+1+(ps.length+2)=q+1+(ps.length+1+1) by omega];exact d) (by omega) (by simp);obtain⟨V,J,M⟩:=g L N (q+1+(ps.length+1+1)+1) G (by rw[show q+1+(ps.length+1+1)+1+qs.length=q+(ps.length+1+1+(qs.length+1)+1) by omega];exact hF) (by omega);refine⟨.mk ⟨#[108,101,116]⟩ [n] ([W]++ [V]) (tkAt L q).loc,?_,by simp only[VbR,er,ers,Z,M]⟩
  rw[expM,Vaq (by omega),JaQ D (by rfl),Vaq (by simp),JaQ D (by rfl),Vaq (by simp),Jcp D,JaQ Y (by rfl)];simp only[Va0,Vao,VaS,O,Vad,VaK];rw[show q+1+(ps.length+2)=q+1+(ps.length+1+1) by omega,(Jam d).1,(Jam d).2,J];simp only[Vad,Vaa,Vaf,VbG,Vbo];omega
def bt(names:List BA)(pf:Nat->Ps):Nat->Ps
 |0=> []
 |q+1=>bt names pf q++((if 0<q then[(⟨#[97,110,100]⟩,⟨#[97,110,100]⟩)]else[])++((⟨#[110,97,109,101]⟩,names.getD q ⟨#[]⟩)::(⟨#[61]⟩,⟨#[61]⟩)::pf q))
theorem Jga(names:List BA)(pf:Nat->Ps):∀(k i:Nat),i<=k->∃r,bt names pf k=bt names pf i++r
 |0,i,h=>⟨[],by rw[show i=0 by omega];simp⟩
 |k+1,i,h=>by
  by_cases e:i=k+1
  .subst e;exact⟨[],by simp⟩
  .obtain⟨r,d⟩:=Jga names pf k i (by omega);exact⟨_,by rw[bt,d,Val]⟩
section
variable {names:List BA}{vs:List X}{pf:Nat->Ps}{L:List Tk}{s:Nat}
theorem JlN(hl:names.length=vs.length)(T:names.Nodup)(hv:∀i (ag:i<vs.length),RdE vs[i] (pf i))(h:MatL L s (bt names pf names.length))(I:(tkAt L (s+(bt names pf names.length).length)).is=⟨#[105,110]⟩):
  ∀(d i M:Nat) (kids:List X),i+d=names.length->1<=i->ers kids=ers (vs.take i)->2*((bt names pf names.length).length-(bt names pf i).length)+2<=M->∃D,andM L M (names.take i) kids (s+(bt names pf i).length) (-1)=some (names,D,s+(bt names pf names.length).length,-1)/\ers D=ers vs:=by
 intro d
 induction d with
 |zero=>
  intro i M kids hi h1 E U;obtain rfl:i=names.length:=by omega
  cases M with
  |zero=>omega
  |succ M=>
   refine⟨kids,?_,?_⟩
   .rw[andM,JaQ I (by rfl),Vaq (by simp),VbA]
   .rw[E,hl,VbA]
 |succ d ih=>
  intro i M kids hi h1 E af;obtain⟨r,O⟩:=Jga names pf names.length (i+1) (by omega)
  have ae:(bt names pf (i+1)).length=(bt names pf i).length+((pf i).length+3):=by
   rw[bt,Vat (by omega)];simp only[Vap,VaY,Vbp];omega
  have ah:(bt names pf (i+1)).length<=(bt names pf names.length).length:=by rw[O,Vap];omega
  have G:MatL L s (bt names pf (i+1)):=by rw[O]at h;exact h.app.1
  have U:MatL L (s+(bt names pf i).length) ((⟨#[97,110,100]⟩,⟨#[97,110,100]⟩)::(⟨#[110,97,109,101]⟩,names.getD i ⟨#[]⟩)::(⟨#[61]⟩,⟨#[61]⟩)::pf i):=by
   rw[bt,Vat (by omega)]at G;exact G.app.2
  obtain⟨e1,_,Z⟩:=U.cons;have J:i<names.length:=by omega
  have W:names.getD i ⟨#[]⟩=names[i]:=by simp[Vev,J]
  have hF:Fol L (s+(bt names pf i).length+1+((pf i).length+2)):=by
   have hp:s+(bt names pf i).length+1+((pf i).length+2)=s+(bt names pf (i+1)).length:=by omega
   rw[hp]
   by_cases he:i+1=names.length
   .rw[he];exact Jcu I (by rfl) (by rfl) (by rfl)
   .obtain⟨r2,Y⟩:=Jga names pf names.length (i+1+1) (by omega);have V:MatL L s (bt names pf (i+1+1)):=by rw[Y]at h;exact h.app.1
    rw[bt,Vat (by omega)]at V;exact Jcu V.app.2.cons.1 (by rfl) (by rfl) (by rfl)
  have ac:names.getD i ⟨#[]⟩∉names.take i:=by
   rw[W];intro hm;obtain⟨j,hj,e⟩:=Vbk hm;simp only[Vc4]at hj;rw[Vcz]at e;rw[VcS,VaF]at T;exact T j i (by omega) J (by omega) e
  cases M with
  |zero=>omega
  |succ M=>
   obtain⟨x',e2,hx⟩:=JeE (names:=names.take i) (kids:=kids) (N:=M) (hv i (by omega)) Z hF (by omega) ac;have ht:names.take i++ [names.getD i ⟨#[]⟩]=names.take (i+1):=by rw[W,Vd9]
   obtain⟨D,e3,aa⟩:=ih (i+1) M (kids++ [x']) (by omega) (by omega) (by
    rw[Jb2,E];simp only[ers,hx];have:vs.take (i+1)=vs.take i++ [vs[i]'(by omega)]:=by rw[Vd9]
    rw[this,Jb2];simp only[ers]) (by omega)
   refine⟨D,?_,aa⟩
   rw[andM,Jcp e1];simp only[Va0,e2,Vad];rw[ht,show s+(bt names pf i).length+1+((pf i).length+2)=s+(bt names pf (i+1)).length by omega];exact e3
end
theorem JpO{names:List BA}{vs:List X}{pf:Nat->Ps}{qs:Ps}(loc:Nat)(I:names.length=vs.length)(V:names≠ [])(ag:names.Nodup)(M:∀i (al:i<vs.length),RdE vs[i] (pf i))(g:RdE y qs):RdE (.mk ⟨#[114,101,99]⟩ names (vs++ [y]) loc) ((⟨#[108,101,116]⟩,⟨#[108,101,116]⟩)::(⟨#[114,101,99]⟩,⟨#[114,101,99]⟩)::(bt names pf names.length++(⟨#[105,110]⟩,⟨#[105,110]⟩)::qs)):=fun L N q Y hF hN=>by
 obtain⟨D,_,af⟩:=Y.cons;obtain⟨e2,_,ah⟩:=af.cons;obtain⟨d,aa⟩:=ah.app;obtain⟨h,_,ai⟩:=aa.cons;have E:0<names.length:=Vew.2 V;simp only[VaY,Vap]at hN hF⊢;obtain⟨r,J⟩:=Jga names pf names.length 1 (by omega);have O:bt names pf 1=(⟨#[110,97,109,101]⟩,names.getD 0 ⟨#[]⟩)::(⟨#[61]⟩,⟨#[61]⟩)::pf 0:=by simp[bt]
 have G:(bt names pf 1).length=(pf 0).length+2:=by rw[O];rfl
 have am:(bt names pf 1).length<=(bt names pf names.length).length:=by rw[J,Vap];omega
 have Z:MatL L (q+1+1) ((⟨#[110,97,109,101]⟩,names.getD 0 ⟨#[]⟩)::(⟨#[61]⟩,⟨#[61]⟩)::pf 0):=by
  rw[<-O];rw[J]at d;exact d.app.1
 have aj:names.getD 0 ⟨#[]⟩=names[0]:=by simp[Vev,E]
 have ak:Fol L (q+1+1+((pf 0).length+2)):=by
  rw[<-G]
  by_cases he:1=names.length
  .have h0:bt names pf 1=bt names pf names.length:=by rw[<-he]
   rw[h0];exact Jcu h (by rfl) (by rfl) (by rfl)
  .obtain⟨r2,W⟩:=Jga names pf names.length (1+1) (by omega);have T:MatL L (q+1+1) (bt names pf (1+1)):=by rw[W]at d;exact d.app.1
   rw[bt,Vat (by omega)]at T;exact Jcu T.app.2.cons.1 (by rfl) (by rfl) (by rfl)
 cases N with
 |zero=>omega
 |succ N=>
  obtain⟨x',e4,hx⟩:=JeE (names:= []) (kids:= []) (N:=N) (M 0 (by omega)) Z ak (by omega) (by simp)
  obtain⟨ae,U,ac⟩:=JlN I ag M d h (names.length-1) 1 N [x'] (by omega) (by omega) (by
   have:vs.take 1= [vs[0]'(by omega)]:=by
    cases vs with
    |nil=>rw[Vbp]at I;omega
    |cons v vs=>rfl
   rw[this];simp only[ers,hx]) (by omega)
  obtain⟨y',e6,hy⟩:=g L N (q+1+1+(bt names pf names.length).length+1) ai (by rw[show q+1+1+(bt names pf names.length).length+1+qs.length=q+((bt names pf names.length).length+(qs.length+1)+1+1) by omega];exact hF) (by omega);refine⟨.mk ⟨#[114,101,99]⟩ names (ae++ [y']) (tkAt L q).loc,?_,by simp only[er,Jb2,ers,ac,hy]⟩
  have ht:names.take 1= [names.getD 0 ⟨#[]⟩]:=by
   rw[aj]
   cases names with
   |nil=>simp at E
   |cons n names=>rfl
  rw[expM,Vaq (by omega),JaQ D (by rfl),Vaq (by simp),JaQ D (by rfl),Vaq (by simp),Jcp D,Jcp e2];simp only[Va0];rw[show q+2=q+1+1 from rfl,e4];simp only[Vad,VaK];rw[<-ht,<-G,U];simp only[Vad];rw[(Jam h).1,(Jam h).2,e6];simp only[Vad,Vaa,Vaf,VbG,Vbo];omega
theorem JfD(D:OwE n)(h:LxE (bsL t) ps)(d:ps≠ []):LxE (bsL (n++⟨#[32,61,32]⟩++t)) ((⟨#[110,97,109,101]⟩,n)::(⟨#[61]⟩,⟨#[61]⟩)::ps):=by
 have:=JaR (Jhr D) (JaR Jrd h d) (by simp)
 have e:bsL (n++⟨#[32,61,32]⟩++t)=bsL n++32::(bsL ⟨#[61]⟩++32::bsL t):=by
  rw[Jah,Jah];simp only[bsL,Val];rfl
 rw[e];exact this
theorem Jih{names:List BA}{ts:List BA}{pf:Nat->Ps}(E:∀m,m∈names->OwE m)(ht:∀i,i<names.length->LxE (bsL (ts.getD i ⟨#[]⟩)) (pf i))(d:∀i,i<names.length->pf i≠ []):∀q,q<names.length->LxE (bsL (letT (⟨#[108,101,116,32]⟩++⟨#[114,101,99,32]⟩) names ts (q+1))) ((⟨#[108,101,116]⟩,⟨#[108,101,116]⟩)::(⟨#[114,101,99]⟩,⟨#[114,101,99]⟩)::bt names pf (q+1))
 |0,h=>by
  have D:names.getD 0 ⟨#[]⟩∈names:=by simp[Vev,h]
  have:=JaR (JaR Jkk Jpg (by simp)) (JfD (E _ D) (ht 0 h) (d 0 h)) (by simp)
  have e:bsL (letT (⟨#[108,101,116,32]⟩++⟨#[114,101,99,32]⟩) names ts (0+1))=(bsL ⟨#[108,101,116]⟩++32::bsL ⟨#[114,101,99]⟩)++32::bsL (names.getD 0 ⟨#[]⟩++⟨#[32,61,32]⟩++ts.getD 0 ⟨#[]⟩):=by
   rw[letT,Vaq (by omega),letT,Jah];rfl
  rw[e];simpa[bt]using this
 |q+1,h=>by
  have D:names.getD (q+1) ⟨#[]⟩∈names:=by simp[Vev,h]
  have G:=Jih E ht d q (by omega);have:=JaR G (JaR Jpc (JfD (E _ D) (ht _ h) (d _ h)) (by simp)) (by simp)
  have e:bsL (letT (⟨#[108,101,116,32]⟩++⟨#[114,101,99,32]⟩) names ts (q+1+1))=bsL (letT (⟨#[108,101,116,32]⟩++⟨#[114,101,99,32]⟩) names ts (q+1))++32::(bsL ⟨#[97,110,100]⟩++32::bsL (names.getD (q+1) ⟨#[]⟩++⟨#[32,61,32]⟩++ts.getD (q+1) ⟨#[]⟩)):=by
   rw[letT,Vat (by omega),Jah,Jah];simp only[Val];rfl
  rw[e]
  have I:(⟨#[108,101,116]⟩,⟨#[108,101,116]⟩)::(⟨#[114,101,99]⟩,⟨#[114,101,99]⟩)::bt names pf (q+1+1)=((⟨#[108,101,116]⟩,⟨#[108,101,116]⟩)::(⟨#[114,101,99]⟩,⟨#[114,101,99]⟩)::bt names pf (q+1))++([(⟨#[97,110,100]⟩,⟨#[97,110,100]⟩)]++((⟨#[110,97,109,101]⟩,names.getD (q+1) ⟨#[]⟩)::(⟨#[61]⟩,⟨#[61]⟩)::pf (q+1))):=by
   rw[bt,Vat (by omega)];rfl
  rw[I];exact this
structure Rdx(x:X)(ps:Ps):Prop where
 ne:ps≠ []
 lx:LxE (bsL (txt x)) ps
 rd:RdE x ps
 hd:JbR x.op=false->RdH x ps
 at_:JbL x.op=false->RdT x ps
theorem Jig(h:LxE (bsL t) ps):LxE (bsL (⟨#[40]⟩++t++⟨#[41]⟩)) ((⟨#[40]⟩,⟨#[40]⟩)::(ps++ [(⟨#[41]⟩,⟨#[41]⟩)])):=by
 have:=Jki 40 41 (by decide) (by decide) (by decide) (by decide) (by decide) h
 have e:bsL (⟨#[40]⟩++t++⟨#[41]⟩)=40::(bsL t++ [41]):=by
  rw[Jah,Jah];rfl
 rw[e];exact this
theorem JeF(h:WLx x):∃ps,Rdx x ps:=by
 induction h with
 |nam n loc E=>
  have r:=JpM n loc;exact⟨_,by simp,by rw[JcW];exact Jhr E,r.head.exp,fun _=>r.head,fun _=>r⟩
 |num n loc E=>
  have r:=JpN n loc;exact⟨_,by simp,by rw[JhO];exact Jpf E,r.head.exp,fun _=>r.head,fun _=>r⟩
 |fn n a loc E _ ih=>
  obtain⟨ps,R⟩:=ih;refine⟨_,by simp,?_,JpJ loc R.rd,fun h=>absurd (show JbR ⟨#[102,117,110]⟩=false from h) (by decide),fun h=>absurd (show JbL ⟨#[102,117,110]⟩=false from h) (by decide)⟩
  have:=JaR Jpe (JaR (Jhr E) (JaR Jpd R.lx R.ne) (by simp)) (by simp)
  have e:bsL (txt (.mk ⟨#[102,117,110]⟩ [n] [a] loc))=bsL ⟨#[102,117,110]⟩++32::(bsL n++32::(bsL ⟨#[45,62]⟩++32::bsL (txt a))):=by
   rw[JiE,Jah,Jah,Jah];simp only[Val];rfl
  rw[e];exact this
 |pair a b loc _ _ d D=>
  obtain⟨ps,R⟩:=d;obtain⟨qs,Q⟩:=D;have r:=JmT loc R.rd Q.rd;refine⟨_,by simp,?_,r.head.exp,fun _=>r.head,fun _=>r⟩
  have:=Jkj R.lx Q.lx Q.ne
  have e:bsL (txt (.mk ⟨#[112,97,105,114]⟩ [] [a,b] loc))=40::(bsL (txt a)++44::32::(bsL (txt b)++ [41])):=by
   rw[Jea,Jah,Jah,Jah,Jah];simp only[Val];rfl
  rw[e];exact this
 |ite a b c loc _ _ _ d D T=>
  obtain⟨ps,R⟩:=d;obtain⟨qs,Q⟩:=D;obtain⟨rs,S⟩:=T;refine⟨_,by simp,?_,JpK loc R.rd Q.rd S.rd,fun h=>absurd (show JbR ⟨#[105,102]⟩=false from h) (by decide),fun h=>absurd (show JbL ⟨#[105,102]⟩=false from h) (by decide)⟩
  have:=JaR Jre (JaR R.lx (JaR Jml (JaR Q.lx (JaR Jmk S.lx S.ne) (by simp)) (by simp[Q.ne])) (by simp)) (by simp[R.ne])
  have e:bsL (txt (.mk ⟨#[105,102]⟩ [] [a,b,c] loc))=bsL ⟨#[105,102]⟩++32::(bsL (txt a)++32::(bsL ⟨#[116,104,101,110]⟩++32::(bsL (txt b)++32::(bsL ⟨#[101,108,115,101]⟩++32::bsL (txt c))))):=by
   rw[JhN,Jah,Jah,Jah,Jah,Jah];simp only[Val];rfl
  rw[e];exact this
 |app a b loc _ _ d D=>
  obtain⟨ps,R⟩:=d;obtain⟨qs,Q⟩:=D
  obtain⟨L,Z,U⟩:∃L,RdH a L/\LxE (bsL (brk (JbR a.op) (txt a))) L:=by
   cases I:JbR a.op with
   |true=>exact⟨_,(JfM R.rd).head,Jig R.lx⟩
   |false=>exact⟨ps,R.hd I,R.lx⟩
  obtain⟨pb,M,W⟩:∃pb,RdT b pb/\LxE (bsL (brk (JbL b.op) (txt b))) pb:=by
   cases I:JbL b.op with
   |true=>exact⟨_,JfM Q.rd,Jig Q.lx⟩
   |false=>exact⟨qs,Q.at_ I,Q.lx⟩
  have r:=Jk5 loc Z M;have G:pb≠ []:=fun z=>by have:=M.1.ne;rw[z]at this;simp at this
  refine⟨_,by simp[G],?_,r.exp,fun _=>r,fun h=>absurd (show JbL ⟨#[97,112,112]⟩=false from h) (by decide)⟩
  have:=JaR U W G
  have e:bsL (txt (.mk ⟨#[97,112,112]⟩ [] [a,b] loc))=bsL (brk (JbR a.op) (txt a))++32::bsL (brk (JbL b.op) (txt b)):=by
   rw[JhM,Jah,Jah];simp only[Val];rfl
  rw[e];exact this
 |lt n a b loc E _ _ d D=>
  obtain⟨ps,R⟩:=d;obtain⟨qs,Q⟩:=D;refine⟨_,by simp,?_,JpL loc R.rd Q.rd,fun h=>absurd (show JbR ⟨#[108,101,116]⟩=false from h) (by decide),fun h=>absurd (show JbL ⟨#[108,101,116]⟩=false from h) (by decide)⟩
  have:=JaR Jkk (JaR (JfD E R.lx R.ne) (JaR Joa Q.lx Q.ne) (by simp)) (by simp)
  have e:bsL (txt (.mk ⟨#[108,101,116]⟩ [n] [a,b] loc))=bsL ⟨#[108,101,116]⟩++32::(bsL (n++⟨#[32,61,32]⟩++txt a)++32::(bsL ⟨#[105,110]⟩++32::bsL (txt b))):=by
   rw[JeU,Jah,Jah,Jah];simp only[Val];rfl
  rw[e];exact this
 |rc names vs y loc J G V E _ _ d D=>
  obtain⟨qs,Q⟩:=D
  have ch:∀i,∃ps,∀h:i<vs.length,Rdx vs[i] ps:=fun i=>by
   by_cases h:i<vs.length
   .obtain⟨ps,R⟩:=d vs[i] (Vbw h);exact⟨ps,fun _=>R⟩
   .exact⟨[],fun z=>absurd z h⟩
  have hk:0<names.length:=Vew.2 G;refine⟨_,by simp,?_,JpO (pf:=fun i=>Classical.choose (ch i)) loc J G V (fun i h=>(VbS (ch i) h).rd) Q.rd,fun h=>absurd (show JbR ⟨#[114,101,99]⟩=false from h) (by decide),fun h=>absurd (show JbL ⟨#[114,101,99]⟩=false from h) (by decide)⟩
  have Y:∀i (h:i<vs.length),(txts (vs++ [y])).getD i ⟨#[]⟩=txt vs[i]:=fun i h=>by
   rw[JcX _ _ (by simp;omega)];simp only[Vev];rw[Vak h,Vav h];rfl
  have aa:(txts (vs++ [y])).getD names.length ⟨#[]⟩=txt y:=by
   rw[JcX _ _ (by simp;omega),J];simp[Vev]
  have O:=Jih (names:=names) (ts:=txts (vs++ [y])) (pf:=fun i=>Classical.choose (ch i)) E (fun i h=>by rw[Y i (by omega)];exact(VbS (ch i) (by omega)).lx) (fun i h=>(VbS (ch i) (by omega)).ne) (names.length-1) (by omega);rw[show names.length-1+1=names.length by omega]at O;have:=JaR O (JaR Joa Q.lx Q.ne) (by simp)
  have e:bsL (txt (.mk ⟨#[114,101,99]⟩ names (vs++ [y]) loc))=bsL (letT (⟨#[108,101,116,32]⟩++⟨#[114,101,99,32]⟩) names (txts (vs++ [y])) names.length)++32::(bsL ⟨#[105,110]⟩++32::bsL (txt y)):=by
   rw[JhP names vs y loc J,Jah,Jah];simp only[Val];rfl
  rw[e];exact this
theorem Jox(v:Value)(w:World):Calls prog 279 #[v] w fun e w'=>e= .returned (.slice none 0 0)/\Kept w w':=by
 go_enter func279,ntmps279
 go_wp2
 go_ret
 exact⟨rfl,Kept.refl _⟩
theorem Jf6(v:Value)(w:World):Calls prog 296 #[.agg #[v]] w fun e w'=>e= .returned (.slice none 0 0)/\Kept w w':=by
 go_enter func296,ntmps296
 go_wp2
 go_ret
 exact⟨rfl,Vex _ _⟩
theorem Iah(v:Value)(w:World):(callFunc 296 #[v]).run prog w= .ok (.enter 296 #[v]) w:=by kernel_rfl
theorem Iak(v:Value)(w:World):(callFunc 279 #[v]).run prog w= .ok (.enter 279 #[v]) w:=by kernel_rfl
theorem Iai(v:Value)(w:World):(callFunc 281 #[v]).run prog w= .ok (.enter 281 #[v]) w:=by kernel_rfl
theorem Iaj(v:Value)(w:World):(callFunc 282 #[v]).run prog w= .ok (.enter 282 #[v]) w:=by kernel_rfl
theorem Iag(v:Value)(w:World):(callFunc 283 #[v]).run prog w= .ok (.enter 283 #[v]) w:=by kernel_rfl
variable {σ:St}{i:Nat}{ks:List TR}
theorem Jhl{k:Kd}(h:Jap σ (.nd k i)=some ks)(D:Rp σ (.nd k i) (.nd k i)):
  (k= .vr/\ks= []/\∃nm g,σ[i]? =some ⟨.vr nm g,none⟩)\/(∃x,k= .ls/\ks= [x]/\σ[i]? =some ⟨.ls x,none⟩)\/(∃x y,k= .pr/\ks= [x,y]/\σ[i]? =some ⟨.pr x y,none⟩)\/(∃x y,k= .ar/\ks= [x,y]/\σ[i]? =some ⟨.ar x y,none⟩):=by
 obtain⟨nk,rfl,d⟩:=D.rt;simp only[Jap,d]at h
 cases nk with
 |vr nm g=>simp only[Vaa]at h;exact .inl ⟨rfl,h.symm,nm,g,d⟩
 |ls x=>simp only[Vaa]at h;exact .inr (.inl ⟨x,rfl,h.symm,d⟩)
 |pr x y=>simp only[Vaa]at h;exact .inr (.inr (.inl ⟨x,y,rfl,h.symm,d⟩))
 |ar x y=>simp only[Vaa]at h;exact .inr (.inr (.inr ⟨x,y,rfl,h.symm,d⟩))
variable {nk:NK}
theorem SX.blk(J:SX w ad σ)(L:σ[i]? =some ⟨nk,none⟩)(I:ad[i]? =some b):∃o,w.heap[b]? =some o/\NBk ad nk .nilIface o:=by
 obtain⟨τ,E,h⟩:=J;obtain⟨sv,o,G,D,d⟩:=E.blk i nk none b (h.root L) I;rw[show sv=_ from D]at d;exact⟨o,G,d⟩
variable {r0:TR}
theorem JhU(D:Rp σ r0 r0)(d:RV ad r0 v0)(h:Jap σ r0=some []):
  ∃T u f rv,v0= .iface T u/\(Go.method 538 T u "schemes/infer.below").run prog w= .ok (f,rv) w/\(callFunc f #[rv]).run prog w= .ok (.enter f #[rv]) w/\Calls prog f #[rv] w fun e w'=>e= .returned (.slice none 0 0)/\Kept w w':=by
 cases r0 with
 |int=>exact⟨_,_,_,_,d,Ia1 _ w,Iah _ w,Jf6 _ w⟩
 |bool=>exact⟨_,_,_,_,d,Ia1 _ w,Iah _ w,Jf6 _ w⟩
 |nd k i=>
  obtain⟨b,E,rfl⟩:=d
  rcases Jhl h D with⟨rfl,_,_⟩|⟨x,_,e,_⟩|⟨x,y,_,e,_⟩|⟨x,y,_,e,_⟩
  .exact⟨_,_,_,_,rfl,Ia4 _ w,Iak _ w,Jox _ w⟩
  .cases e
  .cases e
  .cases e
theorem Jec{x:TR}(L:SX w ad σ)(J:Rp σ r0 r0)(I:RV ad r0 v0)(D:Jap σ r0=some [x]):
  ∃T u f rv d h,v0= .iface T u/\(Go.method 538 T u "schemes/infer.below").run prog w= .ok (f,rv) w/\(callFunc f #[rv]).run prog w= .ok (.enter f #[rv]) w/\RV ad x (.iface d h)/\Calls prog f #[rv] w fun e w'=>∃g,e= .returned (.slice (some ⟨g,0,none⟩) 1 1)/\w.heap.size<=g/\w'.heap[g]? =some (.cells #[.iface d h] 156 (0,0))/\Kept w w':=by
 cases r0 with
 |int=>simp[Jap]at D
 |bool=>simp[Jap]at D
 |nd k i=>
  obtain⟨b,M,rfl⟩:=I
  rcases Jhl D J with⟨_,e,_⟩|⟨x,rfl,e,O⟩|⟨x,y,_,e,_⟩|⟨x,y,_,e,_⟩
  .cases e
  .simp only[Vb5,Vbo]at e;subst e;obtain⟨o,G,p,E,rfl⟩:=L.blk O M;obtain⟨d,h,rfl⟩:=E.iface;refine⟨_,_,_,_,d,h,rfl,Ia2 _ w,Iai _ w,E,(Je3 w b d h G).mono ?_⟩
   rintro e w' ⟨rfl,rfl⟩;exact⟨_,rfl,Vau _,Vag _ _,Vex _ _⟩
  .cases e
  .cases e
theorem Jed{x y:TR}(O:SX w ad σ)(W:Rp σ r0 r0)(V:RV ad r0 v0)(L:Jap σ r0=some [x,y]):
  ∃T u f rv h D E d,v0= .iface T u/\(Go.method 538 T u "schemes/infer.below").run prog w= .ok (f,rv) w/\(callFunc f #[rv]).run prog w= .ok (.enter f #[rv]) w/\RV ad x (.iface h D)/\RV ad y (.iface E d)/\Calls prog f #[rv] w fun e w'=>∃g,e= .returned (.slice (some ⟨g,0,none⟩) 2 2)/\w.heap.size<=g/\w'.heap[g]? =some (.cells #[.iface h D,.iface E d] 156 (0,0))/\Kept w w':=by
 cases r0 with
 |int=>simp[Jap]at L
 |bool=>simp[Jap]at L
 |nd k i=>
  obtain⟨b,U,rfl⟩:=V
  rcases Jhl L W with⟨_,e,_⟩|⟨x,_,e,J⟩|⟨x,y,rfl,e,J⟩|⟨x,y,rfl,e,J⟩
  .cases e
  .cases e
  .simp only[Vb5,Vbo]at e;obtain⟨rfl,rfl⟩:=e;obtain⟨o,M,p,q,G,I,rfl⟩:=O.blk J U;obtain⟨h,D,rfl⟩:=G.iface;obtain⟨E,d,rfl⟩:=I.iface;refine⟨_,_,_,_,h,D,E,d,rfl,Ia3 _ w,Iaj _ w,G,I,(Je4 w b h D E d M).mono ?_⟩
   rintro e w' ⟨rfl,n,rfl⟩;exact⟨_,rfl,Vau _,Vag _ _,(Kept.drewN _ _).trans (Vex _ _)⟩
  .simp only[Vb5,Vbo]at e;obtain⟨rfl,rfl⟩:=e;obtain⟨o,M,p,q,G,I,rfl⟩:=O.blk J U;obtain⟨h,D,rfl⟩:=G.iface;obtain⟨E,d,rfl⟩:=I.iface;refine⟨_,_,_,_,h,D,E,d,rfl,Ia0 _ w,Iag _ w,G,I,(Jf7 w b h D E d M).mono ?_⟩
   rintro e w' ⟨rfl,n,rfl⟩;exact⟨_,rfl,Vau _,Vag _ _,(Kept.drewN _ _).trans (Vex _ _)⟩
theorem SX.kept(h:SX w ad σ)(d:Kept w w'):SX w' ad σ:=h.keep (fun _ _ _ D=>d.blk D)
variable {S:Nat->Prop}{g:Nat}{f:Nat×Nat}
theorem Kt.typs(h:Kt ad S w w'){D:Array Value}(E:w.heap[g]? =some (.cells D 156 f))(G: ¬S g):w'.heap[g]? =some (.cells D 156 f):=h.blk g _ E G (by
 rintro⟨I,e,f',d,ht⟩;simp only[VaT]at d;obtain⟨_,rfl,_⟩:=d
 rcases ht with e|e|e|e<;>cases e)
theorem JmU:∀(n:Nat) {σ:St} {r:TR} {d k:Int},Jc1 n σ r d=some k->0<=d-> -1<=k/\k<=d:=by
 intro n
 induction n with
 |zero=>intro σ r d k h;simp[Jc1]at h
 |succ n D=>
  intro σ r d k h G;simp only[Jc1,Vab]at h;obtain⟨r0,_,ks,_,h⟩:=h
  split at h
  .simp only[Vaa]at h;omega
  .split at h
   .simp only[Vaa]at h;omega
   .have:=D h (by omega);omega
  .split at h
   .simp only[Vaa]at h;omega
   .simp only[Vab]at h;obtain⟨a,E,h⟩:=h;have:=D E (by omega)
    split at h
    .simp only[Vaa]at h;omega
    .have:=D h (by omega);omega
  .simp at h
def SRx(n:Nat):Prop:=∀(σ:St) (r:TR) (d k:Int),Jc1 n σ r d=some k->0<=d->d<=1000000->∀(w:World) (ad:List Nat) (v:Value),SX w ad σ->RV ad r v->
 Calls prog 144 #[v,.int .i64 d] w fun e w'=>e= .returned (.int .i64 k)/\SX w' ad σ/\Kt ad (fun _=>False) w w'
theorem JpT:∀n,SRx n:=by
 intro n
 induction n with
 |zero=>intro σ r D k h;simp[Jc1]at h
 |succ n ih=>
  intro σ r D k h h0 h2 w ad v hs hv;simp only[Jc1,Vab]at h;obtain⟨r0,hr,ks,hk,h⟩:=h;have hr:=Jcg _ hr;have HK:Hid _:=JaU hr w v hs hv;have L:Hid (∀(r:TR) (D k:Int),Jc1 n σ r D=some k->0<=D->D<=1000000->∀(w:World) (v:Value),SX w ad σ->RV ad r v->Calls prog 144 #[v,.int .i64 D] w fun e w'=>e= .returned (.int .i64 k)/\SX w' ad σ/\Kt ad (fun _=>False) w w'):=fun r D k h h0 h2 w v=>ih σ r D k h h0 h2 w ad v
  have M:Hid _:=hr.root_of;have U:Hid _:=hk;obtain⟨aw,u,rfl⟩:=hv.iface;clear hs hr hv ih hk
  go_enter Vdb,VcW
  go_wp2_with fail
  refine Vac HK.out ?_
  rintro e w1 ⟨v0,rfl,O,af,ae⟩;clear HK;have Z:Hid _:=af;have aj:Hid _:=ae
  split at h
  .simp only[Vaa]at h;subst h;obtain⟨T0,u0,f,rv,rfl,hm,ac,d⟩:=JhU (w:=w1) M.out O U.out;have d:Hid _:=d;clear af ae O L M U
   go_wp2_with fail
   refine Vac d.out ?_
   rintro e V ⟨rfl,E⟩;have I:Hid _:=E;clear E d hm ac
   go_wp2
   refine VaO 1 ?_
   rw[VaB]
   go_wp2
   go_ret
   exact⟨rfl,SX.kept Z.out I.out,aj.out.trans (Kt.of_kept I.out)⟩
  .rename_i x;obtain⟨T0,u0,f,rv,T1,u1,rfl,hm,ac,hx,d⟩:=Jec Z.out M.out O U.out;have d:Hid _:=d;have HX:Hid _:=hx;clear af ae O M U hx
   go_wp2_with fail
   refine Vac d.out ?_
   rintro e V ⟨g,rfl,hg,J,E⟩;have I:Hid _:=E;clear E d hm ac;have d0:V.cell? ⟨g,0,none⟩=some (.iface T1 u1):=by simp[Vet,J]
   clear J hg;have Y:Hid _:=SX.kept Z.out I.out;have aa:Hid _:=aj.out.trans (Kt.of_kept I.out)
   split at h
   .rename_i ai;simp only[Vaa]at h;subst h
    go_wp2_with fail
    refine VaO 2 ?_
    rw[VaB]
    go_wp2
    go_ret
    exact⟨rfl,Y.out,aa.out⟩
   .rename_i ai;have G:Hid _:=L.out x (D-1) k h (by omega) (by omega) V _ Y.out HX.out;clear h L
    go_wp2_with fail
    refine VaO 2 ?_
    rw[VaB]
    go_wp2_with fail
    refine Vac G.out ?_
    rintro e w3 ⟨rfl,W,T⟩;have ag:Hid _:=W;have ah:Hid _:=aa.out.trans T;clear W T G
    go_wp2
    rw[VaB]
    go_wp2
    go_ret
    exact⟨rfl,ag.out,ah.out⟩
  .rename_i x y;obtain⟨T0,u0,f,rv,T1,u1,T2,u2,rfl,hm,ac,hx,hy,d⟩:=Jed Z.out M.out O U.out;have d:Hid _:=d;have HX:Hid _:=hx;have HY:Hid _:=hy;clear af ae O M U hx hy
   go_wp2_with fail
   refine Vac d.out ?_
   rintro e V ⟨g,rfl,hg,J,E⟩;have I:Hid _:=E;clear E d hm ac;have d0:V.cell? ⟨g,0,none⟩=some (.iface T1 u1):=by simp[Vet,J]
   have aq:Hid _:=J;clear J hg;have Y:Hid _:=SX.kept Z.out I.out;have aa:Hid _:=aj.out.trans (Kt.of_kept I.out)
   split at h
   .rename_i ai;simp only[Vaa]at h;subst h
    go_wp2_with fail
    refine VaO 3 ?_
    rw[VaB]
    go_wp2
    go_ret
    exact⟨rfl,Y.out,aa.out⟩
   .rename_i ai;simp only[Vab]at h;obtain⟨a,ha,h⟩:=h;have G:Hid _:=L.out x (D-1) a ha (by omega) (by omega) V _ Y.out HX.out;have ax:=JmU n ha (by omega);have av:a<=1000000:=by omega
    clear ha
    go_wp2_with fail
    refine VaO 3 ?_
    rw[VaB]
    go_wp2_with fail
    refine Vac G.out ?_
    rintro e w3 ⟨rfl,W,T⟩;have ag:Hid _:=W;have al:=T.typs aq.out (fun z=>z);have d1:w3.cell? ⟨g,1,none⟩=some (.iface T2 u2):=by simp[Vet,al]
    have ah:Hid _:=aa.out.trans T;clear W T G al
    split at h
    .rename_i au;simp only[Vaa]at h;subst h
     go_wp2_with fail
     rw[VaB]
     go_wp2
     go_ret
     exact⟨rfl,ag.out,ah.out⟩
    .rename_i au;have G:Hid _:=L.out y a k h (by omega) (by omega) w3 _ ag.out HY.out;clear h L
     go_wp2_with fail
     rw[VaB]
     go_wp2_with fail
     refine Vac G.out ?_
     rintro e w4 ⟨rfl,ak,am⟩;have an:Hid _:=ak;have ao:Hid _:=ah.out.trans am;clear ak am G
     go_wp2
     rw[VaB]
     go_wp2
     go_ret
     exact⟨rfl,an.out,ao.out⟩
  .simp at h
variable {r:TR}{big:Bool}
theorem JlJ(h:bigF σ r=some big)(w:World)(ad:List Nat)(v:Value)(I:SX w ad σ)(d:RV ad r v):Calls prog 110 #[.int .i64 120,v] w fun e w'=>e= .returned (.bool big)/\SX w' ad σ/\Kt ad (fun _=>False) w w':=by
 simp only[bigF,Vab,Vaa]at h;obtain⟨k,D,rfl⟩:=h;have J:Hid _:=JpT fuN σ r 120 k D (by omega) (by omega) w ad v I d;obtain⟨T,u,rfl⟩:=d.iface;clear I d D
 go_enter func110,ntmps110
 go_wp2_with fail
 refine Vac J.out ?_
 rintro e O ⟨rfl,E,G⟩;have L:Hid _:=E;have M:Hid _:=G;clear E G J
 go_wp2
 go_ret
 exact⟨rfl,L.out,M.out⟩
theorem Ic9(w:World):(zeroValue 377).run prog w= .ok (.agg #[]) w:=by kernel_rfl
def pvP(l:List TR):List (TR×Value):=l.map fun r=>(r,.agg #[])
theorem Jg7(r:TR)(l:List TR):∀i,(memT r l=true->∃j,askT r (pvP l) i=some (j,.agg #[]))/\(memT r l=false->askT r (pvP l) i=none):=by
 induction l with
 |nil=>intro i;simp[memT,pvP,askT]
 |cons c l D=>
  intro i;have h:=D (i+1)
  cases d:r.eqb c with
  |true=>simp[memT,pvP,askT,d]
  |false=>simpa[memT,pvP,askT,d]using h
variable {l:List TR}
theorem Jo8(h:SX w ad σ)(G:RV ad r v)(D:TMp w mb ad (pvP l)):
  (Instr.lookup 327 (.map (some mb)) v true).run prog w= .ok (.tuple #[.agg #[],.bool (memT r l)]) w:=by
 obtain⟨τ,I,_⟩:=h;have:=JdO I G D 327 377 _ underlying327 (Ic9 w);rw[this]
 cases d:memT r l with
 |true=>
  obtain⟨j,E⟩:=(Jg7 r l 0).1 d;rw[E]
 |false=>rw[(Jg7 r l 0).2 d]
theorem Jj7(h:SX w ad σ)(d:RV ad r v)(D:TMp w mb ad (pvP l)):Calls prog 199 #[.map (some mb),v] w fun e w'=>e= .returned (.bool (memT r l))/\Kept w w':=by
 have E:=Jo8 h d D;obtain⟨T,u,rfl⟩:=d.iface;clear h d D
 go_enter func199,ntmps199
 go_wp2
 go_ret
 exact⟨rfl,Vex _ _⟩
theorem Kt.mapset{d:Array MapEntry}{n:Nat}(E:w.heap[mb]? =some (.map d n))(o:Obj):Kt ad (fun q=>q=mb) w (Idd w mb o):=
 ⟨rfl,rfl,by simp[Idd],fun q _ D h _=>(Jau _ _ _ _ h).trans D⟩
theorem SX.mapSet(h:SX w ad σ){E:Array MapEntry}{n:Nat}(d:w.heap[mb]? =some (.map E n))(o:Obj):SX (Idd w mb o) ad σ:=by
 obtain⟨τ,G,D⟩:=h;exact⟨τ,G.mapSet d o,D⟩
theorem Jrm(h:SX w ad σ)(D:RV ad r v)(d:TMp w mb ad (pvP l))(I:memT r l=false):
  ∃w',(Instr.mapUpdate 327 (.map (some mb)) v (.agg #[])).run prog w= .ok () w'/\SX w' ad σ/\TMp w' mb ad (pvP (l++ [r]))/\Kt ad (fun q=>q=mb) w w':=by
 have G:=h;obtain⟨τ,E,_⟩:=h;refine⟨_,JgQ E D d 327 377 _ underlying327 ((Jg7 r l 0).2 I),G.mapSet d.mp _,?_,Kt.mapset d.mp _⟩
 have:=d.put D (.agg #[]);simpa[pvP]using this
theorem TMp.keptP{l:List (TR×Value)}(h:TMp w mb ad l)(k:Kept w w'):TMp w' mb ad l:=⟨k.blk h.mp,h.ok⟩
def SAdd(n:Nat):Prop:=∀(σ:St) (r:TR) (l d:List TR),JaL n σ r l=some d->∀(w:World) (ad:List Nat) (v:Value) (mb:Nat),SX w ad σ->RV ad r v->TMp w mb ad (pvP l)->
 Calls prog 222 #[.map (some mb),v] w fun e w'=>e= .returned (.tuple #[])/\SX w' ad σ/\TMp w' mb ad (pvP d)/\Kt ad (fun q=>q=mb) w w'
theorem JnD:∀n,SAdd n:=by
 intro n
 induction n with
 |zero=>intro σ r l Y h;simp[JaL]at h
 |succ n ih=>
  intro σ r l Y h w ad v mb hs hv I;simp only[JaL,Vab]at h;obtain⟨r0,hr,h⟩:=h;have hr:=Jcg _ hr;have HK:Hid _:=JaU hr w v hs hv;have U:Hid (∀(r:TR) (l Y:List TR),JaL n σ r l=some Y->∀(w:World) (v:Value),SX w ad σ->RV ad r v->TMp w mb ad (pvP l)->Calls prog 222 #[.map (some mb),v] w fun e w'=>e= .returned (.tuple #[])/\SX w' ad σ/\TMp w' mb ad (pvP Y)/\Kt ad (fun q=>q=mb) w w'):=fun r l Y h w v=>ih σ r l Y h w ad v mb
  have V:Hid _:=hr.root_of;have HM:Hid _:=I;obtain⟨aE,u,rfl⟩:=hv.iface;clear hs hr hv ih I
  go_enter func222,ntmps222
  go_wp2_with fail
  refine Vac HK.out ?_
  rintro e w1 ⟨v0,rfl,aj,aq,am⟩;clear HK;have Z:Hid _:=aq;have ac:Hid _:=am;have ao:=HM.out.kt am id;have ag:Hid _:=ao;have HH:Hid _:=Jj7 aq aj ao;have al:Hid _:=aj;obtain⟨T0,u0,rfl⟩:=aj.iface;clear aq am ao aj;have ax:Hid (∀{w1 w2:World},Kt ad (fun _=>False) w1 w2->Kt ad (fun q=>q=mb) w1 w2):=fun k=>k.mono (fun _ _ z=>z.elim)
  go_wp2_with fail
  refine Vac HH.out ?_
  rintro e aF ⟨rfl,ak⟩;have Z:Hid _:=SX.kept Z.out ak;have ag:Hid _:=ag.out.keptP ak;have ac:Hid _:=ac.out.trans (Kt.of_kept ak);clear HH ak
  split at h
  .rename_i J;simp only[Vaa]at h;subst h;rw[J]
   go_wp2
   exact VaI (Va3 Vdw _ _ _) rfl ⟨rfl,Z.out,ag.out,ax.out ac.out⟩
  .rename_i J;have J:memT r0 l=false:=by simpa using J
   rw[J];simp only[Vab]at h;obtain⟨ks,T,h⟩:=h;obtain⟨w2,hp,aB,az,au⟩:=Jrm Z.out al.out ag.out J;have aa:Hid _:=aB;have ai:Hid _:=az;have an:Hid _:=(ax.out ac.out).trans au;clear aB az au ag Z ac J
   split at h
   .simp only[Vaa]at h;subst h;obtain⟨T9,u9,f,rv,G,I,ah,d⟩:=JhU (w:=w2) V.out al.out T;simp only[Va7]at G;obtain⟨rfl,rfl⟩:=G;have d:Hid _:=d;clear U V T
    go_wp2_with fail
    refine Vac d.out ?_
    rintro e O ⟨rfl,D⟩;have L:Hid _:=D;clear D d I ah
    go_wp2
    refine VaO 1 ?_
    rw[VaB]
    go_wp2
    exact Vbi (Va3 Vdw _ _ _) rfl ⟨rfl,SX.kept aa.out L.out,ai.out.keptP L.out,an.out.trans (Kt.of_kept L.out)⟩
   .rename_i x;obtain⟨T9,u9,f,rv,T1,u1,G,I,ah,hx,d⟩:=Jec aa.out V.out al.out T;simp only[Va7]at G;obtain⟨rfl,rfl⟩:=G;have d:Hid _:=d;have HX:Hid _:=hx;have E:Hid _:=U.out x _ _ h;clear V T hx h U
    go_wp2_with fail
    refine Vac d.out ?_
    rintro e O ⟨g,rfl,hg,M,D⟩;have E:Hid _:=E.out O _ (SX.kept aa.out D) HX.out (ai.out.keptP D);have L:Hid _:=an.out.trans (Kt.of_kept D);clear D d I ah;have d0:O.cell? ⟨g,0,none⟩=some (.iface T1 u1):=by simp[Vet,M]
    clear M hg
    go_wp2_with fail
    refine VaO 2 ?_
    rw[VaB]
    go_wp2_with fail
    refine Vac E.out ?_
    rintro e w4 ⟨rfl,ae,af,W⟩;have HF:Hid _:=And.intro ae (And.intro af (L.out.trans W));clear ae W af E
    go_wp2
    rw[VaB]
    go_wp2
    exact Vbi (Va3 Vdw _ _ _) rfl ⟨rfl,HF.out⟩
   .rename_i x y;simp only[Vab]at h;obtain⟨l1,h1,h⟩:=h;obtain⟨T9,u9,f,rv,T1,u1,T2,u2,G,I,ah,hx,hy,d⟩:=Jed aa.out V.out al.out T;simp only[Va7]at G;obtain⟨rfl,rfl⟩:=G;have d:Hid _:=d;have HX:Hid _:=hx;have HY:Hid _:=hy;have E:Hid _:=U.out x _ _ h1;have HD:Hid _:=U.out y _ _ h;have HN:Hid (mb<w2.heap.size):=Vah ai.out.mp;clear V T hx hy h h1 U
    go_wp2_with fail
    refine Vac d.out ?_
    rintro e O ⟨g,rfl,hg,M,D⟩;have E:Hid _:=E.out O _ (SX.kept aa.out D) HX.out (ai.out.keptP D);have L:Hid _:=an.out.trans (Kt.of_kept D);have HG:Hid (¬g=mb):=fun z=>by have:=HN.out;have:=hg;omega
    clear D d I ah;have d0:O.cell? ⟨g,0,none⟩=some (.iface T1 u1):=by simp[Vet,M]
    have aD:Hid _:=M;clear M hg
    go_wp2_with fail
    refine VaO 3 ?_
    rw[VaB]
    go_wp2_with fail
    refine Vac E.out ?_
    rintro e w4 ⟨rfl,ae,af,W⟩;have ay:=W.typs aD.out HG.out;have d1:w4.cell? ⟨g,1,none⟩=some (.iface T2 u2):=by simp[Vet,ay]
    have HD:Hid _:=HD.out w4 _ ae HY.out af;have aC:Hid _:=L.out.trans W;clear ae W af E ay
    go_wp2_with fail
    rw[VaB]
    go_wp2_with fail
    refine Vac HD.out ?_
    rintro e w5 ⟨rfl,av,aA,aw⟩;have HF:Hid _:=And.intro av (And.intro aA (aC.out.trans aw));clear av aw aA HD
    go_wp2
    rw[VaB]
    go_wp2
    exact Vbi (Va3 Vdw _ _ _) rfl ⟨rfl,HF.out⟩
   .simp at h
end Go.Proofs.YtleenphlgbklmaaGreatDoor
