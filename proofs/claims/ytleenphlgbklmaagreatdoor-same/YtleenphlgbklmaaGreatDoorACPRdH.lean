import Derived.Test.YtleenphlgbklmaaGreatDoorACPRdD
set_option linter.unusedVariables false
set_option linter.unusedSimpArgs false
set_option maxRecDepth 100000
set_option maxHeartbeats 8000000
namespace Go.Proofs.YtleenphlgbklmaaGreatDoor
open Go.RowKit
open World renaming cell? → Vet
open Value renaming slice → Veu, iface → Vev
open Tryz
variable {g:Nat}
theorem Ji5{s:BA}{L:List Tk}(hE:PEnv s Jad L)(n:Nat)(hA:∀m,m<=n->SA s L m)(w:World)(rb k:Nat)(h:PAt w rb s L k)(x1 x:X)(K1 K2:Nat)(B1 B2:Int)
 (hX:Ja0 L n k (-1)=some (x1,K1,B1))(hY:appM L n x1 K1 B1=some (x,K2,B2)):
  Calls prog 133 #[.agg #[.pointer (some ⟨rb,0,none⟩)]] w fun e w'=>PRet (QX w x) w rb s L K2 B2 e w':=by
 obtain⟨w0,aB,ac,ag,h0,ax,a0⟩:=Ja6 h;have HB:Hid (PB L):=hE.pb;have HA:Hid _:=hA;have HC:Hid _:=hA n (Vau _) _ _ _ _ _ _ h0 hX;have HX:Hid _:=hX;have HY:Hid _:=hY;clear hA hX hY h
 go_enter func133,ntmps133
 go_wp2_with fail
 refine Vac HC.out ?_
 intro e w1 D;clear HC
 by_cases d:0<=bz L K1 B1
 .obtain⟨b,E,hx⟩:=D.2 d;rw[E];clear E D
  go_wp2
  exact⟨rfl,PRet.up (Kq.of_kp ac (fun _ z=>z.elim)) d (fun d=>(stk L n).ap _ _ _ _ _ _ HY.out d) ⟨b,rfl,hx⟩⟩
 obtain⟨hb,v,E,J,P1,kq⟩:=D.1 (by omega);clear d D;have ai:=(Kq.of_kp (S:=(·=rb)) ac (fun _ z=>z.elim)).trans kq;have aj:=(kq.block _ (Vah ag) (by show¬_;omega)).trans ag;have X1:PX w1 (fun b=>w.heap.size<=b) x1 v:=J.mono (fun b W _=>Vas ac.size W);obtain⟨T1,u1,rfl⟩:=J.iface;subst E;subst hb;have an:=(made L HB.out.sz n).a _ _ _ _ _ HX.out (by omega);clear J HX
 go_wp2_with fail
 go_loopg [3] n (fun m v wr=>∃(y:X) (I:Nat) (T:TypeId) (u:Value),v= .iface T u/\Hid (appM L m y I (-1)=some (x,K2,B2))/\PX wr (fun b=>w.heap.size<=b) y (.iface T u)/\PAt wr rb s L I/\Kq (·=rb) w wr/\wr.heap[w.heap.size]? =some (.cells #[.pointer (some ⟨rb,0,none⟩)] 178 (0,0))/\tw y+56<=400*I/\m<=n)
 case atStart=>exact⟨x1,K1,T1,u1,rfl,HY,X1,P1,ai,aj,by omega,Vau _⟩
 case round=>
  obtain⟨y,I,T,u,rfl,Y,XY,PY,KY,af,aw,az⟩:=hrel;clear X1 P1 ai aj HY an kq;have ay:wr.cell? ⟨w.heap.size,0,none⟩=some (.pointer (some ⟨rb,0,none⟩)):=by simp[Vet,af]
  cases gk with
  |zero=>
   have:=Y.out;simp[appM]at this
  |succ m=>
  have V:Hid _:=Jey hE PY
  cases O:(isM L ⟨#[110,97,109,101]⟩ I (-1)||isM L ⟨#[110,117,109]⟩ I (-1)||isM L ⟨#[40]⟩ I (-1))
  .have q:=Y.out;rw[appM,O]at q;simp only[Vao,VaS,Vaa,Vaf]at q;obtain⟨rfl,rfl,rfl⟩:=q;rw[O]at V;clear Y O
   go_wp2_with fail
   refine Vac V.out ?_
   rintro e w2 ⟨rfl,G⟩;have FX:Hid (PRet (QX w y) w rb s L I (-1) (.returned (.iface T u)) w2):=PRet.ret (Q:=QX w y) (XY.kp G) (PY.kp G) (KY.trans (Kq.of_kp G (fun _ z=>z.elim)));clear V
   go_wp2
   go_ret
   exact FX.out
  .have q:=Y.out;rw[appM,O]at q;simp only[Va0]at q;obtain⟨⟨z,Kz,Bz⟩,q1,q2⟩:=Vab.1 q;simp only at q2;rw[O]at V;have Q1:Hid _:=q1;have Q2:Hid _:=q2;clear Y O q q1 q2
   go_wp2_with fail
   refine Vac V.out ?_
   rintro e w2 ⟨rfl,G⟩;have P2:=PY.kp G;have aa:=KY.trans (Kq.of_kp (S:=(·=rb)) G (fun _ z=>z.elim));have Y2:=XY.kp G;have ae:=G.blk af (fun z=>z);have a2:w2.cell? ⟨w.heap.size,0,none⟩=some (.pointer (some ⟨rb,0,none⟩)):=by simp[Vet,ae]
   have HC:Hid _:=HA.out m (by omega) _ _ _ _ _ _ P2 Q1.out;clear V
   go_wp2_with fail
   refine Vac HC.out ?_
   intro e w3 D;clear HC
   by_cases d:0<=bz L Kz Bz
   .obtain⟨b,E,hx⟩:=D.2 d;rw[E];clear E D
    go_wp2
    exact⟨rfl,PRet.up aa d (fun d=>(stk L m).ap _ _ _ _ _ _ Q2.out d) ⟨b,rfl,hx⟩⟩
   obtain⟨hb,v,E,J,P3,kq⟩:=D.1 (by omega);clear d D;have ao:=aa.trans kq;have am:=(kq.block _ (Vah ae) (by show¬_;omega)).trans ae;have Z3:PX w3 (fun b=>w.heap.size<=b) z v:=J.mono (fun b W _=>Vas aa.size W);obtain⟨T4,u4,rfl⟩:=J.iface;have Y3:=Y2.kq (fun b W=>by have W:w.heap.size<=b:=W;omega) kq;subst E;subst hb;have aC:=((made L HB.out.sz m).a _ _ _ _ _ Q1.out (by omega)).2.2;have av:=HB.out.len;have aA:=P3.lt;have au:=JoF y;have aq:=JoF z;have HV:Hid _:=Jjn Y3 Z3 (by omega) (by omega)
   have ak:tw (.mk ⟨#[97,112,112]⟩ [] [y,z] y.loc)+56<=400*Kz:=by
    have e:tw (.mk ⟨#[97,112,112]⟩ [] [y,z] y.loc)=(tw y+16+(tw z+16))+16:=by simp[tw,tws]
    rw[e];omega
   clear J Y2 au aq
   go_wp2_with fail
   refine Vac HV.out ?_
   rintro e U ⟨rfl,Z⟩;have KF:=ao.trans (Kq.of_kp (S:=(·=rb)) Z (fun _ z=>z.elim));have M:Kp (fun _=>False) U (U.alloc (.cells #[.int .i64 (((max (dp y) (dp z):Nat):Int)+1),.iface T u,.iface T4 u4] 280)):=(Kp.refl _ _).alloc _;have ah:(U.alloc (.cells #[.int .i64 (((max (dp y) (dp z):Nat):Int)+1),.iface T u,.iface T4 u4] 280)).heap[U.heap.size]? =some (.cells #[.int .i64 (((max (dp y) (dp z):Nat):Int)+1),.iface T u,.iface T4 u4] 280 (0,0)):=Vag _ _;have al:=M.blk (Z.blk am (fun z=>z)) (fun z=>z);have XG:PX (U.alloc (.cells #[.int .i64 (((max (dp y) (dp z):Nat):Int)+1),.iface T u,.iface T4 u4] 280)) (fun b=>w.heap.size<=b) (.mk ⟨#[97,112,112]⟩ [] [y,z] y.loc) (.iface 276 (.pointer (some ⟨U.heap.size,0,none⟩))):=PX.app _ _ _ _ _ _ KF.size ah ((Y3.kp Z).kp M) ((Z3.kp Z).kp M);have PG:=(P3.kp Z).kp M;have KG:=KF.trans (Kq.of_kp (S:=(·=rb)) M (fun _ z=>z.elim));clear HV M ah Z3 Y3
   go_wp2
   go_roundg m
   case measure=>omega
   case rel=>exact⟨_,_,_,_,rfl,Q2,XG,PG,KG,al,ak,by omega⟩
structure RecSt(w wr:World)(rb:Nat)(s:BA)(L:List Tk)(names:List BA)(kids:List X)(nv vv:Value)(ps:List Value)(K:Nat):Prop where
 nm:wr.ownsRow w.heap.size 9 1 nv names.length (names.map Value.string)
 vl:wr.ownsRow w.heap.size 130 1 vv ps.length ps
 ln:ps.length=kids.length
 px:∀(j:Nat) (x:X) (p:Value),kids[j]? =some x->ps[j]? =some p->PX wr (fun b=>w.heap.size<=b/\nv.ownBlock≠some b/\vv.ownBlock≠some b) x p
 at':PAt wr rb s L K
 kq:Kq (·=rb) w wr
 rc:wr.heap[w.heap.size]? =some (.cells #[.pointer (some ⟨rb,0,none⟩)] 178 (0,0))
 wd:∀m,m∈names->Wd m
 rl:rb<w.heap.size
 db:dps kids<=200000
variable {B n:Nat}{e:TypeId}{v:Value}{xs:List Value}
theorem Jbm{w:World}(h:w.ownsRow B e 1 v n xs)(D:v.ownBlock=some g):B<=g/\g<w.heap.size/\∃G f,w.heap[g]? =some (.cells G e f):=by
 rcases h.2 with⟨rfl,_⟩|⟨M,cap,J,I,E,d,L⟩
 .cases D
 .subst I
  cases D
  exact⟨E,Vah d,_,_,d⟩
section
variable {w wr w':World}{rb:Nat}{s:BA}{L:List Tk}{names:List BA}{kids:List X}{nv vv:Value}{ps:List Value}{K K':Nat}
theorem RecSt.move(h:RecSt w wr rb s L names kids nv vv ps K)(k:Kq (·=rb) wr w')(p:PAt w' rb s L K'):RecSt w w' rb s L names kids nv vv ps K':=by
 have E:∀b,w.heap.size<=b->b<wr.heap.size->w'.heap[b]? =wr.heap[b]? :=fun b D d=>k.block b d (fun z=>by have z:b=rb:=z;have:=h.rl;omega)
 refine⟨?_,?_,h.ln,fun j x p D d=>(h.px j x p D d).keep (fun b I J=>E b I.1 J),p,h.kq.trans k,(E _ (Vau _) (Vah h.rc)).trans h.rc,h.wd,h.rl,h.db⟩
 .exact Jbp (P:=fun b=>w.heap.size<=b) (fun b D d=>E b D d) (fun g G=>(Jbm h.nm G).1) h.nm
 .exact Jbp (P:=fun b=>w.heap.size<=b) (fun b D d=>E b D d) (fun g G=>(Jbm h.vl G).1) h.vl
variable {e1 e2:TypeId}{v1 v2:Value}{n1 n2:Nat}{x1 x2:List Value}
theorem Jie(E:wr.ownsRow B e1 1 v1 n1 x1)(D:wr.ownsRow B e2 1 v2 n2 x2)(d:e1≠e2)(G:v1.ownBlock=some g):v2.ownBlock≠some g:=fun h=>by
 obtain⟨_,_,L,f,a⟩:=Jbm E G;obtain⟨_,_,J,I,b⟩:=Jbm D h;rw[a]at b;simp only[Vaa,VaT]at b;exact d b.2.1
variable {cap:Nat}
theorem RecSt.name(h:RecSt w wr rb s L names kids nv vv ps K)(t:BA)(ht:Wd t)(o:Obj)(U:w'.ownsRow w.heap.size 9 1 (.slice (some ⟨g,0,none⟩) (names.length+1) cap) (names.length+1) (names.map Value.string++ [.string t]))(J:(wr.alloc o).grownBy w' nv.ownBlock)(V:some g=nv.ownBlock\/(wr.alloc o).heap.size<=g):
  RecSt w w' rb s L (names++ [t]) kids (.slice (some ⟨g,0,none⟩) (names.length+1) cap) vv ps K/\wr.heap.size<=w'.heap.size:=by
 have W:∀b,b<wr.heap.size->(wr.alloc o).heap[b]? =wr.heap[b]? :=fun b G=>VaA _ _ _ G
 have G:∀b,b<wr.heap.size->nv.ownBlock≠some b->w'.heap[b]? =wr.heap[b]? :=fun b d D=>(J.block b (by simp;omega) (fun z=>D z.symm)).trans (W b d)
 have O:∀b,b<w.heap.size->nv.ownBlock≠some b:=fun b Z z=>by have:=(Jbm h.nm z).1;omega
 have T:wr.heap.size<=w'.heap.size:=Vas (by simp) J.size
 have Y:∀b,b<wr.heap.size->nv.ownBlock≠some b->(Veu (some ⟨g,0,none⟩) (names.length+1) cap).ownBlock≠some b:=fun b d D z=>by
  have z:some g=some b:=z
  cases z
  rcases V with e|e
  .exact D e.symm
  .simp at e;omega
 refine⟨⟨by simpa using U,?_,h.ln,fun j x p d D=> ?_,?_,?_,?_,?_,h.rl,h.db⟩,T⟩
 .exact Jbp (P:=fun b=>nv.ownBlock≠some b) (fun b d D=>G b D d) (fun g J=>Jie h.vl h.nm (by decide) J) h.vl
 .have q:=(h.px j x p d D).mono (Q:=fun b=>(w.heap.size<=b/\nv.ownBlock≠some b/\vv.ownBlock≠some b)/\(Veu (some ⟨g,0,none⟩) (names.length+1) cap).ownBlock≠some b) (fun b E M=>⟨E,Y b M E.2.1⟩);exact(q.keep (w':=w') (fun b E M=>G b M E.1.2.1)).mono (fun b E _=>⟨E.1.1,E.2,E.1.2.2⟩)
 .obtain⟨kd,e1,e2⟩:=h.at'.ex;exact⟨⟨kd,(G rb (Vah e1) (O rb h.rl)).trans e1,e2⟩,h.at'.lt,h.at'.nn⟩
 .exact⟨J.os.trans h.kq.os,J.output.trans h.kq.output,Vas h.kq.size T,fun b d D=>(G b (Va6 d h.kq.size) (O b d)).trans (h.kq.block b d D)⟩
 .refine(G _ (Vah h.rc) (fun z=> ?_)).trans h.rc
  obtain⟨_,_,cs,f,a⟩:=Jbm h.nm z;rw[h.rc]at a;simp only[Vaa,VaT]at a;exact absurd a.2.1 (by decide)
 .intro m I
  rcases Vbd.1 I with I|I
  .exact h.wd m I
  .simp at I;rw[I];exact ht
theorem RecSt.value(h:RecSt w wr rb s L names kids nv vv ps K)(x:X)(p:Value)(hx:PX wr (fun b=>w.heap.size<=b/\nv.ownBlock≠some b/\vv.ownBlock≠some b) x p)(o:Obj)(V:w'.ownsRow w.heap.size 130 1 (.slice (some ⟨g,0,none⟩) (ps.length+1) cap) (ps.length+1) (ps++ [p]))(I:(wr.alloc o).grownBy w' vv.ownBlock)(W:some g=vv.ownBlock\/(wr.alloc o).heap.size<=g)(hd:Go.Proofs.YtleenphlgbklmaaGreatDoor.dp x<=200000):
  RecSt w w' rb s L names (kids++ [x]) nv (.slice (some ⟨g,0,none⟩) (ps.length+1) cap) (ps++ [p]) K/\wr.heap.size<=w'.heap.size:=by
 have Y:∀b,b<wr.heap.size->(wr.alloc o).heap[b]? =wr.heap[b]? :=fun b G=>VaA _ _ _ G
 have G:∀b,b<wr.heap.size->vv.ownBlock≠some b->w'.heap[b]? =wr.heap[b]? :=fun b d D=>(I.block b (by simp;omega) (fun z=>D z.symm)).trans (Y b d)
 have M:∀b,b<w.heap.size->vv.ownBlock≠some b:=fun b aa z=>by have:=(Jbm h.vl z).1;omega
 have U:wr.heap.size<=w'.heap.size:=Vas (by simp) I.size
 have Z:∀b,b<wr.heap.size->vv.ownBlock≠some b->(Veu (some ⟨g,0,none⟩) (ps.length+1) cap).ownBlock≠some b:=fun b d D z=>by
  have z:some g=some b:=z
  cases z
  rcases W with e|e
  .exact D e.symm
  .simp at e;omega
 have O:∀{y q},PX wr (fun b=>w.heap.size<=b/\nv.ownBlock≠some b/\vv.ownBlock≠some b) y q->PX w' (fun b=>w.heap.size<=b/\nv.ownBlock≠some b/\(Veu (some ⟨g,0,none⟩) (ps.length+1) cap).ownBlock≠some b) y q:=fun hp=>by
  have q:=hp.mono (Q:=fun b=>(w.heap.size<=b/\nv.ownBlock≠some b/\vv.ownBlock≠some b)/\(Veu (some ⟨g,0,none⟩) (ps.length+1) cap).ownBlock≠some b) (fun b E J=>⟨E,Z b J E.2.2⟩);exact(q.keep (w':=w') (fun b E J=>G b J E.1.2.2)).mono (fun b E _=>⟨E.1.1,E.1.2.1,E.2⟩)
 refine⟨⟨?_,by simpa using V,by simp[h.ln],fun j y q d D=> ?_,?_,?_,?_,h.wd,h.rl,?_⟩,U⟩
 .exact Jbp (P:=fun b=>vv.ownBlock≠some b) (fun b d D=>G b D d) (fun g I=>Jie h.nm h.vl (by decide) I) h.nm
 .by_cases T:j<kids.length
  .rw[Vak T]at d;rw[Vak (by rw[h.ln];exact T)]at D;exact O (h.px j y q d D)
  .rw[VaU (by omega)]at d;rw[VaU (by rw[h.ln];omega)]at D
   have e:j-kids.length=0:=by
    have:=(Vae.1 d).1;simp at this;omega
   rw[h.ln]at D;rw[e]at d D;simp at d D;subst d;subst D;exact O hx
 .obtain⟨kd,e1,e2⟩:=h.at'.ex;exact⟨⟨kd,(G rb (Vah e1) (M rb h.rl)).trans e1,e2⟩,h.at'.lt,h.at'.nn⟩
 .exact⟨I.os.trans h.kq.os,I.output.trans h.kq.output,Vas h.kq.size U,fun b d D=>(G b (Va6 d h.kq.size) (M b d)).trans (h.kq.block b d D)⟩
 .refine(G _ (Vah h.rc) (fun z=> ?_)).trans h.rc
  obtain⟨_,_,cs,f,a⟩:=Jbm h.vl z;rw[h.rc]at a;simp only[Vaa,VaT]at a;exact absurd a.2.1 (by decide)
 .rw[Jb1];have:=h.db;omega
end
theorem IaJ:(prog.info? 130).map (fun i=>(i.zero,i.size,i.bytes))=some (some .nilIface,1,16):=by kernel_rfl
theorem Iac:t130.bytes=16:=by kernel_rfl
theorem Jfr(g j:Nat):(⟨g,0,none⟩:Addr).add j=⟨g,j,none⟩:=by
 unfold Addr.add
 split<;>simp_all
theorem JoC(n e t:Nat)(d:n<=100000):n<=(Question.appendCap n 0 e).cut t/\(Question.appendCap n 0 e).cut t<=maxLen:=by
 have h:(Question.appendCap n 0 e).cut t=n+t%(2^63-n):=rfl;have D:=Vd8 t (show 0<2^63-n by omega);rw[h];unfold maxLen;omega
theorem JkI(n:Nat)(w:World)(L:0<n)(d:n<=100000):Calls prog 227 #[.slice none 0 0,.int .i64 n] w fun e w'=>∃cap,e= .returned (.slice (some ⟨w.heap.size,0,none⟩) 0 cap)/\w'.ownsRow w.heap.size 130 1 (.slice (some ⟨w.heap.size,0,none⟩) 0 cap) 0 []/\Kp (fun _=>False) w w':=by
 obtain⟨M,G,O,J,D⟩:=VcX IaJ;have E:=Iac;have I:Builtin.nextslicecap n 0=n:=by unfold Builtin.nextslicecap;rw[Vat (by omega)]
 go_enter func227,ntmps227
 go_wp2_with fail
 .obtain⟨T,c2⟩:=JoC n 130 (w.tape w.drawn (Question.appendCap n 0 130)) d;generalize(Question.appendCap n 0 130).cut (w.tape w.drawn (Question.appendCap n 0 130))=cap at*
  go_ret
  refine⟨cap,rfl,⟨rfl,.inr ⟨w.heap.size,cap,_,rfl,Vau _,Vag _ _,VaN _,c2,?_,by simp⟩⟩,((Kp.refl _ _).alloc _).drew⟩
  simp[size_zeroCells];omega
theorem JmA(w:World)(ps:List Value)(T:TypeId)(u:Value)(gv cap:Nat)(hv:w.ownsRow 0 130 1 (.slice (some ⟨gv,0,none⟩) ps.length cap) ps.length ps)(h0:0<ps.length)(hn:ps.length<=1000)(aj:∀p,p∈ps->p.oneCell'=true):
  Calls prog 211 #[.slice (some ⟨w.heap.size+1,0,none⟩) 2 2] ((w.alloc (.cells #[.iface T u] 130)).alloc (.cells #[.slice (some ⟨gv,0,none⟩) ps.length cap,.slice (some ⟨w.heap.size,0,none⟩) 1 1] 339)) fun e w'=>∃g c,e= .returned (.slice (some ⟨g,0,none⟩) (ps.length+1) c)/\w'.ownsRow w.heap.size 130 1 (.slice (some ⟨g,0,none⟩) (ps.length+1) c) (ps.length+1) (ps++ [.iface T u])/\Kp (fun _=>False) w w':=by
 obtain⟨iX,ac,ak,ai,ah⟩:=VcX IaJ;have ae:Kp (fun _=>False) w (w.alloc (.cells #[.iface T u] 130)):=(Kp.refl _ _).alloc _;have V:Kp (fun _=>False) (w.alloc (.cells #[.iface T u] 130)) ((w.alloc (.cells #[.iface T u] 130)).alloc (.cells #[.slice (some ⟨gv,0,none⟩) ps.length cap,.slice (some ⟨w.heap.size,0,none⟩) 1 1] 339)):=(Kp.refl _ _).alloc _;have L:=V.blk (Vag w (.cells #[.iface T u] 130)) (fun z=>z)
 have O:((w.alloc (.cells #[.iface T u] 130)).alloc (.cells #[.slice (some ⟨gv,0,none⟩) ps.length cap,.slice (some ⟨w.heap.size,0,none⟩) 1 1] 339)).heap[w.heap.size+1]? =some (.cells #[.slice (some ⟨gv,0,none⟩) ps.length cap,.slice (some ⟨w.heap.size,0,none⟩) 1 1] 339 (0,0)):=by
  have:=Vag (w.alloc (.cells #[.iface T u] 130)) (.cells #[.slice (some ⟨gv,0,none⟩) ps.length cap,.slice (some ⟨w.heap.size,0,none⟩) 1 1] 339);simpa using this
 have G:=ae.trans V;clear ae V;generalize(w.alloc (.cells #[.iface T u] 130)).alloc (.cells #[.slice (some ⟨gv,0,none⟩) ps.length cap,.slice (some ⟨w.heap.size,0,none⟩) 1 1] 339)=W at*;have L:W.heap[w.heap.size]? =some (.cells #[.iface T u] 130 (0,0)):=L;have o0:W.cell? ⟨w.heap.size+1,0,none⟩=some (.slice (some ⟨gv,0,none⟩) ps.length cap):=by simp[Vet,O]
 have o1:W.cell? ⟨w.heap.size+1,1,none⟩=some (.slice (some ⟨w.heap.size,0,none⟩) 1 1):=by simp[Vet,O]
 have o2:W.cell? ⟨w.heap.size,0,none⟩=some (.iface T u):=by simp[Vet,L]
 have af:∀(j:Nat) (p:Value),ps[j]? =some p->W.cell? ⟨gv,j,none⟩=some p:=fun j p hj=>by
  have:=hv.cells (g:=gv) rfl j p hj;rw[Jfr]at this;exact G.cell this (fun z=>z)
 have am:Hid _:=af;have aq:w.heap.size+1<W.heap.size:=Vah O;clear af hv L O
 go_enter func211,ntmps211
 go_wp2_with fail
 refine VaO 3 ?_
 rw[VaB]
 go_wp2_with fail
 rw[VaB]
 go_wp2_with fail
 have HG:Hid _:=JkI (ps.length+1) W (by omega) (by omega);rw[VaB]
 go_wp2_with fail
 refine Vac HG.out ?_
 rintro e w1 ⟨c1,rfl,U,d⟩;have p0:=d.cell o0 (fun z=>z);have p1:=d.cell o1 (fun z=>z);have au:=d.size;have U:=Jbu U (show w.heap.size<=W.heap.size by omega);clear HG
 go_wp2_with fail
 refine VaO 3 ?_
 rw[VaB]
 go_wp2_with (at_builtin;refine Jat _ rfl _ _ 339 rfl w.heap.size 130 iX .nilIface 1 16 VdW ac ak ai ah rfl (by decide) _ _ _ rfl U ⟨gv,0,none⟩ ps.length cap ps rfl (by simp) (fun j p hj=>by rw[Jfr];exact d.cell (am.out j p hj) (fun z=>z)) aj (by unfold maxLen;omega) (by omega) (by omega) h0 ?_)
 intro g2 c2 D J I an;have Y:∀b,b<W.heap.size->D.heap[b]? =W.heap[b]? :=fun b hb=>(I.block b (by omega) (fun z=>by have z:some b=some W.heap.size:=z;simp at z;omega)).trans (d.block b hb (fun z=>z))
 have Z:∀(a:Addr) (p:Value),W.cell? a=some p->D.cell? a=some p:=fun a p h=>(VaH (Y a.block (Vaw _ _ h))).trans h
 have r1:=Z _ _ o1;have r2:=Z _ _ o2;have J:D.ownsRow w.heap.size 130 1 (.slice (some ⟨g2,0,none⟩) ps.length c2) ps.length ps:=by simpa using J
 have av:w1.heap.size<=D.heap.size:=I.size;have aa:D.os=W.os/\D.tape=W.tape/\D.output=W.output:=⟨I.os.trans d.os,I.tape.trans d.tape,I.output.trans d.output⟩
 clear I an Z p0 p1 o0 o1 U aj
 go_wp2_with fail
 rw[VaB]
 go_wp2_with (at_builtin;refine Jat _ rfl _ _ 339 rfl w.heap.size 130 iX .nilIface 1 16 VdW ac ak ai ah rfl (by decide) _ _ _ rfl J ⟨w.heap.size,0,none⟩ 1 1 [.iface T u] rfl rfl (fun q u M=>by match q,M with|0,M=>simp at M;subst M;rw[Jfr];exact r2) (fun u hu=>by simp at hu;subst hu;rfl) (by unfold maxLen;omega) (by omega) (by omega) (by decide) ?_)
 intro g3 c3 w3 ag E ao;have al:Kp (fun _=>False) w w3:=⟨E.os.trans (aa.1.trans G.os),E.tape.trans (aa.2.1.trans G.tape),E.output.trans (aa.2.2.trans G.output),Vas G.size (by have:=E.size;omega),fun b hb _=>((E.block b (by omega) (fun z=>by have:=(Jbm J z.symm).1;omega)).trans (Y b (by omega))).trans (G.block b hb (fun z=>z))⟩
 have HF:Hid _:=al;have HO:Hid _:=ag;clear E ao J ag Y al
 go_wp2_with fail
 rw[VaB]
 go_wp2
 go_ret
 exact⟨g3,c3,rfl,HO.out,HF.out⟩
theorem JmN{s:BA}{L:List Tk}(hE:PEnv s Jad L)(n:Nat)(hA:∀m,m<=n->SE s L m)(w:World)(rb k:Nat)(h:PAt w rb s L k)(hR:isM L ⟨#[114,101,99]⟩ k (-1)=true)(ac nms:List BA)(aa aj:List X)(y:X)(K1 K2 K3:Nat)(B1 B2 B3:Int)(pl:Nat)
 (hX:Jaz L n [] [] (k+1) (-1)=some (ac,aa,K1,B1))(hY:andM L n ac aa K1 B1=some (nms,aj,K2,B2))(hZ:expM L n (Jai L ⟨#[105,110]⟩ K2 B2) (Jab L ⟨#[105,110]⟩ K2 B2)=some (y,K3,B3)):
  Calls prog 176 #[.agg #[.pointer (some ⟨rb,0,none⟩)]] w fun e w'=>PRet (QX w (.mk ⟨#[114,101,99]⟩ nms (aj++ [y]) pl)) w rb s L K3 B3 e w':=by
 obtain⟨w0,bP,aU,aZ,h0,bn,a0⟩:=Ja6 h;have HB:Hid (PB L):=hE.pb;have HA:Hid _:=hA;have C1:=JaB hE h0 ⟨#[114,101,99]⟩ (.inl (by simp[Jad])) (by decide) (by decide);rw[(Jaw hR).1,(Jaw hR).2]at C1;have HC:Hid _:=C1;have HX:Hid _:=hX;have HY:Hid _:=hY;have HZ:Hid _:=hZ
 have aB:Hid (∀O W,0<=bz L O W->(∃m ns ks ac aa K1 B1,Jaz L m ns ks O W=some (ac,aa,K1,B1)/\andM L m ac aa K1 B1=some (nms,aj,K2,B2))->bz L K3 B3=bz L O W):=fun O W d ⟨m,ns,ks,ac,aa,K1,B1,e1,e2⟩=>by
  have Z:=(stk L m).bo _ _ _ _ _ _ _ _ e1 d;have T:=(stk L m).an _ _ _ _ _ _ _ _ e2 (by rw[Z];exact d);have q3:=Jay (q:=⟨#[105,110]⟩) (show 0<=bz L K2 B2 by rw[T,Z];exact d) (by decide);have q4:=(stk L n).ex _ _ _ _ _ hZ (by rw[q3,T,Z];exact d);rw[q4,q3,T,Z]
 have aI:Hid (∀O W m ns ks,andM L m ns ks O W=some (nms,aj,K2,B2)->0<=bz L O W->bz L K3 B3=bz L O W):=fun O W m ns ks e2 d=>by
  have T:=(stk L m).an _ _ _ _ _ _ _ _ e2 d;have q3:=Jay (q:=⟨#[105,110]⟩) (show 0<=bz L K2 B2 by rw[T];exact d) (by decide);have q4:=(stk L n).ex _ _ _ _ _ hZ (by rw[q3,T];exact d);rw[q4,q3,T]
 obtain⟨i9,br,bm,bB,be⟩:=VcX IaP;obtain⟨iX,bc,bi,bp,bC⟩:=VcX IaJ;clear hA hX hY hZ h C1
 go_enter func176,ntmps176
 go_wp2_with fail
 refine Vac HC.out ?_
 intro e w1 D;clear HC
 by_cases d:0<=bz L (k+1) (-1)
 .obtain⟨b,E,V⟩:=D.2 d;rw[E];clear E D
  go_wp2
  exact⟨rfl,PRet.up (Kq.of_kp aU (fun _ z=>z.elim)) d (fun d=>aB.out _ _ d ⟨n,_,_,_,_,_,_,HX.out,HY.out⟩) ⟨b,rfl,V⟩⟩
 obtain⟨_,v,E,I,P1,kq⟩:=D.1 (by omega);clear d D;subst I;subst E;have a8:=(Kq.of_kp (S:=(·=rb)) aU (fun _ z=>z.elim)).trans kq;have aD:=(kq.block _ (Vah aZ) (by show¬_;omega)).trans aZ;have bO:w.heap.size<w1.heap.size:=Vah aD;have R1:RecSt w w1 rb s L [] [] (.slice none 0 0) (.slice none 0 0) [] (k+1):=⟨VbI _ _ _ _,VbI _ _ _ _,rfl,fun j x p U _=>by simp at U,P1,a8,aD,fun m hm=>by simp at hm,bn,by simp[dps]⟩
 clear hR P1 a8 aD kq
 go_wp2_with fail
 go_loopg [3,4] n (fun m nv vv wr=>∃(names:List BA) (kids:List X) (ps:List Value) (J:Nat) (ac:List BA) (aa:List X) (K1:Nat) (B1:Int),RecSt w wr rb s L names kids nv vv ps J/\Hid (names.length=kids.length)/\names.length<=J/\Hid (Jaz L m names kids J (-1)=some (ac,aa,K1,B1)/\andM L m ac aa K1 B1=some (nms,aj,K2,B2))/\m<=n)
 case atStart=>exact⟨[],[],[],k+1,ac,aa,K1,B1,R1,rfl,VaN _,⟨HX.out,HY.out⟩,Vau _⟩
 case round=>
  obtain⟨names,kids,ps,J,bQ,bW,Kx,Bx,R,az,bw,HM,bL⟩:=hrel;clear R1 HX HY
  obtain⟨an,cn,rfl⟩:∃ao cap,u3= .slice ao names.length cap:=by
   rcases R.nm.2 with⟨e1,e2⟩|⟨g,cap,bg,e1,_⟩
   .exact⟨none,0,by rw[e1,e2]⟩
   .exact⟨_,cap,e1⟩
  obtain⟨av,cv,rfl⟩:∃ao cap,u4= .slice ao ps.length cap:=by
   rcases R.vl.2 with⟨e1,e2⟩|⟨g,cap,bg,e1,_⟩
   .exact⟨none,0,by rw[e1,e2]⟩
   .exact⟨_,cap,e1⟩
  cases gk with
  |zero=>
   have:=HM.out.1;simp[Jaz]at this
  |succ m=>
  have q:=HM.out.1;simp only[Jaz]at q;obtain⟨Ka,au⟩:∃K,Jai L ⟨#[110,97,109,101]⟩ J (-1)=K:=⟨_,rfl⟩
  obtain⟨Ba,aq⟩:∃B,dupB names (tkAt L J).s (tkAt L J).loc (Jab L ⟨#[110,97,109,101]⟩ J (-1))=B:=⟨_,rfl⟩
  rw[au,aq]at q;obtain⟨O,ak⟩:∃K,Jai L ⟨#[61]⟩ Ka Ba=K:=⟨_,rfl⟩
  obtain⟨W,am⟩:∃B,Jab L ⟨#[61]⟩ Ka Ba=B:=⟨_,rfl⟩
  rw[ak,am]at q;obtain⟨⟨x,Kc,Bc⟩,Z,T⟩:=Vab.1 q;simp only[Vaa,Vaf]at T;obtain⟨rfl,rfl,rfl,rfl⟩:=T;have F3:Hid (0<=bz L Kc Bc->bz L K3 B3=bz L Kc Bc):=aI.out _ _ _ _ _ HM.out.2;have F2:Hid (0<=bz L O W->bz L K3 B3=bz L O W):=JbM (fun d=>(stk L m).ex _ _ _ _ _ Z d) F3.out;have F1:Hid (0<=bz L Ka Ba->bz L K3 B3=bz L Ka Ba):=JbM (fun d=>by rw[<-ak,<-am];exact Jay d (by decide)) F2.out;have Q1:Hid _:=Z;have QA:Hid _:=HM.out.2;have C1:=Jip hE R.at' names _ (Jbu R.nm (VaN _));rw[au,aq]at C1;have aO:Hid _:=C1;have bI:Ka<=O:=by rw[<-ak];unfold Jai;split<;>omega
  have bv:Hid _:=ak;have bx:Hid _:=am
  have bk:Hid (Ba= -1->Ka=J+1):=fun M=>by
   cases hM:isM L ⟨#[110,97,109,101]⟩ J (-1)
   .rw[(JaO hM).2,JjF (by omega)]at aq;omega
   .rw[<-au,(Jaw hM).1]
  have ar:wr.cell? ⟨w.heap.size,0,none⟩=some (.pointer (some ⟨rb,0,none⟩)):=by simp[Vet,R.rc]
  clear q Z C1 ak am au aq HM
  go_wp2_with fail
  refine Vac aO.out ?_
  intro e w2 D;clear aO
  by_cases d:0<=bz L Ka Ba
  .obtain⟨b,E,V⟩:=D.2 d;rw[E];clear E D
   go_wp2
   exact⟨rfl,PRet.up R.kq d F1.out ⟨b,rfl,V⟩⟩
  obtain⟨M,v,E,I,P2,kq⟩:=D.1 (by omega);clear d D;obtain⟨I,bf⟩:=I;subst I;subst E;have bR:=bk.out M;subst M;have R2:=R.move kq P2;have bF:=HB.out.len;have bM:=P2.lt;have bH:w.heap.size<=w2.heap.size:=R2.kq.size;clear R ar P2 kq
  go_wp2_with (at_builtin;refine Jat _ rfl (.tmp 10) (.tmp 14) 34 rfl w.heap.size 9 i9 (.string ⟨#[]⟩) 1 16 Vd6 br bm bB be rfl (by decide) _ _ _ rfl (R2.nm.alloc _) ⟨w2.heap.size,0,none⟩ 1 1 [.string (tkAt L J).s] rfl rfl (fun q u hq=>by match q,hq with|0,hq=>simp at hq;subst hq;simp[Addr.add]) (fun u hu=>by simp at hu;subst hu;rfl) (by unfold maxLen;omega) (by omega) (by simp;omega) (by decide) ?_)
  intro g3 ai w3 aR aY aV;obtain⟨R3,bE⟩:=R2.name (tkAt L J).s bf _ aR aY (by simpa using aV);have a3:w3.cell? ⟨w.heap.size,0,none⟩=some (.pointer (some ⟨rb,0,none⟩)):=by simp[Vet,R3.rc]
  have C2:=JaB hE R3.at' ⟨#[61]⟩ (.inr (.inr ⟨61,rfl,rfl⟩)) (by decide) (by decide);rw[bv.out,bx.out]at C2;have aX:Hid _:=C2;clear C2 R2 aR aY aV
  go_wp2_with fail
  refine Vac aX.out ?_
  intro e w4 D;clear aX
  by_cases d:0<=bz L O W
  .obtain⟨b,E,V⟩:=D.2 d;rw[E];clear E D
   go_wp2
   exact⟨rfl,PRet.up R3.kq d F2.out ⟨b,rfl,V⟩⟩
  obtain⟨M,v,E,I,P4,kq⟩:=D.1 (by omega);clear d D;subst I;subst E;subst M;have R4:=R3.move kq P4;have a4:w4.cell? ⟨w.heap.size,0,none⟩=some (.pointer (some ⟨rb,0,none⟩)):=by simp[Vet,R4.rc]
  have bN:w3.heap.size<=w4.heap.size:=kq.size;have aW:Hid _:=HA.out m (by omega) _ _ _ _ _ _ R4.at' Q1.out;clear R3 a3 P4 kq
  go_wp2_with fail
  refine Vac aW.out ?_
  intro e w5 D;clear aW
  by_cases d:0<=bz L Kc Bc
  .obtain⟨b,E,V⟩:=D.2 d;rw[E];clear E D
   go_wp2
   exact⟨rfl,PRet.up R4.kq d F3.out ⟨b,rfl,V⟩⟩
  obtain⟨M,v,E,I,P5,kq⟩:=D.1 (by omega);clear d D;have R5:=R4.move kq P5;have aH:PX w5 (fun b=>w.heap.size<=b/\(Veu (some ⟨g3,0,none⟩) (names.length+1) ai).ownBlock≠some b/\(Veu av ps.length cv).ownBlock≠some b) x v:=I.mono (fun b U _=>⟨by omega,fun z=>by have:=(Jbm R4.nm z).2.1;omega,fun z=>by have:=(Jbm R4.vl z).2.1;omega⟩);obtain⟨T5,t5,rfl⟩:=I.iface;subst E;subst M;have bS:=((made L HB.out.sz m).e _ _ _ _ _ Q1.out (by omega))
  have a9:=P5.lt;have bu:=HB.out.dp Q1.out (by omega) a9;have bX:ps.length<=J:=by rw[R5.ln,<-az.out];exact bw
  have bJ:w4.heap.size<=w5.heap.size:=kq.size;have bV:w.heap.size<=w5.heap.size:=R5.kq.size;clear R4 a4 P5 kq I
  go_wp2_with (at_builtin;refine Jat _ rfl (.tmp 19) (.tmp 22) 339 rfl w.heap.size 130 iX .nilIface 1 16 VdW bc bi bp bC rfl (by decide) _ _ _ rfl (R5.vl.alloc _) ⟨w5.heap.size,0,none⟩ 1 1 [.iface T5 t5] rfl rfl (fun q u hq=>by match q,hq with|0,hq=>simp at hq;subst hq;simp[Addr.add]) (fun u hu=>by simp at hu;subst hu;rfl) (by unfold maxLen;omega) (by omega) (by simp;omega) (by decide) ?_)
  intro g6 ah w6 aG a1 aS;obtain⟨R6,bG⟩:=R5.value x _ aH _ aG a1 (by simpa using aS) bu;have a6:w6.cell? ⟨w.heap.size,0,none⟩=some (.pointer (some ⟨rb,0,none⟩)):=by simp[Vet,R6.rc]
  have HI:Hid _:=Jbz hE R6.at' ⟨#[97,110,100]⟩ (.inl (by simp[Jad]));clear R5 aH aG a1 aS
  go_wp2_with fail
  refine Vac HI.out ?_
  rintro e w' ⟨rfl,aQ⟩;rw[aQ];clear aQ w' HI
  cases hM:isM L ⟨#[97,110,100]⟩ Kc (-1)
  .have q:=QA.out;simp only[andM,hM,Vao,VaS,Vaa,Vaf]at q;obtain⟨rfl,rfl,rfl,rfl⟩:=q;obtain⟨Ke,aw⟩:∃K,Jai L ⟨#[105,110]⟩ Kc (-1)=K:=⟨_,rfl⟩
   obtain⟨Be,aA⟩:∃B,Jab L ⟨#[105,110]⟩ Kc (-1)=B:=⟨_,rfl⟩
   have z1:=HZ.out;rw[aw,aA]at z1;have F4:Hid (0<=bz L Ke Be->bz L K3 B3=bz L Ke Be):=fun d=>(stk L n).ex _ _ _ _ _ z1 d
   have Z1:Hid _:=z1;have C5:=JaB hE R6.at' ⟨#[105,110]⟩ (.inl (by simp[Jad])) (by decide) (by decide);rw[aw,aA]at C5;have a2:Hid _:=C5;clear QA F1 F2 F3 aB aI hM C5 z1 aw aA HZ
   go_wp2_with fail
   refine Vac a2.out ?_
   intro e w7 D;clear a2
   by_cases d:0<=bz L Ke Be
   .obtain⟨b,E,V⟩:=D.2 d;rw[E];clear E D
    go_wp2
    exact⟨rfl,PRet.up R6.kq d F4.out ⟨b,rfl,V⟩⟩
   obtain⟨M,v,E,I,P7,kq⟩:=D.1 (by omega);clear d D;subst I;subst E;subst M;have R7:=R6.move kq P7;have a7:w7.cell? ⟨w.heap.size,0,none⟩=some (.pointer (some ⟨rb,0,none⟩)):=by simp[Vet,R7.rc]
   have aN:Hid _:=HA.out n (Vau _) _ _ _ _ _ _ R7.at' Z1.out;clear R6 a6 P7 kq
   go_wp2_with fail
   refine Vac aN.out ?_
   intro e w8 D;clear aN
   by_cases d:0<=bz L K3 B3
   .obtain⟨b,E,V⟩:=D.2 d;rw[E];clear E D
    go_wp2
    exact⟨rfl,PRet.up R7.kq d (fun _=>rfl) ⟨b,rfl,V⟩⟩
   obtain⟨M,v,E,I,P8,kq⟩:=D.1 (by omega);clear d D;have G:=R7.move kq P8;have Y8:PX w8 (fun b=>w.heap.size<=b) y v:=I.mono (fun b U _=>Vas R7.kq.size U);obtain⟨T8,t8,rfl⟩:=I.iface;subst E;subst M;have bT:=HB.out.dp Z1.out (by omega) P8.lt;clear R7 a7 P8 kq I Z1 F4
   have aJ:∀p,p∈ps++ [.iface T5 t5]->p.oneCell'=true:=fun p hp=>by
    obtain⟨Y,hj,e⟩:=Vbk hp;have bD:Y<(kids++ [x]).length:=by rw[<-G.ln];exact hj
    obtain⟨bU,t,e2⟩:=(G.px Y (kids++ [x])[Y] p (by simp[bD]) (by rw[Vav hj,e])).iface;rw[e2];rfl
   have C9:=JmA w8 (ps++ [.iface T5 t5]) T8 t8 g6 ah (by have h:=Jbu G.vl (VaN w.heap.size);simpa using h) (by simp) (by simp;omega) aJ;have ax:(ps++ [Vev T5 t5]).length=ps.length+1:=by simp
   rw[ax]at C9;have aF:Hid _:=C9;have bK:Hid _:=ax;clear C9 aJ ax
   go_wp2_with fail
   refine Vac aF.out ?_
   rintro e w9 ⟨g9,c9,rfl,aT,aC⟩;clear aF;have al:((ps++ [Vev T5 t5])++ [Vev T8 t8]).length=ps.length+1+1:=by simp
   have aM:((ps++ [Vev T5 t5])++ [Vev T8 t8]).length=((kids++ [x])++ [y]).length:=by
    have h:=G.ln;simp only[Vap,VaY,Vbp]at h⊢;omega
   have ay:=Jc7 ((kids++ [x])++ [y]) ((ps++ [.iface T5 t5])++ [.iface T8 t8]) g9 c9 w9 (fun b=>w.heap.size<=b) aM (fun Y hj=>aT.cellAt Y (by rw[al]at hj;omega)) (fun Y yy p U h2=>by
    by_cases hj:Y<(kids++ [x]).length
    .rw[Vak hj]at U;rw[Vak (by rw[G.ln];exact hj)]at h2;exact((G.px Y yy p U h2).mono (fun b hP _=>hP.1)).kp aC
    .rw[VaU (by omega)]at U;rw[VaU (by rw[G.ln];omega),G.ln]at h2
     have e:Y-(kids++ [x]).length=0:=by
      have:=(Vae.1 U).1;simp only[VaY,Vbp]at this;omega
     rw[e]at U h2;simp at U h2;subst U;subst h2;exact Y8.kp aC) (by rw[al];omega) (by rw[Jb1];have:=G.db;omega)
   obtain⟨af,hD⟩:∃af,dps ((kids++ [x])++ [y])=af:=⟨_,rfl⟩
   rw[al,hD]at ay;have HD:Hid _:=hD;have bb:Hid _:=ay;clear ay al aM aT hD
   go_wp2_with fail
   refine Vac bb.out ?_
   rintro e ae ⟨rfl,bA⟩;clear bb;have aP:=aC.trans bA;have aE:Kp (fun _=>False) ae (ae.alloc (.cells #[.int .i64 ((af:Int)+1),.slice (some ⟨g3,0,none⟩) (names.length+1) ai,.slice (some ⟨g6,0,none⟩) (ps.length+1) ah,.iface T8 t8] 341)):=(Kp.refl _ _).alloc _;have a5:(ae.alloc (.cells #[.int .i64 ((af:Int)+1),.slice (some ⟨g3,0,none⟩) (names.length+1) ai,.slice (some ⟨g6,0,none⟩) (ps.length+1) ah,.iface T8 t8] 341)).heap[ae.heap.size]? =some (.cells #[.int .i64 ((af:Int)+1),.slice (some ⟨g3,0,none⟩) (names.length+1) ai,.slice (some ⟨g6,0,none⟩) (ps.length+1) ah,.iface T8 t8] 341 (0,0)):=Vag _ _;have ag:=aP.trans aE
   have XG:PX (ae.alloc (.cells #[.int .i64 ((af:Int)+1),.slice (some ⟨g3,0,none⟩) (names.length+1) ai,.slice (some ⟨g6,0,none⟩) (ps.length+1) ah,.iface T8 t8] 341)) (fun b=>w.heap.size<=b) (.mk ⟨#[114,101,99]⟩ (names++ [(tkAt L J).s]) ((kids++ [x])++ [y]) pl) (.iface 274 (.pointer (some ⟨ae.heap.size,0,none⟩))):=by
    have bs:af=max (dps (kids++ [x])) (dp y):=HD.out.symm.trans (Jb1 _ _);refine PX.rc _ _ _ _ _ _ _ _ (ps++ [.iface T5 t5]) (by simp) G.wd (Vas G.kq.size aP.size) (a5.trans (by rw[bs];rfl)) ?_ ?_ (fun g hg=>(Jbm G.nm hg).1) (fun g hg=>(Jbm G.vl hg).1) G.ln (by rw[Vap,Vap,az.out];rfl) (fun Y yy p U h2=>((G.px Y yy p U h2).mono (fun b hP _=>hP.1)).kp ag) (Y8.kp ag)
    .have:=Jbu G.nm (VaN _);exact Jbp (P:=fun _=>True) (fun b _ M=>ag.block b M (fun z=>z)) (fun _ _=>trivial) this
    .have:=Jbu G.vl (VaN _);exact Jbp (P:=fun _=>True) (fun b _ M=>ag.block b M (fun z=>z)) (fun _ _=>trivial) this
   have FX:Hid (PRet (QX w (.mk ⟨#[114,101,99]⟩ (names++ [(tkAt L J).s]) ((kids++ [x])++ [y]) pl)) w rb s L K3 (-1) (.returned (.iface 274 (.pointer (some ⟨ae.heap.size,0,none⟩)))) (ae.alloc (.cells #[.int .i64 ((af:Int)+1),.slice (some ⟨g3,0,none⟩) (names.length+1) ai,.slice (some ⟨g6,0,none⟩) (ps.length+1) ah,.iface T8 t8] 341))):=PRet.ret (Q:=QX w (.mk ⟨#[114,101,99]⟩ (names++ [(tkAt L J).s]) ((kids++ [x])++ [y]) pl)) XG (G.at'.kp ag) (G.kq.trans (Kq.of_kp (S:=(·=rb)) ag (fun _ z=>z.elim)));clear aE a5 XG ag Y8
   go_wp2
   go_ret
   exact FX.out
  .have q:=QA.out;simp only[andM,hM,Va0]at q;obtain⟨⟨ba,aK,Kd,Bd⟩,Z,T⟩:=Vab.1 q;simp only at T;have QN:Hid (Jaz L m (names++ [(tkAt L J).s]) (kids++ [x]) (Kc+1) (-1)=some (ba,aK,Kd,Bd)/\andM L m ba aK Kd Bd=some (nms,aj,K2,B2)):=⟨Z,T⟩
   have bj:=Jar hE.good a9 hM (by decide) (by decide);have aL:Hid _:=Jfg hE R6.at' bj;clear q Z T QA hM
   go_wp2_with fail
   refine Vac aL.out ?_
   intro e w7 D;clear aL
   by_cases d:0<=bz L (Kc+1) (-1)
   .obtain⟨b,E,V⟩:=D.2 d;rw[E];clear E D
    go_wp2
    exact⟨rfl,PRet.up R6.kq d (fun d=>aB.out _ _ d ⟨m,_,_,_,_,_,_,QN.out⟩) ⟨b,rfl,V⟩⟩
   obtain⟨_,v,E,I,P7,kq⟩:=D.1 (by omega);clear d D;subst I;subst E;have R7:=R6.move kq P7
   have bh:Hid ((names++ [(tkAt L J).s]).length=(kids++ [x]).length):=by
    show _=_;rw[Vap,Vap,az.out];rfl
   clear R6 a6 P7 kq
   go_wp2
   go_roundg m
   case measure=>omega
   case rel=>exact⟨_,_,_,_,_,_,_,_,R7,bh,by simp;omega,QN,by omega⟩
variable {w0:World}{k':Nat}{bad':Int}{x:X}
theorem PRet.lift{w w':World}{rb:Nat}{s:BA}{L:List Tk}{e:Ending}(hk:Kq (·=rb) w w0)(h:PRet (QX w0 x) w0 rb s L k' bad' e w'):PRet (QX w x) w rb s L k' bad' e w':=by
 refine⟨fun q=> ?_,fun q=>(h.2 q).before hk⟩
 obtain⟨E,v,d,I,D,G⟩:=h.1 q;exact⟨E,v,d,I.mono (fun b J _=>Vas hk.size J),D,hk.trans G⟩
theorem PRet.ways{w w':World}{rb:Nat}{s:BA}{L:List Tk}{e:Ending}(h:PRet (QX w x) w rb s L k' bad' e w'):(∃T u,e= .returned (.iface T u))\/(∃b:Nat,e=thrown (.iface 134 (.pointer (some ⟨b,0,none⟩)))):=by
 by_cases E:0<=bz L k' bad'
 .obtain⟨b,d,_⟩:=h.2 E;exact .inr ⟨b,d⟩
 .obtain⟨_,v,d,D,_⟩:=h.1 (by omega);obtain⟨T,u,rfl⟩:=D.iface;exact .inl ⟨T,u,d⟩
theorem JmC{s:BA}{L:List Tk}(W:PEnv s Jad L)(w:World)(rb k:Nat)(h:PAt w rb s L k)(U:isM L ⟨#[102,117,110]⟩ k (-1)=true)(x:X)(k':Nat)(bad':Int)
 (M:∀D,PAt D rb s L k->Calls prog 130 #[.agg #[.pointer (some ⟨rb,0,none⟩)]] D fun e w'=>PRet (QX D x) D rb s L k' bad' e w'):
  Calls prog 97 #[.agg #[.pointer (some ⟨rb,0,none⟩)]] w fun e w'=>PRet (QX w x) w rb s L k' bad' e w':=by
 obtain⟨w0,aa,T,Z,I,ac,Y⟩:=Ja6 h;have J:Hid _:=M w0 I;have O:Hid _:=Jbz W I ⟨#[102,117,110]⟩ (.inl (by simp[Jad]));rw[U]at O;clear M h I U
 go_enter Veo,Veb
 go_wp2_with fail
 refine Vac O.out ?_
 rintro e w' ⟨rfl,V⟩;rw[V];clear V w'
 go_wp2_with fail
 refine Vac J.out ?_
 intro e D d
 rcases d.ways with⟨ae,u,E⟩|⟨b,E⟩
 .rw[E]at d⊢;have G:Hid _:=d;clear d J
  go_wp2
  go_ret
  exact PRet.lift (Kq.of_kp T (fun _ z=>z.elim)) G.out
 .rw[E]at d⊢;have G:Hid _:=d;clear d J
  go_wp2
  exact⟨rfl,PRet.lift (Kq.of_kp T (fun _ z=>z.elim)) G.out⟩
theorem JpD{s:BA}{L:List Tk}(V:PEnv s Jad L)(w:World)(rb k:Nat)(h:PAt w rb s L k)(Y:isM L ⟨#[102,117,110]⟩ k (-1)=false)(Z:isM L ⟨#[105,102]⟩ k (-1)=true)(x:X)(k':Nat)(bad':Int)
 (O:∀D,PAt D rb s L k->Calls prog 131 #[.agg #[.pointer (some ⟨rb,0,none⟩)]] D fun e w'=>PRet (QX D x) D rb s L k' bad' e w'):
  Calls prog 97 #[.agg #[.pointer (some ⟨rb,0,none⟩)]] w fun e w'=>PRet (QX w x) w rb s L k' bad' e w':=by
 obtain⟨w0,af,U,aa,G,ac,a0⟩:=Ja6 h;have I:Hid _:=O w0 G;have T:Hid _:=Jbz V G ⟨#[102,117,110]⟩ (.inl (by simp[Jad]));rw[Y]at T;have W:Hid _:=Jbz V G ⟨#[105,102]⟩ (.inl (by simp[Jad]));rw[Z]at W;clear O h G Y Z
 go_enter Veo,Veb
 go_wp2_with fail
 refine Vac T.out ?_
 rintro e w' ⟨rfl,E⟩;rw[E];clear E w'
 go_wp2_with fail
 refine Vac W.out ?_
 rintro e w' ⟨rfl,E⟩;rw[E];clear E w'
 go_wp2_with fail
 refine Vac I.out ?_
 intro e D d
 rcases d.ways with⟨ae,u,M⟩|⟨b,M⟩
 .rw[M]at d⊢;have J:Hid _:=d;clear d I
  go_wp2
  go_ret
  exact PRet.lift (Kq.of_kp U (fun _ z=>z.elim)) J.out
 .rw[M]at d⊢;have J:Hid _:=d;clear d I
  go_wp2
  exact⟨rfl,PRet.lift (Kq.of_kp U (fun _ z=>z.elim)) J.out⟩
theorem Jim{s:BA}{L:List Tk}(M:PEnv s Jad L)(w:World)(rb k:Nat)(h:PAt w rb s L k)(Z:isM L ⟨#[102,117,110]⟩ k (-1)=false)(m1:isM L ⟨#[105,102]⟩ k (-1)=false)(V:isM L ⟨#[108,101,116]⟩ k (-1)=true)(x:X)(k':Nat)(bad':Int)
 (T:∀E,PAt E rb s L k->Calls prog 132 #[.agg #[.pointer (some ⟨rb,0,none⟩)]] E fun e w'=>PRet (QX E x) E rb s L k' bad' e w'):
  Calls prog 97 #[.agg #[.pointer (some ⟨rb,0,none⟩)]] w fun e w'=>PRet (QX w x) w rb s L k' bad' e w':=by
 obtain⟨w0,af,W,aa,G,ac,a0⟩:=Ja6 h;have I:Hid _:=T w0 G;have U:Hid _:=Jbz M G ⟨#[102,117,110]⟩ (.inl (by simp[Jad]));rw[Z]at U;have Y:Hid _:=Jbz M G ⟨#[105,102]⟩ (.inl (by simp[Jad]));rw[m1]at Y;have H2:Hid _:=Jbz M G ⟨#[108,101,116]⟩ (.inl (by simp[Jad]));rw[V]at H2;clear T h G Z m1 V
 go_enter Veo,Veb
 go_wp2_with fail
 refine Vac U.out ?_
 rintro e w' ⟨rfl,d⟩;rw[d];clear d w'
 go_wp2_with fail
 refine Vac Y.out ?_
 rintro e w' ⟨rfl,d⟩;rw[d];clear d w'
 go_wp2_with fail
 refine Vac H2.out ?_
 rintro e w' ⟨rfl,d⟩;rw[d];clear d w'
 go_wp2_with fail
 refine Vac I.out ?_
 intro e E D
 rcases D.ways with⟨ae,u,O⟩|⟨b,O⟩
 .rw[O]at D⊢;have J:Hid _:=D;clear D I
  go_wp2
  go_ret
  exact PRet.lift (Kq.of_kp W (fun _ z=>z.elim)) J.out
 .rw[O]at D⊢;have J:Hid _:=D;clear D I
  go_wp2
  exact⟨rfl,PRet.lift (Kq.of_kp W (fun _ z=>z.elim)) J.out⟩
theorem Ji7{s:BA}{L:List Tk}(M:PEnv s Jad L)(w:World)(rb k:Nat)(h:PAt w rb s L k)(Z:isM L ⟨#[102,117,110]⟩ k (-1)=false)(m1:isM L ⟨#[105,102]⟩ k (-1)=false)(V:isM L ⟨#[108,101,116]⟩ k (-1)=false)(x:X)(k':Nat)(bad':Int)
 (T:∀E,PAt E rb s L k->Calls prog 133 #[.agg #[.pointer (some ⟨rb,0,none⟩)]] E fun e w'=>PRet (QX E x) E rb s L k' bad' e w'):
  Calls prog 97 #[.agg #[.pointer (some ⟨rb,0,none⟩)]] w fun e w'=>PRet (QX w x) w rb s L k' bad' e w':=by
 obtain⟨w0,af,W,aa,G,ac,a0⟩:=Ja6 h;have I:Hid _:=T w0 G;have U:Hid _:=Jbz M G ⟨#[102,117,110]⟩ (.inl (by simp[Jad]));rw[Z]at U;have Y:Hid _:=Jbz M G ⟨#[105,102]⟩ (.inl (by simp[Jad]));rw[m1]at Y;have H2:Hid _:=Jbz M G ⟨#[108,101,116]⟩ (.inl (by simp[Jad]));rw[V]at H2;clear T h G Z m1 V
 go_enter Veo,Veb
 go_wp2_with fail
 refine Vac U.out ?_
 rintro e w' ⟨rfl,d⟩;rw[d];clear d w'
 go_wp2_with fail
 refine Vac Y.out ?_
 rintro e w' ⟨rfl,d⟩;rw[d];clear d w'
 go_wp2_with fail
 refine Vac H2.out ?_
 rintro e w' ⟨rfl,d⟩;rw[d];clear d w'
 go_wp2_with fail
 refine Vac I.out ?_
 intro e E D
 rcases D.ways with⟨ae,u,O⟩|⟨b,O⟩
 .rw[O]at D⊢;have J:Hid _:=D;clear D I
  go_wp2
  go_ret
  exact PRet.lift (Kq.of_kp W (fun _ z=>z.elim)) J.out
 .rw[O]at D⊢;have J:Hid _:=D;clear D I
  go_wp2
  exact⟨rfl,PRet.lift (Kq.of_kp W (fun _ z=>z.elim)) J.out⟩
theorem JkL{s:BA}{L:List Tk}(hE:PEnv s Jad L)(w:World)(rb k:Nat)(h:PAt w rb s L k)(G:isM L ⟨#[108,101,116]⟩ k (-1)=true)(hR:isM L ⟨#[114,101,99]⟩ (k+1) (-1)=true)(x:X)(k':Nat)(bad':Int)(hS:0<=bz L (k+1) (-1)->bz L k' bad'=bz L (k+1) (-1))
 (U:∀E,PAt E rb s L (k+1)->Calls prog 176 #[.agg #[.pointer (some ⟨rb,0,none⟩)]] E fun e w'=>PRet (QX E x) E rb s L k' bad' e w'):
  Calls prog 132 #[.agg #[.pointer (some ⟨rb,0,none⟩)]] w fun e w'=>PRet (QX w x) w rb s L k' bad' e w':=by
 obtain⟨w0,ai,aa,V,h0,ag,a0⟩:=Ja6 h;have T:=JaB hE h0 ⟨#[108,101,116]⟩ (.inl (by simp[Jad])) (by decide) (by decide);rw[(Jaw G).1,(Jaw G).2]at T;have W:Hid _:=T;have HS:Hid _:=hS;have ac:Hid _:=U;have af:Hid _:=hR;clear U h T G hS hR
 go_enter func132,ntmps132
 go_wp2_with fail
 refine Vac W.out ?_
 intro e w2 d;clear W
 by_cases M:0<=bz L (k+1) (-1)
 .obtain⟨b,D,hx⟩:=d.2 M;rw[D];clear D d
  go_wp2
  exact⟨rfl,PRet.up (Kq.of_kp aa (fun _ z=>z.elim)) M HS.out ⟨b,rfl,hx⟩⟩
 obtain⟨_,v,D,hv,O,kq⟩:=d.1 (by omega);clear M d;subst hv;subst D;have Y:=(Kq.of_kp (S:=(·=rb)) aa (fun _ z=>z.elim)).trans kq;have ae:=(kq.block _ (Vah V) (by show¬_;omega)).trans V;have a2:w2.cell? ⟨w.heap.size,0,none⟩=some (.pointer (some ⟨rb,0,none⟩)):=by simp[Vet,ae]
 have HI:Hid _:=Jbz hE O ⟨#[114,101,99]⟩ (.inl (by simp[Jad]));rw[af.out]at HI;have I:Hid _:=ac.out w2 O;clear kq O ac
 go_wp2_with fail
 refine Vac HI.out ?_
 rintro e w' ⟨rfl,Z⟩;rw[Z];clear Z w'
 go_wp2_with fail
 refine Vac I.out ?_
 intro e E d
 rcases d.ways with⟨ah,u,D⟩|⟨b,D⟩
 .rw[D]at d⊢;have J:Hid _:=d;clear d I
  go_wp2
  go_ret
  exact PRet.lift Y J.out
 .rw[D]at d⊢;have J:Hid _:=d;clear d I
  go_wp2
  exact⟨rfl,PRet.lift Y J.out⟩
theorem JkR{s:BA}{L:List Tk}(G:PEnv s Jad L):∀n,SE s L n/\SA s L n:=by
 intro n
 induction n using Nat.strongRecOn with
 |ind n ih=>
 cases n with
 |zero=>exact⟨fun w rb k x k' bad' _ h=>by simp[expM]at h,fun w rb k x k' bad' _ h=>by simp[Ja0]at h⟩
 |succ n=>
 have hA:=(ih n (by omega)).1;refine⟨?_,?_⟩
 .intro w rb k x k' bad' h d;rw[expM,Vaq (by omega)]at d
  cases hF:isM L ⟨#[102,117,110]⟩ k (-1)
  .simp only[hF,Vao,VaS]at d
   cases Z:isM L ⟨#[105,102]⟩ k (-1)
   .simp only[Z,Vao,VaS]at d
    cases Y:isM L ⟨#[108,101,116]⟩ k (-1)
    .simp only[Y,Vao,VaS]at d;obtain⟨⟨x1,I,M⟩,D,E⟩:=Vab.1 d;exact Ji7 G w rb k h hF Z Y x k' bad' (fun J O=>Ji5 G n (fun m hm=>(ih m (by omega)).2) J rb k O x1 x I k' M bad' D E)
    .simp only[Y,Va0]at d
     cases hR:isM L ⟨#[114,101,99]⟩ (k+1) (-1)
     .simp only[hR,Vao,VaS]at d;obtain⟨⟨ns,ks,I,M⟩,D,E⟩:=Vab.1 d;obtain⟨⟨y,k2,b2⟩,h3,T⟩:=Vab.1 E;simp only[Vaa,Vaf]at T;obtain⟨rfl,rfl,rfl⟩:=T
      cases n with
      |zero=>simp[Jaz]at D
      |succ m=>
       simp only[Jaz]at D;have e:dupB [] (tkAt L (k+1)).s (tkAt L (k+1)).loc (Jab L ⟨#[110,97,109,101]⟩ (k+1) (-1))=Jab L ⟨#[110,97,109,101]⟩ (k+1) (-1):=by simp[dupB]
       rw[e]at D;obtain⟨⟨x1,k3,b3⟩,h5,V⟩:=Vab.1 D;simp only[Vaa,Vaf]at V;obtain⟨rfl,rfl,rfl,rfl⟩:=V;exact Jim G w rb k h hF Z Y _ _ _ (fun J O=>JmG G (m+1) m hA (ih m (by omega)).1 J rb k O Y hR x1 y k3 k2 b3 b2 h5 h3)
     .simp only[hR,Va0]at d;obtain⟨⟨ns,ks,I,M⟩,D,E⟩:=Vab.1 d;obtain⟨⟨ac,ae,k2,b2⟩,h3,T⟩:=Vab.1 E;obtain⟨⟨y,k3,b3⟩,h5,V⟩:=Vab.1 T;simp only[Vaa,Vaf]at V;obtain⟨rfl,rfl,rfl⟩:=V;refine Jim G w rb k h hF Z Y _ _ _ (fun J O=>JkL G J rb k O Y hR _ _ _ (fun U=> ?_) (fun w2 p2=>JmN G n (fun m hm=>(ih m (by omega)).1) w2 rb (k+1) p2 hR ns ac ks ae y I k2 k3 M b2 b3 _ D h3 h5))
      rw[JbK U (by decide)]at hR
      cases hR
   .simp only[Z,Va0]at d;obtain⟨⟨x1,I,M⟩,D,E⟩:=Vab.1 d;obtain⟨⟨x2,k2,b2⟩,h3,T⟩:=Vab.1 E;obtain⟨⟨x3,k3,b3⟩,h5,V⟩:=Vab.1 T;simp only[Vaa,Vaf]at V;obtain⟨rfl,rfl,rfl⟩:=V;exact JpD G w rb k h hF Z _ _ _ (fun J O=>JpE G n hA J rb k O Z x1 x2 x3 I k2 k3 M b2 b3 D h3 h5)
  .simp only[hF,Va0]at d;obtain⟨⟨x1,I,M⟩,D,E⟩:=Vab.1 d;simp only[Vaa,Vaf]at E;obtain⟨rfl,rfl,rfl⟩:=E;exact JmC G w rb k h hF _ _ _ (fun J O=>JmD G n hA J rb k O hF x1 I M D)
 .intro w rb k x k' bad' h d;rw[Ja0]at d
  cases hN:isM L ⟨#[110,97,109,101]⟩ k (-1)
  .cases hU:isM L ⟨#[110,117,109]⟩ k (-1)
   .simp only[hN,hU,Vdv,Vao,VaS]at d;obtain⟨⟨x1,I,M⟩,D,E⟩:=Vab.1 d;simp only at E
    cases W:isM L ⟨#[40]⟩ k (-1)
    .rw[(JaO W).1,(JaO W).2]at D;have z0:bz L k ((tkAt L k).loc:Int)=(tkAt L k).loc:=Jha (by omega);have z1:=(stk L n).ex _ _ _ _ _ D (by rw[z0];omega);rw[z0]at z1;have aa:0<=bz L I M:=by rw[z1];omega
     rw[JbK aa (by decide)]at E;simp only[Vao,VaS,Vaa,Vaf]at E;obtain⟨rfl,rfl,rfl⟩:=E;exact JkG G w rb k h hN hU W _ _ _ ((Jay aa (by decide)).trans z1)
    .rw[(Jaw W).1,(Jaw W).2]at D
     cases hC:isM L ⟨#[44]⟩ I M
     .simp only[hC,Vao,VaS,Vaa,Vaf]at E;obtain⟨rfl,rfl,rfl⟩:=E;exact Jik G w rb k h W _ _ _ (JbM (fun U=>(stk L n).ex _ _ _ _ _ D U) (fun U=>Jay U (by decide))) (fun J O=>Jmx G n hA J rb (k+1) O x1 I M D hC)
     .simp only[hC,Va0]at E;obtain⟨⟨x2,k2,b2⟩,h3,T⟩:=Vab.1 E;simp only[Vaa,Vaf]at T;obtain⟨rfl,rfl,rfl⟩:=T;refine Jik G w rb k h W _ _ _ (fun U=> ?_) (fun J O=>Jmy G n hA J rb (k+1) _ O x1 x2 I k2 M b2 D hC h3)
      have z1:=(stk L n).ex _ _ _ _ _ D U;rw[JbK (by rw[z1];exact U) (by decide)]at hC
      cases hC
   .simp only[hN,hU,Bool.false_or,Va0,Vaa,Vaf]at d;obtain⟨rfl,rfl,rfl⟩:=d;rw[Ja4 hU];exact JkH G w rb k h hU
  .simp only[hN,Bool.true_or,Va0,Vaa,Vaf]at d;obtain⟨rfl,rfl,rfl⟩:=d;rw[Ja4 hN];exact Ji4 G w rb k h hN
end Go.Proofs.YtleenphlgbklmaaGreatDoor
