import Derived.Test.YtleenphlgbklmaaGreatDoorACPTt
set_option linter.unusedVariables false
set_option linter.unusedSimpArgs false
set_option maxRecDepth 100000
set_option maxHeartbeats 8000000
namespace Go.Proofs.YtleenphlgbklmaaGreatDoor
open Go.RowKit
open Kept renaming drew → Vet, alloc → Veu
open XKeep renaming kept → Vev
open World renaming cell? → Vew
open Tryz
variable {w w':World}{ad:List Nat}{dpt:Nat}{vx vy:Value}{r:Option (Nat×BA)}
variable {fl:Int}{m:BA}{y:X}{own:List Bd}{σ:St}
theorem k_let{ω:Type}{A:Nat->Addr}{B:Nat}{K:World->ω->Prop}(hK:KOk K){gv:Gv}{wv:Value}{f:X->List Bd->St->ω->Option (Oc (TR×St)×ω)}(hf:STf A B K gv fl wv f){x:X}{o:ω}{res:Oc (TR×St)×ω}(h:letF f m x y own σ o=some res){p:Option Addr}{gm:Nat}(hT:TI A B K w ad σ own gv p gm o){eb:Nat}(hb:w.heap[eb]? =some (.cells #[.int .i64 dpt,.string m,vx,vy] 273 (0,0)))(hx:PX w (fun _=>True) x vx)(hy:PX w (fun _=>True) y vy):
  Calls prog 168 #[.agg #[.int .i64 fl,wv],.iface 271 (.pointer (some ⟨eb,0,none⟩)),.agg #[.pointer p,.map (some gm)]] w fun e w'=>TyO A B K ad w e w' res.2 res.1:=by
 have q0:=fun W=>Icz (.pointer (some ⟨eb,0,none⟩)) W
 have q1:=fun W=>Icw (.pointer (some ⟨eb,0,none⟩)) W
 have q2:=fun W=>Icx (.pointer (some ⟨eb,0,none⟩)) W
 have q3:=fun W=>Icy (.pointer (some ⟨eb,0,none⟩)) W
 simp only[letF,Vab]at h;obtain⟨⟨r1,o1⟩,h1,h⟩:=h;obtain⟨hF,az⟩:=Jce w eb fl wv p gm hb;obtain⟨Tx,ux,rfl⟩:=hx.iface;obtain⟨Ty,E,rfl⟩:=hy.iface
 go_enter Vcu,Vcm
 go_wp2_with fail
 clear q0 q1 q2 q3;generalize(w.alloc (.cells #[.int .i64 fl,wv] 172)).alloc (.cells #[.pointer p,.map (some gm)] 244)=W at*;have ac:Kept w W.drew:=az.trans (Vet W);have hF:=hF.kept (Vet W);have aI:=hT.kept hK ac;have au:=PX.keepT (Vev ac) hy;have aq:Gk B ad ad w W.drew:=Gk.ofKt (Kt.of_kept ac)
 have HC:Hid (Calls prog 127 #[.agg #[.int .i64 fl,wv],.iface Tx ux,.agg #[.pointer p,.map (some gm)]] W.drew fun e D=>(∃a,e=thrown (.iface 407 (.pointer (some a)))/\TyO A B K ad w (thrown (.iface 407 (.pointer (some a)))) D res.2 res.1)\/(∃Z u2,e= .returned (.iface Z u2)/\D.cell? ⟨w.heap.size,0,none⟩=some (.int .i64 fl)/\D.cell? ⟨w.heap.size,1,none⟩=some wv/\D.cell? ⟨w.heap.size+1,0,none⟩=some (.pointer p)/\D.cell? ⟨w.heap.size+1,1,none⟩=some (.map (some gm))/\D.cell? ⟨eb,2,none⟩=some (.iface Tx ux)/\Hid (∃q G,r1= .ok q/\RV G q.1 (.iface Z u2)/\TI A B K D G q.2 own gv p gm o1/\Gk B ad G w D/\FX D w.heap.size (w.heap.size+1) eb fl wv p gm #[.int .i64 dpt,.string m,.iface Tx ux,.iface Ty E] 273/\PX D (fun _=>True) y (.iface Ty E)))):=by
  refine(hf.call h1 (hx.keepT (Vev ac)) aI).mono ?_
  rintro e D (⟨j,rfl,rfl,hk,hw⟩|⟨q,Z,u2,G,rfl,rfl,hv,af,hg⟩)
  .simp only[Vaa]at h;subst h;exact .inl ⟨_,rfl,rfl,hk,(aq.trans (Gk.ofKw hw)).kw⟩
  .have M:=hF.gk hg (by decide);obtain⟨d0,d1,d2,d3⟩:=M.c;exact .inr ⟨Z,u2,rfl,d0,d1,d2,d3,M.x (i:=2) rfl,q,G,rfl,hv,af,aq.trans hg,M,au.gk hg⟩
 obtain⟨c0,c1,c2,c3⟩:=hF.c;have c4:=hF.x (i:=2) (v:= .iface Tx ux) rfl;have aw:Hid _:=hf;have HH:Hid _:=h;clear hT aI hF az ac hx hy h1 hf h hb au aq
 go_region_held2 (fun w'=>w'.cell? ⟨w.heap.size,0,none⟩=some (.int .i64 fl)/\w'.cell? ⟨w.heap.size,1,none⟩=some wv/\w'.cell? ⟨w.heap.size+1,0,none⟩=some (.pointer p)/\w'.cell? ⟨w.heap.size+1,1,none⟩=some (.map (some gm))/\w'.cell? ⟨eb,2,none⟩=some (.iface Tx ux)) (go_keep) (first|(go_at_call 127;refine Vac HC.out ?_;rintro e D (⟨a,rfl,hE⟩|⟨Z,u2,rfl,d0,d1,d2,d3,d4,HR⟩);exact⟨rfl,hE⟩;clear HC))
 all_goals
  obtain⟨q,G,rfl,ao,af,aJ,M,aK⟩:=HR.out;have hh:=HH.out;simp only[Vab]at hh;obtain⟨bd,ax,σ1,al,hh⟩:=hh
  have ay:Hid (∀W2,Kept D W2->Calls prog 204 #[.agg #[.pointer p,.map (some gm)]] W2 fun e J=>∃mb,e= .returned (.map (some mb))/\J.cell? ⟨w.heap.size,0,none⟩=some (.int .i64 fl)/\J.cell? ⟨w.heap.size,1,none⟩=some wv/\J.cell? ⟨w.heap.size+1,0,none⟩=some (.pointer p)/\J.cell? ⟨w.heap.size+1,1,none⟩=some (.map (some gm))/\J.cell? ⟨eb,1,none⟩=some (.string m)/\J.cell? ⟨eb,3,none⟩=some (.iface Ty E)/\
    Hid (Calls prog 164 #[.iface Z u2,.map (some mb)] J fun e d=>e= .returned (.tuple #[])/\d.cell? ⟨w.heap.size,0,none⟩=some (.int .i64 fl)/\d.cell? ⟨w.heap.size,1,none⟩=some wv/\d.cell? ⟨w.heap.size+1,0,none⟩=some (.pointer p)/\d.cell? ⟨w.heap.size+1,1,none⟩=some (.map (some gm))/\d.cell? ⟨eb,1,none⟩=some (.string m)/\d.cell? ⟨eb,3,none⟩=some (.iface Ty E)/\Hid (TI A B K d G σ1 own gv p gm o1/\Gk B ad G w d/\FX d w.heap.size (w.heap.size+1) eb fl wv p gm #[.int .i64 dpt,.string m,.iface Tx ux,.iface Ty E] 273/\PX d (fun _=>True) y (.iface Ty E)))):=fun W2 ag=>by
   have aa:=af.kept hK ag;have aS:=M.kept ag;have aR:=PX.keepT (Vev ag) aK;have aP:Gk B ad G w W2:=aJ.trans (Gk.ofKt (Kt.of_kept ag));refine(JhW ax aa.sx aa.ch).mono ?_
   rintro e J ⟨mb,rfl,aV,aO,_,aG⟩;have aj:=Gk.ofKt (B:=B) aG;have U:=aS.gk aj (by decide);obtain⟨T,V,Y,e3⟩:=U.c;refine⟨mb,rfl,T,V,Y,e3,U.x (i:=1) rfl,U.x (i:=3) rfl,?_⟩
   refine(Jj0 fuN _ _ _ _ al J G _ mb aO ao aV).mono ?_
   rintro e d ⟨rfl,aT,_,aL⟩;have ak:=Gk.ofKt (B:=B) aL;have I:=U.gk ak (by decide);obtain⟨T,V,Y,e3⟩:=I.c;exact⟨rfl,T,V,Y,e3,I.x (i:=1) rfl,I.x (i:=3) rfl,aa.to (aj.trans ak) aT (WS.gen fuN aa.ws al) (hK _ _ _ _ (hK _ _ _ _ aa.k aG) aL),(aP.trans aj).trans ak,I,(aR.gk aj).gk ak⟩
  have aA:Hid _:=hh;have aD:Hid _:=ao;obtain⟨c0,c1,c2,c3⟩:=M.c;have c4:=M.x (i:=1) (v:= .string m) rfl;have c5:=M.x (i:=3) (v:= .iface Ty E) rfl;clear af aJ M aK ao hh ax al HR HH d0 d1 d2 d3 d4
  go_wp2_with fail
  refine Vac (ay.out D (Kept.refl _)) ?_
  rintro e J ⟨mb,rfl,d0,d1,d2,d3,d4,d5,HD⟩;clear ay c0 c1 c2 c3 c4 c5
  go_wp2_with fail
  refine Vac HD.out ?_
  rintro e d ⟨rfl,f0,f1,f2,f3,f4,f5,HR⟩;clear HD d0 d1 d2 d3 d4 d5 f0 f1 f2 f3 f4 f5;obtain⟨aM,aH,U,aB⟩:=HR.out;have ae:Kept d d.drew:=Vet _;have aF:=aM.kept hK ae;have I:=U.kept ae;have av:=PX.keepT (Vev ae) aB;have aN:Gk B ad G w d.drew:=aH.trans (Gk.ofKt (Kt.of_kept ae))
  have HC:Hid (Calls prog 166 #[.agg #[.pointer p,.map (some gm)],.string m,.iface Z u2] d.drew fun e O=>∃q,e= .returned (.agg #[.pointer (some ⟨q,0,none⟩),.map (some gm)])/\O.cell? ⟨w.heap.size,0,none⟩=some (.int .i64 fl)/\O.cell? ⟨w.heap.size,1,none⟩=some wv/\O.cell? ⟨w.heap.size+1,0,none⟩=some (.pointer p)/\O.cell? ⟨w.heap.size+1,1,none⟩=some (.map (some gm))/\O.cell? ⟨eb,1,none⟩=some (.string m)/\O.cell? ⟨eb,3,none⟩=some (.iface Ty E)/\
    Hid (Calls prog 127 #[.agg #[.int .i64 fl,wv],.iface Ty E,.agg #[.pointer (some ⟨q,0,none⟩),.map (some gm)]] O fun e L=>(∃a,e=thrown (.iface 407 (.pointer (some a)))/\TyO A B K ad w (thrown (.iface 407 (.pointer (some a)))) L res.2 res.1)\/(∃T3 u3,e= .returned (.iface T3 u3)/\L.cell? ⟨w.heap.size,0,none⟩=some (.int .i64 fl)/\L.cell? ⟨w.heap.size,1,none⟩=some wv/\L.cell? ⟨w.heap.size+1,0,none⟩=some (.pointer p)/\L.cell? ⟨w.heap.size+1,1,none⟩=some (.map (some gm))/\L.cell? ⟨eb,1,none⟩=some (.string m)/\L.cell? ⟨eb,3,none⟩=some (.iface Ty E)/\Hid (TyO A B K ad w (.returned (.iface T3 u3)) L res.2 res.1)))):=by
   refine(JiI d.drew p gm m _ _).mono ?_
   rintro e O ⟨qb,rfl,hq,ai⟩;have ah:=I.kept ai;obtain⟨T,V,Y,e3⟩:=ah.c;refine⟨qb,rfl,T,V,Y,e3,ah.x (i:=1) rfl,ah.x (i:=3) rfl,?_⟩
   have aQ:=(aF.kept hK ai).with hq aD.out;have aE:=aN.trans (Gk.ofKt (Kt.of_kept ai));obtain⟨r6,o6⟩:=res;refine(STf.call aw.out aA.out (av.keepT (Vev ai)) aQ).mono ?_
   rintro e L (⟨j,rfl,rfl,hk,hw⟩|⟨q3,T3,u3,aW,rfl,rfl,aU,an,aC⟩)
   .exact .inl ⟨_,rfl,rfl,hk,(aE.trans (Gk.ofKw hw)).kw⟩
   .have am:=ah.gk aC (by decide);obtain⟨T,V,Y,e3⟩:=am.c;exact .inr ⟨T3,u3,rfl,T,V,Y,e3,am.x (i:=1) rfl,am.x (i:=3) rfl,_,_,rfl,aU,an.sx,an.ws,an.k,aE.trans aC⟩
  obtain⟨c0,c1,c2,c3⟩:=I.c;have c4:=I.x (i:=1) (v:= .string m) rfl;have c5:=I.x (i:=3) (v:= .iface Ty E) rfl;clear ae aF aN I av aM aH U aB HR aD aA aw
  go_wp2_with fail
  go_region_held2 (fun w'=>w'.cell? ⟨w.heap.size,0,none⟩=some (.int .i64 fl)/\w'.cell? ⟨w.heap.size,1,none⟩=some wv/\w'.cell? ⟨w.heap.size+1,0,none⟩=some (.pointer p)/\w'.cell? ⟨w.heap.size+1,1,none⟩=some (.map (some gm))/\w'.cell? ⟨eb,1,none⟩=some (.string m)/\w'.cell? ⟨eb,3,none⟩=some (.iface Ty E)) (go_keep) (first|(go_at_call 166;refine Vac HC.out ?_;rintro e O ⟨q,rfl,d0,d1,d2,d3,d4,d5,HD⟩;clear HC)|(go_at_call 127;refine Vac HD.out ?_;rintro e L (⟨a,rfl,hE⟩|⟨T3,u3,rfl,f0,f1,f2,f3,f4,f5,HR⟩);exact⟨rfl,hE⟩;clear HD))
  all_goals
   go_wp2
   go_ret
   exact HR.out
section
variable {ω:Type}(tl:List BA->Nat->List TR->St->ω->Option (Oc Unit×ω))(A:Nat->Addr)(B:Nat)(K:World->ω->Prop)(gv:Gv)(fuel:Nat)(wv:Value)
def SGr(f:X->List Bd->St->ω->Option (Oc (TR×St)×ω)):Prop:=∀(names:List BA) (vs:List X) (y:X) (loc:Nat) (own:List Bd) (σ:St) (o:ω) (res:Oc (TR×St)×ω),recF tl f fuel names vs y own σ o=some res->∀(w:World) (ad:List Nat) (eb:Nat) (p:Option Addr) (gm:Nat),PX w (fun _=>True) (.mk ⟨#[114,101,99]⟩ names (vs++ [y]) loc) (.iface 274 (.pointer (some ⟨eb,0,none⟩)))->TI A B K w ad σ own gv p gm o->
 Calls prog 206 #[.agg #[.int .i64 fuel,wv],.pointer (some ⟨eb,0,none⟩),.agg #[.pointer p,.map (some gm)]] w fun e w'=>TyO A B K ad w e w' res.2 res.1
end
section
variable {ω:Type}{tl:List BA->Nat->List TR->St->ω->Option (Oc Unit×ω)}{A:Nat->Addr}{B:Nat}{K:World->ω->Prop}{gv:Gv}{fuel:Nat}{wv:Value}{rk:Bool}
variable {v:Value}
theorem Jq6(E:KOk K){f:X->List Bd->St->ω->Option (Oc (TR×St)×ω)}(L:STf A B K gv fuel wv f)(G:rk=true->SGr tl A B K gv fuel wv f){x:X}{o:ω}{res:Oc (TR×St)×ω}(h:kndF tl rk gv fuel f x own σ o=some res){p:Option Addr}{gm:Nat}(hx:PX w (fun _=>True) x v)(J:TI A B K w ad σ own gv p gm o):
  Calls prog 168 #[.agg #[.int .i64 fuel,wv],v,.agg #[.pointer p,.map (some gm)]] w fun e w'=>TyO A B K ad w e w' res.2 res.1:=by
 cases hx with
 |name n loc b M _ D=>
  have e:kndF tl rk gv fuel f (.mk ⟨#[110,97,109,101]⟩ [n] [] loc) own σ o=(Jc0 gv n own σ).bind fun r=>some (r,o):=rfl
  rw[e]at h;simp only[Vab,Vaa]at h;obtain⟨r,G,rfl⟩:=h;exact Jq4 (fun W d=>Jno E (J.kept E d) (d.blk D) G)
 |num n loc b M _ D=>
  have e:kndF tl rk gv fuel f (.mk ⟨#[110,117,109]⟩ [n] [] loc) own σ o=some (.ok (.int,σ),o):=rfl;rw[e]at h;simp only[Vaa]at h;subst h;exact k_num E J
 |fn n x loc b q M _ D I=>
  have e:kndF tl rk gv fuel f (.mk ⟨#[102,117,110]⟩ [n] [x] loc) own σ o=funF f n x own σ o:=rfl;rw[e]at h;exact k_fun E L h J D I
 |ite x y z loc b q r s _ D I G hs=>
  have e:kndF tl rk gv fuel f (.mk ⟨#[105,102]⟩ [] [x,y,z] loc) own σ o=ifF f x y z own σ o:=rfl;rw[e]at h;exact k_if (fun W d=>JrC E L h (J.kept E d) (d.blk D) (I.keepT (Vev d)) (G.keepT (Vev d)) (hs.keepT (Vev d)))
 |lt n x y loc b q r M _ D I G=>
  have e:kndF tl rk gv fuel f (.mk ⟨#[108,101,116]⟩ [n] [x,y] loc) own σ o=letF f n x y own σ o:=rfl;rw[e]at h;exact k_let E L h J D I G
 |app x y loc b q r _ D I G=>
  have e:kndF tl rk gv fuel f (.mk ⟨#[97,112,112]⟩ [] [x,y] loc) own σ o=appF f x y own σ o:=rfl;rw[e]at h;exact k_app (fun W d=>Jp5 E L h (J.kept E d) (d.blk D) (I.keepT (Vev d)) (G.keepT (Vev d)))
 |pair x y loc b q r _ D I G=>
  have e:kndF tl rk gv fuel f (.mk ⟨#[112,97,105,114]⟩ [] [x,y] loc) own σ o=twoF f x y own σ o:=rfl;rw[e]at h;exact Jq5 E L h J D I G
 |rc names kids y loc b nv vv q ps Z O h3 Y h5 h6 h7 h8 h9 U aa V=>
  have e:kndF tl rk gv fuel f (.mk ⟨#[114,101,99]⟩ names (kids++ [y]) loc) own σ o=if rk=true then(match(kids++ [y]).reverse with|y::vs=>recF tl f fuel names vs.reverse y own σ o| []=>none)else none:=by
   cases rk<;>rfl
  rw[e]at h
  split at h
  .rename_i T;simp only[Vck,Vcy,VcI,VaK,VaV,Vca]at h;exact k_rec (fun W d=>G T names kids y loc own σ o res h W ad b p gm (PX.keepT (Vev d) (.rc names kids y loc b nv vv q ps Z O h3 Y h5 h6 h7 h8 h9 U aa V)) (J.kept E d))
  .simp at h
theorem JrH(I:KOk K)(hr:rk=true->∀f,STf A B K gv fuel wv f->SGr tl A B K gv fuel wv f):∀n,STf A B K gv fuel wv (fun x own σ o=>typF tl rk gv fuel n x own σ o):=by
 intro n
 induction n with
 |zero=>intro x own σ o res h;simp[typF]at h
 |succ n J=>
  intro x own σ o res h w ad v p gm T M;simp only[typF,Vab]at h;obtain⟨⟨r1,o1⟩,h1,h⟩:=h;have L:Kept w ((w.alloc (.cells #[.int .i64 fuel,wv] 172)).alloc (.cells #[.pointer p,.map (some gm)] 244)):=(Veu _ _).trans (Veu _ _);obtain⟨aj,u,rfl⟩:=T.iface;have HC:Hid _:=fun(W:World) (hk:Kept w W)=>Jq6 (p:=p) (gm:=gm) (w:=W) (ad:=ad) I J (fun z=>hr z _ J) h1 (T.keepT (Vev hk)) (M.kept I hk)
  have HH:Hid _:=h;have HT:Hid _:=M;have ai:Hid _:=J;clear M T h1 h J hr
  go_enter func127,ntmps127
  go_wp2_with fail
  refine Vac (HC.out _ L) ?_
  intro e w2 D;have D:=TyO.pre (Gk.ofKt (B:=B) (Kt.of_kept (ad:=ad) L)) D;have d:=HH.out
  cases r1 with
  |er j=>
   simp only[Vaa]at d;subst d;obtain⟨U,D⟩:=D;rw[show e=_ from U];exact⟨rfl,rfl,D⟩
  |ok q=>
   obtain⟨v2,Z,rfl,G,af,aa,V,O⟩:=D;simp only[Vab]at d;obtain⟨ah,ag,d⟩:=d;have HR:Hid _:=JkZ ag w2 Z v2 (O.ga HT.out.ga) af G;have HV:Hid _:=G;have HW:Hid _:=aa;have ae:Hid _:=V;have HG:Hid _:=O;obtain⟨T2,u2,rfl⟩:=G.iface;have ac:Hid _:=d;clear ag d G aa V O af L HC HH
   go_wp2_with fail
   refine Vac HR.out ?_
   rintro e w3 (⟨rfl,U,E⟩|⟨rfl,rfl,Y,E⟩)
   .have d:=ac.out;simp only[Va0,Vaa]at d;subst d;rw[show e=_ from U];exact⟨rfl,rfl,I _ _ _ _ ae.out E,(HG.out.trans (Gk.ofKt E)).kw⟩
   .have d:=ac.out;simp only[Vao,VaS,Vaa]at d;subst d;have HF:Hid (TyO A B K ad w (.returned (.iface T2 u2)) w3 o1 (.ok q)):=⟨_,Z,rfl,HV.out,Y,HW.out,I _ _ _ _ ae.out E,HG.out.trans (Gk.ofKt E)⟩
    clear Y E HR
    go_wp2
    go_ret
    exact HF.out
end
theorem JhA(b:Addr)(w:World):Calls prog 99 #[.iface 135 (.pointer (some b))] w fun e w'=>e=thrown (.iface 135 (.pointer (some b)))/\w'=w:=by
 go_enter func99,ntmps99
 go_wp2
 exact⟨rfl,rfl,rfl⟩
def ChO(w:World)(r:Option (Nat×BA))(e:Ending)(w':World):Prop:=Kept w w'/\match r with
 |none=>e= .returned (.tuple #[])
 |some q=>∃b,e=thrown (.iface 135 (.pointer (some ⟨b,0,none⟩)))/\w'.heap[b]? =some (.cells #[.int .i64 q.1,.string q.2] 148 (0,0))
variable {w1:World}
theorem ChO.pre{e:Ending}(k:Kept w w1)(h:ChO w1 r e w'):ChO w r e w':=⟨k.trans h.1,h.2⟩
theorem ChO.split{e:Ending}(h:ChO w r e w'):(∃q b,r=some q/\e=thrown (.iface 135 (.pointer (some ⟨b,0,none⟩)))/\ChO w r (thrown (.iface 135 (.pointer (some ⟨b,0,none⟩)))) w')\/(r=none/\e= .returned (.tuple #[])/\Kept w w'):=by
 cases r with
 |some q=>
  obtain⟨d,b,rfl,D⟩:=h;exact .inl ⟨q,b,rfl,rfl,d,b,rfl,D⟩
 |none=>
  obtain⟨d,rfl⟩:=h;exact .inr ⟨rfl,rfl,d⟩
structure CI(w:World)(ad:List Nat)(own:List Bd)(gv:Gv)(p:Option Addr)(gm:Nat):Prop where
 ch:CH w (fun _ _=>True) own (.pointer p)
 gm:GM w gm ad gv
theorem CI.kept{gv:Gv}{p:Option Addr}{gm:Nat}(h:CI w ad own gv p gm)(k:Kept w w'):CI w' ad own gv p gm:=⟨h.ch.keep (fun _ _ _ d=>k.blk d),h.gm.kt (Kt.of_kept (ad:=ad) (S:=fun _=>False) k) id⟩
variable {q:Nat}{n:BA}{b:Bool}{tv:Value}
theorem CI.with{gv:Gv}{p:Option Addr}{gm:Nat}(h:CI w ad own gv p gm)(d:w.heap[q]? =some (.cells #[.string n,tv,.bool b,.pointer p] 359 (0,0))):CI w ad (⟨n,.int,b⟩::own) gv (some ⟨q,0,none⟩) gm:=⟨⟨q,tv,_,rfl,d,trivial,h.ch⟩,h.gm⟩
theorem JjR{gv:Gv}{p:Option Addr}{gm:Nat}(h:CI w ad own gv p gm)(n:BA):
  Calls prog 165 #[.agg #[.pointer p,.map (some gm)],.string n] w fun e w'=>Kept w w'/\∃v,e= .returned (.tuple #[v,.bool (JaJ n gv own).isSome]):=by
 rw[Jem]
 cases J:Jcq n gv with
 |some g=>
  obtain⟨v,O,_⟩:=(JdI h.gm n).1 g J;refine(Jd5 (x:=v) (y:= .bool true) h.ch (fun W D=> ?_)).mono ?_
  .obtain⟨T,L,M⟩:=(JdI (h.gm.kt (Kt.of_kept (ad:=ad) (S:=fun _=>False) D) id) n).1 g J;rw[O.det L];exact M
  .rintro e w' ⟨E,I,G⟩;refine⟨E,?_⟩
   cases d:Jcs n own with
   |some q=>obtain⟨v,rfl,_⟩:=I _ d;exact⟨v,rfl⟩
   |none=>exact⟨v,G d⟩
 |none=>
  refine(Jd5 (x:= .nilIface) (y:= .bool false) h.ch (fun W D=> ?_)).mono ?_
  .exact(JdI (h.gm.kt (Kt.of_kept (ad:=ad) (S:=fun _=>False) D) id) n).2 J
  .rintro e w' ⟨E,I,G⟩;refine⟨E,?_⟩
   cases d:Jcs n own with
   |some q=>obtain⟨v,rfl,_⟩:=I _ d;exact⟨v,rfl⟩
   |none=>exact⟨_,G d⟩
theorem Jf2(w:World)(p:Option Addr)(gm:Nat)(n:BA):Calls prog 166 #[.agg #[.pointer p,.map (some gm)],.string n,.nilIface] w fun e w'=>∃q,e= .returned (.agg #[.pointer (some ⟨q,0,none⟩),.map (some gm)])/\w'.heap[q]? =some (.cells #[.string n,.nilIface,.bool false,.pointer p] 359 (0,0))/\Kept w w':=by
 go_enter func166,ntmps166
 go_wp2_with fail
 generalize D:w.alloc (.cells #[.pointer p,.map (some gm)] 244)=W;have M:Kept w W:=by rw[<-D];exact Veu _ _
 have E:W.heap.size=w.heap.size+1:=by rw[<-D];simp
 generalize h:W.alloc (.cells #[.pointer (some ⟨w.heap.size+1+1,0,none⟩),.map (some gm)] 244)=V;have L:Kept W V:=by rw[<-h];exact Veu _ _
 have d:V.heap[w.heap.size+1]? =some (.cells #[.pointer (some ⟨w.heap.size+1+1,0,none⟩),.map (some gm)] 244 (0,0)):=by rw[<-h,<-E];exact Vag _ _
 have T:V.heap.size=w.heap.size+1+1:=by rw[<-h,<-E];simp
 have I:Kept V (V.alloc (.cells #[.string n,.nilIface,.bool false,.pointer p] 359)):=Veu _ _;have G:=Vag V (.cells #[.string n,.nilIface,.bool false,.pointer p] 359);rw[T]at G;have d:=I.blk d;generalize V.alloc (.cells #[.string n,.nilIface,.bool false,.pointer p] 359)=Z at*;have J:Z.cell? ⟨w.heap.size+1,0,none⟩=some (.pointer (some ⟨w.heap.size+1+1,0,none⟩)):=by simp[Vew,d]
 have O:Z.cell? ⟨w.heap.size+1,1,none⟩=some (.map (some gm)):=by simp[Vew,d]
 exact VaI (v:= .agg #[.pointer (some ⟨w.heap.size+1+1,0,none⟩),.map (some gm)]) (by simp[results,results166,go_sem,J,O]) rfl ⟨_,rfl,G,(M.trans L).trans I⟩
structure FC(V:World)(b2 eb:Nat)(p:Option Addr)(gm:Nat)(cs:Array Value)(et:TypeId):Prop where
 sc:V.heap[b2]? =some (.cells #[.pointer p,.map (some gm)] 244 (0,0))
 ex:V.heap[eb]? =some (.cells cs et (0,0))
section
variable {V V':World}{b2 eb:Nat}{p:Option Addr}{gm:Nat}{cs:Array Value}{et:TypeId}
theorem FC.kept(h:FC V b2 eb p gm cs et)(k:Kept V V'):FC V' b2 eb p gm cs et:=⟨k.blk h.sc,k.blk h.ex⟩
theorem FC.c(h:FC V b2 eb p gm cs et):V.cell? ⟨b2,0,none⟩=some (.pointer p)/\V.cell? ⟨b2,1,none⟩=some (.map (some gm)):=⟨by simp[Vew,h.sc],by simp[Vew,h.sc]⟩
variable {i:Nat}{v:Value}
theorem FC.x(h:FC V b2 eb p gm cs et)(d:cs[i]? =some v):V.cell? ⟨eb,i,none⟩=some v:=by simp[Vew,h.ex,d]
end
theorem JbA(w:World)(eb:Nat)(p:Option Addr)(gm:Nat){cs:Array Value}{et:TypeId}(d:w.heap[eb]? =some (.cells cs et (0,0))):FC (w.alloc (.cells #[.pointer p,.map (some gm)] 244)) w.heap.size eb p gm cs et/\Kept w (w.alloc (.cells #[.pointer p,.map (some gm)] 244)):=
 ⟨⟨Vag _ _,(Veu _ _).blk d⟩,Veu _ _⟩
def SCk(gv:Gv)(f:X->List Bd->Option (Option (Nat×BA))):Prop:=∀(x:X) (own:List Bd) (r:Option (Nat×BA)),f x own=some r->∀(w:World) (ad:List Nat) (v:Value) (p:Option Addr) (gm:Nat),PX w (fun _=>True) x v->CI w ad own gv p gm->
 Calls prog 126 #[v,.agg #[.pointer p,.map (some gm)]] w (ChO w r)
variable {f:X->List Bd->Option (Option (Nat×BA))}
theorem c_app{gv:Gv}(Z:SCk gv f){x:X}(h:sqF (f x own) (f y own)=some r){p:Option Addr}{gm:Nat}(Y:CI w ad own gv p gm){eb:Nat}(hb:w.heap[eb]? =some (.cells #[.int .i64 dpt,vx,vy] 280 (0,0)))(hx:PX w (fun _=>True) x vx)(hy:PX w (fun _=>True) y vy):
  Calls prog 126 #[.iface 276 (.pointer (some ⟨eb,0,none⟩)),.agg #[.pointer p,.map (some gm)]] w (ChO w r):=by
 have q0:=fun W=>Ice (.pointer (some ⟨eb,0,none⟩)) W
 have q1:=fun W=>Icb (.pointer (some ⟨eb,0,none⟩)) W
 have q2:=fun W=>Icc (.pointer (some ⟨eb,0,none⟩)) W
 have q3:=fun W=>Icd (.pointer (some ⟨eb,0,none⟩)) W
 have q4:=fun W=>Ich (.pointer (some ⟨eb,0,none⟩)) W
 have q5:=fun W=>Ica (.pointer (some ⟨eb,0,none⟩)) W
 simp only[sqF,Vab]at h;obtain⟨r1,h1,h⟩:=h;obtain⟨hF,ae⟩:=JbA w eb p gm hb;obtain⟨J,T,rfl⟩:=hx.iface;obtain⟨Ty,O,rfl⟩:=hy.iface
 go_enter Vcf,Vb4
 go_wp2_with fail
 clear q0 q1 q2 q3 q4 q5;generalize w.alloc (.cells #[.pointer p,.map (some gm)] 244)=W at*;have D:Kept w W.drew:=ae.trans (Vet W);have hF:=hF.kept (Vet W)
 have M:Hid (Calls prog 126 #[.iface J T,.agg #[.pointer p,.map (some gm)]] W.drew fun e d=>(∃b,e=thrown (.iface 135 (.pointer (some ⟨b,0,none⟩)))/\ChO w r (thrown (.iface 135 (.pointer (some ⟨b,0,none⟩)))) d)\/(e= .returned (.tuple #[])/\d.cell? ⟨w.heap.size,0,none⟩=some (.pointer p)/\d.cell? ⟨w.heap.size,1,none⟩=some (.map (some gm))/\d.cell? ⟨eb,1,none⟩=some (.iface J T)/\Hid (r1=none/\Kept w d/\FC d w.heap.size eb p gm #[.int .i64 dpt,.iface J T,.iface Ty O] 280))):=by
  refine(Z x own r1 h1 W.drew ad _ p gm (hx.keepT (Vev D)) (Y.kept D)).mono ?_
  intro e d E
  rcases E.split with⟨q,b,rfl,rfl,E⟩|⟨rfl,rfl,L⟩
  .simp only[Vaa]at h;subst h;exact .inl ⟨b,rfl,E.pre D⟩
  .have I:=hF.kept L;exact .inr ⟨rfl,I.c.1,I.c.2,I.x (i:=1) rfl,rfl,D.trans L,I⟩
 obtain⟨c0,c1⟩:=hF.c;have c2:=hF.x (i:=1) (v:= .iface J T) rfl;have HT:Hid _:=Y;have af:Hid _:=Z;have HH:Hid _:=h;have HY:Hid _:=hy;clear Y hF ae D hx hy h1 Z h hb
 go_region_held2 (fun w'=>w'.cell? ⟨w.heap.size,0,none⟩=some (.pointer p)/\w'.cell? ⟨w.heap.size,1,none⟩=some (.map (some gm))/\w'.cell? ⟨eb,1,none⟩=some (.iface J T)) (go_keep) (first|(go_at_call 126;refine Vac M.out ?_;rintro e d (⟨a,rfl,E⟩|⟨rfl,d0,d1,d2,V⟩);exact⟨rfl,E⟩;clear M))
 all_goals
  obtain⟨rfl,ac,I⟩:=V.out;have D:Kept w d.drew:=ac.trans (Vet d);have U:=I.kept (Vet d)
  have M:Hid (Calls prog 126 #[.iface Ty O,.agg #[.pointer p,.map (some gm)]] d.drew fun e G=>(∃b,e=thrown (.iface 135 (.pointer (some ⟨b,0,none⟩)))/\ChO w r (thrown (.iface 135 (.pointer (some ⟨b,0,none⟩)))) G)\/(e= .returned (.tuple #[])/\G.cell? ⟨w.heap.size,0,none⟩=some (.pointer p)/\G.cell? ⟨w.heap.size,1,none⟩=some (.map (some gm))/\G.cell? ⟨eb,2,none⟩=some (.iface Ty O)/\Hid (ChO w r (.returned (.tuple #[])) G))):=by
   refine(af.out y own r HH.out d.drew ad _ p gm (PX.keepT (Vev D) HY.out) (HT.out.kept D)).mono ?_
   intro e G E
   rcases E.split with⟨q,b,rfl,rfl,E⟩|⟨rfl,rfl,L⟩
   .exact .inl ⟨b,rfl,E.pre D⟩
   .have aa:=U.kept L;exact .inr ⟨rfl,aa.c.1,aa.c.2,aa.x (i:=2) rfl,D.trans L,rfl⟩
  obtain⟨c0,c1⟩:=U.c;have c2:=U.x (i:=2) (v:= .iface Ty O) rfl;clear ac I D U V af HH HT HY d0 d1 d2
  go_wp2_with fail
  go_region_held2 (fun w'=>w'.cell? ⟨w.heap.size,0,none⟩=some (.pointer p)/\w'.cell? ⟨w.heap.size,1,none⟩=some (.map (some gm))/\w'.cell? ⟨eb,2,none⟩=some (.iface Ty O)) (go_keep) (first|(go_at_call 126;refine Vac M.out ?_;rintro e G (⟨a,rfl,E⟩|⟨rfl,d0,d1,d2,V⟩);exact⟨rfl,E⟩;clear M))
  all_goals
   go_wp2
   exact Vbi (Va3 Vb0 _ _ _) rfl V.out
theorem JqD{gv:Gv}(Z:SCk gv f){x:X}(h:sqF (f x own) (f y own)=some r){p:Option Addr}{gm:Nat}(Y:CI w ad own gv p gm){eb:Nat}(hb:w.heap[eb]? =some (.cells #[.int .i64 dpt,vx,vy] 283 (0,0)))(hx:PX w (fun _=>True) x vx)(hy:PX w (fun _=>True) y vy):
  Calls prog 126 #[.iface 281 (.pointer (some ⟨eb,0,none⟩)),.agg #[.pointer p,.map (some gm)]] w (ChO w r):=by
 have q0:=fun W=>IcW (.pointer (some ⟨eb,0,none⟩)) W
 have q1:=fun W=>IcT (.pointer (some ⟨eb,0,none⟩)) W
 have q2:=fun W=>IcU (.pointer (some ⟨eb,0,none⟩)) W
 have q3:=fun W=>IcV (.pointer (some ⟨eb,0,none⟩)) W
 have q4:=fun W=>IcZ (.pointer (some ⟨eb,0,none⟩)) W
 have q5:=fun W=>IcS (.pointer (some ⟨eb,0,none⟩)) W
 have q6:=fun W=>IcY (.pointer (some ⟨eb,0,none⟩)) W
 simp only[sqF,Vab]at h;obtain⟨r1,h1,h⟩:=h;obtain⟨hF,ae⟩:=JbA w eb p gm hb;obtain⟨J,T,rfl⟩:=hx.iface;obtain⟨Ty,O,rfl⟩:=hy.iface
 go_enter Vcf,Vb4
 go_wp2_with fail
 clear q0 q1 q2 q3 q4 q5 q6;generalize w.alloc (.cells #[.pointer p,.map (some gm)] 244)=W at*;have D:Kept w W.drew:=ae.trans (Vet W);have hF:=hF.kept (Vet W)
 have M:Hid (Calls prog 126 #[.iface J T,.agg #[.pointer p,.map (some gm)]] W.drew fun e d=>(∃b,e=thrown (.iface 135 (.pointer (some ⟨b,0,none⟩)))/\ChO w r (thrown (.iface 135 (.pointer (some ⟨b,0,none⟩)))) d)\/(e= .returned (.tuple #[])/\d.cell? ⟨w.heap.size,0,none⟩=some (.pointer p)/\d.cell? ⟨w.heap.size,1,none⟩=some (.map (some gm))/\d.cell? ⟨eb,1,none⟩=some (.iface J T)/\Hid (r1=none/\Kept w d/\FC d w.heap.size eb p gm #[.int .i64 dpt,.iface J T,.iface Ty O] 283))):=by
  refine(Z x own r1 h1 W.drew ad _ p gm (hx.keepT (Vev D)) (Y.kept D)).mono ?_
  intro e d E
  rcases E.split with⟨q,b,rfl,rfl,E⟩|⟨rfl,rfl,L⟩
  .simp only[Vaa]at h;subst h;exact .inl ⟨b,rfl,E.pre D⟩
  .have I:=hF.kept L;exact .inr ⟨rfl,I.c.1,I.c.2,I.x (i:=1) rfl,rfl,D.trans L,I⟩
 obtain⟨c0,c1⟩:=hF.c;have c2:=hF.x (i:=1) (v:= .iface J T) rfl;have HT:Hid _:=Y;have af:Hid _:=Z;have HH:Hid _:=h;have HY:Hid _:=hy;clear Y hF ae D hx hy h1 Z h hb
 go_region_held2 (fun w'=>w'.cell? ⟨w.heap.size,0,none⟩=some (.pointer p)/\w'.cell? ⟨w.heap.size,1,none⟩=some (.map (some gm))/\w'.cell? ⟨eb,1,none⟩=some (.iface J T)) (go_keep) (first|(go_at_call 126;refine Vac M.out ?_;rintro e d (⟨a,rfl,E⟩|⟨rfl,d0,d1,d2,V⟩);exact⟨rfl,E⟩;clear M))
 all_goals
  obtain⟨rfl,ac,I⟩:=V.out;have D:Kept w d.drew:=ac.trans (Vet d);have U:=I.kept (Vet d)
  have M:Hid (Calls prog 126 #[.iface Ty O,.agg #[.pointer p,.map (some gm)]] d.drew fun e G=>(∃b,e=thrown (.iface 135 (.pointer (some ⟨b,0,none⟩)))/\ChO w r (thrown (.iface 135 (.pointer (some ⟨b,0,none⟩)))) G)\/(e= .returned (.tuple #[])/\G.cell? ⟨w.heap.size,0,none⟩=some (.pointer p)/\G.cell? ⟨w.heap.size,1,none⟩=some (.map (some gm))/\G.cell? ⟨eb,2,none⟩=some (.iface Ty O)/\Hid (ChO w r (.returned (.tuple #[])) G))):=by
   refine(af.out y own r HH.out d.drew ad _ p gm (PX.keepT (Vev D) HY.out) (HT.out.kept D)).mono ?_
   intro e G E
   rcases E.split with⟨q,b,rfl,rfl,E⟩|⟨rfl,rfl,L⟩
   .exact .inl ⟨b,rfl,E.pre D⟩
   .have aa:=U.kept L;exact .inr ⟨rfl,aa.c.1,aa.c.2,aa.x (i:=2) rfl,D.trans L,rfl⟩
  obtain⟨c0,c1⟩:=U.c;have c2:=U.x (i:=2) (v:= .iface Ty O) rfl;clear ac I D U V af HH HT HY d0 d1 d2
  go_wp2_with fail
  go_region_held2 (fun w'=>w'.cell? ⟨w.heap.size,0,none⟩=some (.pointer p)/\w'.cell? ⟨w.heap.size,1,none⟩=some (.map (some gm))/\w'.cell? ⟨eb,2,none⟩=some (.iface Ty O)) (go_keep) (first|(go_at_call 126;refine Vac M.out ?_;rintro e G (⟨a,rfl,E⟩|⟨rfl,d0,d1,d2,V⟩);exact⟨rfl,E⟩;clear M))
  all_goals
   go_wp2
   exact Vbi (Va3 Vb0 _ _ _) rfl V.out
end Go.Proofs.YtleenphlgbklmaaGreatDoor
