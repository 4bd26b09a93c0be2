import Derived.Test.YtleenphlgbklmaaGreatDoorACPRdC
set_option linter.unusedVariables false
set_option linter.unusedSimpArgs false
set_option maxRecDepth 100000
set_option maxHeartbeats 8000000
namespace Go.Proofs.YtleenphlgbklmaaGreatDoor
open Go.RowKit
open World renaming cell? → Vet
open Tryz
variable {s:BA}
variable {L:List Tk}
theorem Ji4(W:PEnv s Jad L)(w:World)(E k:Nat)(h:PAt w E s L k)(O:isM L ⟨#[110,97,109,101]⟩ k (-1)=true):
  Calls prog 177 #[.agg #[.pointer (some ⟨E,0,none⟩)]] w fun e w'=>PRet (QX w (.mk ⟨#[110,97,109,101]⟩ [(tkAt L k).s] [] (tkAt L k).loc)) w E s L (k+1) (-1) e w':=by
 have ai:=Jar W.good h.lt O (by decide) (by decide);have aa:=Ja4 O;obtain⟨w0,au,ak,af,h0,aq,a0⟩:=Ja6 h;obtain⟨kd,hr,hT⟩:=h0.ex;obtain⟨_,c1,c2,c3⟩:=hr.c;have U:=(JdP W h.lt hT)
 have aj:Wd (tkAt L k).s:=U.2.2 (by rw[aa];simp)
 have al:kd=1:=by
  rw[aa]at U;have e:=U.1;rw[(Jaf _ _).2 rfl]at e;simp at e;exact e.1
 subst al;have c1:w0.cell? ⟨E,1,none⟩=some (.int .i64 1):=c1;have HA:Hid _:=Jey W h0;have ac:(isM L ⟨#[110,97,109,101]⟩ k (-1)||isM L ⟨#[110,117,109]⟩ k (-1)||isM L ⟨#[40]⟩ k (-1))=true:=by rw[O];simp
 rw[ac]at HA;clear hr hT U O aa h ac
 go_enter Ved,Vd2
 go_wp2_with fail
 refine Vac HA.out ?_
 rintro e d ⟨rfl,G⟩;have d1:=G.cell c1 (fun z=>z);have d2:=G.cell c2 (fun z=>z);have d3:=G.cell c3 (fun z=>z);have d0:=G.cell a0 (fun z=>z);have V:Kp (fun _=>False) d (d.alloc (.cells #[.int .i64 1,.int .i64 (tkAt L k).loc,.string (tkAt L k).s] 254)):=(Kp.refl _ _).alloc _;have J:(d.alloc (.cells #[.int .i64 1,.int .i64 (tkAt L k).loc,.string (tkAt L k).s] 254)).heap[d.heap.size]? =some (.cells #[.int .i64 1,.int .i64 (tkAt L k).loc,.string (tkAt L k).s] 254 (0,0)):=Vag _ _;have Z:=V.blk (G.blk af (fun z=>z)) (fun z=>z);have P2:=(h0.kp G).kp V;have ae:=(ak.trans G).trans V;have ao:w.heap.size<d.heap.size:=by have:=Vah (G.blk af (fun z=>z));exact this
 generalize an:d.alloc (.cells #[.int .i64 1,.int .i64 (tkAt L k).loc,.string (tkAt L k).s] 254)=w2 at*;have e0:w2.cell? ⟨d.heap.size,0,none⟩=some (.int .i64 1):=by simp[Vet,J]
 have e1:w2.cell? ⟨d.heap.size,1,none⟩=some (.int .i64 (tkAt L k).loc):=by simp[Vet,J]
 have e2:w2.cell? ⟨d.heap.size,2,none⟩=some (.string (tkAt L k).s):=by simp[Vet,J]
 have e3:w2.cell? ⟨w.heap.size,0,none⟩=some (.pointer (some ⟨E,0,none⟩)):=by simp[Vet,Z]
 have HB:Hid _:=Jfg W P2 ai;clear HA
 go_wp2_with fail
 refine Vac HB.out ?_
 intro e I Y;clear HB
 by_cases hz:0<=bz L (k+1) (-1)
 .obtain⟨b,he,hx⟩:=Y.2 hz;rw[he];clear he Y
  go_wp2
  exact⟨rfl,PRet.up (Kq.of_kp ae (fun _ z=>z.elim)) hz (fun _=>rfl) ⟨b,rfl,hx⟩⟩
 obtain⟨_,v,he,hv,P3,kq⟩:=Y.1 (by omega);clear hz Y;subst hv;subst he;have KK:=(Kq.of_kp (S:=(·=E)) ae (fun _ z=>z.elim)).trans kq;have T:=(kq.block _ (Vah J) (by show¬_;omega)).trans J;have ah:=(kq.block _ (Vah Z) (by show¬_;omega)).trans Z;have g0:I.cell? ⟨d.heap.size,0,none⟩=some (.int .i64 1):=by simp[Vet,T]
 have g1:I.cell? ⟨d.heap.size,1,none⟩=some (.int .i64 (tkAt L k).loc):=by simp[Vet,T]
 have g2:I.cell? ⟨d.heap.size,2,none⟩=some (.string (tkAt L k).s):=by simp[Vet,T]
 have g3:I.cell? ⟨w.heap.size,0,none⟩=some (.pointer (some ⟨E,0,none⟩)):=by simp[Vet,ah]
 have HN:Hid _:=Je1 I.drew
 have HJ:Hid (∀D,Kp (fun _=>False) I.drew D->D.cell? ⟨d.heap.size,1,none⟩=some (.int .i64 (tkAt L k).loc)/\D.cell? ⟨d.heap.size,2,none⟩=some (.string (tkAt L k).s)/\Hid (PRet (QX w (.mk ⟨#[110,97,109,101]⟩ [(tkAt L k).s] [] (tkAt L k).loc)) w E s L (k+1) (-1) (.returned (.iface 257 (.pointer (some ⟨D.heap.size,0,none⟩)))) (D.alloc (.cells #[.int .i64 1,.string (tkAt L k).s,.int .i64 (tkAt L k).loc] 262)))):=fun D M=>by
  have KF:=(KK.trans (Kq.of_kp (S:=(·=E)) ((Kp.refl (fun _=>False) I).drew) (fun _ z=>z.elim))).trans (Kq.of_kp (S:=(·=E)) M (fun _ z=>z.elim));have PF:=(P3.kp ((Kp.refl (fun _=>False) I).drew)).kp M;have ag:Kp (fun _=>False) D (D.alloc (.cells #[.int .i64 1,.string (tkAt L k).s,.int .i64 (tkAt L k).loc] 262)):=(Kp.refl _ _).alloc _;have am:(D.alloc (.cells #[.int .i64 1,.string (tkAt L k).s,.int .i64 (tkAt L k).loc] 262)).heap[D.heap.size]? =some (.cells #[.int .i64 1,.string (tkAt L k).s,.int .i64 (tkAt L k).loc] 262 (0,0)):=Vag _ _;exact⟨M.cell g1 (fun z=>z),M.cell g2 (fun z=>z),PRet.ret (Q:=QX w (.mk ⟨#[110,97,109,101]⟩ [(tkAt L k).s] [] (tkAt L k).loc)) (PX.name _ _ _ aj KF.size am) (PF.kp ag) (KF.trans (Kq.of_kp (S:=(·=E)) ag (fun _ z=>z.elim)))⟩
 clear J T Z ah V
 go_wp2_with fail
 go_region_held3 (fun w'=>w'.cell? ⟨d.heap.size,1,none⟩=some (.int .i64 (tkAt L k).loc)/\w'.cell? ⟨d.heap.size,2,none⟩=some (.string (tkAt L k).s)) (go_keep) (first|(go_at_call 175;refine Vac HN.out ?_;rintro e D ⟨rfl,M⟩;obtain⟨j1,j2,FX⟩:=HJ.out D M))
 all_goals
  go_wp2
  go_ret
  exact FX.out
theorem JkH(W:PEnv s Jad L)(w:World)(E k:Nat)(h:PAt w E s L k)(O:isM L ⟨#[110,117,109]⟩ k (-1)=true):
  Calls prog 177 #[.agg #[.pointer (some ⟨E,0,none⟩)]] w fun e w'=>PRet (QX w (.mk ⟨#[110,117,109]⟩ [(tkAt L k).s] [] (tkAt L k).loc)) w E s L (k+1) (-1) e w':=by
 have ai:=Jar W.good h.lt O (by decide) (by decide);have aa:=Ja4 O;obtain⟨w0,au,ak,af,h0,aq,a0⟩:=Ja6 h;obtain⟨kd,hr,hT⟩:=h0.ex;obtain⟨_,c1,c2,c3⟩:=hr.c;have U:=(JdP W h.lt hT)
 have aj:Wd (tkAt L k).s:=U.2.2 (by rw[aa];simp)
 have al:kd=2:=by
  rw[aa]at U;have e:=U.2.1;rw[(Jaf _ _).2 rfl]at e;simpa using e
 subst al;have c1:w0.cell? ⟨E,1,none⟩=some (.int .i64 2):=c1;have HA:Hid _:=Jey W h0;have ac:(isM L ⟨#[110,97,109,101]⟩ k (-1)||isM L ⟨#[110,117,109]⟩ k (-1)||isM L ⟨#[40]⟩ k (-1))=true:=by rw[O];simp
 rw[ac]at HA;clear hr hT U O aa h ac
 go_enter Ved,Vd2
 go_wp2_with fail
 refine Vac HA.out ?_
 rintro e d ⟨rfl,G⟩;have d1:=G.cell c1 (fun z=>z);have d2:=G.cell c2 (fun z=>z);have d3:=G.cell c3 (fun z=>z);have d0:=G.cell a0 (fun z=>z);have V:Kp (fun _=>False) d (d.alloc (.cells #[.int .i64 2,.int .i64 (tkAt L k).loc,.string (tkAt L k).s] 254)):=(Kp.refl _ _).alloc _;have J:(d.alloc (.cells #[.int .i64 2,.int .i64 (tkAt L k).loc,.string (tkAt L k).s] 254)).heap[d.heap.size]? =some (.cells #[.int .i64 2,.int .i64 (tkAt L k).loc,.string (tkAt L k).s] 254 (0,0)):=Vag _ _;have Z:=V.blk (G.blk af (fun z=>z)) (fun z=>z);have P2:=(h0.kp G).kp V;have ae:=(ak.trans G).trans V;have ao:w.heap.size<d.heap.size:=by have:=Vah (G.blk af (fun z=>z));exact this
 generalize an:d.alloc (.cells #[.int .i64 2,.int .i64 (tkAt L k).loc,.string (tkAt L k).s] 254)=w2 at*;have e0:w2.cell? ⟨d.heap.size,0,none⟩=some (.int .i64 2):=by simp[Vet,J]
 have e1:w2.cell? ⟨d.heap.size,1,none⟩=some (.int .i64 (tkAt L k).loc):=by simp[Vet,J]
 have e2:w2.cell? ⟨d.heap.size,2,none⟩=some (.string (tkAt L k).s):=by simp[Vet,J]
 have e3:w2.cell? ⟨w.heap.size,0,none⟩=some (.pointer (some ⟨E,0,none⟩)):=by simp[Vet,Z]
 have HB:Hid _:=Jfg W P2 ai;clear HA
 go_wp2_with fail
 refine Vac HB.out ?_
 intro e I Y;clear HB
 by_cases hz:0<=bz L (k+1) (-1)
 .obtain⟨b,he,hx⟩:=Y.2 hz;rw[he];clear he Y
  go_wp2
  exact⟨rfl,PRet.up (Kq.of_kp ae (fun _ z=>z.elim)) hz (fun _=>rfl) ⟨b,rfl,hx⟩⟩
 obtain⟨_,v,he,hv,P3,kq⟩:=Y.1 (by omega);clear hz Y;subst hv;subst he;have KK:=(Kq.of_kp (S:=(·=E)) ae (fun _ z=>z.elim)).trans kq;have T:=(kq.block _ (Vah J) (by show¬_;omega)).trans J;have ah:=(kq.block _ (Vah Z) (by show¬_;omega)).trans Z;have g0:I.cell? ⟨d.heap.size,0,none⟩=some (.int .i64 2):=by simp[Vet,T]
 have g1:I.cell? ⟨d.heap.size,1,none⟩=some (.int .i64 (tkAt L k).loc):=by simp[Vet,T]
 have g2:I.cell? ⟨d.heap.size,2,none⟩=some (.string (tkAt L k).s):=by simp[Vet,T]
 have g3:I.cell? ⟨w.heap.size,0,none⟩=some (.pointer (some ⟨E,0,none⟩)):=by simp[Vet,ah]
 have HN:Hid _:=Je1 I.drew
 have HJ:Hid (∀D,Kp (fun _=>False) I.drew D->D.cell? ⟨d.heap.size,1,none⟩=some (.int .i64 (tkAt L k).loc)/\D.cell? ⟨d.heap.size,2,none⟩=some (.string (tkAt L k).s)/\Hid (PRet (QX w (.mk ⟨#[110,117,109]⟩ [(tkAt L k).s] [] (tkAt L k).loc)) w E s L (k+1) (-1) (.returned (.iface 263 (.pointer (some ⟨D.heap.size,0,none⟩)))) (D.alloc (.cells #[.int .i64 1,.string (tkAt L k).s] 265)))):=fun D M=>by
  have KF:=(KK.trans (Kq.of_kp (S:=(·=E)) ((Kp.refl (fun _=>False) I).drew) (fun _ z=>z.elim))).trans (Kq.of_kp (S:=(·=E)) M (fun _ z=>z.elim));have PF:=(P3.kp ((Kp.refl (fun _=>False) I).drew)).kp M;have ag:Kp (fun _=>False) D (D.alloc (.cells #[.int .i64 1,.string (tkAt L k).s] 265)):=(Kp.refl _ _).alloc _;have am:(D.alloc (.cells #[.int .i64 1,.string (tkAt L k).s] 265)).heap[D.heap.size]? =some (.cells #[.int .i64 1,.string (tkAt L k).s] 265 (0,0)):=Vag _ _;exact⟨M.cell g1 (fun z=>z),M.cell g2 (fun z=>z),PRet.ret (Q:=QX w (.mk ⟨#[110,117,109]⟩ [(tkAt L k).s] [] (tkAt L k).loc)) (PX.num _ _ _ aj KF.size am) (PF.kp ag) (KF.trans (Kq.of_kp (S:=(·=E)) ag (fun _ z=>z.elim)))⟩
 clear J T Z ah V
 go_wp2_with fail
 go_region_held3 (fun w'=>w'.cell? ⟨d.heap.size,1,none⟩=some (.int .i64 (tkAt L k).loc)/\w'.cell? ⟨d.heap.size,2,none⟩=some (.string (tkAt L k).s)) (go_keep) (first|(go_at_call 175;refine Vac HN.out ?_;rintro e D ⟨rfl,M⟩;obtain⟨j1,j2,FX⟩:=HJ.out D M))
 all_goals
  go_wp2
  go_ret
  exact FX.out
theorem Jik(O:PEnv s Jad L)(w:World)(E k:Nat)(h:PAt w E s L k)(Z:isM L ⟨#[40]⟩ k (-1)=true)(x:X)(W:Nat)(aa:Int)(hS:0<=bz L (k+1) (-1)->bz L W aa=bz L (k+1) (-1))
 (hC:∀D,PAt D E s L (k+1)->Calls prog 212 #[.agg #[.pointer (some ⟨E,0,none⟩)]] D fun e w'=>PRet (QX D x) D E s L W aa e w'):
  Calls prog 177 #[.agg #[.pointer (some ⟨E,0,none⟩)]] w fun e w'=>PRet (QX w x) w E s L W aa e w':=by
 have am:=Jar O.good h.lt Z (by decide) (by decide);have U:=Ja4 Z;obtain⟨w0,ay,an,ai,h0,ax,a0⟩:=Ja6 h;obtain⟨kd,hr,hT⟩:=h0.ex;obtain⟨_,c1,c2,c3⟩:=hr.c;have aj:=(JdP O h.lt hT)
 have ao:((kd:Int)==1)=false/\((kd:Int)==2)=false:=by
  have l:=(Jbw O.kw O.eq k h.lt).2;have e1:=aj.2.1;rw[U,Ja9 (Jac (by decide))]at e1
  have e2:kd≠1:=fun z=>by
   cases l with
   |fin a b c d e=>rw[U]at b;exact absurd b (Jac (by decide))
   |bad a b=>rw[U]at a;exact absurd a (Jac (by decide))
   |word a b c d=>
    rw[U]at d
    split at d
    .rename_i q;have:=(O.kw.low _ (JbB q))
     rw[<-d]at this;exact absurd this (by decide)
    .exact absurd d (Jac (by decide))
   |num a b c d e=>rw[U]at e;exact absurd e (Jac (by decide))
   |sign a b c d e f=>
    rw[d]at hT;simp only[Vaa,Vaf]at hT;omega
  have e3:kd≠2:=by simpa using e1
  exact⟨by simp;omega,by simp;omega⟩
 obtain⟨z1,z2⟩:=ao;have HA:Hid _:=Jey O h0;have ag:(isM L ⟨#[110,97,109,101]⟩ k (-1)||isM L ⟨#[110,117,109]⟩ k (-1)||isM L ⟨#[40]⟩ k (-1))=true:=by rw[Z];simp
 rw[ag]at HA;have HS:Hid _:=hS;have al:Hid _:=hC;clear hr hT aj Z U h ag hS hC
 go_enter Ved,Vd2
 go_wp2_with fail
 refine Vac HA.out ?_
 rintro e D ⟨rfl,J⟩;have d1:=J.cell c1 (fun z=>z);have d2:=J.cell c2 (fun z=>z);have d3:=J.cell c3 (fun z=>z);have d0:=J.cell a0 (fun z=>z);have ae:Kp (fun _=>False) D (D.alloc (.cells #[.int .i64 kd,.int .i64 (tkAt L k).loc,.string (tkAt L k).s] 254)):=(Kp.refl _ _).alloc _;have T:(D.alloc (.cells #[.int .i64 kd,.int .i64 (tkAt L k).loc,.string (tkAt L k).s] 254)).heap[D.heap.size]? =some (.cells #[.int .i64 kd,.int .i64 (tkAt L k).loc,.string (tkAt L k).s] 254 (0,0)):=Vag _ _;have af:=ae.blk (J.blk ai (fun z=>z)) (fun z=>z);have P2:=(h0.kp J).kp ae;have ah:=(an.trans J).trans ae;have aw:w.heap.size<D.heap.size:=by have:=Vah (J.blk ai (fun z=>z));exact this
 generalize av:D.alloc (.cells #[.int .i64 kd,.int .i64 (tkAt L k).loc,.string (tkAt L k).s] 254)=w2 at*;have e0:w2.cell? ⟨D.heap.size,0,none⟩=some (.int .i64 kd):=by simp[Vet,T]
 have e1:w2.cell? ⟨D.heap.size,1,none⟩=some (.int .i64 (tkAt L k).loc):=by simp[Vet,T]
 have e2:w2.cell? ⟨D.heap.size,2,none⟩=some (.string (tkAt L k).s):=by simp[Vet,T]
 have e3:w2.cell? ⟨w.heap.size,0,none⟩=some (.pointer (some ⟨E,0,none⟩)):=by simp[Vet,af]
 have HB:Hid _:=Jfg O P2 am;clear HA
 go_wp2_with fail
 refine Vac HB.out ?_
 intro e V G;clear HB
 by_cases M:0<=bz L (k+1) (-1)
 .obtain⟨b,I,hx⟩:=G.2 M;rw[I];clear I G
  go_wp2
  exact⟨rfl,PRet.up (Kq.of_kp ah (fun _ z=>z.elim)) M HS.out ⟨b,rfl,hx⟩⟩
 obtain⟨_,v,I,Y,P3,kq⟩:=G.1 (by omega);clear M G;subst Y;subst I;have KK:=(Kq.of_kp (S:=(·=E)) ah (fun _ z=>z.elim)).trans kq;have ac:=(kq.block _ (Vah T) (by show¬_;omega)).trans T;have ak:=(kq.block _ (Vah af) (by show¬_;omega)).trans af;have g0:V.cell? ⟨D.heap.size,0,none⟩=some (.int .i64 kd):=by simp[Vet,ac]
 have g1:V.cell? ⟨D.heap.size,1,none⟩=some (.int .i64 (tkAt L k).loc):=by simp[Vet,ac]
 have g2:V.cell? ⟨D.heap.size,2,none⟩=some (.string (tkAt L k).s):=by simp[Vet,ac]
 have g3:V.cell? ⟨w.heap.size,0,none⟩=some (.pointer (some ⟨E,0,none⟩)):=by simp[Vet,ak]
 have HN:Hid _:=al.out V P3;clear T ac af ak ae al
 go_wp2_with fail
 refine Vac HN.out ?_
 intro e w4 G;clear HN
 by_cases M:0<=bz L W aa
 .obtain⟨b,I,hx⟩:=G.2 M;rw[I];clear I G
  go_wp2
  exact⟨rfl,PRet.up KK M (fun _=>rfl) ⟨b,rfl,hx⟩⟩
 obtain⟨hb,v,I,Y,P4,au⟩:=G.1 (by omega);clear M G;have X4:PX w4 (fun b=>w.heap.size<=b) x v:=Y.mono (fun b h1 _=>Vas KK.size h1);obtain⟨aq,u,rfl⟩:=Y.iface;subst I;subst hb;have FX:Hid (PRet (QX w x) w E s L W (-1) (.returned (.iface aq u)) w4):=PRet.ret (Q:=QX w x) X4 P4 (KK.trans au);clear Y X4
 go_wp2
 go_ret
 exact FX.out
theorem JkG(hE:PEnv s Jad L)(w:World)(d k:Nat)(h:PAt w d s L k)(O:isM L ⟨#[110,97,109,101]⟩ k (-1)=false)(J:isM L ⟨#[110,117,109]⟩ k (-1)=false)(U:isM L ⟨#[40]⟩ k (-1)=false)(Q:World->Value->Prop)(T:Nat)(M:Int)(W:bz L T M=(tkAt L k).loc):
  Calls prog 177 #[.agg #[.pointer (some ⟨d,0,none⟩)]] w fun e w'=>PRet Q w d s L T M e w':=by
 obtain⟨w0,ai,ac,ag,E,ah,a0⟩:=Ja6 h;have G:Hid _:=Jey hE E;have I:(isM L ⟨#[110,97,109,101]⟩ k (-1)||isM L ⟨#[110,117,109]⟩ k (-1)||isM L ⟨#[40]⟩ k (-1))=false:=by rw[O,J,U];simp
 rw[I]at G;have HS:Hid _:=W;have HX:Hid (∀w',Kp (fun _=>False) w0 w'->Calls prog 134 #[.pointer (some ⟨d,0,none⟩)] w' fun e af=>ThrS w' (tkAt L k).loc e af):=fun w' hk=>(by obtain⟨kdx,e1,_⟩:=(E.kp hk).ex;exact JeC w' d s _ kdx _ e1)
 clear h I W O J U E
 go_enter Ved,Vd2
 go_wp2_with fail
 refine Vac G.out ?_
 rintro e Y ⟨rfl,D⟩;have d0:=D.cell a0 (fun z=>z);clear G
 go_wp2_with fail
 refine Vac (HX.out Y D) ?_
 rintro e w2 ⟨b,V,ae,aa,Z⟩;rw[V];clear V
 go_wp2
 exact⟨rfl,PRet.thr (ThrX.before (ThrX.of ⟨b,rfl,ae,aa,Z⟩) (Kq.of_kp (ac.trans D) (fun _ z=>z.elim))) HS.out (by omega)⟩
end Go.Proofs.YtleenphlgbklmaaGreatDoor
